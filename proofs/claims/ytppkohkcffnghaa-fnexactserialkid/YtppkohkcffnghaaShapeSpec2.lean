/- What the specification's EndOf, l5Skip and CodeOk answer. -/
import Derived.Test.YtppkohkcffnghaaShapeSpec
set_option linter.unusedVariables false
namespace Go.Proofs.Ytppkohkcffnghaa
open Go.RowKit
namespace Ops
open Bas Flat

theorem getD_at4 {xs : List O4} {j : Nat} (hj : j < xs.length) : xs.getD j z4 = xs[j] := by simp [List.getD, hj]
theorem end_no {xs : List O4} {i : Int} (h : ¬ (0 ≤ i ∧ i < xs.length ∧ (xs.getD i.toNat z4).k = 8)) : endOf xs i = -1 := by unfold endOf; rw [if_neg h]

set_option maxRecDepth 100000 in
set_option maxHeartbeats 3200000 in
theorem endSpec (v : Value) (xs : List O4) (i : Int) (B : Nat) (w : World) (hv : Sees4 B w v xs) (hlen : xs.length ≤ 1048576) :
    Calls Try.prog 99 #[v, .int .i64 i] w fun e w' => e = .returned (.int .i64 (endOf xs i)) ∧ w = w' := by
  obtain ⟨a, cap, rfl⟩ := hv.form
  obtain ⟨n, hn⟩ : ∃ n, xs.length = n := ⟨_, rfl⟩
  rw [hn] at hv hlen ⊢
  by_cases h0 : 0 ≤ i
  · obtain ⟨s, rfl⟩ := Int.eq_ofNat_of_zero_le h0
    by_cases h1 : s < n
    · obtain ⟨b, off, rfl, hb, hc⟩ := hv.open (by omega)
      obtain ⟨a0, -, -, -⟩ := see4 (B := B) hc s (by omega)
      have hg := getD_at4 (xs := xs) (j := s) (by omega)
      have i2 : (s : Int) < n := by omega
      by_cases h8 : xs[s].k = 8
      · have HE : Hid (endOf xs s = endGo (xs.drop s) 0 s) := by
          show _ = _
          unfold endOf
          rw [Int.toNat_natCast, if_pos ⟨by omega, by omega, by rw [hg]; exact h8⟩]
        rw [h8] at a0
        clear hg h8
        go_enter Try.func99, Try.ntmps99
        go_wp2
        go_loop [5, 6] (fun d i' => ∃ (k : Nat) (q : Int), s ≤ k ∧ k ≤ n ∧ i' = .int .i64 k ∧ d = .int .i64 q ∧ -(k : Int) ≤ q ∧ q ≤ k ∧ endOf xs s = endGo (xs.drop k) q k) (fun _ i' => n - (intOf i').toNat)
        case atStart => exact ⟨s, 0, Nat.le_refl _, by omega, rfl, rfl, by omega, by omega, HE.out⟩
        case round =>
          obtain ⟨k, q, hsk, hk, rfl, rfl, hq1, hq2, he⟩ := hrel
          clear a0
          by_cases hlt : k < n
          · obtain ⟨a0, -, -, -⟩ := see4 (B := B) hc k (by omega)
            rw [endGo_step (by omega)] at he
            obtain ⟨x, hx⟩ : ∃ x, xs[k] = x := ⟨_, rfl⟩
            rw [hx] at a0 he
            have i1 : (k : Int) < n := by omega
            have HK := kind3 x
            clear hx HE
            rcases HK with ⟨h8, hD⟩ | ⟨h9, hD⟩ | ⟨h8, h9, hD⟩
            · rw [h8] at a0
              rw [hD] at he
              clear h8 hD
              by_cases hz : q + 1 = 0
              · rw [if_pos hz] at he
                have HF : Hid ((k : Int) = endOf xs s) := he.symm
                have d0 : (q + 1 == 0) = true := by simp [hz]
                clear he
                obtain rfl : q = -1 := by omega
                clear hz
                go_wp2
                go_ret
                exact ⟨ret_i HF.out, rfl⟩
              · rw [if_neg hz] at he
                have HF := (show Hid _ from he)
                have d0 : (q + 1 == 0) = false := by simp [hz]
                clear he hz
                go_wp2
                go_round
                case rel => exact ⟨k + 1, q + 1, by omega, by omega, by go_num, rfl, by omega, by omega, HF.out⟩
                case measure => simp [intOf]; omega
            · rw [h9] at a0
              rw [hD] at he
              clear h9 hD
              by_cases hz : q + -1 = 0
              · rw [if_pos hz] at he
                have HF : Hid ((k : Int) = endOf xs s) := he.symm
                clear he
                obtain rfl : q = 1 := by omega
                clear hz
                go_wp2
                go_ret
                exact ⟨ret_i HF.out, rfl⟩
              · rw [if_neg hz] at he
                have HF := (show Hid _ from he)
                have d0 : (q - 1 == 0) = false := by simp; omega
                clear he hz
                go_wp2
                go_round
                case rel => exact ⟨k + 1, q + -1, by omega, by omega, by go_num, by go_num, by omega, by omega, HF.out⟩
                case measure => simp [intOf]; omega
            · rw [hD] at he
              clear hD
              by_cases hz : q + 0 = 0
              · rw [if_pos hz] at he
                have HF : Hid ((k : Int) = endOf xs s) := he.symm
                clear he
                obtain rfl : q = 0 := by omega
                clear hz
                go_wp2
                go_ret
                exact ⟨ret_i HF.out, rfl⟩
              · rw [if_neg hz, Int.add_zero] at he
                have HF := (show Hid _ from he)
                have d0 : (q == 0) = false := by simp; omega
                clear he hz
                go_wp2
                go_round
                case rel => exact ⟨k + 1, q, by omega, by omega, by go_num, rfl, by omega, by omega, HF.out⟩
                case measure => simp [intOf]; omega
          · obtain rfl : k = n := by omega
            have HF : Hid (-1 = endOf xs s) := by
              show _ = _
              rw [he, List.drop_of_length_le (by omega)]; rfl
            clear he hc
            go_wp2
            go_ret
            exact ⟨ret_i HF.out, rfl⟩
      · have HF : Hid (-1 = endOf xs s) := (end_no (fun h => h8 (by have := h.2.2; rw [Int.toNat_natCast, hg] at this; exact this))).symm
        have d8 : (xs[s].k != 8) = true := by simp [h8]
        obtain ⟨q, hq⟩ : ∃ q, xs[s].k = q := ⟨_, rfl⟩
        rw [hq] at a0 d8
        clear hc h8 hq hg
        go_enter Try.func99, Try.ntmps99
        go_wp2
        go_ret
        exact ⟨ret_i HF.out, rfl⟩
    · have HF : Hid (-1 = endOf xs s) := (end_no (fun h => h1 (by have := h.2.1; omega))).symm
      have i2 : (n : Int) ≤ s := by omega
      go_enter Try.func99, Try.ntmps99
      go_wp2
      go_ret
      exact ⟨ret_i HF.out, rfl⟩
  · have HF : Hid (-1 = endOf xs i) := (end_no (fun h => h0 h.1)).symm
    have i2 : i < 0 := by omega
    go_enter Try.func99, Try.ntmps99
    go_wp2
    go_ret
    exact ⟨ret_i HF.out, rfl⟩

theorem skip_no {xs : List O4} {i : Nat} (h : ¬ (i : Int) + 1 + (xs.getD i z4).b ≤ xs.length) : skipOk xs i = false := by unfold skipOk; rw [decide_eq_false h]; rfl
theorem skip_yes {xs : List O4} {i : Nat} (h : (i : Int) + 1 + (xs.getD i z4).b ≤ xs.length) : skipOk xs i = skipGo (xs.drop (i + 1)) (xs.getD i z4).b.toNat 0 := by unfold skipOk; rw [decide_eq_true h, Bool.true_and]

set_option maxRecDepth 100000 in
set_option maxHeartbeats 3200000 in
theorem skipSpec (v : Value) (xs : List O4) (s : Nat) (B : Nat) (w : World) (hv : Sees4 B w v xs) (hlen : xs.length ≤ 1048576) (hs : s < xs.length) (hb0 : 0 ≤ (xs.getD s z4).b) (hb1 : (xs.getD s z4).b ≤ 100) :
    Calls Try.prog 91 #[v, .int .i64 s] w fun e w' => e = .returned (.bool (skipOk xs s)) ∧ w = w' := by
  obtain ⟨a, cap, rfl⟩ := hv.form
  obtain ⟨n, hn⟩ : ∃ n, xs.length = n := ⟨_, rfl⟩
  rw [hn] at hv hlen hs ⊢
  obtain ⟨b, off, rfl, hb, hc⟩ := hv.open (by omega)
  obtain ⟨-, -, a2, -⟩ := see4 (B := B) hc s (by omega)
  have hg := getD_at4 (xs := xs) (j := s) (by omega)
  rw [hg] at hb0 hb1
  obtain ⟨t, ht⟩ := Int.eq_ofNat_of_zero_le hb0
  have i2 : (s : Int) < n := by omega
  have i1 : (0 : Int) ≤ s := by omega
  rw [ht] at a2 hb1
  by_cases hto : (s : Int) + 1 + t ≤ n
  · have HE : Hid (skipOk xs s = skipGo (xs.drop (s + 1)) t 0) := by
      show _ = _
      rw [skip_yes (by rw [hg, ht]; omega), hg, ht, Int.toNat_natCast]
    have hto' : ¬ (n : Int) < (s : Int) + 1 + t := by omega
    clear hg ht
    go_enter Try.func91, Try.ntmps91
    go_wp2
    go_loop [6, 7] (fun d i' => ∃ (k r : Nat) (q : Int), s + 1 ≤ k ∧ k + r = s + 1 + t ∧ i' = .int .i64 k ∧ d = .int .i64 q ∧ 0 ≤ q ∧ q ≤ k ∧ skipOk xs s = skipGo (xs.drop k) r q) (fun _ i' => n - (intOf i').toNat)
    case atStart => exact ⟨s + 1, t, 0, Nat.le_refl _, by omega, by go_num, rfl, by omega, by omega, HE.out⟩
    case round =>
      obtain ⟨k, r, q, hsk, hkr, rfl, rfl, hq1, hq2, he⟩ := hrel
      clear a2 HE
      cases r with
      | succ r =>
        obtain ⟨a0, -, -, -⟩ := see4 (B := B) hc k (by omega)
        rw [skipGo_step (by omega)] at he
        obtain ⟨x, hx⟩ : ∃ x, xs[k] = x := ⟨_, rfl⟩
        rw [hx] at a0 he
        have i3 : (k : Int) < n := by omega
        have i4 : (k : Int) < (s : Int) + 1 + t := by omega
        have HK := kind3 x
        clear hx
        rcases HK with ⟨h8, hD⟩ | ⟨h9, hD⟩ | ⟨h8, h9, hD⟩
        · rw [h8] at a0
          rw [hD, decide_eq_true (show 0 ≤ q + 1 by omega), Bool.true_and] at he
          have HF := (show Hid _ from he)
          clear h8 hD he
          go_wp2
          go_round
          case rel => exact ⟨k + 1, r, q + 1, by omega, by omega, by go_num, rfl, by omega, by omega, HF.out⟩
          case measure => simp [intOf]; omega
        · rw [h9] at a0
          rw [hD] at he
          clear h9 hD
          by_cases hz : 0 ≤ q + -1
          · rw [decide_eq_true hz, Bool.true_and] at he
            have HF := (show Hid _ from he)
            have d0 : decide (q - 1 < 0) = false := decide_eq_false (by omega)
            have hz' : ¬ q - 1 < 0 := by omega
            clear he hz
            go_wp2
            go_round
            case rel => exact ⟨k + 1, r, q + -1, by omega, by omega, by go_num, by go_num, by omega, by omega, HF.out⟩
            case measure => simp [intOf]; omega
          · rw [decide_eq_false hz, Bool.false_and] at he
            have HF : Hid (false = skipOk xs s) := he.symm
            obtain rfl : q = 0 := by omega
            clear he hz
            go_wp2
            go_ret
            exact ⟨ret_b HF.out, rfl⟩
        · rw [hD, decide_eq_true (show 0 ≤ q + 0 by omega), Bool.true_and, Int.add_zero] at he
          have HF := (show Hid _ from he)
          have d0 : ¬ q < 0 := by omega
          clear hD he
          go_wp2
          go_round
          case rel => exact ⟨k + 1, r, q, by omega, by omega, by go_num, rfl, by omega, by omega, HF.out⟩
          case measure => simp [intOf]; omega
      | zero =>
        have HF : Hid ((q == 0) = skipOk xs s) := by
          show _ = _
          rw [he]
          cases xs.drop k <;> rfl
        have i4 : ¬ (k : Int) < (s : Int) + 1 + t := by omega
        clear he hc
        go_wp2
        go_ret
        exact ⟨ret_b HF.out, rfl⟩
  · have HF : Hid (false = skipOk xs s) := (skip_no (by rw [hg, ht]; omega)).symm
    have hto' : (n : Int) < (s : Int) + 1 + t := by omega
    clear hg ht hc
    go_enter Try.func91, Try.ntmps91
    go_wp2
    go_ret
    exact ⟨ret_b HF.out, rfl⟩
end Ops
end Go.Proofs.Ytppkohkcffnghaa
