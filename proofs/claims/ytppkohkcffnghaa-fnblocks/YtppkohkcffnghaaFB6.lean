/- Several texts of one proof, in build order: ShapeSpec, ShapeSpec2, ShapeSpec3, ShapeSpec4. -/
import Derived.Deep.QuietTactic
import Derived.BigQuiet
import Derived.Test.YtppkohkcffnghaaKB1
import Derived.Test.YtppkohkcffnghaaKB3
import Derived.Test.YtppkohkcffnghaaKB5
import Derived.Test.YtppkohkcffnghaaFB5
/- What the specification's functions of chapter 5 answer. -/
set_option linter.unusedVariables false
namespace Go.Proofs.Ytppkohkcffnghaa
open Go.RowKit
namespace Ops
open Bas Flat

theorem ret_i {a b : Int} (h : a = b) : Ending.returned (.int .i64 a) = .returned (.int .i64 b) := by rw [h]
theorem ret_b {a b : Bool} (h : a = b) : Ending.returned (.bool a) = .returned (.bool b) := by rw [h]
/-- an op of a code, by its kind: it begins a block, ends one, or neither -/
theorem kind3 (x : O4) : (x.k = 8 ∧ delta x = 1) ∨ (x.k = 9 ∧ delta x = -1) ∨ ((x.k == 8) = false ∧ (x.k == 9) = false ∧ delta x = 0) := by
  unfold delta
  by_cases h8 : x.k = 8
  · exact .inl ⟨h8, if_pos h8⟩
  · by_cases h9 : x.k = 9
    · exact .inr (.inl ⟨h9, by rw [if_neg h8, if_pos h9]⟩)
    · exact .inr (.inr ⟨by simp [h8], by simp [h9], by rw [if_neg h8, if_neg h9]⟩)
/-- the cells of the op at place k -/
theorem see4 {B : Nat} {w : World} {b off : Nat} {xs : List O4} (hc : ∀ j (h : j < xs.length), At opEl w b (off + j * opEl.sz) xs[j]) (k : Nat) (hk : k < xs.length) :
    w.cell? ⟨b, off + k * 4, none⟩ = some (.int .i64 xs[k].k) ∧ w.cell? ⟨b, off + k * 4 + 1, none⟩ = some (.int .i64 xs[k].a) ∧ w.cell? ⟨b, off + k * 4 + 2, none⟩ = some (.int .i64 xs[k].b) ∧ w.cell? ⟨b, off + k * 4 + 3, none⟩ = some (.int .i64 xs[k].c) := at4 (hc k hk)

set_option maxRecDepth 100000 in
set_option maxHeartbeats 1600000 in
theorem forkSpec (v : Value) (xs : List O4) (B : Nat) (w : World) (hv : Sees4 B w v xs) (hlen : xs.length ≤ 1048576) :
    Calls Try.prog 51 #[v] w fun e w' => e = .returned (.bool (hasFork xs)) ∧ w = w' := by
  obtain ⟨a, cap, rfl⟩ := hv.form
  obtain ⟨n, hn⟩ : ∃ n, xs.length = n := ⟨_, rfl⟩
  rw [hn] at hv hlen ⊢
  go_enter Try.func51, Try.ntmps51
  go_wp2
  go_loop [3] (fun i' => ∃ k : Nat, k ≤ n ∧ i' = .int .i64 k ∧ ∀ j (h : j < xs.length), j < k → ¬ xs[j].k = 11) (fun i' => n - (intOf i').toNat)
  case atStart => exact ⟨0, Nat.zero_le _, rfl, fun j _ h => by omega⟩
  case round =>
    obtain ⟨k, hk, rfl, hall⟩ := hrel
    by_cases hlt : k < n
    · obtain ⟨b, off, rfl, hb, hc⟩ := hv.open (by omega)
      obtain ⟨a0, -, -, -⟩ := see4 (B := B) hc k (by omega)
      by_cases h11 : xs[k].k = 11
      · have HF : Hid (true = hasFork xs) := (hasFork_yes (by omega) h11).symm
        rw [h11] at a0
        clear hc hall h11
        go_wp2
        go_ret
        exact ⟨ret_b HF.out, rfl⟩
      · have HA : Hid (∀ j (h : j < xs.length), j < k + 1 → ¬ xs[j].k = 11) := fun j hj hjk => by
          rcases Nat.lt_succ_iff_lt_or_eq.1 hjk with h | h
          · exact hall j hj h
          · subst h; exact h11
        have d11 : (xs[k].k == 11) = false := by simp [h11]
        obtain ⟨q, hq⟩ : ∃ q, xs[k].k = q := ⟨_, rfl⟩
        rw [hq] at a0 d11
        clear hc hall h11 hq
        go_wp2
        go_round
        case rel => exact ⟨k + 1, by omega, by go_num, HA.out⟩
        case measure => simp [intOf]; omega
    · have HF : Hid (false = hasFork xs) := (hasFork_no fun j hj => hall j hj (by omega)).symm
      clear hall
      go_wp2
      go_ret
      exact ⟨ret_b HF.out, rfl⟩
end Ops
end Go.Proofs.Ytppkohkcffnghaa
/- What the specification's EndOf, l5Skip and CodeOk answer. -/
set_option linter.unusedVariables false
namespace Go.Proofs.Ytppkohkcffnghaa
open Go.RowKit
namespace Ops
open Bas Flat

theorem getD_at4 {xs : List O4} {j : Nat} (hj : j < xs.length) : xs.getD j z4 = xs[j] := by simp [List.getD, hj]
theorem end_no {xs : List O4} {i : Int} (h : ¬ (0 ≤ i ∧ i < xs.length ∧ (xs.getD i.toNat z4).k = 8)) : endOf xs i = -1 := by unfold endOf; rw [if_neg h]

set_option maxRecDepth 100000 in
set_option maxHeartbeats 3200000 in
theorem endSpec (v : Value) (xs : List O4) (i : Int) (B : Nat) (w : World) (hv : Sees4 B w v xs) (hlen : xs.length ≤ 1048576) :
    Calls Try.prog 99 #[v, .int .i64 i] w fun e w' => e = .returned (.int .i64 (endOf xs i)) ∧ w = w' := by
  obtain ⟨a, cap, rfl⟩ := hv.form
  obtain ⟨n, hn⟩ : ∃ n, xs.length = n := ⟨_, rfl⟩
  rw [hn] at hv hlen ⊢
  by_cases h0 : 0 ≤ i
  · obtain ⟨s, rfl⟩ := Int.eq_ofNat_of_zero_le h0
    by_cases h1 : s < n
    · obtain ⟨b, off, rfl, hb, hc⟩ := hv.open (by omega)
      obtain ⟨a0, -, -, -⟩ := see4 (B := B) hc s (by omega)
      have hg := getD_at4 (xs := xs) (j := s) (by omega)
      have i2 : (s : Int) < n := by omega
      by_cases h8 : xs[s].k = 8
      · have HE : Hid (endOf xs s = endGo (xs.drop s) 0 s) := by
          show _ = _
          unfold endOf
          rw [Int.toNat_natCast, if_pos ⟨by omega, by omega, by rw [hg]; exact h8⟩]
        rw [h8] at a0
        clear hg h8
        go_enter Try.func99, Try.ntmps99
        go_wp2
        go_loop [5, 6] (fun d i' => ∃ (k : Nat) (q : Int), s ≤ k ∧ k ≤ n ∧ i' = .int .i64 k ∧ d = .int .i64 q ∧ -(k : Int) ≤ q ∧ q ≤ k ∧ endOf xs s = endGo (xs.drop k) q k) (fun _ i' => n - (intOf i').toNat)
        case atStart => exact ⟨s, 0, Nat.le_refl _, by omega, rfl, rfl, by omega, by omega, HE.out⟩
        case round =>
          obtain ⟨k, q, hsk, hk, rfl, rfl, hq1, hq2, he⟩ := hrel
          clear a0
          by_cases hlt : k < n
          · obtain ⟨a0, -, -, -⟩ := see4 (B := B) hc k (by omega)
            rw [endGo_step (by omega)] at he
            obtain ⟨x, hx⟩ : ∃ x, xs[k] = x := ⟨_, rfl⟩
            rw [hx] at a0 he
            have i1 : (k : Int) < n := by omega
            have HK := kind3 x
            clear hx HE
            rcases HK with ⟨h8, hD⟩ | ⟨h9, hD⟩ | ⟨h8, h9, hD⟩
            · rw [h8] at a0
              rw [hD] at he
              clear h8 hD
              by_cases hz : q + 1 = 0
              · rw [if_pos hz] at he
                have HF : Hid ((k : Int) = endOf xs s) := he.symm
                have d0 : (q + 1 == 0) = true := by simp [hz]
                clear he
                obtain rfl : q = -1 := by omega
                clear hz
                go_wp2
                go_ret
                exact ⟨ret_i HF.out, rfl⟩
              · rw [if_neg hz] at he
                have HF := (show Hid _ from he)
                have d0 : (q + 1 == 0) = false := by simp [hz]
                clear he hz
                go_wp2
                go_round
                case rel => exact ⟨k + 1, q + 1, by omega, by omega, by go_num, rfl, by omega, by omega, HF.out⟩
                case measure => simp [intOf]; omega
            · rw [h9] at a0
              rw [hD] at he
              clear h9 hD
              by_cases hz : q + -1 = 0
              · rw [if_pos hz] at he
                have HF : Hid ((k : Int) = endOf xs s) := he.symm
                clear he
                obtain rfl : q = 1 := by omega
                clear hz
                go_wp2
                go_ret
                exact ⟨ret_i HF.out, rfl⟩
              · rw [if_neg hz] at he
                have HF := (show Hid _ from he)
                have d0 : (q - 1 == 0) = false := by simp; omega
                clear he hz
                go_wp2
                go_round
                case rel => exact ⟨k + 1, q + -1, by omega, by omega, by go_num, by go_num, by omega, by omega, HF.out⟩
                case measure => simp [intOf]; omega
            · rw [hD] at he
              clear hD
              by_cases hz : q + 0 = 0
              · rw [if_pos hz] at he
                have HF : Hid ((k : Int) = endOf xs s) := he.symm
                clear he
                obtain rfl : q = 0 := by omega
                clear hz
                go_wp2
                go_ret
                exact ⟨ret_i HF.out, rfl⟩
              · rw [if_neg hz, Int.add_zero] at he
                have HF := (show Hid _ from he)
                have d0 : (q == 0) = false := by simp; omega
                clear he hz
                go_wp2
                go_round
                case rel => exact ⟨k + 1, q, by omega, by omega, by go_num, rfl, by omega, by omega, HF.out⟩
                case measure => simp [intOf]; omega
          · obtain rfl : k = n := by omega
            have HF : Hid (-1 = endOf xs s) := by
              show _ = _
              rw [he, List.drop_of_length_le (by omega)]; rfl
            clear he hc
            go_wp2
            go_ret
            exact ⟨ret_i HF.out, rfl⟩
      · have HF : Hid (-1 = endOf xs s) := (end_no (fun h => h8 (by have := h.2.2; rw [Int.toNat_natCast, hg] at this; exact this))).symm
        have d8 : (xs[s].k != 8) = true := by simp [h8]
        obtain ⟨q, hq⟩ : ∃ q, xs[s].k = q := ⟨_, rfl⟩
        rw [hq] at a0 d8
        clear hc h8 hq hg
        go_enter Try.func99, Try.ntmps99
        go_wp2
        go_ret
        exact ⟨ret_i HF.out, rfl⟩
    · have HF : Hid (-1 = endOf xs s) := (end_no (fun h => h1 (by have := h.2.1; omega))).symm
      have i2 : (n : Int) ≤ s := by omega
      go_enter Try.func99, Try.ntmps99
      go_wp2
      go_ret
      exact ⟨ret_i HF.out, rfl⟩
  · have HF : Hid (-1 = endOf xs i) := (end_no (fun h => h0 h.1)).symm
    have i2 : i < 0 := by omega
    go_enter Try.func99, Try.ntmps99
    go_wp2
    go_ret
    exact ⟨ret_i HF.out, rfl⟩

theorem skip_no {xs : List O4} {i : Nat} (h : ¬ (i : Int) + 1 + (xs.getD i z4).b ≤ xs.length) : skipOk xs i = false := by unfold skipOk; rw [decide_eq_false h]; rfl
theorem skip_yes {xs : List O4} {i : Nat} (h : (i : Int) + 1 + (xs.getD i z4).b ≤ xs.length) : skipOk xs i = skipGo (xs.drop (i + 1)) (xs.getD i z4).b.toNat 0 := by unfold skipOk; rw [decide_eq_true h, Bool.true_and]

set_option maxRecDepth 100000 in
set_option maxHeartbeats 3200000 in
theorem skipSpec (v : Value) (xs : List O4) (s : Nat) (B : Nat) (w : World) (hv : Sees4 B w v xs) (hlen : xs.length ≤ 1048576) (hs : s < xs.length) (hb0 : 0 ≤ (xs.getD s z4).b) (hb1 : (xs.getD s z4).b ≤ 100) :
    Calls Try.prog 91 #[v, .int .i64 s] w fun e w' => e = .returned (.bool (skipOk xs s)) ∧ w = w' := by
  obtain ⟨a, cap, rfl⟩ := hv.form
  obtain ⟨n, hn⟩ : ∃ n, xs.length = n := ⟨_, rfl⟩
  rw [hn] at hv hlen hs ⊢
  obtain ⟨b, off, rfl, hb, hc⟩ := hv.open (by omega)
  obtain ⟨-, -, a2, -⟩ := see4 (B := B) hc s (by omega)
  have hg := getD_at4 (xs := xs) (j := s) (by omega)
  rw [hg] at hb0 hb1
  obtain ⟨t, ht⟩ := Int.eq_ofNat_of_zero_le hb0
  have i2 : (s : Int) < n := by omega
  have i1 : (0 : Int) ≤ s := by omega
  rw [ht] at a2 hb1
  by_cases hto : (s : Int) + 1 + t ≤ n
  · have HE : Hid (skipOk xs s = skipGo (xs.drop (s + 1)) t 0) := by
      show _ = _
      rw [skip_yes (by rw [hg, ht]; omega), hg, ht, Int.toNat_natCast]
    have hto' : ¬ (n : Int) < (s : Int) + 1 + t := by omega
    clear hg ht
    go_enter Try.func91, Try.ntmps91
    go_wp2
    go_loop [6, 7] (fun d i' => ∃ (k r : Nat) (q : Int), s + 1 ≤ k ∧ k + r = s + 1 + t ∧ i' = .int .i64 k ∧ d = .int .i64 q ∧ 0 ≤ q ∧ q ≤ k ∧ skipOk xs s = skipGo (xs.drop k) r q) (fun _ i' => n - (intOf i').toNat)
    case atStart => exact ⟨s + 1, t, 0, Nat.le_refl _, by omega, by go_num, rfl, by omega, by omega, HE.out⟩
    case round =>
      obtain ⟨k, r, q, hsk, hkr, rfl, rfl, hq1, hq2, he⟩ := hrel
      clear a2 HE
      cases r with
      | succ r =>
        obtain ⟨a0, -, -, -⟩ := see4 (B := B) hc k (by omega)
        rw [skipGo_step (by omega)] at he
        obtain ⟨x, hx⟩ : ∃ x, xs[k] = x := ⟨_, rfl⟩
        rw [hx] at a0 he
        have i3 : (k : Int) < n := by omega
        have i4 : (k : Int) < (s : Int) + 1 + t := by omega
        have HK := kind3 x
        clear hx
        rcases HK with ⟨h8, hD⟩ | ⟨h9, hD⟩ | ⟨h8, h9, hD⟩
        · rw [h8] at a0
          rw [hD, decide_eq_true (show 0 ≤ q + 1 by omega), Bool.true_and] at he
          have HF := (show Hid _ from he)
          clear h8 hD he
          go_wp2
          go_round
          case rel => exact ⟨k + 1, r, q + 1, by omega, by omega, by go_num, rfl, by omega, by omega, HF.out⟩
          case measure => simp [intOf]; omega
        · rw [h9] at a0
          rw [hD] at he
          clear h9 hD
          by_cases hz : 0 ≤ q + -1
          · rw [decide_eq_true hz, Bool.true_and] at he
            have HF := (show Hid _ from he)
            have d0 : decide (q - 1 < 0) = false := decide_eq_false (by omega)
            have hz' : ¬ q - 1 < 0 := by omega
            clear he hz
            go_wp2
            go_round
            case rel => exact ⟨k + 1, r, q + -1, by omega, by omega, by go_num, by go_num, by omega, by omega, HF.out⟩
            case measure => simp [intOf]; omega
          · rw [decide_eq_false hz, Bool.false_and] at he
            have HF : Hid (false = skipOk xs s) := he.symm
            obtain rfl : q = 0 := by omega
            clear he hz
            go_wp2
            go_ret
            exact ⟨ret_b HF.out, rfl⟩
        · rw [hD, decide_eq_true (show 0 ≤ q + 0 by omega), Bool.true_and, Int.add_zero] at he
          have HF := (show Hid _ from he)
          have d0 : ¬ q < 0 := by omega
          clear hD he
          go_wp2
          go_round
          case rel => exact ⟨k + 1, r, q, by omega, by omega, by go_num, rfl, by omega, by omega, HF.out⟩
          case measure => simp [intOf]; omega
      | zero =>
        have HF : Hid ((q == 0) = skipOk xs s) := by
          show _ = _
          rw [he]
          cases xs.drop k <;> rfl
        have i4 : ¬ (k : Int) < (s : Int) + 1 + t := by omega
        clear he hc
        go_wp2
        go_ret
        exact ⟨ret_b HF.out, rfl⟩
  · have HF : Hid (false = skipOk xs s) := (skip_no (by rw [hg, ht]; omega)).symm
    have hto' : (n : Int) < (s : Int) + 1 + t := by omega
    clear hg ht hc
    go_enter Try.func91, Try.ntmps91
    go_wp2
    go_ret
    exact ⟨ret_b HF.out, rfl⟩
end Ops
end Go.Proofs.Ytppkohkcffnghaa
/- What the specification's CodeOk and KidOk answer. -/
set_option linter.unusedVariables false
namespace Go.Proofs.Ytppkohkcffnghaa
open Go.RowKit
namespace Ops
open Bas Flat

/-- one op more of a code, by its kind -/
theorem go_bad {xs : List O4} {k : Nat} (h : k < xs.length) {d : Int} {f : Nat} (ho : okOp xs[k] = false) : codeGo xs (xs.drop k) k d f = false := by
  rw [codeGo_step h, ho]; simp
theorem go_begin {xs : List O4} {k : Nat} (h : k < xs.length) {d : Int} {f : Nat} (ho : okOp xs[k] = true) (hd : 0 ≤ d) (h8 : xs[k].k = 8) : codeGo xs (xs.drop k) k d f = codeGo xs (xs.drop (k + 1)) (k + 1) (d + 1) f := by
  have e : delta xs[k] = 1 := by unfold delta; rw [if_pos h8]
  rw [codeGo_step h, ho, e, h8, decide_eq_true (show 0 ≤ d + 1 by omega)]; simp
theorem go_end {xs : List O4} {k : Nat} (h : k < xs.length) {d : Int} {f : Nat} (ho : okOp xs[k] = true) (h9 : xs[k].k = 9) : codeGo xs (xs.drop k) k d f = (decide (0 ≤ d - 1) && codeGo xs (xs.drop (k + 1)) (k + 1) (d - 1) f) := by
  have e : delta xs[k] = -1 := by unfold delta; rw [if_neg (by omega), if_pos h9]
  rw [codeGo_step h, ho, e, h9, Int.add_neg_one]; simp
theorem go_skip {xs : List O4} {k : Nat} (h : k < xs.length) {d : Int} {f : Nat} (ho : okOp xs[k] = true) (hd : 0 ≤ d) (h7 : xs[k].k = 7) : codeGo xs (xs.drop k) k d f = (skipOk xs k && codeGo xs (xs.drop (k + 1)) (k + 1) d f) := by
  have e : delta xs[k] = 0 := by unfold delta; rw [if_neg (by omega), if_neg (by omega)]
  rw [codeGo_step h, ho, e, h7, Int.add_zero, decide_eq_true hd]; simp
theorem go_fork {xs : List O4} {k : Nat} (h : k < xs.length) {d : Int} {f : Nat} (ho : okOp xs[k] = true) (hd : 0 ≤ d) (h11 : xs[k].k = 11) : codeGo xs (xs.drop k) k d f = (decide (d ≤ 0) && decide (f = 0) && codeGo xs (xs.drop (k + 1)) (k + 1) d (f + 1)) := by
  have e : delta xs[k] = 0 := by unfold delta; rw [if_neg (by omega), if_neg (by omega)]
  rw [codeGo_step h, ho, e, h11, Int.add_zero, decide_eq_true hd]; simp
theorem go_else {xs : List O4} {k : Nat} (h : k < xs.length) {d : Int} {f : Nat} (ho : okOp xs[k] = true) (hd : 0 ≤ d) (h8 : ¬ xs[k].k = 8) (h9 : ¬ xs[k].k = 9) (h7 : ¬ xs[k].k = 7) (h11 : ¬ xs[k].k = 11) : codeGo xs (xs.drop k) k d f = codeGo xs (xs.drop (k + 1)) (k + 1) d f := by
  have e : delta xs[k] = 0 := by unfold delta; rw [if_neg h8, if_neg h9]
  rw [codeGo_step h, ho, e, Int.add_zero, decide_eq_true hd]; simp [h7, h11]
theorem ok_skip {x : O4} (h : okOp x = true) (h7 : x.k = 7) : 1 ≤ x.b ∧ x.b ≤ 20 := by
  unfold okOp at h
  rw [h7] at h
  have h' : (inn 0 3 x.a && inn 1 20 x.b && inn 0 0 x.c) = true := h
  rw [Bool.and_eq_true, Bool.and_eq_true] at h'
  have := h'.1.2
  unfold inn at this
  simpa using this

set_option maxRecDepth 100000 in
set_option maxHeartbeats 6400000 in
theorem codeSpec (v : Value) (xs : List O4) (B : Nat) (w : World) (hv : Sees4 B w v xs) (hB : B ≤ w.heap.size) (hlen : xs.length ≤ 1048576) :
    Calls Try.prog 50 #[v] w fun e w' => e = .returned (.bool (codeOk xs)) ∧ Below w.heap.size w w' := by
  obtain ⟨a, cap, rfl⟩ := hv.form
  obtain ⟨n, hn⟩ : ∃ n, xs.length = n := ⟨_, rfl⟩
  rw [hn] at hv hlen ⊢
  by_cases h24 : n ≤ 24
  · have HE : Hid (codeOk xs = codeGo xs (xs.drop 0) 0 0 0) := by
      show _ = _
      unfold codeOk
      rw [decide_eq_true (show xs.length ≤ 24 by omega), Bool.true_and]; rfl
    have h24' : ¬ (24 : Int) < n := by omega
    obtain ⟨g, hg⟩ : ∃ g, w.heap.size = g := ⟨_, rfl⟩
    rw [hg] at hB ⊢
    have hb0 : Below g w w := Below.refl _ _
    go_enter Try.func50, Try.ntmps50
    go_wp2
    go_loopw [3, 4, 5] (fun d ff i' wr => ∃ (k f : Nat) (q : Int), k ≤ n ∧ f ≤ k ∧ 0 ≤ q ∧ q ≤ k ∧ i' = .int .i64 k ∧ d = .int .i64 q ∧ ff = .int .i64 f ∧ codeOk xs = codeGo xs (xs.drop k) k q f ∧ Below g w wr) (fun _ _ i' _ => n - (intOf i').toNat)
    case atStart => exact ⟨0, 0, 0, Nat.zero_le _, Nat.le_refl _, by omega, by omega, rfl, rfl, rfl, HE.out, hb0⟩
    case round =>
      obtain ⟨k, f, q, hk, hf, hq1, hq2, rfl, rfl, rfl, he, hb⟩ := hrel
      clear HE hb0
      have hsz : g ≤ wr.heap.size := by have := hb.size; omega
      by_cases hlt : k < n
      · have hvr := hv.on hb hB
        obtain ⟨b, off, rfl, hbB, hc⟩ := hvr.open (by omega)
        obtain ⟨a0, a1, a2, a3⟩ := see4 (B := B) hc k (by omega)
        have HN := (show Hid _ from he)
        have i1 : (k : Int) < n := by omega
        have hkx : k < xs.length := by omega
        have cO := specC xs[k].k xs[k].a xs[k].b xs[k].c wr
        have eV : opV xs[k].k xs[k].a xs[k].b xs[k].c = .agg #[.int .i64 xs[k].k, .int .i64 xs[k].a, .int .i64 xs[k].b, .int .i64 xs[k].c] := rfl
        rw [eV] at cO
        have eO : opOk xs[k].k xs[k].a xs[k].b xs[k].c = okOp xs[k] := rfl
        rw [eO] at cO
        obtain ⟨p, hp⟩ : ∃ p, okOp xs[k] = p := ⟨_, rfl⟩
        have HP : Hid (okOp xs[k] = p) := hp
        rw [hp] at cO
        obtain ⟨x, hx⟩ : ∃ x, xs[k] = x := ⟨_, rfl⟩
        have HX : Hid (xs[k] = x) := hx
        rw [hx] at a0 a1 a2 a3 cO
        clear he hp hx eV eO
        cases p
        · have HF : Hid (false = codeOk xs) := by show _ = _; rw [HN.out, go_bad hkx HP.out]
          clear HN hc
          go_wp2_with fail
          refine cO.mono ?_
          rintro e w2 ⟨rfl, hb2⟩
          clear cO
          go_wp2
          go_ret
          exact ⟨ret_b HF.out, hb.trans (hb2.mono hsz)⟩
        go_wp2_with fail
        refine cO.mono ?_
        rintro e w2 ⟨rfl, hb2⟩
        have hbb := hb.trans (hb2.mono hsz)
        have hv2 := hvr.on hb2 (by omega)
        have a0 := (hb2.cell (p := ⟨b, off + k * 4, none⟩) (by show b < wr.heap.size; omega)).trans a0
        clear cO a1 a2 a3 hc
        have hok := HP.out
        by_cases h8 : x.k = 8
        · have HF : Hid (codeOk xs = codeGo xs (xs.drop (k + 1)) (k + 1) (q + 1) f) := by show _ = _; rw [HN.out, go_begin hkx hok hq1 (by rw [HX.out]; exact h8)]
          rw [h8] at a0
          clear h8 HN hok
          go_wp2
          go_roundw
          case rel => exact ⟨k + 1, f, q + 1, by omega, by omega, by omega, by omega, by go_num, rfl, rfl, HF.out, hbb⟩
          case measure => simp [intOf]; omega
        by_cases h9 : x.k = 9
        · have he := go_end hkx (d := q) (f := f) hok (by rw [HX.out]; exact h9)
          rw [h9] at a0
          clear h8 h9
          by_cases hz : 0 ≤ q - 1
          · have HF : Hid (codeOk xs = codeGo xs (xs.drop (k + 1)) (k + 1) (q - 1) f) := by show _ = _; rw [HN.out, he, decide_eq_true hz, Bool.true_and]
            have hz' : ¬ q - 1 < 0 := by omega
            clear he HN hok hz
            go_wp2
            go_roundw
            case rel => exact ⟨k + 1, f, q - 1, by omega, by omega, by omega, by omega, by go_num, rfl, rfl, HF.out, hbb⟩
            case measure => simp [intOf]; omega
          · have HF : Hid (false = codeOk xs) := by show _ = _; rw [HN.out, he, decide_eq_false hz, Bool.false_and]
            obtain rfl : q = 0 := by omega
            clear he HN hok hz
            go_wp2
            go_ret
            exact ⟨ret_b HF.out, hbb⟩
        have e8 : (x.k == 8) = false := by simp [h8]
        have e9 : (x.k == 9) = false := by simp [h9]
        by_cases h7 : x.k = 7
        · have he := go_skip hkx (d := q) (f := f) hok hq1 (by rw [HX.out]; exact h7)
          obtain ⟨s1, s2⟩ := ok_skip (by rw [← HX.out]; exact hok) h7
          have hgx : xs.getD k z4 = x := by rw [getD_at4 hkx]; exact HX.out
          have cK := skipSpec _ xs k B w2 hv2 (by omega) hkx (by rw [hgx]; omega) (by rw [hgx]; omega)
          rw [h7] at a0
          obtain ⟨p, hp⟩ : ∃ p, skipOk xs k = p := ⟨_, rfl⟩
          rw [hp] at cK he
          clear h8 h9 h7 e8 e9 hgx hp
          cases p
          · have HF : Hid (false = codeOk xs) := by show _ = _; rw [HN.out, he, Bool.false_and]
            clear he HN hok
            go_wp2_with fail
            refine cK.mono ?_
            rintro e w3 ⟨rfl, rfl⟩
            clear cK
            go_wp2
            go_ret
            exact ⟨ret_b HF.out, hbb⟩
          · have HF : Hid (codeOk xs = codeGo xs (xs.drop (k + 1)) (k + 1) q f) := by show _ = _; rw [HN.out, he, Bool.true_and]
            have hq' : ¬ q < 0 := by omega
            clear he HN hok
            go_wp2_with fail
            refine cK.mono ?_
            rintro e w3 ⟨rfl, rfl⟩
            clear cK
            go_wp2
            go_roundw
            case rel => exact ⟨k + 1, f, q, by omega, by omega, by omega, by omega, by go_num, rfl, rfl, HF.out, hbb⟩
            case measure => simp [intOf]; omega
        have e7 : (x.k == 7) = false := by simp [h7]
        by_cases h11 : x.k = 11
        · have he := go_fork hkx (d := q) (f := f) hok hq1 (by rw [HX.out]; exact h11)
          rw [h11] at a0
          clear h8 h9 h7 e8 e9 e7 h11
          by_cases hq0 : q ≤ 0
          · obtain rfl : q = 0 := by omega
            by_cases hf0 : f = 0
            · subst hf0
              have HF : Hid (codeOk xs = codeGo xs (xs.drop (k + 1)) (k + 1) 0 1) := by show _ = _; rw [HN.out, he]; simp
              clear he HN hok hq0
              go_wp2
              go_roundw
              case rel => exact ⟨k + 1, 1, 0, by omega, by omega, by omega, by omega, by go_num, rfl, rfl, HF.out, hbb⟩
              case measure => simp [intOf]; omega
            · have HF : Hid (false = codeOk xs) := by show _ = _; rw [HN.out, he, decide_eq_false hf0]; simp
              have hf1 : (1 : Int) < (f : Int) + 1 := by omega
              clear he HN hok hq0
              go_wp2
              go_ret
              exact ⟨ret_b HF.out, hbb⟩
          · have HF : Hid (false = codeOk xs) := by show _ = _; rw [HN.out, he, decide_eq_false hq0]; simp
            have hq' : 0 < q := by omega
            clear he HN hok hq0
            go_wp2
            go_ret
            exact ⟨ret_b HF.out, hbb⟩
        have e11 : (x.k == 11) = false := by simp [h11]
        have HF : Hid (codeOk xs = codeGo xs (xs.drop (k + 1)) (k + 1) q f) := by show _ = _; rw [HN.out, go_else hkx hok hq1 (by rw [HX.out]; exact h8) (by rw [HX.out]; exact h9) (by rw [HX.out]; exact h7) (by rw [HX.out]; exact h11)]
        have hq' : ¬ q < 0 := by omega
        clear HN hok h8 h9 h7 h11
        go_wp2
        go_roundw
        case rel => exact ⟨k + 1, f, q, by omega, by omega, by omega, by omega, by go_num, rfl, rfl, HF.out, hbb⟩
        case measure => simp [intOf]; omega
      · obtain rfl : k = n := by omega
        have HF : Hid ((q == 0) = codeOk xs) := by
          show _ = _
          rw [he, List.drop_of_length_le (by omega)]; rfl
        clear he
        go_wp2
        go_ret
        exact ⟨ret_b HF.out, hb⟩
  · have HF : Hid (false = codeOk xs) := by
      show _ = _
      unfold codeOk
      rw [decide_eq_false (show ¬ xs.length ≤ 24 by omega), Bool.false_and]
    have h24' : (24 : Int) < n := by omega
    go_enter Try.func50, Try.ntmps50
    go_wp2
    go_ret
    exact ⟨ret_b HF.out, Below.refl _ _⟩
end Ops
end Go.Proofs.Ytppkohkcffnghaa
/- What the specification's KidOk, ProgOk and SameProg answer. -/
set_option linter.unusedVariables false
set_option linter.unusedSimpArgs false
namespace Go.Proofs.Ytppkohkcffnghaa
open Go.RowKit
namespace Ops
open Bas Flat

theorem kid_no1 {xs : List O4} (h : codeOk xs = false) : kidOk xs = false := by unfold kidOk; rw [h]; rfl
theorem kid_no2 {xs : List O4} (h : hasFork xs = true) : kidOk xs = false := by unfold kidOk; rw [h]; simp
theorem kid_all {xs : List O4} (h1 : codeOk xs = true) (h2 : hasFork xs = false) : kidOk xs = xs.all fun o => !(touch o == 2) := by unfold kidOk; rw [h1, h2]; simp

set_option maxRecDepth 100000 in
set_option maxHeartbeats 1600000 in
theorem kidSpec (v : Value) (xs : List O4) (B : Nat) (w : World) (hv : Sees4 B w v xs) (hB : B ≤ w.heap.size) (hlen : xs.length ≤ 1048576) :
    Calls Try.prog 11 #[v] w fun e w' => e = .returned (.bool (kidOk xs)) ∧ Below w.heap.size w w' := by
  have c0 := codeSpec v xs B w hv hB hlen
  obtain ⟨a, cap, rfl⟩ := hv.form
  obtain ⟨n, hn⟩ : ∃ n, xs.length = n := ⟨_, rfl⟩
  rw [hn] at hv hlen c0 ⊢
  obtain ⟨p, hp⟩ : ∃ p, codeOk xs = p := ⟨_, rfl⟩
  rw [hp] at c0
  cases p
  · have HF : Hid (false = kidOk xs) := (kid_no1 hp).symm
    clear hp
    go_enter Try.func11, Try.ntmps11
    go_wp2_with fail
    refine c0.mono ?_
    rintro e w1 ⟨rfl, b1⟩
    go_wp2
    go_ret
    exact ⟨ret_b HF.out, b1⟩
  obtain ⟨q, hq⟩ : ∃ q, hasFork xs = q := ⟨_, rfl⟩
  have HP : Hid (codeOk xs = true) := hp
  clear hp
  cases q
  · have HE : Hid (kidOk xs = xs.all fun o => !(touch o == 2)) := kid_all HP.out hq
    have HQ : Hid (hasFork xs = false) := hq
    clear hq
    obtain ⟨g, hg⟩ : ∃ g, w.heap.size = g := ⟨_, rfl⟩
    rw [hg] at hB c0 ⊢
    go_enter Try.func11, Try.ntmps11
    go_wp2_with fail
    refine c0.mono ?_
    rintro e w1 ⟨rfl, b1⟩
    clear c0
    go_wp2_with fail
    refine (forkSpec _ xs B w1 (hv.on b1 hB) (by omega)).mono ?_
    rw [HQ.out]
    rintro e w2 ⟨rfl, rfl⟩
    go_wp2
    go_loopw [3] (fun i' wr => ∃ k : Nat, k ≤ n ∧ i' = .int .i64 k ∧ (∀ j (h : j < xs.length), j < k → (!(touch xs[j] == 2)) = true) ∧ Below g w wr) (fun i' _ => n - (intOf i').toNat)
    case atStart => exact ⟨0, Nat.zero_le _, rfl, fun j _ h => by omega, b1⟩
    case round =>
      obtain ⟨k, hk, rfl, hall, hb⟩ := hrel
      clear b1
      have hsz : g ≤ wr.heap.size := by have := hb.size; omega
      by_cases hlt : k < n
      · have hvr := hv.on hb hB
        obtain ⟨b, off, rfl, hbB, hc⟩ := hvr.open (by omega)
        obtain ⟨a0, a1, a2, a3⟩ := see4 (B := B) hc k (by omega)
        have cT := touchSpec xs[k].k xs[k].a xs[k].b xs[k].c wr
        have eV : opV xs[k].k xs[k].a xs[k].b xs[k].c = .agg #[.int .i64 xs[k].k, .int .i64 xs[k].a, .int .i64 xs[k].b, .int .i64 xs[k].c] := rfl
        have eT : touches xs[k].k xs[k].a xs[k].b xs[k].c = touch xs[k] := rfl
        rw [eV, eT] at cT
        have HA := (show Hid _ from hall)
        by_cases h2 : touch xs[k] = 2
        · have HF : Hid (false = kidOk xs) := by
            show _ = _
            rw [HE.out]
            exact (all_no (k := k) (by omega) (by simp [h2])).symm
          rw [h2] at cT
          clear hall h2 hc eV eT
          go_wp2_with fail
          refine cT.mono ?_
          rintro e w2 ⟨rfl, hb2⟩
          clear cT
          go_wp2
          go_ret
          exact ⟨ret_b HF.out, hb.trans (hb2.mono hsz)⟩
        · have HF : Hid (∀ j (h : j < xs.length), j < k + 1 → (!(touch xs[j] == 2)) = true) := fun j hj hjk => by
            rcases Nat.lt_succ_iff_lt_or_eq.1 hjk with h | h
            · exact HA.out j hj h
            · subst h; simp [h2]
          obtain ⟨t, ht⟩ : ∃ t, touch xs[k] = t := ⟨_, rfl⟩
          rw [ht] at cT h2
          have e2 : (t == 2) = false := by simp [h2]
          clear hall h2 hc eV eT ht HA
          go_wp2_with fail
          refine cT.mono ?_
          rintro e w2 ⟨rfl, hb2⟩
          clear cT
          go_wp2
          go_roundw
          case rel => exact ⟨k + 1, by omega, by go_num, HF.out, hb.trans (hb2.mono hsz)⟩
          case measure => simp [intOf]; omega
      · have HF : Hid (true = kidOk xs) := by
          show _ = _
          rw [HE.out]
          exact (all_yes fun j hj => hall j hj (by omega)).symm
        clear hall
        go_wp2
        go_ret
        exact ⟨ret_b HF.out, hb⟩
  · have HF : Hid (false = kidOk xs) := (kid_no2 hq).symm
    have HQ : Hid (hasFork xs = true) := hq
    clear hq
    go_enter Try.func11, Try.ntmps11
    go_wp2_with fail
    refine c0.mono ?_
    rintro e w1 ⟨rfl, b1⟩
    clear c0
    go_wp2_with fail
    refine (forkSpec _ xs B w1 (hv.on b1 hB) (by omega)).mono ?_
    rw [HQ.out]
    rintro e w2 ⟨rfl, rfl⟩
    go_wp2
    go_ret
    exact ⟨ret_b HF.out, b1⟩

theorem prog_no1 {xs : List O4} {kss : List (List O4)} (h : codeOk xs = false) : progOk xs kss = false := by unfold progOk; rw [h]; rfl
theorem prog_no2 {xs : List O4} {kss : List (List O4)} (h : ¬ kss.length ≤ 3) : progOk xs kss = false := by unfold progOk; rw [decide_eq_false h]; simp
theorem prog_no3 {xs : List O4} {kss : List (List O4)} (h : ¬ hasFork xs = decide (0 < kss.length)) : progOk xs kss = false := by unfold progOk; rw [beq_eq_false_iff_ne.2 h]; simp
theorem prog_all {xs : List O4} {kss : List (List O4)} (h1 : codeOk xs = true) (h2 : kss.length ≤ 3) (h3 : hasFork xs = decide (0 < kss.length)) : progOk xs kss = kss.all kidOk := by unfold progOk; rw [h1, decide_eq_true h2, h3]; simp

set_option maxRecDepth 100000 in
set_option maxHeartbeats 3200000 in
theorem progSpec (vc vk : Value) (xs : List O4) (kss : List (List O4)) (B : Nat) (w : World) (hv : SeesP B w vc vk xs kss) (hB : B ≤ w.heap.size) (hf : Fits xs kss) :
    Calls Try.prog 76 #[.agg #[vc, vk]] w fun e w' => e = .returned (.bool (progOk xs kss)) ∧ Below w.heap.size w w' := by
  obtain ⟨a, cap, rfl⟩ := hv.c.form
  obtain ⟨ak, capk, rfl⟩ := hv.k.form
  obtain ⟨n, hn⟩ : ∃ n, xs.length = n := ⟨_, rfl⟩
  obtain ⟨m, hm⟩ : ∃ m, kss.length = m := ⟨_, rfl⟩
  obtain ⟨hf1, hf2, hf3⟩ := hf
  rw [hn, hm] at hv ⊢
  rw [hm] at hf2
  have HA3 := (show Hid _ from hf3)
  clear hf3
  have b0 := alloc_below w (.cells #[.slice a n cap, .slice ak m capk] 49)
  have X0 := Blk.new w #[.slice a n cap, .slice ak m capk] 49
  obtain ⟨W0, hW0⟩ : ∃ W0, w.alloc (.cells #[.slice a n cap, .slice ak m capk] 49) = W0 := ⟨_, rfl⟩
  rw [hW0] at b0 X0
  have hs := X0.lt
  have hv0 := hv.on b0 hB
  have c0 := codeSpec _ xs B W0.drew hv0.c.drew (by show B ≤ W0.heap.size; omega) hf1
  obtain ⟨p, hp⟩ : ∃ p, codeOk xs = p := ⟨_, rfl⟩
  rw [hp] at c0
  have HP : Hid (codeOk xs = p) := hp
  clear hp
  have x0 := X0.cell 0; have x1 := X0.cell 1
  have f1 : (0 : Int) ≤ m := by omega
  cases p
  · have HF : Hid (false = progOk xs kss) := (prog_no1 HP.out).symm
    go_enter Try.func76, Try.ntmps76
    go_wp2_with fail
    clear hW0
    refine wp_region_held_drew (S := fun W => W.cell? ⟨w.heap.size, 0, none⟩ = some (.slice a n cap) ∧ W.cell? ⟨w.heap.size, 1, none⟩ = some (.slice ak m capk)) (by kernel_rfl) ⟨x0, x1⟩ (fun hHeld => ?_)
    refine takeH (i := 0) (some 4) (.pointer (some ⟨w.heap.size, 0, none⟩)) rfl rfl (by kernel_rfl) (by kernel_rfl) (by kernel_rfl) (fun _ _ _ h => h) (Or.inl ⟨by rfl, fun w hSw => by (try dsimp only at hSw); go_simp⟩) (by assumption) ?_
    simp only [Act.put, List.setIfInBounds_toArray, List.set_cons_zero, List.set_cons_succ]
    refine takeH (i := 1) (some 5) (.slice a n cap) rfl rfl (by kernel_rfl) (by kernel_rfl) (by kernel_rfl) (fun _ _ _ h => h) (Or.inl ⟨by rfl, fun w hSw => by (try dsimp only at hSw); go_simp⟩) (by assumption) ?_
    simp only [Act.put, List.setIfInBounds_toArray, List.set_cons_zero, List.set_cons_succ]
    refine wpAnyH_ready (rs := [2]) (by kernel_rfl) (by simp) ?_
    refine AllReadyH.cons rfl (fun K hK => ?_) AllReadyH.nil
    go_simp
    refine c0.mono ?_
    rintro e w1 ⟨rfl, b1⟩
    have b1 := undrewB b1
    have X1 := X0.on b1 hs
    have bb1 := b0.trans (b1.mono b0.size)
    go_simp
    refine hK.out _ _ ⟨X1.cell 0, X1.cell 1⟩ (fun hHeld1 => ?_)
    clear hK K c0 hHeld x0 x1
    refine takeH (i := 3) (some 7) (.bool true) rfl rfl (by kernel_rfl) (by kernel_rfl) (by kernel_rfl) (fun _ _ _ h => h) (Or.inl ⟨by rfl, fun w hSw => by (try dsimp only at hSw); go_simp⟩) (by assumption) ?_
    simp only [Act.put, List.setIfInBounds_toArray, List.set_cons_zero, List.set_cons_succ]
    refine takeH (i := 4) (some 8) (.bool true) rfl rfl (by kernel_rfl) (by kernel_rfl) (by kernel_rfl) (fun _ _ _ h => h) (Or.inl ⟨by rfl, fun w hSw => by (try dsimp only at hSw); go_simp⟩) (by assumption) ?_
    simp only [Act.put, List.setIfInBounds_toArray, List.set_cons_zero, List.set_cons_succ]
    refine takeH (i := 5) (some 9) undef rfl rfl (by kernel_rfl) (by kernel_rfl) (by kernel_rfl) (fun _ _ _ h => h) (Or.inr ⟨by rfl, rfl⟩) (by assumption) ?_
    simp only [Act.put, List.setIfInBounds_toArray, List.set_cons_zero, List.set_cons_succ]
    refine takeH (i := 6) (some 10) undef rfl rfl (by kernel_rfl) (by kernel_rfl) (by kernel_rfl) (fun _ _ _ h => h) (Or.inr ⟨by rfl, rfl⟩) (by assumption) ?_
    simp only [Act.put, List.setIfInBounds_toArray, List.set_cons_zero, List.set_cons_succ]
    refine takeH (i := 7) (some 11) undef rfl rfl (by kernel_rfl) (by kernel_rfl) (by kernel_rfl) (fun _ _ _ h => h) (Or.inr ⟨by rfl, rfl⟩) (by assumption) ?_
    simp only [Act.put, List.setIfInBounds_toArray, List.set_cons_zero, List.set_cons_succ]
    refine takeH (i := 8) (some 12) undef rfl rfl (by kernel_rfl) (by kernel_rfl) (by kernel_rfl) (fun _ _ _ h => h) (Or.inr ⟨by rfl, rfl⟩) (by assumption) ?_
    simp only [Act.put, List.setIfInBounds_toArray, List.set_cons_zero, List.set_cons_succ]
    refine takeH (i := 9) (some 13) (.bool true) rfl rfl (by kernel_rfl) (by kernel_rfl) (by kernel_rfl) (fun _ _ _ h => h) (Or.inl ⟨by rfl, fun w hSw => by (try dsimp only at hSw); go_simp⟩) (by assumption) ?_
    simp only [Act.put, List.setIfInBounds_toArray, List.set_cons_zero, List.set_cons_succ]
    refine takeH (i := 10) (some 14) (.bool true) rfl rfl (by kernel_rfl) (by kernel_rfl) (by kernel_rfl) (fun _ _ _ h => h) (Or.inl ⟨by rfl, fun w hSw => by (try dsimp only at hSw); go_simp⟩) (by assumption) ?_
    simp only [Act.put, List.setIfInBounds_toArray, List.set_cons_zero, List.set_cons_succ]
    refine takeH (i := 11) (some 15) undef rfl rfl (by kernel_rfl) (by kernel_rfl) (by kernel_rfl) (fun _ _ _ h => h) (Or.inr ⟨by rfl, rfl⟩) (by assumption) ?_
    simp only [Act.put, List.setIfInBounds_toArray, List.set_cons_zero, List.set_cons_succ]
    refine takeH (i := 12) (some 16) undef rfl rfl (by kernel_rfl) (by kernel_rfl) (by kernel_rfl) (fun _ _ _ h => h) (Or.inr ⟨by rfl, rfl⟩) (by assumption) ?_
    simp only [Act.put, List.setIfInBounds_toArray, List.set_cons_zero, List.set_cons_succ]
    refine takeH (i := 13) (some 17) undef rfl rfl (by kernel_rfl) (by kernel_rfl) (by kernel_rfl) (fun _ _ _ h => h) (Or.inr ⟨by rfl, rfl⟩) (by assumption) ?_
    simp only [Act.put, List.setIfInBounds_toArray, List.set_cons_zero, List.set_cons_succ]
    refine takeH (i := 14) (some 18) undef rfl rfl (by kernel_rfl) (by kernel_rfl) (by kernel_rfl) (fun _ _ _ h => h) (Or.inr ⟨by rfl, rfl⟩) (by assumption) ?_
    simp only [Act.put, List.setIfInBounds_toArray, List.set_cons_zero, List.set_cons_succ]
    refine takeH (i := 15) (some 19) undef rfl rfl (by kernel_rfl) (by kernel_rfl) (by kernel_rfl) (fun _ _ _ h => h) (Or.inr ⟨by rfl, rfl⟩) (by assumption) ?_
    simp only [Act.put, List.setIfInBounds_toArray, List.set_cons_zero, List.set_cons_succ]
    refine takeH (i := 16) (some 20) undef rfl rfl (by kernel_rfl) (by kernel_rfl) (by kernel_rfl) (fun _ _ _ h => h) (Or.inr ⟨by rfl, rfl⟩) (by assumption) ?_
    simp only [Act.put, List.setIfInBounds_toArray, List.set_cons_zero, List.set_cons_succ]
    refine takeH (i := 17) (some 21) undef rfl rfl (by kernel_rfl) (by kernel_rfl) (by kernel_rfl) (fun _ _ _ h => h) (Or.inr ⟨by rfl, rfl⟩) (by assumption) ?_
    simp only [Act.put, List.setIfInBounds_toArray, List.set_cons_zero, List.set_cons_succ]
    refine takeH (i := 18) (some 22) undef rfl rfl (by kernel_rfl) (by kernel_rfl) (by kernel_rfl) (fun _ _ _ h => h) (Or.inr ⟨by rfl, rfl⟩) (by assumption) ?_
    simp only [Act.put, List.setIfInBounds_toArray, List.set_cons_zero, List.set_cons_succ]
    refine takeH (i := 19) (some 23) (.bool true) rfl rfl (by kernel_rfl) (by kernel_rfl) (by kernel_rfl) (fun _ _ _ h => h) (Or.inl ⟨by rfl, fun w hSw => by (try dsimp only at hSw); go_simp⟩) (by assumption) ?_
    simp only [Act.put, List.setIfInBounds_toArray, List.set_cons_zero, List.set_cons_succ]
    refine wpAnyH_done (by kernel_rfl) ?_ _
    go_wp2
    go_ret
    exact ⟨ret_b HF.out, bb1⟩
  · by_cases h3 : 3 < m
    · have HF : Hid (false = progOk xs kss) := (prog_no2 (by omega)).symm
      have d3 : decide ((3 : Int) < m) = true := decide_eq_true (by omega)
      go_enter Try.func76, Try.ntmps76
      go_wp2_with fail
      clear hW0
      refine wp_region_held_drew (S := fun W => W.cell? ⟨w.heap.size, 0, none⟩ = some (.slice a n cap) ∧ W.cell? ⟨w.heap.size, 1, none⟩ = some (.slice ak m capk)) (by kernel_rfl) ⟨x0, x1⟩ (fun hHeld => ?_)
      refine takeH (i := 0) (some 4) (.pointer (some ⟨w.heap.size, 0, none⟩)) rfl rfl (by kernel_rfl) (by kernel_rfl) (by kernel_rfl) (fun _ _ _ h => h) (Or.inl ⟨by rfl, fun w hSw => by (try dsimp only at hSw); go_simp⟩) (by assumption) ?_
      simp only [Act.put, List.setIfInBounds_toArray, List.set_cons_zero, List.set_cons_succ]
      refine takeH (i := 1) (some 5) (.slice a n cap) rfl rfl (by kernel_rfl) (by kernel_rfl) (by kernel_rfl) (fun _ _ _ h => h) (Or.inl ⟨by rfl, fun w hSw => by (try dsimp only at hSw); go_simp⟩) (by assumption) ?_
      simp only [Act.put, List.setIfInBounds_toArray, List.set_cons_zero, List.set_cons_succ]
      refine wpAnyH_ready (rs := [2]) (by kernel_rfl) (by simp) ?_
      refine AllReadyH.cons rfl (fun K hK => ?_) AllReadyH.nil
      go_simp
      refine c0.mono ?_
      rintro e w1 ⟨rfl, b1⟩
      have b1 := undrewB b1
      have X1 := X0.on b1 hs
      have bb1 := b0.trans (b1.mono b0.size)
      go_simp
      refine hK.out _ _ ⟨X1.cell 0, X1.cell 1⟩ (fun hHeld1 => ?_)
      clear hK K c0 hHeld x0 x1
      refine takeH (i := 3) (some 7) (.bool false) rfl rfl (by kernel_rfl) (by kernel_rfl) (by kernel_rfl) (fun _ _ _ h => h) (Or.inl ⟨by rfl, fun w hSw => by (try dsimp only at hSw); go_simp⟩) (by assumption) ?_
      simp only [Act.put, List.setIfInBounds_toArray, List.set_cons_zero, List.set_cons_succ]
      refine takeH (i := 4) (some 8) (.bool false) rfl rfl (by kernel_rfl) (by kernel_rfl) (by kernel_rfl) (fun _ _ _ h => h) (Or.inl ⟨by rfl, fun w hSw => by (try dsimp only at hSw); go_simp⟩) (by assumption) ?_
      simp only [Act.put, List.setIfInBounds_toArray, List.set_cons_zero, List.set_cons_succ]
      refine takeH (i := 5) (some 9) (.pointer (some ⟨w.heap.size, 1, none⟩)) rfl rfl (by kernel_rfl) (by kernel_rfl) (by kernel_rfl) (fun _ _ _ h => h) (Or.inl ⟨by rfl, fun w hSw => by (try dsimp only at hSw); go_simp⟩) (by assumption) ?_
      simp only [Act.put, List.setIfInBounds_toArray, List.set_cons_zero, List.set_cons_succ]
      refine takeH (i := 6) (some 10) (.slice ak m capk) rfl rfl (by kernel_rfl) (by kernel_rfl) (by kernel_rfl) (fun _ _ _ h => h) (Or.inl ⟨by rfl, fun w hSw => by (try dsimp only at hSw); go_simp⟩) (by assumption) ?_
      simp only [Act.put, List.setIfInBounds_toArray, List.set_cons_zero, List.set_cons_succ]
      refine takeH (i := 7) (some 11) (.int .i64 m) rfl rfl (by kernel_rfl) (by kernel_rfl) (by kernel_rfl) (fun _ _ _ h => h) (Or.inl ⟨by rfl, fun w hSw => by (try dsimp only at hSw); go_simp⟩) (by assumption) ?_
      simp only [Act.put, List.setIfInBounds_toArray, List.set_cons_zero, List.set_cons_succ]
      refine takeH (i := 8) (some 12) (.bool true) rfl rfl (by kernel_rfl) (by kernel_rfl) (by kernel_rfl) (fun _ _ _ h => h) (Or.inl ⟨by rfl, fun w hSw => by (try dsimp only at hSw); go_simp⟩) (by assumption) ?_
      simp only [Act.put, List.setIfInBounds_toArray, List.set_cons_zero, List.set_cons_succ]
      refine takeH (i := 9) (some 13) (.bool true) rfl rfl (by kernel_rfl) (by kernel_rfl) (by kernel_rfl) (fun _ _ _ h => h) (Or.inl ⟨by rfl, fun w hSw => by (try dsimp only at hSw); go_simp⟩) (by assumption) ?_
      simp only [Act.put, List.setIfInBounds_toArray, List.set_cons_zero, List.set_cons_succ]
      refine takeH (i := 10) (some 14) (.bool true) rfl rfl (by kernel_rfl) (by kernel_rfl) (by kernel_rfl) (fun _ _ _ h => h) (Or.inl ⟨by rfl, fun w hSw => by (try dsimp only at hSw); go_simp⟩) (by assumption) ?_
      simp only [Act.put, List.setIfInBounds_toArray, List.set_cons_zero, List.set_cons_succ]
      refine takeH (i := 11) (some 15) undef rfl rfl (by kernel_rfl) (by kernel_rfl) (by kernel_rfl) (fun _ _ _ h => h) (Or.inr ⟨by rfl, rfl⟩) (by assumption) ?_
      simp only [Act.put, List.setIfInBounds_toArray, List.set_cons_zero, List.set_cons_succ]
      refine takeH (i := 12) (some 16) undef rfl rfl (by kernel_rfl) (by kernel_rfl) (by kernel_rfl) (fun _ _ _ h => h) (Or.inr ⟨by rfl, rfl⟩) (by assumption) ?_
      simp only [Act.put, List.setIfInBounds_toArray, List.set_cons_zero, List.set_cons_succ]
      refine takeH (i := 13) (some 17) undef rfl rfl (by kernel_rfl) (by kernel_rfl) (by kernel_rfl) (fun _ _ _ h => h) (Or.inr ⟨by rfl, rfl⟩) (by assumption) ?_
      simp only [Act.put, List.setIfInBounds_toArray, List.set_cons_zero, List.set_cons_succ]
      refine takeH (i := 14) (some 18) undef rfl rfl (by kernel_rfl) (by kernel_rfl) (by kernel_rfl) (fun _ _ _ h => h) (Or.inr ⟨by rfl, rfl⟩) (by assumption) ?_
      simp only [Act.put, List.setIfInBounds_toArray, List.set_cons_zero, List.set_cons_succ]
      refine takeH (i := 15) (some 19) undef rfl rfl (by kernel_rfl) (by kernel_rfl) (by kernel_rfl) (fun _ _ _ h => h) (Or.inr ⟨by rfl, rfl⟩) (by assumption) ?_
      simp only [Act.put, List.setIfInBounds_toArray, List.set_cons_zero, List.set_cons_succ]
      refine takeH (i := 16) (some 20) undef rfl rfl (by kernel_rfl) (by kernel_rfl) (by kernel_rfl) (fun _ _ _ h => h) (Or.inr ⟨by rfl, rfl⟩) (by assumption) ?_
      simp only [Act.put, List.setIfInBounds_toArray, List.set_cons_zero, List.set_cons_succ]
      refine takeH (i := 17) (some 21) undef rfl rfl (by kernel_rfl) (by kernel_rfl) (by kernel_rfl) (fun _ _ _ h => h) (Or.inr ⟨by rfl, rfl⟩) (by assumption) ?_
      simp only [Act.put, List.setIfInBounds_toArray, List.set_cons_zero, List.set_cons_succ]
      refine takeH (i := 18) (some 22) undef rfl rfl (by kernel_rfl) (by kernel_rfl) (by kernel_rfl) (fun _ _ _ h => h) (Or.inr ⟨by rfl, rfl⟩) (by assumption) ?_
      simp only [Act.put, List.setIfInBounds_toArray, List.set_cons_zero, List.set_cons_succ]
      refine takeH (i := 19) (some 23) (.bool true) rfl rfl (by kernel_rfl) (by kernel_rfl) (by kernel_rfl) (fun _ _ _ h => h) (Or.inl ⟨by rfl, fun w hSw => by (try dsimp only at hSw); go_simp⟩) (by assumption) ?_
      simp only [Act.put, List.setIfInBounds_toArray, List.set_cons_zero, List.set_cons_succ]
      refine wpAnyH_done (by kernel_rfl) ?_ _
      go_wp2
      go_ret
      exact ⟨ret_b HF.out, bb1⟩
    · have d3 : decide ((3 : Int) < m) = false := decide_eq_false (by omega)
      obtain ⟨t, ht'⟩ : ∃ t, decide (0 < m) = t := ⟨_, rfl⟩
      have ht : decide ((0 : Int) < m) = t := by rw [← ht']; simp
      go_enter Try.func76, Try.ntmps76
      go_wp2_with fail
      clear hW0
      refine wp_region_held_drew (S := fun W => W.cell? ⟨w.heap.size, 0, none⟩ = some (.slice a n cap) ∧ W.cell? ⟨w.heap.size, 1, none⟩ = some (.slice ak m capk)) (by kernel_rfl) ⟨x0, x1⟩ (fun hHeld => ?_)
      refine takeH (i := 0) (some 4) (.pointer (some ⟨w.heap.size, 0, none⟩)) rfl rfl (by kernel_rfl) (by kernel_rfl) (by kernel_rfl) (fun _ _ _ h => h) (Or.inl ⟨by rfl, fun w hSw => by (try dsimp only at hSw); go_simp⟩) (by assumption) ?_
      simp only [Act.put, List.setIfInBounds_toArray, List.set_cons_zero, List.set_cons_succ]
      refine takeH (i := 1) (some 5) (.slice a n cap) rfl rfl (by kernel_rfl) (by kernel_rfl) (by kernel_rfl) (fun _ _ _ h => h) (Or.inl ⟨by rfl, fun w hSw => by (try dsimp only at hSw); go_simp⟩) (by assumption) ?_
      simp only [Act.put, List.setIfInBounds_toArray, List.set_cons_zero, List.set_cons_succ]
      refine wpAnyH_ready (rs := [2]) (by kernel_rfl) (by simp) ?_
      refine AllReadyH.cons rfl (fun K hK => ?_) AllReadyH.nil
      go_simp
      refine c0.mono ?_
      rintro e w1 ⟨rfl, b1⟩
      have b1 := undrewB b1
      have X1 := X0.on b1 hs
      have bb1 := b0.trans (b1.mono b0.size)
      go_simp
      refine hK.out _ _ ⟨X1.cell 0, X1.cell 1⟩ (fun hHeld1 => ?_)
      clear hK K c0 hHeld x0 x1
      refine takeH (i := 3) (some 7) (.bool false) rfl rfl (by kernel_rfl) (by kernel_rfl) (by kernel_rfl) (fun _ _ _ h => h) (Or.inl ⟨by rfl, fun w hSw => by (try dsimp only at hSw); go_simp⟩) (by assumption) ?_
      simp only [Act.put, List.setIfInBounds_toArray, List.set_cons_zero, List.set_cons_succ]
      refine takeH (i := 4) (some 8) (.bool false) rfl rfl (by kernel_rfl) (by kernel_rfl) (by kernel_rfl) (fun _ _ _ h => h) (Or.inl ⟨by rfl, fun w hSw => by (try dsimp only at hSw); go_simp⟩) (by assumption) ?_
      simp only [Act.put, List.setIfInBounds_toArray, List.set_cons_zero, List.set_cons_succ]
      refine takeH (i := 5) (some 9) (.pointer (some ⟨w.heap.size, 1, none⟩)) rfl rfl (by kernel_rfl) (by kernel_rfl) (by kernel_rfl) (fun _ _ _ h => h) (Or.inl ⟨by rfl, fun w hSw => by (try dsimp only at hSw); go_simp⟩) (by assumption) ?_
      simp only [Act.put, List.setIfInBounds_toArray, List.set_cons_zero, List.set_cons_succ]
      refine takeH (i := 6) (some 10) (.slice ak m capk) rfl rfl (by kernel_rfl) (by kernel_rfl) (by kernel_rfl) (fun _ _ _ h => h) (Or.inl ⟨by rfl, fun w hSw => by (try dsimp only at hSw); go_simp⟩) (by assumption) ?_
      simp only [Act.put, List.setIfInBounds_toArray, List.set_cons_zero, List.set_cons_succ]
      refine takeH (i := 7) (some 11) (.int .i64 m) rfl rfl (by kernel_rfl) (by kernel_rfl) (by kernel_rfl) (fun _ _ _ h => h) (Or.inl ⟨by rfl, fun w hSw => by (try dsimp only at hSw); go_simp⟩) (by assumption) ?_
      simp only [Act.put, List.setIfInBounds_toArray, List.set_cons_zero, List.set_cons_succ]
      refine takeH (i := 8) (some 12) (.bool false) rfl rfl (by kernel_rfl) (by kernel_rfl) (by kernel_rfl) (fun _ _ _ h => h) (Or.inl ⟨by rfl, fun w hSw => by (try dsimp only at hSw); go_simp⟩) (by assumption) ?_
      simp only [Act.put, List.setIfInBounds_toArray, List.set_cons_zero, List.set_cons_succ]
      refine takeH (i := 9) (some 13) (.bool false) rfl rfl (by kernel_rfl) (by kernel_rfl) (by kernel_rfl) (fun _ _ _ h => h) (Or.inl ⟨by rfl, fun w hSw => by (try dsimp only at hSw); go_simp⟩) (by assumption) ?_
      simp only [Act.put, List.setIfInBounds_toArray, List.set_cons_zero, List.set_cons_succ]
      refine takeH (i := 10) (some 14) (.bool false) rfl rfl (by kernel_rfl) (by kernel_rfl) (by kernel_rfl) (fun _ _ _ h => h) (Or.inl ⟨by rfl, fun w hSw => by (try dsimp only at hSw); go_simp⟩) (by assumption) ?_
      simp only [Act.put, List.setIfInBounds_toArray, List.set_cons_zero, List.set_cons_succ]
      refine takeH (i := 11) (some 15) (.pointer (some ⟨w.heap.size, 0, none⟩)) rfl rfl (by kernel_rfl) (by kernel_rfl) (by kernel_rfl) (fun _ _ _ h => h) (Or.inl ⟨by rfl, fun w hSw => by (try dsimp only at hSw); go_simp⟩) (by assumption) ?_
      simp only [Act.put, List.setIfInBounds_toArray, List.set_cons_zero, List.set_cons_succ]
      refine takeH (i := 12) (some 16) (.slice a n cap) rfl rfl (by kernel_rfl) (by kernel_rfl) (by kernel_rfl) (fun _ _ _ h => h) (Or.inl ⟨by rfl, fun w hSw => by (try dsimp only at hSw); go_simp⟩) (by assumption) ?_
      simp only [Act.put, List.setIfInBounds_toArray, List.set_cons_zero, List.set_cons_succ]
      refine takeH (i := 14) (some 18) (.pointer (some ⟨w.heap.size, 1, none⟩)) rfl rfl (by kernel_rfl) (by kernel_rfl) (by kernel_rfl) (fun _ _ _ h => h) (Or.inl ⟨by rfl, fun w hSw => by (try dsimp only at hSw); go_simp⟩) (by assumption) ?_
      simp only [Act.put, List.setIfInBounds_toArray, List.set_cons_zero, List.set_cons_succ]
      refine takeH (i := 15) (some 19) (.slice ak m capk) rfl rfl (by kernel_rfl) (by kernel_rfl) (by kernel_rfl) (fun _ _ _ h => h) (Or.inl ⟨by rfl, fun w hSw => by (try dsimp only at hSw); go_simp⟩) (by assumption) ?_
      simp only [Act.put, List.setIfInBounds_toArray, List.set_cons_zero, List.set_cons_succ]
      refine takeH (i := 16) (some 20) (.int .i64 m) rfl rfl (by kernel_rfl) (by kernel_rfl) (by kernel_rfl) (fun _ _ _ h => h) (Or.inl ⟨by rfl, fun w hSw => by (try dsimp only at hSw); go_simp⟩) (by assumption) ?_
      simp only [Act.put, List.setIfInBounds_toArray, List.set_cons_zero, List.set_cons_succ]
      refine takeH (i := 17) (some 21) (.bool t) rfl rfl (by kernel_rfl) (by kernel_rfl) (by kernel_rfl) (fun _ _ _ h => h) (Or.inl ⟨by rfl, fun w hSw => by (try dsimp only at hSw); go_simp⟩) (by assumption) ?_
      simp only [Act.put, List.setIfInBounds_toArray, List.set_cons_zero, List.set_cons_succ]
      refine wpAnyH_ready (rs := [13]) (by kernel_rfl) (by simp) ?_
      refine AllReadyH.cons rfl (fun K hK => ?_) AllReadyH.nil
      go_simp
      refine (forkSpec _ xs B w1 (hv.c.on bb1 hB) (by omega)).mono ?_
      rintro e w2 ⟨rfl, rfl⟩
      go_simp
      refine hK.out _ _ ⟨X1.cell 0, X1.cell 1⟩ (fun hHeld2 => ?_)
      clear hK K hHeld1
      obtain ⟨q, hq⟩ : ∃ q, hasFork xs = q := ⟨_, rfl⟩
      rw [hq]
      by_cases hqt : q = t
      · have HE : Hid (progOk xs kss = kss.all kidOk) := prog_all HP.out (by omega) (by rw [hq, hqt, hm]; exact ht'.symm)
        subst hqt
        have d4 : (q != q) = false := by simp
        clear hq ht ht'
        refine takeH (i := 18) (some 22) (.bool false) rfl rfl (by kernel_rfl) (by kernel_rfl) (by kernel_rfl) (fun _ _ _ h => h) (Or.inl ⟨by rfl, fun w hSw => by (try dsimp only at hSw); go_simp⟩) (by assumption) ?_
        simp only [Act.put, List.setIfInBounds_toArray, List.set_cons_zero, List.set_cons_succ]
        refine takeH (i := 19) (some 23) (.bool false) rfl rfl (by kernel_rfl) (by kernel_rfl) (by kernel_rfl) (fun _ _ _ h => h) (Or.inl ⟨by rfl, fun w hSw => by (try dsimp only at hSw); go_simp⟩) (by assumption) ?_
        simp only [Act.put, List.setIfInBounds_toArray, List.set_cons_zero, List.set_cons_succ]
        refine wpAnyH_done (by kernel_rfl) ?_ _
        clear hHeld2
        have hvk := hv.k
        have HV := (show Hid _ from hvk)
        clear hvk
        obtain ⟨g, hg⟩ : ∃ g, w.heap.size = g := ⟨_, rfl⟩
        rw [hg] at hB bb1 X1 ⊢
        have hgw : g < w1.heap.size := X1.lt
        have y0 := X1.cell 1
        go_wp2
        clear y0
        go_loopw [3] (fun i' wr => ∃ k : Nat, k ≤ m ∧ i' = .int .i64 k ∧ (∀ j (h : j < kss.length), j < k → kidOk kss[j] = true) ∧ Below g w wr ∧ Blk wr g #[.slice a n cap, .slice ak m capk] 49) (fun i' _ => m - (intOf i').toNat)
        case atStart => exact ⟨0, Nat.zero_le _, rfl, fun j _ h => by omega, bb1, X1⟩
        case round =>
          obtain ⟨k, hk, rfl, hall, hb, X⟩ := hrel
          have y1 := X.cell 1
          have hsz : g ≤ wr.heap.size := by have := X.lt; omega
          by_cases hlt : k < m
          · obtain ⟨b, off, rfl, hbB, hc⟩ := SeesK.open HV.out (by omega)
            obtain ⟨s, hs1, hs2⟩ := hc k (by omega)
            have a0 := (hb.cell (p := ⟨b, off + k, none⟩) (by show b < g; omega)).trans hs1
            have cK := kidSpec _ _ B wr (hs2.on hb hB) (by omega) (HA3.out _ (List.getElem_mem (show k < kss.length by omega)))
            have HAl := (show Hid _ from hall)
            have i1 : (k : Int) < m := by omega
            by_cases hko : kidOk kss[k] = true
            · have HF : Hid (∀ j (h : j < kss.length), j < k + 1 → kidOk kss[j] = true) := fun j hj hjk => by
                rcases Nat.lt_succ_iff_lt_or_eq.1 hjk with h | h
                · exact HAl.out j hj h
                · subst h; exact hko
              rw [hko] at cK
              clear hall hc hs1 hs2 hko
              go_wp2_with fail
              refine cK.mono ?_
              rintro e w3 ⟨rfl, hb3⟩
              clear cK
              go_wp2
              go_roundw
              case rel => exact ⟨k + 1, by omega, by go_num, HF.out, hb.trans (hb3.mono hsz), X.on hb3 X.lt⟩
              case measure => simp [intOf]; omega
            · have hko' : kidOk kss[k] = false := by simpa using hko
              have HF : Hid (false = progOk xs kss) := by
                show _ = _
                rw [HE.out]
                exact (List.all_eq_false.2 ⟨kss[k], List.getElem_mem (by omega), by simp [hko']⟩).symm
              rw [hko'] at cK
              clear hall hc hs1 hs2 hko hko'
              go_wp2_with fail
              refine cK.mono ?_
              rintro e w3 ⟨rfl, hb3⟩
              clear cK
              go_wp2
              go_ret
              exact ⟨ret_b HF.out, by rw [hg]; exact hb.trans (hb3.mono hsz)⟩
          · have HF : Hid (true = progOk xs kss) := by
              show _ = _
              rw [HE.out]
              exact (List.all_eq_true.2 fun ks hks => by
                obtain ⟨j, hj, rfl⟩ := List.mem_iff_getElem.1 hks
                exact hall j hj (by omega)).symm
            obtain rfl : k = m := by omega
            clear hall
            go_wp2
            go_ret
            exact ⟨ret_b HF.out, by rw [hg]; exact hb⟩
      · have HF : Hid (false = progOk xs kss) := (prog_no3 (by rw [hq, hm, ht']; exact hqt)).symm
        have d4 : (q != t) = true := by simp [hqt]
        clear hq ht ht'
        refine takeH (i := 18) (some 22) (.bool true) rfl rfl (by kernel_rfl) (by kernel_rfl) (by kernel_rfl) (fun _ _ _ h => h) (Or.inl ⟨by rfl, fun w hSw => by (try dsimp only at hSw); go_simp⟩) (by assumption) ?_
        simp only [Act.put, List.setIfInBounds_toArray, List.set_cons_zero, List.set_cons_succ]
        refine takeH (i := 19) (some 23) (.bool true) rfl rfl (by kernel_rfl) (by kernel_rfl) (by kernel_rfl) (fun _ _ _ h => h) (Or.inl ⟨by rfl, fun w hSw => by (try dsimp only at hSw); go_simp⟩) (by assumption) ?_
        simp only [Act.put, List.setIfInBounds_toArray, List.set_cons_zero, List.set_cons_succ]
        refine wpAnyH_done (by kernel_rfl) ?_ _
        clear hHeld2
        go_wp2
        go_ret
        exact ⟨ret_b HF.out, bb1⟩

end Ops
end Go.Proofs.Ytppkohkcffnghaa
