/- What the specification's functions of chapter 5 answer. -/
import Derived.Test.YtkeamnokkbfcaaaShapeL
import Derived.Test.YtkeamnokkbfcaaaOpSpec
import Derived.Test.YtkeamnokkbfcaaaOpLaw
import Derived.Test.YtkeamnokkbfcaaaProgCmp
set_option linter.unusedVariables false
namespace Go.Proofs.Ytkeamnokkbfcaaa
open Go.RowKit
namespace Ops
open Bas Flat

theorem ret_i {a b : Int} (h : a = b) : Ending.returned (.int .i64 a) = .returned (.int .i64 b) := by rw [h]
theorem ret_b {a b : Bool} (h : a = b) : Ending.returned (.bool a) = .returned (.bool b) := by rw [h]
/-- an op of a code, by its kind: it begins a block, ends one, or neither -/
theorem kind3 (x : O4) : (x.k = 8 ∧ delta x = 1) ∨ (x.k = 9 ∧ delta x = -1) ∨ ((x.k == 8) = false ∧ (x.k == 9) = false ∧ delta x = 0) := by
  unfold delta
  by_cases h8 : x.k = 8
  · exact .inl ⟨h8, if_pos h8⟩
  · by_cases h9 : x.k = 9
    · exact .inr (.inl ⟨h9, by rw [if_neg h8, if_pos h9]⟩)
    · exact .inr (.inr ⟨by simp [h8], by simp [h9], by rw [if_neg h8, if_neg h9]⟩)
/-- the cells of the op at place k -/
theorem see4 {B : Nat} {w : World} {b off : Nat} {xs : List O4} (hc : ∀ j (h : j < xs.length), At opEl w b (off + j * opEl.sz) xs[j]) (k : Nat) (hk : k < xs.length) :
    w.cell? ⟨b, off + k * 4, none⟩ = some (.int .i64 xs[k].k) ∧ w.cell? ⟨b, off + k * 4 + 1, none⟩ = some (.int .i64 xs[k].a) ∧ w.cell? ⟨b, off + k * 4 + 2, none⟩ = some (.int .i64 xs[k].b) ∧ w.cell? ⟨b, off + k * 4 + 3, none⟩ = some (.int .i64 xs[k].c) := at4 (hc k hk)

set_option maxRecDepth 100000 in
set_option maxHeartbeats 1600000 in
theorem depthSpec (v : Value) (xs : List O4) (i : Int) (B : Nat) (w : World) (hv : Sees4 B w v xs) (hlen : xs.length ≤ 1048576) :
    Calls Try.prog 11 #[v, .int .i64 i] w fun e w' => e = .returned (.int .i64 (depthAt xs i)) ∧ w = w' := by
  obtain ⟨a, cap, rfl⟩ := hv.form
  obtain ⟨n, hn⟩ : ∃ n, xs.length = n := ⟨_, rfl⟩
  rw [hn] at hv hlen ⊢
  go_enter Try.func11, Try.ntmps11
  go_wp2
  go_loop [5, 6] (fun d i' => ∃ k : Nat, k ≤ n ∧ (k : Int) ≤ max 0 i ∧ i' = .int .i64 k ∧ d = .int .i64 (dsum (xs.take k))) (fun _ i' => n - (intOf i').toNat)
  case atStart => exact ⟨0, Nat.zero_le _, by omega, rfl, rfl⟩
  case round =>
    obtain ⟨k, hk, hki, rfl, rfl⟩ := hrel
    have hd := dsum_take_range xs k
    obtain ⟨d, hdd⟩ : ∃ d, dsum (xs.take k) = d := ⟨_, rfl⟩
    by_cases hlt : k < n
    · by_cases hi : (k : Int) < i
      · obtain ⟨b, off, rfl, hb, hc⟩ := hv.open (by omega)
        obtain ⟨a0, -, -, -⟩ := see4 (B := B) hc k (by omega)
        have HS : Hid (dsum (xs.take (k + 1)) = dsum (xs.take k) + delta xs[k]) := dsum_take (by omega)
        rw [hdd] at hd HS ⊢
        obtain ⟨x, hx⟩ : ∃ x, xs[k] = x := ⟨_, rfl⟩
        rw [hx] at a0 HS
        clear hc hx hdd
        rcases kind3 x with ⟨h8, hD⟩ | ⟨h9, hD⟩ | ⟨h8, h9, hD⟩
        · rw [h8] at a0
          rw [hD] at HS
          clear h8 hD
          go_wp2
          go_round
          case rel => exact ⟨k + 1, by omega, by omega, by go_num, by rw [HS.out]⟩
          case measure => simp [intOf]; omega
        · rw [h9] at a0
          rw [hD] at HS
          clear h9 hD
          go_wp2
          go_round
          case rel => exact ⟨k + 1, by omega, by omega, by go_num, by rw [HS.out]; go_num⟩
          case measure => simp [intOf]; omega
        · rw [hD] at HS
          clear hD
          go_wp2
          go_round
          case rel => exact ⟨k + 1, by omega, by omega, by go_num, by rw [HS.out]; go_num⟩
          case measure => simp [intOf]; omega
      · have HF : Hid (dsum (xs.take k) = depthAt xs i) := by
          show _ = dsum (xs.take i.toNat)
          rw [show i.toNat = k by omega]
        rw [hdd] at hd HF ⊢
        clear hdd
        go_wp2
        go_ret
        exact ⟨ret_i HF.out, rfl⟩
    · have HF : Hid (dsum (xs.take k) = depthAt xs i) := by
        show _ = dsum (xs.take i.toNat)
        rw [List.take_of_length_le (by omega), List.take_of_length_le (by omega)]
      rw [hdd] at hd HF ⊢
      clear hdd
      go_wp2
      go_ret
      exact ⟨ret_i HF.out, rfl⟩

set_option maxRecDepth 100000 in
set_option maxHeartbeats 1600000 in
theorem forkSpec (v : Value) (xs : List O4) (B : Nat) (w : World) (hv : Sees4 B w v xs) (hlen : xs.length ≤ 1048576) :
    Calls Try.prog 26 #[v] w fun e w' => e = .returned (.bool (hasFork xs)) ∧ w = w' := by
  obtain ⟨a, cap, rfl⟩ := hv.form
  obtain ⟨n, hn⟩ : ∃ n, xs.length = n := ⟨_, rfl⟩
  rw [hn] at hv hlen ⊢
  go_enter Try.func26, Try.ntmps26
  go_wp2
  go_loop [3] (fun i' => ∃ k : Nat, k ≤ n ∧ i' = .int .i64 k ∧ ∀ j (h : j < xs.length), j < k → ¬ xs[j].k = 11) (fun i' => n - (intOf i').toNat)
  case atStart => exact ⟨0, Nat.zero_le _, rfl, fun j _ h => by omega⟩
  case round =>
    obtain ⟨k, hk, rfl, hall⟩ := hrel
    by_cases hlt : k < n
    · obtain ⟨b, off, rfl, hb, hc⟩ := hv.open (by omega)
      obtain ⟨a0, -, -, -⟩ := see4 (B := B) hc k (by omega)
      by_cases h11 : xs[k].k = 11
      · have HF : Hid (true = hasFork xs) := (hasFork_yes (by omega) h11).symm
        rw [h11] at a0
        clear hc hall h11
        go_wp2
        go_ret
        exact ⟨ret_b HF.out, rfl⟩
      · have HA : Hid (∀ j (h : j < xs.length), j < k + 1 → ¬ xs[j].k = 11) := fun j hj hjk => by
          rcases Nat.lt_succ_iff_lt_or_eq.1 hjk with h | h
          · exact hall j hj h
          · subst h; exact h11
        have d11 : (xs[k].k == 11) = false := by simp [h11]
        obtain ⟨q, hq⟩ : ∃ q, xs[k].k = q := ⟨_, rfl⟩
        rw [hq] at a0 d11
        clear hc hall h11 hq
        go_wp2
        go_round
        case rel => exact ⟨k + 1, by omega, by go_num, HA.out⟩
        case measure => simp [intOf]; omega
    · have HF : Hid (false = hasFork xs) := (hasFork_no fun j hj => hall j hj (by omega)).symm
      clear hall
      go_wp2
      go_ret
      exact ⟨ret_b HF.out, rfl⟩
end Ops
end Go.Proofs.Ytkeamnokkbfcaaa
