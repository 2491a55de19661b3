/- Right values: what l3Vals and rightValues answer. -/
import Derived.Test.YtppikpdphcfomaaSerialL
import Derived.Test.YtppikpdphcfomaaIntRow
set_option linter.unusedVariables false
namespace Go.Proofs.Ytppikpdphcfomaa
open Go.RowKit
namespace Ths
def valOk (z : Int) : Bool := decide (0 ≤ z ∧ z ≤ 65535)
def valsOk (zs : List Int) : Bool := decide (zs.length = 8) && zs.all valOk
theorem valsOk_mk {zs : List Int} (h : zs.length = 8) (ha : ∀ j (h : j < zs.length), valOk zs[j] = true) : valsOk zs = true := by
  unfold valsOk
  rw [Bool.and_eq_true]
  refine ⟨decide_eq_true h, List.all_eq_true.2 fun x hx => ?_⟩
  obtain ⟨j, hj, rfl⟩ := List.mem_iff_getElem.1 hx
  exact ha j hj
theorem valsOk_len {zs : List Int} (h : ¬ zs.length = 8) : valsOk zs = false := by unfold valsOk; rw [decide_eq_false h]; rfl
theorem valsOk_one {zs : List Int} {j : Nat} (hj : j < zs.length) (h : valOk zs[j] = false) : valsOk zs = false := by
  unfold valsOk
  rw [Bool.and_eq_false_iff]
  exact .inr (List.all_eq_false.2 ⟨zs[j], List.getElem_mem hj, by simp [h]⟩)
theorem valsOk_out {zs : List Int} (h : valsOk zs = true) : zs.length = 8 := by
  unfold valsOk at h
  rw [Bool.and_eq_true] at h
  exact of_decide_eq_true h.1
theorem ret_vals {zs : List Int} {b : Bool} (h : valsOk zs = b) : Ending.returned (.bool b) = .returned (.bool (valsOk zs)) := by rw [h]

set_option maxRecDepth 100000 in
set_option maxHeartbeats 800000 in
theorem specVals (v : Value) (zs : List Int) (B : Nat) (w : World) (hv : Ints.Sees B w v zs) :
    Calls Try.prog 49 #[v] w fun e w' => e = .returned (.bool (valsOk zs)) ∧ w = w' := by
  obtain ⟨a, cap, rfl, h1, h2, h3⟩ := hv
  have hm : (zs.length : Int) ≤ 9223372036854775807 := by unfold maxLen at h2; omega
  by_cases h8 : zs.length = 8
  · rw [h8]
    clear hm h1 h2
    go_enter Try.func49, Try.ntmps49
    go_wp2
    go_loop [3] (fun i => ∃ k : Nat, k ≤ 8 ∧ i = .int .i64 k ∧ (∀ j (h : j < zs.length), j < k → valOk zs[j] = true)) (fun i => 8 - (intOf i).toNat)
    case atStart => exact ⟨0, by omega, rfl, fun j _ h => by omega⟩
    case round =>
      obtain ⟨k, hk, rfl, hall⟩ := hrel
      by_cases hlt : k < 8
      · obtain ⟨b, off, rfl, hbB, hc⟩ := h3 (fun h => by simp [h] at h8)
        have a0 := hc k (by omega)
        obtain ⟨z, hz⟩ : ∃ z, zs[k] = z := ⟨_, rfl⟩
        rw [hz] at a0
        have HZ : Hid (zs[k] = z) := hz
        have HA : Hid (∀ j (h : j < zs.length), j < k → valOk zs[j] = true) := hall
        clear hz hc h3 hall
        by_cases q : 0 ≤ z ∧ z ≤ 65535
        · obtain ⟨q0, q1⟩ := q
          go_wp2
          go_round
          case rel => exact ⟨k + 1, by omega, by go_num, fun j hj hjk => by
            rcases Nat.lt_succ_iff_lt_or_eq.1 hjk with h | h
            · exact HA.out j hj h
            · subst h; rw [HZ.out]; exact decide_eq_true ⟨q0, q1⟩⟩
          case measure => simp [intOf]; omega
        · have HF : Hid (valsOk zs = false) := valsOk_one (j := k) (by omega) (by rw [HZ.out]; exact decide_eq_false q)
          rcases (show z < 0 ∨ (0 ≤ z ∧ 65535 < z) by omega) with q0 | ⟨q0, q1⟩
          all_goals
            try have q2 : decide (z ≤ 65535) = false := by (simp; omega)
            clear q
            go_wp2
            go_ret
            exact ⟨ret_vals HF.out, rfl⟩
      · obtain rfl : k = 8 := by omega
        have HT : Hid (valsOk zs = true) := valsOk_mk h8 fun j hj => hall j hj (by omega)
        clear hall h3
        go_wp2
        go_ret
        exact ⟨ret_vals HT.out, rfl⟩
  · have HF : Hid (valsOk zs = false) := valsOk_len h8
    obtain ⟨n, hn⟩ : ∃ n, zs.length = n := ⟨_, rfl⟩
    rw [hn] at hm h8 ⊢
    have h8' : ((n : Int) != 8) = true := by simp; omega
    clear h3 hn h1 h2 h8
    go_enter Try.func49, Try.ntmps49
    go_wp2
    go_ret
    exact ⟨ret_vals HF.out, rfl⟩

set_option maxRecDepth 100000 in
set_option maxHeartbeats 800000 in
theorem implVals (v : Value) (zs : List Int) (B : Nat) (w : World) (hv : Ints.Sees B w v zs) :
    Calls Try.prog 42 #[v] w fun e w' => e = .returned (.bool (valsOk zs)) ∧ w = w' := by
  obtain ⟨a, cap, rfl, h1, h2, h3⟩ := hv
  have hm : (zs.length : Int) ≤ 9223372036854775807 := by unfold maxLen at h2; omega
  by_cases h8 : zs.length = 8
  · rw [h8]
    clear hm h1 h2
    go_enter Try.func42, Try.ntmps42
    go_wp2
    go_loop [10] (fun i => ∃ k : Nat, k ≤ 8 ∧ i = .int .i64 k ∧ (∀ j (h : j < zs.length), j < k → valOk zs[j] = true)) (fun i => 8 - (intOf i).toNat)
    case atStart => exact ⟨0, by omega, rfl, fun j _ h => by omega⟩
    case round =>
      obtain ⟨k, hk, rfl, hall⟩ := hrel
      by_cases hlt : k < 8
      · obtain ⟨b, off, rfl, hbB, hc⟩ := h3 (fun h => by simp [h] at h8)
        have a0 := hc k (by omega)
        obtain ⟨z, hz⟩ : ∃ z, zs[k] = z := ⟨_, rfl⟩
        rw [hz] at a0
        have HZ : Hid (zs[k] = z) := hz
        have HA : Hid (∀ j (h : j < zs.length), j < k → valOk zs[j] = true) := hall
        clear hz hc h3 hall
        by_cases q : 0 ≤ z ∧ z ≤ 65535
        · obtain ⟨q0, q1⟩ := q
          go_wp2
          go_round
          case rel => exact ⟨k + 1, by omega, by go_num, fun j hj hjk => by
            rcases Nat.lt_succ_iff_lt_or_eq.1 hjk with h | h
            · exact HA.out j hj h
            · subst h; rw [HZ.out]; exact decide_eq_true ⟨q0, q1⟩⟩
          case measure => simp [intOf]; omega
        · have HF : Hid (valsOk zs = false) := valsOk_one (j := k) (by omega) (by rw [HZ.out]; exact decide_eq_false q)
          rcases (show z < 0 ∨ (0 ≤ z ∧ 65535 < z) by omega) with q0 | ⟨q0, q1⟩
          all_goals
            try have q2 : decide (z ≤ 65535) = false := by (simp; omega)
            clear q
            go_wp2
            go_ret
            exact ⟨ret_vals HF.out, rfl⟩
      · obtain rfl : k = 8 := by omega
        have HT : Hid (valsOk zs = true) := valsOk_mk h8 fun j hj => hall j hj (by omega)
        clear hall h3
        go_wp2
        go_ret
        exact ⟨ret_vals HT.out, rfl⟩
  · have HF : Hid (valsOk zs = false) := valsOk_len h8
    obtain ⟨n, hn⟩ : ∃ n, zs.length = n := ⟨_, rfl⟩
    rw [hn] at hm h8 ⊢
    have h8' : ((n : Int) != 8) = true := by simp; omega
    clear h3 hn h1 h2 h8
    go_enter Try.func42, Try.ntmps42
    go_wp2
    go_ret
    exact ⟨ret_vals HF.out, rfl⟩


theorem vals_cells (zs : List Int) : valsOk zs = Ops.cellsOk zs := by
  unfold valsOk Ops.cellsOk
  congr 2
  funext z
  unfold valOk Ops.inn
  rw [Bool.eq_iff_iff]
  simp
theorem specCells (v : Value) (zs : List Int) (B : Nat) (w : World) (hv : Ints.Sees B w v zs) : Calls Try.prog 49 #[v] w fun e w' => e = .returned (.bool (Ops.cellsOk zs)) ∧ w = w' := by
  rw [← vals_cells]; exact specVals v zs B w hv
theorem implCells (v : Value) (zs : List Int) (B : Nat) (w : World) (hv : Ints.Sees B w v zs) : Calls Try.prog 42 #[v] w fun e w' => e = .returned (.bool (Ops.cellsOk zs)) ∧ w = w' := by
  rw [← vals_cells]; exact implVals v zs B w hv
end Ths
end Go.Proofs.Ytppikpdphcfomaa
