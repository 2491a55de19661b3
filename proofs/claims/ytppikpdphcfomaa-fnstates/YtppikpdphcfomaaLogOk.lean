/- Right rows: what RowsOk answers, the program's and the specification's. -/
import Derived.Test.YtppikpdphcfomaaLogL
set_option linter.unusedVariables false
namespace Go.Proofs.Ytppikpdphcfomaa
open Go.RowKit
namespace Logs
open Flat

set_option maxRecDepth 100000 in
theorem isCellC (x : Int) (w : World) : Calls Try.prog 101 #[.int .i64 x] w fun e w' => e = .returned (.bool (Ops.inn 0 7 x)) ∧ w = w' := by
  unfold Ops.inn
  have e7 : decide (x ≤ 7) = decide (x < 8) := by rw [decide_eq_decide]; omega
  rw [e7]
  by_cases h1 : 0 ≤ x
  · have h1' : decide (0 ≤ x) = true := decide_eq_true h1
    go_enter Try.func101, Try.ntmps101
    go_wp2
    go_ret
    exact ⟨by simp [h1], rfl⟩
  · have h1' : decide (0 ≤ x) = false := decide_eq_false h1
    go_enter Try.func101, Try.ntmps101
    go_wp2
    go_ret
    exact ⟨by simp, rfl⟩

set_option maxRecDepth 100000 in
theorem isValC (x : Int) (w : World) : Calls Try.prog 76 #[.int .i64 x] w fun e w' => e = .returned (.bool (Ops.inn 0 65535 x)) ∧ w = w' := by
  unfold Ops.inn
  by_cases h1 : 0 ≤ x
  · have h1' : decide (0 ≤ x) = true := decide_eq_true h1
    go_enter Try.func76, Try.ntmps76
    go_wp2
    go_ret
    exact ⟨by simp [h1], rfl⟩
  · have h1' : decide (0 ≤ x) = false := decide_eq_false h1
    go_enter Try.func76, Try.ntmps76
    go_wp2
    go_ret
    exact ⟨by simp, rfl⟩

set_option maxRecDepth 100000 in
set_option maxHeartbeats 1600000 in
theorem specOk (v : Value) (xs : List R2) (B : Nat) (w : World) (hv : Sees2 B w v xs) :
    Calls Try.prog 46 #[v] w fun e w' => e = .returned (.bool (rowsOk xs)) ∧ w = w' := by
  obtain ⟨a, cap, rfl, h1, h2, h3⟩ := hv
  have hm : (xs.length : Int) ≤ 9223372036854775807 := by unfold maxLen at h2; omega
  by_cases h8 : xs.length ≤ 300
  · obtain ⟨n, hn⟩ : ∃ n, xs.length = n := ⟨_, rfl⟩
    have HL : Hid (xs.length ≤ 300) := h8
    rw [hn] at h8 hm ⊢
    have h8' : (n : Int) ≤ 300 := by omega
    clear h1 h2
    go_enter Try.func46, Try.ntmps46
    go_wp2
    go_loop [3] (fun i => ∃ k : Nat, k ≤ n ∧ i = .int .i64 k ∧ (∀ j (h : j < xs.length), j < k → okR xs[j] = true)) (fun i => n - (intOf i).toNat)
    case atStart => exact ⟨0, by omega, rfl, fun j _ h => by omega⟩
    case round =>
      obtain ⟨k, hk, rfl, hall⟩ := hrel
      by_cases hlt : k < n
      · obtain ⟨b, off, rfl, hbB, hc⟩ := h3 (fun h => by simp [h] at hn; omega)
        obtain ⟨a0, a1⟩ := at2 (hc k (by omega))
        obtain ⟨z, hz⟩ : ∃ z, xs[k] = z := ⟨_, rfl⟩
        rw [hz] at a0 a1
        change w.cell? ⟨b, off + k * 2, none⟩ = _ at a0
        change w.cell? ⟨b, off + k * 2 + 1, none⟩ = _ at a1
        have HZ : Hid (xs[k] = z) := hz
        have HA : Hid (∀ j (h : j < xs.length), j < k → okR xs[j] = true) := hall
        have cC := Ops.cellC z.c w
        have cV := Ops.valC z.v w
        obtain ⟨p, hp⟩ : ∃ p, Ops.inn 0 7 z.c = p := ⟨_, rfl⟩
        obtain ⟨q, hq⟩ : ∃ q, Ops.inn 0 65535 z.v = q := ⟨_, rfl⟩
        rw [hp] at cC
        rw [hq] at cV
        have HP : Hid (Ops.inn 0 7 z.c = p) := hp
        have HQ : Hid (Ops.inn 0 65535 z.v = q) := hq
        clear hz hc h3 hall hp hq
        cases p
        · have HF : Hid (rowsOk xs = false) := rowsOk_one (j := k) (by omega) (by rw [HZ.out]; exact okR_cell HP.out)
          go_wp2_with (go_at_call 79; refine cC.mono ?_; rintro e w1 ⟨rfl, rfl⟩)
          go_ret
          exact ⟨ret_rows HF.out, rfl⟩
        cases q
        · have HF : Hid (rowsOk xs = false) := rowsOk_one (j := k) (by omega) (by rw [HZ.out]; exact okR_val HQ.out)
          go_wp2_with (first | (go_at_call 79; refine cC.mono ?_; rintro e w1 ⟨rfl, rfl⟩) | (go_at_call 68; refine cV.mono ?_; rintro e w1 ⟨rfl, rfl⟩))
          go_ret
          exact ⟨ret_rows HF.out, rfl⟩
        go_wp2_with (first | (go_at_call 79; refine cC.mono ?_; rintro e w1 ⟨rfl, rfl⟩) | (go_at_call 68; refine cV.mono ?_; rintro e w1 ⟨rfl, rfl⟩))
        go_round
        case rel => exact ⟨k + 1, by omega, by go_num, fun j hj hjk => by
          rcases Nat.lt_succ_iff_lt_or_eq.1 hjk with h | h
          · exact HA.out j hj h
          · subst h; rw [HZ.out]; simp [okR, HP.out, HQ.out]⟩
        case measure => simp [intOf]; omega
      · obtain rfl : k = n := by omega
        have HT : Hid (rowsOk xs = true) := rowsOk_mk HL.out fun j hj => hall j hj (by omega)
        clear hall h3
        go_wp2
        go_ret
        exact ⟨ret_rows HT.out, rfl⟩
  · have HF : Hid (rowsOk xs = false) := rowsOk_len h8
    obtain ⟨n, hn⟩ : ∃ n, xs.length = n := ⟨_, rfl⟩
    rw [hn] at hm h8 ⊢
    have h8' : (300 : Int) < n := by omega
    clear h3 hn h1 h2 h8
    go_enter Try.func46, Try.ntmps46
    go_wp2
    go_ret
    exact ⟨ret_rows HF.out, rfl⟩
end Logs
end Go.Proofs.Ytppikpdphcfomaa
