/- What the specification's Last, Cut, Net and CellsOf answer. -/
import Derived.Test.YtppikpdphcfomaaLogOk
import Derived.Test.YtppikpdphcfomaaLogPush
set_option linter.unusedVariables false
set_option linter.unusedSimpArgs false
namespace Go.Proofs.Ytppikpdphcfomaa
open Go.RowKit
namespace Logs
open Bas Flat

theorem ret_last {a b : Option Int} (h : a = b) : Ending.returned (.tuple #[.int .i64 (a.getD 0), .bool a.isSome]) = .returned (.tuple #[.int .i64 (b.getD 0), .bool b.isSome]) := by rw [h]

set_option maxRecDepth 100000 in
set_option maxHeartbeats 1600000 in
theorem specLast (v : Value) (xs : List R2) (c : Int) (B : Nat) (w : World) (hv : Sees2 B w v xs) :
    Calls Try.prog 14 #[v, .int .i64 c] w fun e w' => e = .returned (.tuple #[.int .i64 ((lastOf xs c).getD 0), .bool (lastOf xs c).isSome]) ∧ w = w' := by
  have c0 := specOk v xs B w hv
  obtain ⟨a, cap, rfl⟩ := hv.form
  obtain ⟨n, hn⟩ : ∃ n, xs.length = n := ⟨_, rfl⟩
  obtain ⟨p, hp⟩ : ∃ p, rowsOk xs = p := ⟨_, rfl⟩
  rw [hp] at c0
  cases p
  · have HF : Hid (none = lastOf xs c) := (lastOf_no hp c).symm
    rw [hn] at c0 ⊢
    clear hp
    go_enter Try.func14, Try.ntmps14
    go_wp2_with fail
    refine c0.mono ?_
    rintro e w1 ⟨rfl, rfl⟩
    go_wp2
    go_ret2
    exact ⟨ret_last HF.out, rfl⟩
  have h3 := rowsOk_out hp
  rw [hn] at c0 hv h3 ⊢
  have HS : Hid (lastOf xs c = lastV xs c) := lastOf_ok hp c
  have HE : Hid (lastV xs c = lastV (xs.take n) c) := by show _ = _; rw [List.take_of_length_le (by omega)]
  clear hp
  go_enter Try.func14, Try.ntmps14
  go_wp2_with fail
  refine c0.mono ?_
  rintro e w1 ⟨rfl, rfl⟩
  clear c0
  go_wp2
  go_loop [6] (fun i => ∃ k : Nat, k ≤ n ∧ i = .int .i64 ((k : Int) - 1) ∧ lastV xs c = lastV (xs.take k) c) (fun i => (intOf i + 1).toNat)
  case atStart => exact ⟨n, Nat.le_refl _, by go_num, HE.out⟩
  case round =>
    obtain ⟨k, hk, rfl, he⟩ := hrel
    clear HE
    match k, hk, he with
    | 0, hk, he =>
      have HF : Hid (none = lastOf xs c) := by show _ = _; rw [HS.out, he]; rfl
      clear he
      go_wp2
      go_ret2
      exact ⟨ret_last HF.out, rfl⟩
    | k + 1, hk, he =>
      obtain ⟨b, off, rfl, hbB, hc⟩ := hv.open (by omega)
      have e1 : ((k + 1 : Nat) : Int) - 1 = (k : Int) := by omega
      rw [e1]
      rw [lastV_take xs c k (by omega)] at he
      obtain ⟨a0, a1⟩ := at2 (hc k (by omega))
      obtain ⟨x, hx⟩ : ∃ x, xs[k] = x := ⟨_, rfl⟩
      rw [hx] at a0 a1 he
      change w.cell? ⟨b, off + k * 2, none⟩ = _ at a0
      change w.cell? ⟨b, off + k * 2 + 1, none⟩ = _ at a1
      have i1 : (k : Int) < n := by omega
      have i0 : (0 : Int) ≤ k := by omega
      by_cases hcx : x.c = c
      · rw [if_pos hcx] at he
        have HF : Hid (some x.v = lastOf xs c) := by show _ = _; rw [HS.out, he]
        have h9 : (x.c == c) = true := by simpa using hcx
        clear he hx hc hcx
        go_wp2
        go_ret2
        exact ⟨ret_last HF.out, rfl⟩
      · rw [if_neg hcx] at he
        have HE2 := (show Hid _ from he)
        have h9 : (x.c == c) = false := by simpa using hcx
        clear he hx hc hcx
        go_wp2
        go_round
        case rel => exact ⟨k, by omega, by go_num, HE2.out⟩
        case measure => simp [intOf]

end Logs
end Go.Proofs.Ytppikpdphcfomaa
