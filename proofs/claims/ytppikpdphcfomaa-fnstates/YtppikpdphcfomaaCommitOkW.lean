/- CommitOk, as written and as specified. -/
import Derived.Test.YtppikpdphcfomaaCommitL
import Derived.Test.YtppikpdphcfomaaLogImpl
import Derived.BigQuiet
set_option linter.unusedVariables false
set_option linter.unusedSimpArgs false
namespace Go.Proofs.Ytppikpdphcfomaa
open Go.RowKit
namespace Commits
open Bas Flat Logs

theorem ret_rises {zs : List Int} {b : Bool} (h : rises zs = b) : Ending.returned (.bool b) = .returned (.bool (rises zs)) := by rw [h]
theorem open_ints' {B : Nat} {w : World} {a : Option Addr} {n cap : Nat} {zs : List Int} (h : Ints.Sees B w (.slice a n cap) zs) (hn : 0 < zs.length) : ∃ b off, a = some ⟨b, off, none⟩ ∧ b < B ∧ ∀ j (h : j < zs.length), w.cell? ⟨b, off + j, none⟩ = some (.int .i64 zs[j]) := by
  obtain ⟨a', cap', e, -, -, h3⟩ := h
  simp only [Value.slice.injEq] at e
  obtain ⟨rfl, -, -⟩ := e
  exact h3 (fun h => by simp [h] at hn)
theorem bdN {B : Nat} {a w : World} (h : Below B a w) (n : Nat) : Below B a (w.drewN n) := h.trans ⟨rfl, rfl, rfl, Nat.le_refl _, fun _ _ => rfl⟩
/-- the least that the next cell may be -/
def least (zs : List Int) (k : Nat) : Int := if k = 0 then 0 else zs.getD (k - 1) 0 + 1
theorem least_next {zs : List Int} {k : Nat} (h : k < zs.length) : least zs (k + 1) = zs[k] + 1 := by
  unfold least
  rw [if_neg (by omega), show zs.getD (k + 1 - 1) 0 = zs[k] by simp [List.getD, h]]
theorem good_least {zs : List Int} {k : Nat} (h : k < zs.length) (h0 : Ops.inn 0 7 zs[k] = true) : good zs k = decide (least zs k ≤ zs[k]) := by
  cases k with
  | zero =>
    rw [good_zero h h0]
    unfold Ops.inn at h0
    simp at h0
    simp [least]
    omega
  | succ m =>
    rw [least_next (by omega)]
    by_cases hl : zs[m] < zs[m + 1]
    · rw [good_lt h h0 hl, decide_eq_true (by omega)]
    · rw [good_le h (by omega), decide_eq_false (by omega)]
theorem least_near {zs : List Int} {k : Nat} (h : ∀ j, j < k → good zs j = true) (hk : k ≤ zs.length) : 0 ≤ least zs k ∧ least zs k ≤ 8 := by
  cases k with
  | zero => simp [least]
  | succ m =>
    rw [least_next (by omega)]
    have := good_out (by omega) (h m (by omega))
    unfold Ops.inn at this
    simp at this
    omega
theorem ownerC (x : Int) (w : World) : Calls Try.prog 74 #[.int .i64 x] w fun e w' => e = .returned (.bool (Ops.inn 1 99 x)) ∧ w = w' := by
  unfold Ops.inn
  by_cases h1 : 1 ≤ x
  · have h1' : decide (1 ≤ x) = true := decide_eq_true h1
    go_enter Try.func74, Try.ntmps74
    go_wp2
    go_ret
    exact ⟨by simp [h1], rfl⟩
  · have h1' : decide (1 ≤ x) = false := decide_eq_false h1
    go_enter Try.func74, Try.ntmps74
    go_wp2
    go_ret
    exact ⟨by simp, rfl⟩
end Commits
end Go.Proofs.Ytppikpdphcfomaa
