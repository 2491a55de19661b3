/- Ops: when one is right; the specification's small tests. -/
import Derived.Test.YtppikpdphcfomaaBase
namespace Go.Proofs.Ytppikpdphcfomaa
open Go.RowKit
namespace Ops

/-- between two numbers -/
def inn (lo hi x : Int) : Bool := decide (lo ≤ x) && decide (x ≤ hi)
/-- which spans the three fields of an op have, by its kind -/
def spans (k : Int) : Option ((Int × Int) × (Int × Int) × (Int × Int)) :=
  if k = 1 then some ((0, 3), (0, 65535), (0, 0))
  else if k = 2 ∨ k = 3 ∨ k = 4 then some ((0, 3), (0, 3), (0, 3))
  else if k = 5 then some ((0, 3), (0, 7), (0, 0))
  else if k = 6 then some ((0, 7), (0, 3), (0, 0))
  else if k = 7 then some ((0, 3), (1, 20), (0, 0))
  else if k = 8 ∨ k = 15 ∨ k = 16 then some ((0, 3), (0, 0), (0, 0))
  else if k = 9 ∨ k = 10 ∨ k = 11 then some ((0, 0), (0, 0), (0, 0))
  else if k = 12 then some ((0, 7), (0, 3), (0, 3))
  else if k = 13 then some ((0, 3), (0, 7), (0, 0))
  else if k = 14 then some ((0, 7), (0, 3), (0, 0))
  else none
/-- an op is right -/
def opOk (k a b c : Int) : Bool :=
  match spans k with
  | none => false
  | some (p, q, r) => inn p.1 p.2 a && inn q.1 q.2 b && inn r.1 r.2 c

theorem kinds (k : Int) : k = 1 ∨ k = 2 ∨ k = 3 ∨ k = 4 ∨ k = 5 ∨ k = 6 ∨ k = 7 ∨ k = 8 ∨ k = 9 ∨ k = 10 ∨ k = 11 ∨ k = 12 ∨ k = 13 ∨ k = 14 ∨ k = 15 ∨ k = 16 ∨ (k < 1 ∨ 16 < k) := by omega
theorem spans_none {k : Int} (h : k < 1 ∨ 16 < k) : spans k = none := by
  unfold spans
  repeat rw [if_neg (by omega)]
theorem inn_zero (x : Int) : inn 0 0 x = (x == 0) := by
  unfold inn
  by_cases h : x = 0
  · subst h; rfl
  · by_cases h1 : 0 ≤ x <;> by_cases h2 : x ≤ 0 <;> simp [h, h1, h2] ; omega

set_option maxRecDepth 100000 in
theorem innC (x lo hi : Int) (w : World) : Calls Try.prog 45 #[.int .i64 x, .int .i64 lo, .int .i64 hi] w fun e w' => e = .returned (.bool (inn lo hi x)) ∧ w = w' := by
  unfold inn
  by_cases h1 : lo ≤ x
  · have h1' : decide (lo ≤ x) = true := decide_eq_true h1
    go_enter Try.func45, Try.ntmps45
    go_wp2
    go_ret
    simp [h1]
  · have h1' : decide (lo ≤ x) = false := decide_eq_false h1
    go_enter Try.func45, Try.ntmps45
    go_wp2
    go_ret
    simp

set_option maxRecDepth 100000 in
theorem regC (x : Int) (w : World) : Calls Try.prog 149 #[.int .i64 x] w fun e w' => e = .returned (.bool (inn 0 3 x)) ∧ w = w' := by
  go_enter Try.func149, Try.ntmps149
  go_wp2_with fail
  refine (innC x 0 3 w).mono ?_
  rintro e w1 ⟨rfl, rfl⟩
  go_wp2
  go_ret
  exact ⟨rfl, rfl⟩
set_option maxRecDepth 100000 in
theorem valC (x : Int) (w : World) : Calls Try.prog 68 #[.int .i64 x] w fun e w' => e = .returned (.bool (inn 0 65535 x)) ∧ w = w' := by
  go_enter Try.func68, Try.ntmps68
  go_wp2_with fail
  refine (innC x 0 65535 w).mono ?_
  rintro e w1 ⟨rfl, rfl⟩
  go_wp2
  go_ret
  exact ⟨rfl, rfl⟩
set_option maxRecDepth 100000 in
theorem cellC (x : Int) (w : World) : Calls Try.prog 79 #[.int .i64 x] w fun e w' => e = .returned (.bool (inn 0 7 x)) ∧ w = w' := by
  go_enter Try.func79, Try.ntmps79
  go_wp2_with fail
  refine (innC x 0 7 w).mono ?_
  rintro e w1 ⟨rfl, rfl⟩
  go_wp2
  go_ret
  exact ⟨rfl, rfl⟩

/-- an op as a value -/
def opV (k a b c : Int) : Value := .agg #[.int .i64 k, .int .i64 a, .int .i64 b, .int .i64 c]
end Ops
end Go.Proofs.Ytppikpdphcfomaa
