/- What the specification's SameProg answers. -/
import Derived.Test.YthmkijbokfiljaaShapeSpec4
import Derived.Laws.StructEq
set_option linter.unusedVariables false
set_option linter.unusedSimpArgs false
namespace Go.Proofs.Ythmkijbokfiljaa
open Go.RowKit
namespace Ops
open Bas Flat

theorem same4_yes {x y : O4} (h : same4 x y = true) : x = y := by
  unfold same4 at h
  obtain ⟨h1, h2, h3, h4⟩ := of_decide_eq_true h
  cases x; cases y; simp_all
set_option maxRecDepth 100000 in
theorem eqOp4 (x y : O4) (W : World) : (Op.equalIn 10000 33 x.val y.val).run Try.prog W = .ok (same4 x y) W := by
  have hu : Try.prog.underlying 33 = some (.struct (Try.prog.fieldsOf 33)) := by kernel_rfl
  have hp : Try.prog.stoodInHeld 33 = false := by kernel_rfl
  show (Op.equalIn 10000 33 (.agg #[.int .i64 x.k, .int .i64 x.a, .int .i64 x.b, .int .i64 x.c]) (.agg #[.int .i64 y.k, .int .i64 y.a, .int .i64 y.b, .int .i64 y.c])).run Try.prog W = .ok (same4 x y) W
  rw [run_equalIn_agg (d := 9999) (ht := hu) (hp := hp)]
  have h1 := hu.symm.trans Try.underlying33
  simp only [Option.some.injEq, TypeDesc.struct.injEq] at h1
  rw [h1]
  obtain ⟨x0, x1, x2, x3⟩ := x
  obtain ⟨y0, y1, y2, y3⟩ := y
  unfold same4
  by_cases h0 : x0 = y0 <;> by_cases h1 : x1 = y1 <;> by_cases h2 : x2 = y2 <;> by_cases h3 : x3 = y3 <;> simp [Op.eqFields, go_sem, h0, h1, h2, h3]

theorem sameGo_len {xs ys : List O4} (h : ¬ xs.length = ys.length) : sameGo xs ys = false := by
  induction xs generalizing ys with
  | nil => cases ys with
    | nil => simp at h
    | cons y t => rfl
  | cons x r ih => cases ys with
    | nil => rfl
    | cons y t =>
      show (same4 x y && sameGo r t) = false
      rw [ih (by simpa using h), Bool.and_false]
theorem sameGo_step {xs ys : List O4} {k : Nat} (h : k < xs.length) (h' : k < ys.length) : sameGo (xs.drop k) (ys.drop k) = (same4 xs[k] ys[k] && sameGo (xs.drop (k + 1)) (ys.drop (k + 1))) := by
  rw [List.drop_eq_getElem_cons h, List.drop_eq_getElem_cons h']; rfl

end Ops
end Go.Proofs.Ythmkijbokfiljaa
