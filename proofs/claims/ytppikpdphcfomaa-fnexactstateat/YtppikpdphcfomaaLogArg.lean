/- What the frames tell of rows of a log that came in. -/
import Derived.Test.YtppikpdphcfomaaFlatArg
import Derived.Test.YtppikpdphcfomaaLogRow
set_option linter.unusedVariables false
namespace Go.Proofs.Ytppikpdphcfomaa
open Go.RowKit Go.ChangeShapes Go.WideShapes Go.Deep
namespace Logs
open Flat
theorem cellsLRow : Try.prog.cellsOf 146 = 2 := by kernel_rfl
theorem cellsLInt : Try.prog.cellsOf 3 = 1 := by kernel_rfl

section
variable {H : Type} {enc : TypeId × Value → H} {W : World}
set_option maxRecDepth 100000 in
theorem readsRow : Reads enc W 146 rowEl (fun _ => True) := by
  intro fuel cs x h hl
  obtain ⟨xs, k, hk, hxy, _, hxl, hf⟩ := DataW.trod_struct Try.underlying146 h
  change cs.length = 2 at hl
  match xs, hxl, cs, hl with
  | [y0, y1], _, [v0, v1], _ =>
    have g0 := hf 0 _ rfl
    have g1 := hf 1 _ rfl
    simp [cellsLInt] at g0 g1
    obtain ⟨n0, e0, -, -⟩ := DataW.trod_int Try.underlying3 g0
    obtain ⟨n1, e1, -, -⟩ := DataW.trod_int Try.underlying3 g1
    simp only [List.cons.injEq, and_true] at e0 e1
    subst e0 e1
    exact ⟨⟨n0, n1⟩, rfl, trivial⟩
set_option maxRecDepth 100000 in
theorem openRows {r : Reach} {b0 : Nat} {v : Value} {d : DataW H} {p : List MemPlace} (hv : Value.okWide Try.prog W r b0 89 v) (h : DataW.Trod enc Try.prog W 0 (fun _ => true) true 89 v d p) :
    ∃ u xs, v = u ∧ Sees2 W.heap.size W v xs := by
  obtain ⟨a, len, cap, rfl⟩ := okWide_slice Try.underlying89 hv
  obtain ⟨fuel, hf⟩ := h
  obtain ⟨u, xs, e, hs, -⟩ := rows_of (E := rowEl) z2 Try.underlying89 cellsLRow readsRow hf
  simp [Value.cells] at e
  subst e
  exact ⟨_, xs, rfl, hs⟩
end
end Logs
end Go.Proofs.Ytppikpdphcfomaa
