/- What the frames tell of a history that came in. -/
import Derived.Test.YtppikpdphcfomaaLogArg
import Derived.Test.YtppikpdphcfomaaHistRow
set_option linter.unusedVariables false
namespace Go.Proofs.Ytppikpdphcfomaa
open Go.RowKit Go.ChangeShapes Go.WideShapes Go.Deep
namespace Hist
open Flat Logs
theorem cellsLWrote : Try.prog.cellsOf 91 = 3 := by kernel_rfl
theorem cellsLRows : Try.prog.cellsOf 89 = 1 := by kernel_rfl
section
variable {H : Type} {enc : TypeId × Value → H} {W : World}
set_option maxRecDepth 100000 in
theorem readsWrote : Reads enc W 91 wxEl (fun x => Sees2 W.heap.size W x.sl x.ps) := by
  intro fuel cs x h hl
  obtain ⟨xs, k, hk, hxy, _, hxl, hf⟩ := DataW.trod_struct Try.underlying91 h
  change cs.length = 3 at hl
  match xs, hxl, cs, hl with
  | [y0, y1, y2], _, [v0, v1, v2], _ =>
    have g0 := hf 0 _ rfl
    have g1 := hf 1 _ rfl
    have g2 := hf 2 _ rfl
    simp [cellsLInt, cellsLRows] at g0 g1 g2
    obtain ⟨n0, e0, -, -⟩ := DataW.trod_int Try.underlying3 g0
    obtain ⟨n1, e1, -, -⟩ := DataW.trod_int Try.underlying3 g1
    obtain ⟨v, ys, e2, hs, -⟩ := rows_of (E := rowEl) z2 Try.underlying89 cellsLRow readsRow g2
    simp only [List.cons.injEq, and_true] at e0 e1 e2
    subst e0 e1 e2
    obtain ⟨a, cap, rfl⟩ := hs.form
    exact ⟨⟨n0, n1, a, ys.length, cap, ys⟩, rfl, hs⟩
set_option maxRecDepth 100000 in
theorem openWrotes {r : Reach} {b0 : Nat} {v : Value} {d : DataW H} {p : List MemPlace} (hv : Value.okWide Try.prog W r b0 39 v) (h : DataW.Trod enc Try.prog W 0 (fun _ => true) true 39 v d p) :
    ∃ u ls, v = u ∧ SeesW W.heap.size W v ls := by
  obtain ⟨a, len, cap, rfl⟩ := okWide_slice Try.underlying39 hv
  obtain ⟨fuel, hf⟩ := h
  obtain ⟨u, xs, e, hs, hq⟩ := rows_of (E := wxEl) zx Try.underlying39 cellsLWrote readsWrote hf
  simp [Value.cells] at e
  subst e
  exact ⟨_, xs.map Wx.wr, rfl, xs, hs, hq, rfl⟩
end
end Hist
end Go.Proofs.Ytppikpdphcfomaa
