/- What the frames tell of codes and programs that came in. -/
import Derived.Test.YtppkohkcffnghaaFlatArg
import Derived.Test.YtppkohkcffnghaaProgCmp
set_option linter.unusedVariables false
namespace Go.Proofs.Ytppkohkcffnghaa
open Go.RowKit Go.ChangeShapes Go.WideShapes Go.Deep
namespace Ops
open Flat
theorem cellsLOp : Try.prog.cellsOf 113 = 4 := by kernel_rfl
theorem cellsLInt : Try.prog.cellsOf 3 = 1 := by kernel_rfl
theorem cellsLKid : Try.prog.cellsOf 129 = 1 := by kernel_rfl
theorem cellsLProg : Try.prog.cellsOf 61 = 2 := by kernel_rfl
theorem cellsLOps : Try.prog.cellsOf 58 = 1 := by kernel_rfl

section
variable {H : Type} {enc : TypeId × Value → H} {W : World}
set_option maxRecDepth 100000 in
theorem readsOp : Reads enc W 113 opEl (fun _ => True) := by
  intro fuel cs x h hl
  obtain ⟨xs, k, hk, hxy, _, hxl, hf⟩ := DataW.trod_struct Try.underlying113 h
  change cs.length = 4 at hl
  match xs, hxl, cs, hl with
  | [y0, y1, y2, y3], _, [v0, v1, v2, v3], _ =>
    have g0 := hf 0 _ rfl
    have g1 := hf 1 _ rfl
    have g2 := hf 2 _ rfl
    have g3 := hf 3 _ rfl
    simp [cellsLInt] at g0 g1 g2 g3
    obtain ⟨n0, e0, -, -⟩ := DataW.trod_int Try.underlying3 g0
    obtain ⟨n1, e1, -, -⟩ := DataW.trod_int Try.underlying3 g1
    obtain ⟨n2, e2, -, -⟩ := DataW.trod_int Try.underlying3 g2
    obtain ⟨n3, e3, -, -⟩ := DataW.trod_int Try.underlying3 g3
    simp only [List.cons.injEq, and_true] at e0 e1 e2 e3
    subst e0 e1 e2 e3
    exact ⟨⟨n0, n1, n2, n3⟩, rfl, trivial⟩
theorem codes_of {fuel : Nat} {cs : List Value} {x : DataW H × List MemPlace} (h : DataW.trod enc Try.prog W 0 (fun _ => true) true fuel 58 cs = some x) : ∃ v xs, cs = [v] ∧ Sees4 W.heap.size W v xs := by
  obtain ⟨v, xs, e, hs, -⟩ := rows_of (E := opEl) z4 Try.underlying58 cellsLOp readsOp h
  exact ⟨v, xs, e, hs⟩
set_option maxRecDepth 100000 in
theorem readsKid : Reads enc W 129 slEl (fun s => ∃ xs, Sees4 W.heap.size W s.val xs) := by
  intro fuel cs x h hl
  obtain ⟨xs, k, hk, hxy, _, hxl, hf⟩ := DataW.trod_struct Try.underlying129 h
  change cs.length = 1 at hl
  match xs, hxl, cs, hl with
  | [y0], _, [v0], _ =>
    have g0 := hf 0 _ rfl
    simp [cellsLOps] at g0
    obtain ⟨v, ys, e, hs⟩ := codes_of g0
    simp only [List.cons.injEq, and_true] at e
    subst e
    obtain ⟨a, cap, rfl⟩ := hs.form
    exact ⟨⟨a, ys.length, cap⟩, rfl, ys, hs⟩
theorem kids_of {fuel : Nat} {cs : List Value} {x : DataW H × List MemPlace} (h : DataW.trod enc Try.prog W 0 (fun _ => true) true fuel 59 cs = some x) : ∃ v kss, cs = [v] ∧ SeesK W.heap.size W v kss := by
  obtain ⟨v, ss, e, hs, hq⟩ := rows_of (E := slEl) z3 Try.underlying59 cellsLKid readsKid h
  obtain ⟨f, hf⟩ := @choose_lt (List O4) ⟨[]⟩ ss.length (fun j xs => ∃ h : j < ss.length, Sees4 W.heap.size W ss[j].val xs) (fun j hj => by
    obtain ⟨xs, hx⟩ := hq ss[j] (List.getElem_mem hj)
    exact ⟨xs, hj, hx⟩)
  refine ⟨v, (List.range ss.length).map f, e, ss, hs, by simp, fun j hj hj' => ?_⟩
  obtain ⟨_, hx⟩ := hf j hj
  have hg : ((List.range ss.length).map f)[j] = f j := by simp
  rw [hg]; exact hx
set_option maxRecDepth 100000 in
theorem openCode {r : Reach} {b0 : Nat} {v : Value} {d : DataW H} {p : List MemPlace} (hv : Value.okWide Try.prog W r b0 58 v) (h : DataW.Trod enc Try.prog W 0 (fun _ => true) true 58 v d p) :
    ∃ v1 xs, v = v1 ∧ Sees4 W.heap.size W v1 xs := by
  obtain ⟨a, len, cap, rfl⟩ := okWide_slice Try.underlying58 hv
  obtain ⟨fuel, hf⟩ := h
  obtain ⟨v1, xs, e, hs⟩ := codes_of hf
  simp [Value.cells] at e
  exact ⟨v1, xs, e, hs⟩
set_option maxRecDepth 100000 in
theorem openProg {r : Reach} {b0 : Nat} {v : Value} {d : DataW H} {p : List MemPlace} (hv : Value.okWide Try.prog W r b0 61 v) (h : DataW.Trod enc Try.prog W 0 (fun _ => true) true 61 v d p) :
    ∃ vc vk xs kss, v = .agg #[vc, vk] ∧ SeesP W.heap.size W vc vk xs kss := by
  obtain ⟨v0, v1, y0, y1, n, rfl, -, -, h0, h1⟩ := Joins.open_agg2 Try.underlying61 (by kernel_rfl) cellsLProg hv h
  obtain ⟨vc, xs, e0, hs0⟩ := codes_of h0
  obtain ⟨vk, kss, e1, hs1⟩ := kids_of h1
  simp only [List.cons.injEq, and_true] at e0 e1
  subst e0 e1
  exact ⟨_, _, xs, kss, rfl, hs0, hs1⟩
end
end Ops
end Go.Proofs.Ytppkohkcffnghaa
