/- Several texts of one proof, in build order: SerLawE, FlatArg, ProgArg, ThArg. -/
import Derived.Deep.Slices
import Derived.Lib.SmallJoins
import Derived.Test.YtajbmokidcdfnaaSB1
import Derived.Test.YtajbmokidcdfnaaSB2
import Derived.Test.YtajbmokidcdfnaaSB3
import Derived.Test.YtajbmokidcdfnaaSB21
/- The law of Serial, its parameters in the frame's order. -/
set_option linter.unusedVariables false
namespace Go.Proofs.Ytajbmokidcdfnaa
open Go.RowKit
namespace Ops
open Bas Flat
theorem lawSerialE (vC vK : Value) (xs : List O4) (kss : List (List O4)) (vO : Value) (zs : List Int) (vc vm : Value) (t : Th) (w : World) (hP : SeesP w.heap.size w vC vK xs kss) (hO : Ints.Sees w.heap.size w vO zs) (hT : SeeT w.heap.size w vc vm t) :
    Calls Try.prog 8 #[.agg #[vC, vK], vO, .agg #[vc, vm, .int .i64 t.n]] w fun e w' => e = .returned (.bool true) ∧ Below w.heap.size w w' := lawSerial vC vK vO vc vm xs kss zs t w hP hO hT
end Ops
end Go.Proofs.Ytajbmokidcdfnaa
/- What the frames tell of slices that came in: rows of elements, whatever each of them reads as. -/
set_option linter.unusedVariables false
namespace Go.Proofs.Ytajbmokidcdfnaa
open Go.RowKit Go.ChangeShapes Go.WideShapes Go.Deep
namespace Flat
section
variable {H : Type} {enc : TypeId × Value → H} {W : World} {α : Type} {E : El α}
/-- what is read as a value of type e is an element of which Q holds -/
def Reads (enc : TypeId × Value → H) (W : World) (e : TypeId) (E : El α) (Q : α → Prop) : Prop :=
  ∀ fuel cs x, DataW.trod enc Try.prog W 0 (fun _ => true) true fuel e cs = some x → cs.length = E.sz → ∃ a, cs = E.cells a ∧ Q a
theorem rows_of {T e : TypeId} {Q : α → Prop} (z : α) (ht : Try.prog.underlying T = some (.slice e)) (hc : Try.prog.cellsOf e = E.sz) (hr : Reads enc W e E Q)
    {fuel : Nat} {cs : List Value} {x : DataW H × List MemPlace} (h : DataW.trod enc Try.prog W 0 (fun _ => true) true fuel T cs = some x) :
    ∃ v xs, cs = [v] ∧ Sees E W.heap.size W v xs ∧ ∀ y ∈ xs, Q y := by
  rcases open_slice ht h with ⟨rfl, rfl⟩ | ⟨a, len, cap, m, n, D, Pl, rfl, hb, hl, hm, hmm, rfl, hx⟩
  · exact ⟨_, [], rfl, Sees.nil E _ _, fun y hy => by cases hy⟩
  have hmm' : m = cap := by simpa using hmm
  have each : ∀ i, i < len → ∃ y : α, (∀ j u, (E.cells y)[j]? = some u → W.cell? (a.add (i * E.sz + j)) = some u) ∧ Q y := by
    intro i hi
    obtain ⟨cs', h1, h2⟩ := hx i (by omega)
    rw [hc] at h1
    obtain ⟨_, hlen, hcell⟩ := World.cells?_some h1
    obtain ⟨y, rfl, hq⟩ := hr _ _ _ h2 hlen
    refine ⟨y, fun j u hu => ?_, hq⟩
    have hj : j < E.sz := by have := (List.getElem?_eq_some_iff.1 hu).1; rw [E.len] at this; exact this
    have := hcell j hj
    rw [add_add] at this
    rw [this, hu]
  obtain ⟨f, hf⟩ := @choose_lt _ ⟨z⟩ _ _ each
  have hln : ((List.range len).map f).length = len := by simp
  refine ⟨_, (List.range len).map f, rfl, ⟨some a, cap, by rw [hln], by rw [hln]; exact hl, hm, fun hne => ?_⟩, fun y hy => ?_⟩
  · have hpos : 0 < len := by
      rcases Nat.eq_zero_or_pos len with h0 | h0
      · subst h0; simp at hne
      · exact h0
    obtain ⟨b, off, spot⟩ := a
    have hp := E.pos
    obtain ⟨u, hu⟩ : ∃ u, (E.cells (f 0))[0]? = some u := ⟨(E.cells (f 0))[0]'(by rw [E.len]; exact hp), List.getElem?_eq_getElem _⟩
    have h0 := (hf 0 hpos).1 0 u hu
    have hspot : spot = none := by simpa [Addr.add] using World.cell?_spot h0
    subst hspot
    have hb : b < W.heap.size := by
      have := World.block_lt_of_cell? _ _ h0
      simpa [Addr.add] using this
    refine ⟨b, off, rfl, hb, fun j hj i u hu => ?_⟩
    have hj' : j < len := by simpa using hj
    have ha : ∀ i, (⟨b, off, none⟩ : Addr).add i = ⟨b, off + i, none⟩ := fun i => by unfold Addr.add; split <;> simp_all
    have hg : ((List.range len).map f)[j] = f j := by simp
    rw [hg] at hu
    have := (hf j hj').1 i u hu
    rw [ha] at this
    rw [Nat.add_assoc]; exact this
  · obtain ⟨j, hj, rfl⟩ := List.mem_map.1 hy
    exact (hf j (by simpa using hj)).2
end
end Flat
end Go.Proofs.Ytajbmokidcdfnaa
/- What the frames tell of codes and programs that came in. -/
set_option linter.unusedVariables false
namespace Go.Proofs.Ytajbmokidcdfnaa
open Go.RowKit Go.ChangeShapes Go.WideShapes Go.Deep
namespace Ops
open Flat
theorem cellsLOp : Try.prog.cellsOf 157 = 4 := by kernel_rfl
theorem cellsLInt : Try.prog.cellsOf 3 = 1 := by kernel_rfl
theorem cellsLKid : Try.prog.cellsOf 150 = 1 := by kernel_rfl
theorem cellsLProg : Try.prog.cellsOf 70 = 2 := by kernel_rfl
theorem cellsLOps : Try.prog.cellsOf 67 = 1 := by kernel_rfl

section
variable {H : Type} {enc : TypeId × Value → H} {W : World}
set_option maxRecDepth 100000 in
theorem readsOp : Reads enc W 157 opEl (fun _ => True) := by
  intro fuel cs x h hl
  obtain ⟨xs, k, hk, hxy, _, hxl, hf⟩ := DataW.trod_struct Try.underlying157 h
  change cs.length = 4 at hl
  match xs, hxl, cs, hl with
  | [y0, y1, y2, y3], _, [v0, v1, v2, v3], _ =>
    have g0 := hf 0 _ rfl
    have g1 := hf 1 _ rfl
    have g2 := hf 2 _ rfl
    have g3 := hf 3 _ rfl
    simp [cellsLInt] at g0 g1 g2 g3
    obtain ⟨n0, e0, -, -⟩ := DataW.trod_int Try.underlying3 g0
    obtain ⟨n1, e1, -, -⟩ := DataW.trod_int Try.underlying3 g1
    obtain ⟨n2, e2, -, -⟩ := DataW.trod_int Try.underlying3 g2
    obtain ⟨n3, e3, -, -⟩ := DataW.trod_int Try.underlying3 g3
    simp only [List.cons.injEq, and_true] at e0 e1 e2 e3
    subst e0 e1 e2 e3
    exact ⟨⟨n0, n1, n2, n3⟩, rfl, trivial⟩
theorem codes_of {fuel : Nat} {cs : List Value} {x : DataW H × List MemPlace} (h : DataW.trod enc Try.prog W 0 (fun _ => true) true fuel 67 cs = some x) : ∃ v xs, cs = [v] ∧ Sees4 W.heap.size W v xs := by
  obtain ⟨v, xs, e, hs, -⟩ := rows_of (E := opEl) z4 Try.underlying67 cellsLOp readsOp h
  exact ⟨v, xs, e, hs⟩
set_option maxRecDepth 100000 in
theorem readsKid : Reads enc W 150 slEl (fun s => ∃ xs, Sees4 W.heap.size W s.val xs) := by
  intro fuel cs x h hl
  obtain ⟨xs, k, hk, hxy, _, hxl, hf⟩ := DataW.trod_struct Try.underlying150 h
  change cs.length = 1 at hl
  match xs, hxl, cs, hl with
  | [y0], _, [v0], _ =>
    have g0 := hf 0 _ rfl
    simp [cellsLOps] at g0
    obtain ⟨v, ys, e, hs⟩ := codes_of g0
    simp only [List.cons.injEq, and_true] at e
    subst e
    obtain ⟨a, cap, rfl⟩ := hs.form
    exact ⟨⟨a, ys.length, cap⟩, rfl, ys, hs⟩
theorem kids_of {fuel : Nat} {cs : List Value} {x : DataW H × List MemPlace} (h : DataW.trod enc Try.prog W 0 (fun _ => true) true fuel 68 cs = some x) : ∃ v kss, cs = [v] ∧ SeesK W.heap.size W v kss := by
  obtain ⟨v, ss, e, hs, hq⟩ := rows_of (E := slEl) z3 Try.underlying68 cellsLKid readsKid h
  obtain ⟨f, hf⟩ := @choose_lt (List O4) ⟨[]⟩ ss.length (fun j xs => ∃ h : j < ss.length, Sees4 W.heap.size W ss[j].val xs) (fun j hj => by
    obtain ⟨xs, hx⟩ := hq ss[j] (List.getElem_mem hj)
    exact ⟨xs, hj, hx⟩)
  refine ⟨v, (List.range ss.length).map f, e, ss, hs, by simp, fun j hj hj' => ?_⟩
  obtain ⟨_, hx⟩ := hf j hj
  have hg : ((List.range ss.length).map f)[j] = f j := by simp
  rw [hg]; exact hx
set_option maxRecDepth 100000 in
theorem openCode {r : Reach} {b0 : Nat} {v : Value} {d : DataW H} {p : List MemPlace} (hv : Value.okWide Try.prog W r b0 67 v) (h : DataW.Trod enc Try.prog W 0 (fun _ => true) true 67 v d p) :
    ∃ v1 xs, v = v1 ∧ Sees4 W.heap.size W v1 xs := by
  obtain ⟨a, len, cap, rfl⟩ := okWide_slice Try.underlying67 hv
  obtain ⟨fuel, hf⟩ := h
  obtain ⟨v1, xs, e, hs⟩ := codes_of hf
  simp [Value.cells] at e
  exact ⟨v1, xs, e, hs⟩
set_option maxRecDepth 100000 in
theorem openProg {r : Reach} {b0 : Nat} {v : Value} {d : DataW H} {p : List MemPlace} (hv : Value.okWide Try.prog W r b0 70 v) (h : DataW.Trod enc Try.prog W 0 (fun _ => true) true 70 v d p) :
    ∃ vc vk xs kss, v = .agg #[vc, vk] ∧ SeesP W.heap.size W vc vk xs kss := by
  obtain ⟨v0, v1, y0, y1, n, rfl, -, -, h0, h1⟩ := Joins.open_agg2 Try.underlying70 (by kernel_rfl) cellsLProg hv h
  obtain ⟨vc, xs, e0, hs0⟩ := codes_of h0
  obtain ⟨vk, kss, e1, hs1⟩ := kids_of h1
  simp only [List.cons.injEq, and_true] at e0 e1
  subst e0 e1
  exact ⟨_, _, xs, kss, rfl, hs0, hs1⟩
end
end Ops
end Go.Proofs.Ytajbmokidcdfnaa
/- What the frames tell of things that came in. -/
set_option linter.unusedVariables false
namespace Go.Proofs.Ytajbmokidcdfnaa
open Go.RowKit Go.ChangeShapes Go.WideShapes Go.Deep
namespace Ops
theorem cellsLThings : Try.prog.cellsOf 71 = 3 := by kernel_rfl
section
variable {H : Type} {enc : TypeId × Value → H} {W : World}
set_option maxRecDepth 100000 in
theorem ints_of {fuel : Nat} {cs : List Value} {x : DataW H × List MemPlace} (h : DataW.trod enc Try.prog W 0 (fun _ => true) true fuel 23 cs = some x) : ∃ v zs, cs = [v] ∧ Ints.Sees W.heap.size W v zs := by
  rcases open_ints Try.underlying23 Try.underlying3 (by kernel_rfl) h with ⟨hcs, _⟩ | ⟨y, l, cap, zs, hcs, _, hl, hm, hz, _, hcell, hwz⟩
  · exact ⟨_, [], hcs, none, 0, rfl, Nat.zero_le _, by simp, fun h => absurd rfl h⟩
  · have hz' : zs.length = cap := by simpa using hz
    have hln : (zs.take l).length = l := by simp; omega
    refine ⟨_, zs.take l, hcs, some y, cap, by rw [hln], by rw [hln]; exact hl, hm, fun hne => ?_⟩
    have hpos : 0 < l := by
      rcases Nat.eq_zero_or_pos l with h0 | h0
      · subst h0; simp at hne
      · exact h0
    obtain ⟨b, off, spot⟩ := y
    have h0 := hcell 0 (by omega)
    have hspot : spot = none := by simpa [Addr.add] using World.cell?_spot h0
    subst hspot
    have hb : b < W.heap.size := by
      have := World.block_lt_of_cell? _ _ h0
      simpa [Addr.add] using this
    refine ⟨b, off, rfl, hb, fun j hj => ?_⟩
    have ha : ∀ i, (⟨b, off, none⟩ : Addr).add i = ⟨b, off + i, none⟩ := fun i => by unfold Addr.add; split <;> simp_all
    have hj' : j < zs.length := by omega
    have hc := hcell j hj'
    rw [ha] at hc
    have hg : zs.getD j 0 = zs[j] := by simp [List.getD, hj']
    rw [hc, hg, List.getElem_take]
set_option maxRecDepth 100000 in
theorem openThings {r : Reach} {b0 : Nat} {v : Value} {d : DataW H} {p : List MemPlace} (hv : Value.okWide Try.prog W r b0 71 v) (h : DataW.Trod enc Try.prog W 0 (fun _ => true) true 71 v d p) :
    ∃ vc vm t, v = .agg #[vc, vm, .int .i64 t.n] ∧ SeeT W.heap.size W vc vm t := by
  obtain ⟨v0, v1, v2, y0, y1, y2, n, rfl, -, -, h0, h1, h2⟩ := Joins.open_agg3 Try.underlying71 (by kernel_rfl) cellsLThings hv h
  obtain ⟨vc, zs, e0, hs0⟩ := ints_of h0
  obtain ⟨vm, ys, e1, hs1⟩ := ints_of h1
  obtain ⟨c, e2, -, hw⟩ := DataW.trod_int Try.underlying3 h2
  simp only [List.cons.injEq, and_true] at e0 e1 e2
  subst e0 e1 e2
  exact ⟨_, _, ⟨zs, ys, c⟩, rfl, hs0, hs1⟩
end
end Ops
end Go.Proofs.Ytajbmokidcdfnaa
