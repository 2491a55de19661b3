/- What the frames tell of things that came in. -/
import Derived.Test.YtppkohkcffnghaaThRow
import Derived.Deep.Slices
import Derived.Lib.SmallJoins
set_option linter.unusedVariables false
namespace Go.Proofs.Ytppkohkcffnghaa
open Go.RowKit Go.ChangeShapes Go.WideShapes Go.Deep
namespace Ops
theorem cellsLThings : Try.prog.cellsOf 53 = 3 := by kernel_rfl
section
variable {H : Type} {enc : TypeId × Value → H} {W : World}
set_option maxRecDepth 100000 in
theorem ints_of {fuel : Nat} {cs : List Value} {x : DataW H × List MemPlace} (h : DataW.trod enc Try.prog W 0 (fun _ => true) true fuel 25 cs = some x) : ∃ v zs, cs = [v] ∧ Ints.Sees W.heap.size W v zs := by
  rcases open_ints Try.underlying25 Try.underlying3 (by kernel_rfl) h with ⟨hcs, _⟩ | ⟨y, l, cap, zs, hcs, _, hl, hm, hz, _, hcell, hwz⟩
  · exact ⟨_, [], hcs, none, 0, rfl, Nat.zero_le _, by simp, fun h => absurd rfl h⟩
  · have hz' : zs.length = cap := by simpa using hz
    have hln : (zs.take l).length = l := by simp; omega
    refine ⟨_, zs.take l, hcs, some y, cap, by rw [hln], by rw [hln]; exact hl, hm, fun hne => ?_⟩
    have hpos : 0 < l := by
      rcases Nat.eq_zero_or_pos l with h0 | h0
      · subst h0; simp at hne
      · exact h0
    obtain ⟨b, off, spot⟩ := y
    have h0 := hcell 0 (by omega)
    have hspot : spot = none := by simpa [Addr.add] using World.cell?_spot h0
    subst hspot
    have hb : b < W.heap.size := by
      have := World.block_lt_of_cell? _ _ h0
      simpa [Addr.add] using this
    refine ⟨b, off, rfl, hb, fun j hj => ?_⟩
    have ha : ∀ i, (⟨b, off, none⟩ : Addr).add i = ⟨b, off + i, none⟩ := fun i => by unfold Addr.add; split <;> simp_all
    have hj' : j < zs.length := by omega
    have hc := hcell j hj'
    rw [ha] at hc
    have hg : zs.getD j 0 = zs[j] := by simp [List.getD, hj']
    rw [hc, hg, List.getElem_take]
set_option maxRecDepth 100000 in
theorem openThings {r : Reach} {b0 : Nat} {v : Value} {d : DataW H} {p : List MemPlace} (hv : Value.okWide Try.prog W r b0 53 v) (h : DataW.Trod enc Try.prog W 0 (fun _ => true) true 53 v d p) :
    ∃ vc vm t, v = .agg #[vc, vm, .int .i64 t.n] ∧ SeeT W.heap.size W vc vm t := by
  obtain ⟨v0, v1, v2, y0, y1, y2, n, rfl, -, -, h0, h1, h2⟩ := Joins.open_agg3 Try.underlying53 (by kernel_rfl) cellsLThings hv h
  obtain ⟨vc, zs, e0, hs0⟩ := ints_of h0
  obtain ⟨vm, ys, e1, hs1⟩ := ints_of h1
  obtain ⟨c, e2, -, hw⟩ := DataW.trod_int Try.underlying3 h2
  simp only [List.cons.injEq, and_true] at e0 e1 e2
  subst e0 e1 e2
  exact ⟨_, _, ⟨zs, ys, c⟩, rfl, hs0, hs1⟩
end
end Ops
end Go.Proofs.Ytppkohkcffnghaa
