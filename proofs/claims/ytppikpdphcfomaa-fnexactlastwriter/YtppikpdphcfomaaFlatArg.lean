/- What the frames tell of slices that came in: rows of elements, whatever each of them reads as. -/
import Derived.Test.YtppikpdphcfomaaFlat
import Derived.Deep.Slices
import Derived.Lib.SmallJoins
set_option linter.unusedVariables false
namespace Go.Proofs.Ytppikpdphcfomaa
open Go.RowKit Go.ChangeShapes Go.WideShapes Go.Deep
namespace Flat
section
variable {H : Type} {enc : TypeId × Value → H} {W : World} {α : Type} {E : El α}
/-- what is read as a value of type e is an element of which Q holds -/
def Reads (enc : TypeId × Value → H) (W : World) (e : TypeId) (E : El α) (Q : α → Prop) : Prop :=
  ∀ fuel cs x, DataW.trod enc Try.prog W 0 (fun _ => true) true fuel e cs = some x → cs.length = E.sz → ∃ a, cs = E.cells a ∧ Q a
theorem rows_of {T e : TypeId} {Q : α → Prop} (z : α) (ht : Try.prog.underlying T = some (.slice e)) (hc : Try.prog.cellsOf e = E.sz) (hr : Reads enc W e E Q)
    {fuel : Nat} {cs : List Value} {x : DataW H × List MemPlace} (h : DataW.trod enc Try.prog W 0 (fun _ => true) true fuel T cs = some x) :
    ∃ v xs, cs = [v] ∧ Sees E W.heap.size W v xs ∧ ∀ y ∈ xs, Q y := by
  rcases open_slice ht h with ⟨rfl, rfl⟩ | ⟨a, len, cap, m, n, D, Pl, rfl, hb, hl, hm, hmm, rfl, hx⟩
  · exact ⟨_, [], rfl, Sees.nil E _ _, fun y hy => by cases hy⟩
  have hmm' : m = cap := by simpa using hmm
  have each : ∀ i, i < len → ∃ y : α, (∀ j u, (E.cells y)[j]? = some u → W.cell? (a.add (i * E.sz + j)) = some u) ∧ Q y := by
    intro i hi
    obtain ⟨cs', h1, h2⟩ := hx i (by omega)
    rw [hc] at h1
    obtain ⟨_, hlen, hcell⟩ := World.cells?_some h1
    obtain ⟨y, rfl, hq⟩ := hr _ _ _ h2 hlen
    refine ⟨y, fun j u hu => ?_, hq⟩
    have hj : j < E.sz := by have := (List.getElem?_eq_some_iff.1 hu).1; rw [E.len] at this; exact this
    have := hcell j hj
    rw [add_add] at this
    rw [this, hu]
  obtain ⟨f, hf⟩ := @choose_lt _ ⟨z⟩ _ _ each
  have hln : ((List.range len).map f).length = len := by simp
  refine ⟨_, (List.range len).map f, rfl, ⟨some a, cap, by rw [hln], by rw [hln]; exact hl, hm, fun hne => ?_⟩, fun y hy => ?_⟩
  · have hpos : 0 < len := by
      rcases Nat.eq_zero_or_pos len with h0 | h0
      · subst h0; simp at hne
      · exact h0
    obtain ⟨b, off, spot⟩ := a
    have hp := E.pos
    obtain ⟨u, hu⟩ : ∃ u, (E.cells (f 0))[0]? = some u := ⟨(E.cells (f 0))[0]'(by rw [E.len]; exact hp), List.getElem?_eq_getElem _⟩
    have h0 := (hf 0 hpos).1 0 u hu
    have hspot : spot = none := by simpa [Addr.add] using World.cell?_spot h0
    subst hspot
    have hb : b < W.heap.size := by
      have := World.block_lt_of_cell? _ _ h0
      simpa [Addr.add] using this
    refine ⟨b, off, rfl, hb, fun j hj i u hu => ?_⟩
    have hj' : j < len := by simpa using hj
    have ha : ∀ i, (⟨b, off, none⟩ : Addr).add i = ⟨b, off + i, none⟩ := fun i => by unfold Addr.add; split <;> simp_all
    have hg : ((List.range len).map f)[j] = f j := by simp
    rw [hg] at hu
    have := (hf j hj').1 i u hu
    rw [ha] at this
    rw [Nat.add_assoc]; exact this
  · obtain ⟨j, hj, rfl⟩ := List.mem_map.1 hy
    exact (hf j (by simpa using hj)).2
end
end Flat
end Go.Proofs.Ytppikpdphcfomaa
