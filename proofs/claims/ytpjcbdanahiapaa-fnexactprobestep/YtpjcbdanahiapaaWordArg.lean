/- What the frames tell of a memory that came in. -/
import Derived.Test.YtpjcbdanahiapaaWordRow
import Derived.Deep.Slices
import Derived.Lib.SmallJoins
namespace Go.Proofs.Ytpjcbdanahiapaa
open Go.RowKit Go.ChangeShapes Go.WideShapes Go.Deep
namespace Words

theorem cellsWord : Try.prog.cellsOf 137 = 3 := by kernel_rfl
theorem cellsMem : Try.prog.cellsOf 45 = 2 := by kernel_rfl
theorem cellsInt : Try.prog.cellsOf 3 = 1 := by kernel_rfl

section
variable {H : Type} {enc : TypeId × Value → H} {W : World}

set_option maxRecDepth 100000 in
theorem words_of {fuel : Nat} {cs : List Value} {x : DataW H × List MemPlace} (h : DataW.trod enc Try.prog W 0 (fun _ => true) true fuel 43 cs = some x) :
    ∃ v ws, cs = [v] ∧ Sees W.heap.size W v ws := by
  rcases open_slice Try.underlying43 h with ⟨rfl, rfl⟩ | ⟨a, len, cap, m, n, D, Pl, rfl, hb, hl, hm, hmm, rfl, hx⟩
  · exact ⟨_, [], rfl, none, 0, rfl, Nat.zero_le _, by simp, fun h => absurd rfl h⟩
  have hmm' : m = cap := by simpa using hmm
  have each : ∀ i, i < len → ∃ y : W3, W.cell? (a.add (i * 3)) = some (.int .i64 y.val) ∧ W.cell? (a.add (i * 3 + 1)) = some (.int .i64 y.ver) ∧ W.cell? (a.add (i * 3 + 2)) = some (.int .i64 y.own) := by
    intro i hi
    obtain ⟨cs', h1, h2⟩ := hx i (by omega)
    rw [cellsWord] at h1
    obtain ⟨_, hlen, hcell⟩ := World.cells?_some h1
    obtain ⟨xs, k, hk, hxy, _, hxl, hf⟩ := DataW.trod_struct Try.underlying137 h2
    match xs, hxl, cs', hlen with
    | [y0, y1, y2], _, [v0, v1, v2], _ =>
      have g0 := hf 0 _ rfl
      have g1 := hf 1 _ rfl
      have g2 := hf 2 _ rfl
      simp [cellsInt] at g0 g1 g2
      obtain ⟨n0, e0, -, -⟩ := DataW.trod_int Try.underlying3 g0
      obtain ⟨n1, e1, -, -⟩ := DataW.trod_int Try.underlying3 g1
      obtain ⟨n2, e2, -, -⟩ := DataW.trod_int Try.underlying3 g2
      have q0 := hcell 0 (by omega)
      have q1 := hcell 1 (by omega)
      have q2 := hcell 2 (by omega)
      rw [add_add] at q0 q1 q2
      simp only [List.cons.injEq, and_true] at e0 e1 e2
      subst e0 e1 e2
      exact ⟨⟨n0, n1, n2⟩, by simpa using q0, by simpa using q1, by simpa using q2⟩
  obtain ⟨f, hf⟩ := @choose_lt _ ⟨nought⟩ _ _ each
  have hln : ((List.range len).map f).length = len := by simp
  refine ⟨_, (List.range len).map f, rfl, some a, cap, by rw [hln], by rw [hln]; exact hl, hm, fun hne => ?_⟩
  have hpos : 0 < len := by
    rcases Nat.eq_zero_or_pos len with h0 | h0
    · subst h0; simp at hne
    · exact h0
  obtain ⟨b, off, spot⟩ := a
  have h0 := (hf 0 hpos).1
  have hspot : spot = none := by simpa [Addr.add] using World.cell?_spot h0
  subst hspot
  have hb : b < W.heap.size := by
    have := World.block_lt_of_cell? _ _ h0
    simpa [Addr.add] using this
  refine ⟨b, off, rfl, hb, fun j hj => ?_⟩
  have hj' : j < len := by simpa using hj
  have ha : ∀ i, (⟨b, off, none⟩ : Addr).add i = ⟨b, off + i, none⟩ := fun i => by unfold Addr.add; split <;> simp_all
  obtain ⟨p0, p1, p2⟩ := hf j hj'
  rw [ha] at p0 p1 p2
  have hg : ((List.range len).map f)[j] = f j := by simp
  rw [hg]
  exact ⟨p0, by rw [Nat.add_assoc]; exact p1, by rw [Nat.add_assoc]; exact p2⟩

set_option maxRecDepth 100000 in
theorem openMem {r : Reach} {b0 : Nat} {v : Value} {d : DataW H} {p : List MemPlace} (hv : Value.okWide Try.prog W r b0 45 v) (h : DataW.Trod enc Try.prog W 0 (fun _ => true) true 45 v d p) :
    ∃ c v1 ws, v = .agg #[.int .i64 c, v1] ∧ (Lit.int .i64 c).wf = true ∧ Sees W.heap.size W v1 ws := by
  obtain ⟨v0, v1, y0, y1, n, rfl, -, -, h0, h1⟩ := Joins.open_agg2 Try.underlying45 (by kernel_rfl) cellsMem hv h
  obtain ⟨c, e0, -, hw⟩ := DataW.trod_int Try.underlying3 h0
  obtain ⟨v1', ws, e1, hs⟩ := words_of h1
  simp only [List.cons.injEq, and_true] at e0 e1
  subst e0 e1
  exact ⟨c, _, ws, rfl, hw, hs⟩
end
end Words
end Go.Proofs.Ytpjcbdanahiapaa
