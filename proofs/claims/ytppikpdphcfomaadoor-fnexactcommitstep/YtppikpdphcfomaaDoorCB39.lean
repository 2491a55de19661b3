/- Several texts of one proof, in build order: CommitLaw5, FlatArg, LogArg, CommitArg, WordArg. -/
import Derived.Deep.Slices
import Derived.Lib.SmallJoins
import Derived.Test.YtppikpdphcfomaaDoorCB1
import Derived.Test.YtppikpdphcfomaaDoorCB2
import Derived.Test.YtppikpdphcfomaaDoorCB4
import Derived.Test.YtppikpdphcfomaaDoorCB11
import Derived.Test.YtppikpdphcfomaaDoorCB22
import Derived.Test.YtppikpdphcfomaaDoorCB35
import Derived.Test.YtppikpdphcfomaaDoorCB38
/- The law of CommitStep. -/
set_option linter.unusedVariables false
set_option linter.unusedSimpArgs false
namespace Go.Proofs.YtppikpdphcfomaaDoor
open Go.RowKit
namespace Commits
open Bas Flat Logs
open Words (W3 lockMay lockTo storeMay storeTo unlockMay unlockTo tickC tickR Err wAt memOk)
theorem lockLen (c : Int) (ws : List W3) (i who : Int) : (lockTo c ws i who).length = ws.length := by unfold lockTo; split <;> simp [Words.put_length]
theorem storeLen (c : Int) (ws : List W3) (i who y : Int) : (storeTo c ws i who y).length = ws.length := by unfold storeTo; split <;> simp [Words.put_length]
theorem unlockLen (c : Int) (ws : List W3) (i who y : Int) : (unlockTo c ws i who y).length = ws.length := by unfold unlockTo; split <;> simp [Words.put_length]
theorem stepLen (mc : Int) (ws : List W3) (C : Cm) : (stepO mc ws C).ws.length = ws.length := by
  unfold stepO
  split
  · unfold stepY
    dsimp only
    split
    · exact lockLen _ _ _ _
    · split
      · rfl
      · split
        · rfl
        · split
          · exact storeLen _ _ _ _ _
          · split
            · exact unlockLen _ _ _ _ _
            · split
              · exact unlockLen _ _ _ _ _
              · rfl
  · rfl
theorem lawStep (mc : Int) (vM : Value) (ws : List W3) (c : Cm) (vP vR : Value) (w : World) (_hm : (Lit.int .i64 mc).wf = true) (hM : Words.Sees w.heap.size w vM ws) (hC : SeeC w.heap.size w vP vR c.ps c.rs) (bE : Addr) (hE : Err w bE) :
    Calls Tryd.prog 3 #[.agg #[.int .i64 mc, vM], c.agg vP vR] w fun e w' => e = .returned (.bool true) ∧ Below w.heap.size w w' :=
  walkStep mc c.who c.rv c.ph c.at' c.wv vM vP vR ws c.ps c.rs w bE hM hC hE (stepO mc ws c) (stepLen mc ws c)
    (fun W B uM uP uR h1 h2 h3 f0 f1 f2 => specStep c.who c.rv c.ph c.at' c.wv c.ps c.rs mc ws uM uP uR B W h1 h2 h3 f0 f1 f2)
    (fun W B uM uP uR h1 h2 hE h3 f0 f1 f2 => implStep c c.who c.rv c.ph c.at' c.wv c.ps c.rs rfl mc ws uM uP uR B W bE h1 h2 hE h3 f0 f1 f2)
end Commits
end Go.Proofs.YtppikpdphcfomaaDoor
/- What the frames tell of slices that came in: rows of elements, whatever each of them reads as. -/
set_option linter.unusedVariables false
namespace Go.Proofs.YtppikpdphcfomaaDoor
open Go.RowKit Go.ChangeShapes Go.WideShapes Go.Deep
namespace Flat
section
variable {H : Type} {enc : TypeId × Value → H} {W : World} {α : Type} {E : El α}
/-- what is read as a value of type e is an element of which Q holds -/
def Reads (enc : TypeId × Value → H) (W : World) (e : TypeId) (E : El α) (Q : α → Prop) : Prop :=
  ∀ fuel cs x, DataW.trod enc Tryd.prog W 0 (fun _ => true) true fuel e cs = some x → cs.length = E.sz → ∃ a, cs = E.cells a ∧ Q a
theorem rows_of {T e : TypeId} {Q : α → Prop} (z : α) (ht : Tryd.prog.underlying T = some (.slice e)) (hc : Tryd.prog.cellsOf e = E.sz) (hr : Reads enc W e E Q)
    {fuel : Nat} {cs : List Value} {x : DataW H × List MemPlace} (h : DataW.trod enc Tryd.prog W 0 (fun _ => true) true fuel T cs = some x) :
    ∃ v xs, cs = [v] ∧ Sees E W.heap.size W v xs ∧ ∀ y ∈ xs, Q y := by
  rcases open_slice ht h with ⟨rfl, rfl⟩ | ⟨a, len, cap, m, n, D, Pl, rfl, hb, hl, hm, hmm, rfl, hx⟩
  · exact ⟨_, [], rfl, Sees.nil E _ _, fun y hy => by cases hy⟩
  have hmm' : m = cap := by simpa using hmm
  have each : ∀ i, i < len → ∃ y : α, (∀ j u, (E.cells y)[j]? = some u → W.cell? (a.add (i * E.sz + j)) = some u) ∧ Q y := by
    intro i hi
    obtain ⟨cs', h1, h2⟩ := hx i (by omega)
    rw [hc] at h1
    obtain ⟨_, hlen, hcell⟩ := World.cells?_some h1
    obtain ⟨y, rfl, hq⟩ := hr _ _ _ h2 hlen
    refine ⟨y, fun j u hu => ?_, hq⟩
    have hj : j < E.sz := by have := (List.getElem?_eq_some_iff.1 hu).1; rw [E.len] at this; exact this
    have := hcell j hj
    rw [add_add] at this
    rw [this, hu]
  obtain ⟨f, hf⟩ := @choose_lt _ ⟨z⟩ _ _ each
  have hln : ((List.range len).map f).length = len := by simp
  refine ⟨_, (List.range len).map f, rfl, ⟨some a, cap, by rw [hln], by rw [hln]; exact hl, hm, fun hne => ?_⟩, fun y hy => ?_⟩
  · have hpos : 0 < len := by
      rcases Nat.eq_zero_or_pos len with h0 | h0
      · subst h0; simp at hne
      · exact h0
    obtain ⟨b, off, spot⟩ := a
    have hp := E.pos
    obtain ⟨u, hu⟩ : ∃ u, (E.cells (f 0))[0]? = some u := ⟨(E.cells (f 0))[0]'(by rw [E.len]; exact hp), List.getElem?_eq_getElem _⟩
    have h0 := (hf 0 hpos).1 0 u hu
    have hspot : spot = none := by simpa [Addr.add] using World.cell?_spot h0
    subst hspot
    have hb : b < W.heap.size := by
      have := World.block_lt_of_cell? _ _ h0
      simpa [Addr.add] using this
    refine ⟨b, off, rfl, hb, fun j hj i u hu => ?_⟩
    have hj' : j < len := by simpa using hj
    have ha : ∀ i, (⟨b, off, none⟩ : Addr).add i = ⟨b, off + i, none⟩ := fun i => by unfold Addr.add; split <;> simp_all
    have hg : ((List.range len).map f)[j] = f j := by simp
    rw [hg] at hu
    have := (hf j hj').1 i u hu
    rw [ha] at this
    rw [Nat.add_assoc]; exact this
  · obtain ⟨j, hj, rfl⟩ := List.mem_map.1 hy
    exact (hf j (by simpa using hj)).2
end
end Flat
end Go.Proofs.YtppikpdphcfomaaDoor
/- What the frames tell of rows of a log that came in. -/
set_option linter.unusedVariables false
namespace Go.Proofs.YtppikpdphcfomaaDoor
open Go.RowKit Go.ChangeShapes Go.WideShapes Go.Deep
namespace Logs
open Flat
theorem cellsLRow : Tryd.prog.cellsOf 83 = 2 := by kernel_rfl
theorem cellsLInt : Tryd.prog.cellsOf 3 = 1 := by kernel_rfl

section
variable {H : Type} {enc : TypeId × Value → H} {W : World}
set_option maxRecDepth 100000 in
theorem readsRow : Reads enc W 83 rowEl (fun _ => True) := by
  intro fuel cs x h hl
  obtain ⟨xs, k, hk, hxy, _, hxl, hf⟩ := DataW.trod_struct Tryd.underlying83 h
  change cs.length = 2 at hl
  match xs, hxl, cs, hl with
  | [y0, y1], _, [v0, v1], _ =>
    have g0 := hf 0 _ rfl
    have g1 := hf 1 _ rfl
    simp [cellsLInt] at g0 g1
    obtain ⟨n0, e0, -, -⟩ := DataW.trod_int Tryd.underlying3 g0
    obtain ⟨n1, e1, -, -⟩ := DataW.trod_int Tryd.underlying3 g1
    simp only [List.cons.injEq, and_true] at e0 e1
    subst e0 e1
    exact ⟨⟨n0, n1⟩, rfl, trivial⟩
set_option maxRecDepth 100000 in
theorem openRows {r : Reach} {b0 : Nat} {v : Value} {d : DataW H} {p : List MemPlace} (hv : Value.okWide Tryd.prog W r b0 25 v) (h : DataW.Trod enc Tryd.prog W 0 (fun _ => true) true 25 v d p) :
    ∃ u xs, v = u ∧ Sees2 W.heap.size W v xs := by
  obtain ⟨a, len, cap, rfl⟩ := okWide_slice Tryd.underlying25 hv
  obtain ⟨fuel, hf⟩ := h
  obtain ⟨u, xs, e, hs, -⟩ := rows_of (E := rowEl) z2 Tryd.underlying25 cellsLRow readsRow hf
  simp [Value.cells] at e
  subst e
  exact ⟨_, xs, rfl, hs⟩
end
end Logs
end Go.Proofs.YtppikpdphcfomaaDoor
/- What the frames tell of a commit that came in. -/
set_option linter.unusedVariables false
namespace Go.Proofs.YtppikpdphcfomaaDoor
open Go.RowKit Go.ChangeShapes Go.WideShapes Go.Deep
namespace Commits
open Flat Logs
theorem array7 {α : Type} {cs : Array α} (h : cs.size = 7) : ∃ c0 c1 c2 c3 c4 c5 c6, cs = #[c0, c1, c2, c3, c4, c5, c6] := by
  obtain ⟨l⟩ := cs
  match l, h with
  | [c0, c1, c2, c3, c4, c5, c6], _ => exact ⟨c0, c1, c2, c3, c4, c5, c6, rfl⟩
section
variable {P : Program} {w : World} {base : Nat} {H : Type} {enc : TypeId × Value → H} {spare : Nat → Bool} {held : Bool}
theorem trod_struct7 {t : TypeId} {f0 f1 f2 f3 f4 f5 f6 : Field} {fuel : Nat} {cs : List Value} {x : DataW H × List MemPlace} (ht : P.underlying t = some (.struct #[f0, f1, f2, f3, f4, f5, f6])) (h : DataW.trod enc P w base spare held fuel t cs = some x) :
    ∃ y0 y1 y2 y3 y4 y5 y6 n, DataW.trod enc P w base spare held n f0.type ((cs.drop f0.offset).take (P.cellsOf f0.type)) = some y0 ∧
      DataW.trod enc P w base spare held n f1.type ((cs.drop f1.offset).take (P.cellsOf f1.type)) = some y1 ∧ DataW.trod enc P w base spare held n f2.type ((cs.drop f2.offset).take (P.cellsOf f2.type)) = some y2 ∧
      DataW.trod enc P w base spare held n f3.type ((cs.drop f3.offset).take (P.cellsOf f3.type)) = some y3 ∧ DataW.trod enc P w base spare held n f4.type ((cs.drop f4.offset).take (P.cellsOf f4.type)) = some y4 ∧
      DataW.trod enc P w base spare held n f5.type ((cs.drop f5.offset).take (P.cellsOf f5.type)) = some y5 ∧ DataW.trod enc P w base spare held n f6.type ((cs.drop f6.offset).take (P.cellsOf f6.type)) = some y6 := by
  obtain ⟨xs, n, _, rfl, hl, hlen, hf⟩ := DataW.trod_struct ht h
  match xs, hlen with
  | [y0, y1, y2, y3, y4, y5, y6], _ => exact ⟨y0, y1, y2, y3, y4, y5, y6, n, by simpa using hf 0 f0 rfl, by simpa using hf 1 f1 rfl, by simpa using hf 2 f2 rfl, by simpa using hf 3 f3 rfl, by simpa using hf 4 f4 rfl, by simpa using hf 5 f5 rfl, by simpa using hf 6 f6 rfl⟩
end
theorem cellsLCommit : Tryd.prog.cellsOf 28 = 7 := by kernel_rfl
theorem cellsInt : Tryd.prog.cellsOf 3 = 1 := by kernel_rfl
theorem cellsRows : Tryd.prog.cellsOf 25 = 1 := by kernel_rfl
theorem cellsInts : Tryd.prog.cellsOf 26 = 1 := by kernel_rfl
section
variable {H : Type} {enc : TypeId × Value → H} {W : World}
theorem intsOf {fuel : Nat} {cs : List Value} {x : DataW H × List MemPlace} (h : DataW.trod enc Tryd.prog W 0 (fun _ => true) true fuel 26 cs = some x) : ∃ v zs, cs = [v] ∧ Ints.Sees W.heap.size W v zs := by
  rcases open_ints Tryd.underlying26 Tryd.underlying3 (by kernel_rfl) h with ⟨hcs, _⟩ | ⟨y, l, cap, zs, hcs, _, hl, hm, hz, _, hcell, hwz⟩
  · exact ⟨_, [], hcs, none, 0, rfl, Nat.zero_le _, by simp, fun h => absurd rfl h⟩
  · have hz' : zs.length = cap := by simpa using hz
    have hln : (zs.take l).length = l := by simp; omega
    refine ⟨_, zs.take l, hcs, some y, cap, by rw [hln], by rw [hln]; exact hl, hm, fun hne => ?_⟩
    have hpos : 0 < l := by
      rcases Nat.eq_zero_or_pos l with h0 | h0
      · subst h0; simp at hne
      · exact h0
    obtain ⟨b, off, spot⟩ := y
    have h0 := hcell 0 (by omega)
    have hspot : spot = none := by simpa [Addr.add] using World.cell?_spot h0
    subst hspot
    have hb : b < W.heap.size := by
      have := World.block_lt_of_cell? _ _ h0
      simpa [Addr.add] using this
    refine ⟨b, off, rfl, hb, fun j hj => ?_⟩
    have ha : ∀ i, (⟨b, off, none⟩ : Addr).add i = ⟨b, off + i, none⟩ := fun i => by unfold Addr.add; split <;> simp_all
    have hj' : j < zs.length := by omega
    have hc := hcell j hj'
    rw [ha] at hc
    have hg : zs.getD j 0 = zs[j] := by simp [List.getD, hj']
    rw [hc, hg, List.getElem_take]
set_option maxRecDepth 100000 in
set_option maxHeartbeats 1600000 in
theorem openCommit {r : Reach} {b0 : Nat} {v : Value} {d : DataW H} {p : List MemPlace} (hv : Value.okWide Tryd.prog W r b0 28 v) (h : DataW.Trod enc Tryd.prog W 0 (fun _ => true) true 28 v d p) :
    ∃ c vP vR, v = Cm.agg c vP vR ∧ SeeC W.heap.size W vP vR c.ps c.rs := by
  obtain ⟨cs, rfl, hsz⟩ := okWide_struct Tryd.underlying28 hv
  obtain ⟨c0, c1, c2, c3, c4, c5, c6, rfl⟩ := array7 (hsz.trans cellsLCommit)
  obtain ⟨fuel, hf⟩ := h
  obtain ⟨y0, y1, y2, y3, y4, y5, y6, n, h0, h1, h2, h3, h4, h5, h6⟩ := trod_struct7 Tryd.underlying28 hf
  simp [Value.cells, cellsInt] at h0 h1 h2 h3 h4
  simp [Value.cells, cellsRows] at h5
  simp [Value.cells, cellsInts] at h6
  obtain ⟨k0, e0, -, -⟩ := DataW.trod_int Tryd.underlying3 h0
  obtain ⟨k1, e1, -, -⟩ := DataW.trod_int Tryd.underlying3 h1
  obtain ⟨k2, e2, -, -⟩ := DataW.trod_int Tryd.underlying3 h2
  obtain ⟨k3, e3, -, -⟩ := DataW.trod_int Tryd.underlying3 h3
  obtain ⟨k4, e4, -, -⟩ := DataW.trod_int Tryd.underlying3 h4
  obtain ⟨v5, xs, e5, s5, -⟩ := rows_of (E := rowEl) z2 Tryd.underlying25 cellsLRow readsRow h5
  obtain ⟨v6, zs, e6, s6⟩ := intsOf h6
  simp only [List.cons.injEq, and_true] at e0 e1 e2 e3 e4 e5 e6
  subst e0 e1 e2 e3 e4 e5 e6
  exact ⟨⟨k0, k1, k2, k3, k4, xs, zs⟩, _, _, rfl, s5, s6⟩
end
end Commits
end Go.Proofs.YtppikpdphcfomaaDoor
/- What the frames tell of a memory that came in. -/
namespace Go.Proofs.YtppikpdphcfomaaDoor
open Go.RowKit Go.ChangeShapes Go.WideShapes Go.Deep
namespace Words

theorem cellsWord : Tryd.prog.cellsOf 81 = 3 := by kernel_rfl
theorem cellsMem : Tryd.prog.cellsOf 24 = 2 := by kernel_rfl
theorem cellsInt : Tryd.prog.cellsOf 3 = 1 := by kernel_rfl

section
variable {H : Type} {enc : TypeId × Value → H} {W : World}

set_option maxRecDepth 100000 in
theorem words_of {fuel : Nat} {cs : List Value} {x : DataW H × List MemPlace} (h : DataW.trod enc Tryd.prog W 0 (fun _ => true) true fuel 22 cs = some x) :
    ∃ v ws, cs = [v] ∧ Sees W.heap.size W v ws := by
  rcases open_slice Tryd.underlying22 h with ⟨rfl, rfl⟩ | ⟨a, len, cap, m, n, D, Pl, rfl, hb, hl, hm, hmm, rfl, hx⟩
  · exact ⟨_, [], rfl, none, 0, rfl, Nat.zero_le _, by simp, fun h => absurd rfl h⟩
  have hmm' : m = cap := by simpa using hmm
  have each : ∀ i, i < len → ∃ y : W3, W.cell? (a.add (i * 3)) = some (.int .i64 y.val) ∧ W.cell? (a.add (i * 3 + 1)) = some (.int .i64 y.ver) ∧ W.cell? (a.add (i * 3 + 2)) = some (.int .i64 y.own) := by
    intro i hi
    obtain ⟨cs', h1, h2⟩ := hx i (by omega)
    rw [cellsWord] at h1
    obtain ⟨_, hlen, hcell⟩ := World.cells?_some h1
    obtain ⟨xs, k, hk, hxy, _, hxl, hf⟩ := DataW.trod_struct Tryd.underlying81 h2
    match xs, hxl, cs', hlen with
    | [y0, y1, y2], _, [v0, v1, v2], _ =>
      have g0 := hf 0 _ rfl
      have g1 := hf 1 _ rfl
      have g2 := hf 2 _ rfl
      simp [cellsInt] at g0 g1 g2
      obtain ⟨n0, e0, -, -⟩ := DataW.trod_int Tryd.underlying3 g0
      obtain ⟨n1, e1, -, -⟩ := DataW.trod_int Tryd.underlying3 g1
      obtain ⟨n2, e2, -, -⟩ := DataW.trod_int Tryd.underlying3 g2
      have q0 := hcell 0 (by omega)
      have q1 := hcell 1 (by omega)
      have q2 := hcell 2 (by omega)
      rw [add_add] at q0 q1 q2
      simp only [List.cons.injEq, and_true] at e0 e1 e2
      subst e0 e1 e2
      exact ⟨⟨n0, n1, n2⟩, by simpa using q0, by simpa using q1, by simpa using q2⟩
  obtain ⟨f, hf⟩ := @choose_lt _ ⟨nought⟩ _ _ each
  have hln : ((List.range len).map f).length = len := by simp
  refine ⟨_, (List.range len).map f, rfl, some a, cap, by rw [hln], by rw [hln]; exact hl, hm, fun hne => ?_⟩
  have hpos : 0 < len := by
    rcases Nat.eq_zero_or_pos len with h0 | h0
    · subst h0; simp at hne
    · exact h0
  obtain ⟨b, off, spot⟩ := a
  have h0 := (hf 0 hpos).1
  have hspot : spot = none := by simpa [Addr.add] using World.cell?_spot h0
  subst hspot
  have hb : b < W.heap.size := by
    have := World.block_lt_of_cell? _ _ h0
    simpa [Addr.add] using this
  refine ⟨b, off, rfl, hb, fun j hj => ?_⟩
  have hj' : j < len := by simpa using hj
  have ha : ∀ i, (⟨b, off, none⟩ : Addr).add i = ⟨b, off + i, none⟩ := fun i => by unfold Addr.add; split <;> simp_all
  obtain ⟨p0, p1, p2⟩ := hf j hj'
  rw [ha] at p0 p1 p2
  have hg : ((List.range len).map f)[j] = f j := by simp
  rw [hg]
  exact ⟨p0, by rw [Nat.add_assoc]; exact p1, by rw [Nat.add_assoc]; exact p2⟩

set_option maxRecDepth 100000 in
theorem openMem {r : Reach} {b0 : Nat} {v : Value} {d : DataW H} {p : List MemPlace} (hv : Value.okWide Tryd.prog W r b0 24 v) (h : DataW.Trod enc Tryd.prog W 0 (fun _ => true) true 24 v d p) :
    ∃ c v1 ws, v = .agg #[.int .i64 c, v1] ∧ (Lit.int .i64 c).wf = true ∧ Sees W.heap.size W v1 ws := by
  obtain ⟨v0, v1, y0, y1, n, rfl, -, -, h0, h1⟩ := Joins.open_agg2 Tryd.underlying24 (by kernel_rfl) cellsMem hv h
  obtain ⟨c, e0, -, hw⟩ := DataW.trod_int Tryd.underlying3 h0
  obtain ⟨v1', ws, e1, hs⟩ := words_of h1
  simp only [List.cons.injEq, and_true] at e0 e1
  subst e0 e1
  exact ⟨c, _, ws, rfl, hw, hs⟩
end
end Words
end Go.Proofs.YtppikpdphcfomaaDoor
