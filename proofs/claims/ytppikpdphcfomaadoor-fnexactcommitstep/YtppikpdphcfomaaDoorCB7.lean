/- Several texts of one proof, in build order: CommitCmp, CommitLen, Take. -/
import Derived.Deep.RegionHeld3
import Derived.Test.YtppikpdphcfomaaDoorCB1
import Derived.Test.YtppikpdphcfomaaDoorCB6
/- The laws' own comparisons, sizes and marks of commits. -/
set_option linter.unusedVariables false
set_option linter.unusedSimpArgs false
namespace Go.Proofs.YtppikpdphcfomaaDoor
open Go.RowKit
namespace Commits
open Bas Flat Logs

set_option maxRecDepth 100000 in
set_option maxHeartbeats 3200000 in
theorem eqCommitC (c : Cm) (vP vR vP' vR' : Value) (B : Nat) (w : World) (hv : SeeC B w vP vR c.ps c.rs) (hv' : SeeC B w vP' vR' c.ps c.rs) (hB : B ≤ w.heap.size) :
    Calls Tryd.prog 11 #[c.agg vP vR, c.agg vP' vR'] w fun e w' => e = .returned (.bool true) ∧ Below w.heap.size w w' := by
  obtain ⟨c0, c1, c2, c3, c4, ps, rs⟩ := c
  dsimp only at hv hv'
  show Calls _ _ #[.agg #[.int .i64 c0, .int .i64 c1, .int .i64 c2, .int .i64 c3, .int .i64 c4, vP, vR], .agg #[.int .i64 c0, .int .i64 c1, .int .i64 c2, .int .i64 c3, .int .i64 c4, vP', vR']] _ _
  obtain ⟨q, hq⟩ : ∃ q, w.heap.size = q := ⟨_, rfl⟩
  have X0 := Blk.new w #[.int .i64 c0, .int .i64 c1, .int .i64 c2, .int .i64 c3, .int .i64 c4, vP, vR] 36
  have b0 := alloc_below w (.cells #[.int .i64 c0, .int .i64 c1, .int .i64 c2, .int .i64 c3, .int .i64 c4, vP, vR] 36)
  obtain ⟨w0, hw0⟩ : ∃ w0, w.alloc (.cells #[.int .i64 c0, .int .i64 c1, .int .i64 c2, .int .i64 c3, .int .i64 c4, vP, vR] 36) = w0 := ⟨_, rfl⟩
  have hz0 : w0.heap.size = q + 1 := by rw [← hw0, ← hq]; simp
  rw [hw0] at X0 b0
  rw [hq] at X0 b0 hB ⊢
  obtain ⟨q1, hq1⟩ : ∃ q, w0.heap.size = q := ⟨_, rfl⟩
  have l01 : q < q1 := by omega
  clear hz0
  have Y1 := Blk.new w0 #[.int .i64 c0, .int .i64 c1, .int .i64 c2, .int .i64 c3, .int .i64 c4, vP', vR'] 36
  have b1 := alloc_below w0 (.cells #[.int .i64 c0, .int .i64 c1, .int .i64 c2, .int .i64 c3, .int .i64 c4, vP', vR'] 36)
  obtain ⟨w1, hw1⟩ : ∃ w1, w0.alloc (.cells #[.int .i64 c0, .int .i64 c1, .int .i64 c2, .int .i64 c3, .int .i64 c4, vP', vR'] 36) = w1 := ⟨_, rfl⟩
  rw [hw1] at Y1 b1
  rw [hq1] at Y1 b1
  have X1 := X0.on b1 (by omega)
  have bb : Below q w w1 := b0.trans (b1.mono (by omega))
  have z1 : q < w1.heap.size := X1.lt
  have x0 := X1.cell 0; have x1 := X1.cell 1; have x2 := X1.cell 2; have x3 := X1.cell 3; have x4 := X1.cell 4; have x5 := X1.cell 5
  have y0 := Y1.cell 0; have y1 := Y1.cell 1; have y2 := Y1.cell 2; have y3 := Y1.cell 3; have y4 := Y1.cell 4; have y5 := Y1.cell 5
  have sv := hv.on bb hB
  have sv' := hv'.on bb hB
  have cA := eqRowsC vP vP' ps B w1 sv.p sv'.p (by omega)
  have cM : ∀ w2, Below w1.heap.size w1 w2 → Calls Tryd.prog 45 #[vR, vR'] w2 fun e w' => e = .returned (.bool true) ∧ Below w2.heap.size w2 w' := fun w2 b2 =>
    Ints.eqIntsC vR vR' rs B w2 (sv.r.on b2 (by omega)) (sv'.r.on b2 (by omega)) (by have := b2.size; omega)
  have X2 : ∀ w2, Below w1.heap.size w1 w2 → w2.cell? ⟨q, 6, none⟩ = some vR := fun w2 b2 => (X1.on b2 X1.lt).cell 6
  have Y2 : ∀ w2, Below w1.heap.size w1 w2 → w2.cell? ⟨q1, 6, none⟩ = some vR' := fun w2 b2 => (Y1.on b2 Y1.lt).cell 6
  clear X0 X1 Y1 sv sv' hv hv' b0 b1
  go_enter Tryd.func11, Tryd.ntmps11
  go_wp2_with fail
  refine cA.mono ?_
  rintro e w2 ⟨rfl, b2⟩
  have x6 := X2 _ b2
  have y6 := Y2 _ b2
  clear x0 x1 x2 x3 x4 x5 y0 y1 y2 y3 y4 y5 cA
  go_wp2_with fail
  refine (cM _ b2).mono ?_
  rintro e w3 ⟨rfl, b3⟩
  have z2 := b2.size
  go_wp2
  go_ret
  exact ⟨rfl, (bb.trans (b2.mono (by omega))).trans (b3.mono (by omega))⟩

theorem szIntsC (a : Option Addr) (n cap : Nat) (left : Int) (w : World) (h0 : 0 ≤ left) (h1 : left ≤ 1048576) (hm : n ≤ maxLen) :
    Calls Tryd.prog 18 #[.slice a n cap, .int .i64 left] w fun e w' => e = .returned (.int .i64 (if (n : Int) ≤ left then left - n else -1)) ∧ w = w' := by
  have hm' : (n : Int) ≤ 9223372036854775807 := by unfold maxLen at hm; omega
  clear hm
  by_cases h : (n : Int) ≤ left
  · rw [if_pos h]
    go_enter Tryd.func18, Tryd.ntmps18
    go_wp2
    go_ret
    exact ⟨by go_num, rfl⟩
  · rw [if_neg h]
    have h' : left - (n : Int) < 0 := by omega
    go_enter Tryd.func18, Tryd.ntmps18
    go_wp2
    go_ret
    exact ⟨rfl, rfl⟩
def Left (left r : Int) (P : Prop) : Prop := r < 0 ∨ (0 ≤ r ∧ r ≤ left ∧ P)
theorem seesI_room {B : Nat} {w : World} {v : Value} {zs : List Int} (h : Ints.Sees B w v zs) : zs.length ≤ maxLen := by obtain ⟨a, cap, -, h1, h2, -⟩ := h; omega
set_option maxRecDepth 100000 in
set_option maxHeartbeats 1600000 in
theorem szCommitC (c : Cm) (vP vR : Value) (left : Int) (B : Nat) (w : World) (hv : SeeC B w vP vR c.ps c.rs) (h0 : 0 ≤ left) (h1 : left ≤ 1048576) :
    Calls Tryd.prog 5 #[c.agg vP vR, .int .i64 left] w fun e w' => ∃ r, e = .returned (.int .i64 r) ∧ Left left r (Fit c) ∧ Below w.heap.size w w' := by
  obtain ⟨c0, c1, c2, c3, c4, ps, rs⟩ := c
  dsimp only at hv
  show Calls _ _ #[.agg #[.int .i64 c0, .int .i64 c1, .int .i64 c2, .int .i64 c3, .int .i64 c4, vP, vR], _] _ _
  have m1 := hv.p.room
  have m2 := seesI_room hv.r
  obtain ⟨ac, cc, rfl⟩ := hv.p.form
  obtain ⟨am, cm, rfl⟩ := hv.r.form
  obtain ⟨nc, hnc⟩ : ∃ n, ps.length = n := ⟨_, rfl⟩
  obtain ⟨nm, hnm⟩ : ∃ n, rs.length = n := ⟨_, rfl⟩
  have HF : Hid (nc ≤ 1048576 → nm ≤ 1048576 → Fit ⟨c0, c1, c2, c3, c4, ps, rs⟩) := fun a b => ⟨by show ps.length ≤ _; omega, by show rs.length ≤ _; omega⟩
  rw [hnc] at m1 ⊢
  rw [hnm] at m2 ⊢
  have X0 := Blk.new w #[.int .i64 c0, .int .i64 c1, .int .i64 c2, .int .i64 c3, .int .i64 c4, .slice ac nc cc, .slice am nm cm] 28
  have b0 := alloc_below w (.cells #[.int .i64 c0, .int .i64 c1, .int .i64 c2, .int .i64 c3, .int .i64 c4, .slice ac nc cc, .slice am nm cm] 28)
  obtain ⟨w0, hw0⟩ : ∃ w0, w.alloc (.cells #[.int .i64 c0, .int .i64 c1, .int .i64 c2, .int .i64 c3, .int .i64 c4, .slice ac nc cc, .slice am nm cm] 28) = w0 := ⟨_, rfl⟩
  rw [hw0] at X0 b0
  have x5 := X0.cell 5; have x6 := X0.cell 6
  have k1 := szRowsC ac nc cc left w0 h0 h1 m1
  clear hnc hnm hv X0
  by_cases g1 : (nc : Int) ≤ left
  · rw [if_pos g1] at k1
    have k2 := szIntsC am nm cm (left - nc) w0 (by omega) (by omega) m2
    by_cases g2 : (nm : Int) ≤ left - nc
    · rw [if_pos g2] at k2
      go_enter Tryd.func5, Tryd.ntmps5
      go_wp2_with fail
      refine k1.mono ?_
      rintro e w1 ⟨rfl, rfl⟩
      go_wp2_with fail
      refine k2.mono ?_
      rintro e w1 ⟨rfl, rfl⟩
      go_wp2
      go_ret
      exact ⟨_, rfl, .inr ⟨by omega, by omega, HF.out (by omega) (by omega)⟩, b0⟩
    · rw [if_neg g2] at k2
      go_enter Tryd.func5, Tryd.ntmps5
      go_wp2_with fail
      refine k1.mono ?_
      rintro e w1 ⟨rfl, rfl⟩
      go_wp2_with fail
      refine k2.mono ?_
      rintro e w1 ⟨rfl, rfl⟩
      go_wp2
      go_ret
      exact ⟨_, rfl, .inl (by decide), b0⟩
  · rw [if_neg g1] at k1
    go_enter Tryd.func5, Tryd.ntmps5
    go_wp2_with fail
    refine k1.mono ?_
    rintro e w1 ⟨rfl, rfl⟩
    go_wp2
    go_ret
    exact ⟨_, rfl, .inl (by decide), b0⟩

/-- blocks of which S holds may have changed, and new ones have come -/
structure Chg (S : Nat → Prop) (w w' : World) : Prop where
  os : w'.os = w.os
  tape : w'.tape = w.tape
  output : w'.output = w.output
  size : w.heap.size ≤ w'.heap.size
  block : ∀ i, i < w.heap.size → ¬ S i → w'.heap[i]? = w.heap[i]?
section
variable {S S' : Nat → Prop} {w w' w'' : World}
theorem Chg.trans (h : Chg S w w') (h' : Chg S w' w'') : Chg S w w'' :=
  ⟨h'.os.trans h.os, h'.tape.trans h.tape, h'.output.trans h.output, Nat.le_trans h.size h'.size, fun i hi hn => (h'.block i (Nat.lt_of_lt_of_le hi h.size) hn).trans (h.block i hi hn)⟩
theorem Chg.of (h : Below w.heap.size w w') : Chg S w w' := ⟨h.os, h.tape, h.output, h.size, fun i hi _ => h.block i hi⟩
theorem Chg.grown {v : Value} (h : w.grownBy w' v.ownBlock) (hs : ∀ k, v.ownBlock = some k → S k) : Chg S w w' :=
  ⟨h.os, h.tape, h.output, h.size, fun i hi hn => h.block i hi (fun e => hn (hs i e.symm))⟩
theorem Chg.below {B : Nat} (h : Chg S w w') (hB : B ≤ w.heap.size) (hs : ∀ i, S i → B ≤ i) : Below B w w' :=
  ⟨h.os, h.tape, h.output, h.size, fun i hi => h.block i (by omega) (fun hx => by have := hs i hx; omega)⟩
end
def Two (a b : Value) (i : Nat) : Prop := a.ownBlock = some i ∨ b.ownBlock = some i
/-- a commit's rows lie apart from another's -/
structure Apart (a b : Value) (a' b' : Value) : Prop where
  h : ∀ k, Two a b k → ¬ Two a' b' k
theorem OwnC.two {B : Nat} {w : World} {vP vR : Value} {ps : List R2} {rs : List Int} (h : OwnC B w vP vR ps rs) : ∀ k, Two vP vR k → B ≤ k ∧ k < w.heap.size := by
  rintro k (hk | hk)
  · exact h.p.at k hk
  · exact h.r.at k hk
theorem apart_new {B B' : Nat} {w w' : World} {a b a' b' : Value} {ps ps' : List R2} {rs rs' : List Int} (h : OwnC B w a b ps rs) (h' : OwnC B' w' a' b' ps' rs') (hB : w.heap.size ≤ B') : Apart a b a' b' :=
  ⟨fun k hk hk' => by have := (h.two k hk).2; have := (h'.two k hk').1; omega⟩
theorem Apart.symm {a b a' b' : Value} (h : Apart a b a' b') : Apart a' b' a b := ⟨fun k hk hk' => h.h k hk' hk⟩
theorem OwnC.keep {B : Nat} {w w' : World} {vP vR a b : Value} {ps : List R2} {rs : List Int} (h : OwnC B w vP vR ps rs) (hc : Chg (Two a b) w w') (hd : Apart vP vR a b) : OwnC B w' vP vR ps rs :=
  ⟨h.p.keep fun k hk => hc.block k (h.p.at k hk).2 (hd.h k (.inl hk)), h.r.keep fun k hk => hc.block k (h.r.at k hk).2 (hd.h k (.inr hk))⟩
theorem Chg.blk {a b : Value} {w w' : World} (hc : Chg (Two a b) w w') {B p : Nat} {ps : List R2} {rs : List Int} {cs : Array Value} {t : TypeId} (h : OwnC B w a b ps rs) (hb : Blk w p cs t) (h1 : 56 ≠ t) (h2 : 3 ≠ t) : Blk w' p cs t := by
  refine (hc.block p hb.lt ?_).trans hb
  rintro (hk | hk)
  · exact h.p.off hb h1 p hk rfl
  · have hr := h.r
    unfold Ints.Owns at hr
    obtain ⟨k1, k2⟩ := hr
    rcases k2 with ⟨rfl, h0⟩ | ⟨g, cap, cur, rfl, hg, hh, r⟩
    · cases hk
    · cases hk
      unfold Blk at hb
      rw [hb] at hh
      simp at hh
      exact h2 hh.2.symm
theorem grown_alloc' {w w' : World} {o : Obj} {r : Option Nat} (h : (w.alloc o).grownBy w' r) : w.grownBy w' r :=
  ⟨h.os, h.tape, h.output, Nat.le_trans (by simp) h.size, fun k hk hr => by
    rw [h.block k (by simp; omega) hr]
    exact (alloc_below w o).block k hk⟩

set_option maxRecDepth 100000 in
set_option maxHeartbeats 1600000 in
theorem markCommitC (c : Cm) (vP vR : Value) (k : Int) (hk0 : 0 ≤ k) (hk1 : k ≤ 500000000) (B : Nat) (w : World) (hv : OwnC B w vP vR c.ps c.rs) (hf : Fit c) :
    Calls Tryd.prog 13 #[c.agg vP vR, .int .i64 k] w fun e w' => e = .returned (.int .i64 (k + 2 * (c.ps.length : Int) + (c.rs.length : Int))) ∧ OwnC B w' vP vR (marksR k c.ps.length) (Ints.marksK (k + 2 * (c.ps.length : Int)) c.rs.length) ∧ Chg (Two vP vR) w w' := by
  obtain ⟨c0, c1, c2, c3, c4, ps, rs⟩ := c
  obtain ⟨hf1, hf2⟩ := hf
  dsimp only at hv hf1 hf2 ⊢
  show Calls _ _ #[.agg #[.int .i64 c0, .int .i64 c1, .int .i64 c2, .int .i64 c3, .int .i64 c4, vP, vR], _] _ _
  obtain ⟨q, hq⟩ : ∃ q, w.heap.size = q := ⟨_, rfl⟩
  have X0 := Blk.new w #[.int .i64 c0, .int .i64 c1, .int .i64 c2, .int .i64 c3, .int .i64 c4, vP, vR] 36
  have b0 := alloc_below w (.cells #[.int .i64 c0, .int .i64 c1, .int .i64 c2, .int .i64 c3, .int .i64 c4, vP, vR] 36)
  obtain ⟨w0, hw0⟩ : ∃ w0, w.alloc (.cells #[.int .i64 c0, .int .i64 c1, .int .i64 c2, .int .i64 c3, .int .i64 c4, vP, vR] 36) = w0 := ⟨_, rfl⟩
  rw [hw0] at X0 b0
  have op := hv.p.on b0 (Nat.le_refl _)
  have or := hv.r.on b0 (Nat.le_refl _)
  have hdj : ∀ k, vR.ownBlock = some k → some k ≠ vP.ownBlock := apartRI or op (by decide)
  have hqp : ∀ k, vP.ownBlock = some k → k < w.heap.size := fun k hk => (hv.p.at k hk).2
  have hqr : ∀ k, vR.ownBlock = some k → k < w.heap.size := fun k hk => (hv.r.at k hk).2
  rw [hq] at X0 hqp hqr
  have x5 := X0.cell 5
  have m1 := markRowsC vP ps k B w0 op hk0 (by omega) hf1
  obtain ⟨np, hnp⟩ : ∃ n, ps.length = n := ⟨_, rfl⟩
  have hfp : np ≤ 1048576 := by omega
  rw [hnp] at m1 ⊢
  have HD := (show Hid _ from hdj)
  clear hv hdj hnp
  go_enter Tryd.func13, Tryd.ntmps13
  go_wp2_with fail
  refine m1.mono ?_
  rintro e w1 ⟨rfl, M1, G1⟩
  have X1 := X0.grown G1 (fun e => by have := hqp q e.symm; omega)
  have or1 := or.grown G1 HD.out
  have x6 := X1.cell 6
  clear x5 m1
  go_wp2_with fail
  refine (Ints.markIntsK vR rs (k + 2 * (np : Int)) (by omega) (by omega) B w1 or1 hf2).mono ?_
  rintro e w2 ⟨rfl, M2, G2⟩
  have M1' := M1.grown G2 (fun k hk e => HD.out k e.symm hk.symm)
  have hC : Chg (Two vP vR) w w2 := ((Chg.of b0).trans (Chg.grown G1 (fun k hk => .inl hk))).trans (Chg.grown G2 (fun k hk => .inr hk))
  go_wp2
  go_ret
  exact ⟨rfl, ⟨M1', M2⟩, hC⟩
set_option maxRecDepth 100000 in
set_option maxHeartbeats 1600000 in
theorem heldCommitC (n0 n1 n2 n3 n4 : Int) (vP vR : Value) (np nr : Nat) (k : Int) (hk0 : 0 ≤ k) (hk1 : k ≤ 500000000) (B : Nat) (w : World) (hv : SeeC B w vP vR (marksR k np) (Ints.marksK (k + 2 * (np : Int)) nr)) (hB : B ≤ w.heap.size) (h1 : np ≤ 1048576) (h2 : nr ≤ 1048576) :
    Calls Tryd.prog 15 #[.agg #[.int .i64 n0, .int .i64 n1, .int .i64 n2, .int .i64 n3, .int .i64 n4, vP, vR], .int .i64 k] w fun e w' => e = .returned (.int .i64 (k + 2 * (np : Int) + (nr : Int))) ∧ Below w.heap.size w w' := by
  obtain ⟨q, hq⟩ : ∃ q, w.heap.size = q := ⟨_, rfl⟩
  have X0 := Blk.new w #[.int .i64 n0, .int .i64 n1, .int .i64 n2, .int .i64 n3, .int .i64 n4, vP, vR] 36
  have b0 := alloc_below w (.cells #[.int .i64 n0, .int .i64 n1, .int .i64 n2, .int .i64 n3, .int .i64 n4, vP, vR] 36)
  obtain ⟨w0, hw0⟩ : ∃ w0, w.alloc (.cells #[.int .i64 n0, .int .i64 n1, .int .i64 n2, .int .i64 n3, .int .i64 n4, vP, vR] 36) = w0 := ⟨_, rfl⟩
  rw [hw0] at X0 b0
  have hv0 := hv.on b0 hB
  have k1 := heldRowsC vP np k _ w0 hv0.p hk0 (by omega) h1
  have k2 := Ints.heldIntsK vR nr (k + 2 * (np : Int)) (by omega) (by omega) _ w0 hv0.r h2
  rw [hq] at X0 b0 ⊢
  have x5 := X0.cell 5; have x6 := X0.cell 6
  have p1 : ¬ (k + 2 * (np : Int) < 0) := by omega
  have p2 : ¬ (k + 2 * (np : Int) + (nr : Int) < 0) := by omega
  go_enter Tryd.func15, Tryd.ntmps15
  go_wp2_with fail
  refine k1.mono ?_
  rintro e w1 ⟨rfl, rfl⟩
  go_wp2_with fail
  refine k2.mono ?_
  rintro e w1 ⟨rfl, rfl⟩
  go_wp2
  go_ret
  exact ⟨rfl, b0⟩
end Commits
end Go.Proofs.YtppikpdphcfomaaDoor
/- How many steps a phase has, as written and as specified; the cells of rows. -/
set_option linter.unusedVariables false
set_option linter.unusedSimpArgs false
namespace Go.Proofs.YtppikpdphcfomaaDoor
open Go.RowKit
namespace Commits
open Bas Flat Logs

def stepsS (c : Cm) : Int := if c.ph = 1 ∨ c.ph = 4 ∨ c.ph = 5 ∨ c.ph = 7 then c.ps.length else if c.ph = 3 then c.rs.length else 1
theorem steps_same {c : Cm} (h : 1 ≤ c.ph ∧ c.ph ≤ 8) : stepsS c = c.steps := by
  unfold stepsS Cm.steps
  split
  · rfl
  · split
    · rfl
    · rw [if_pos (by omega)]
theorem steps_of {c : Cm} {n : Int} (h : c.steps = n) : Ending.returned (.int .i64 n) = .returned (.int .i64 c.steps) := by rw [h]
theorem stepsS_of {c : Cm} {n : Int} (h : stepsS c = n) : Ending.returned (.int .i64 n) = .returned (.int .i64 (stepsS c)) := by rw [h]
theorem ph_cases (x : Int) : x = 1 ∨ x = 2 ∨ x = 3 ∨ x = 4 ∨ x = 5 ∨ x = 6 ∨ x = 7 ∨ x = 8 ∨ (x < 1 ∨ 8 < x) := by omega

set_option maxRecDepth 100000 in
set_option maxHeartbeats 3200000 in
theorem lenC (c : Cm) (a a' : Option Addr) (k k' : Nat) (w : World) :
    Calls Tryd.prog 56 #[c.agg (.slice a c.ps.length k) (.slice a' c.rs.length k')] w fun e w' => e = .returned (.int .i64 (stepsS c)) ∧ Below w.heap.size w w' := by
  obtain ⟨c0, c1, ph, c3, c4, ps, rs⟩ := c
  have HS : Hid (∀ n, stepsS ⟨c0, c1, ph, c3, c4, ps, rs⟩ = n → Ending.returned (.int .i64 n) = .returned (.int .i64 (stepsS ⟨c0, c1, ph, c3, c4, ps, rs⟩))) := fun n h => stepsS_of h
  have HD : Hid (stepsS ⟨c0, c1, ph, c3, c4, ps, rs⟩ = if ph = 1 ∨ ph = 4 ∨ ph = 5 ∨ ph = 7 then (ps.length : Int) else if ph = 3 then rs.length else 1) := by show _ = _; rfl
  obtain ⟨s, hs⟩ : ∃ s, stepsS ⟨c0, c1, ph, c3, c4, ps, rs⟩ = s := ⟨_, rfl⟩
  show Calls _ _ #[.agg #[.int .i64 c0, .int .i64 c1, .int .i64 ph, .int .i64 c3, .int .i64 c4, .slice a ps.length k, .slice a' rs.length k']] _ _
  rw [hs] at HS HD ⊢
  obtain ⟨n, hn⟩ : ∃ n, ps.length = n := ⟨_, rfl⟩
  obtain ⟨m, hm⟩ : ∃ m, rs.length = m := ⟨_, rfl⟩
  rw [hn, hm] at HD ⊢
  clear hs hn hm HS
  have X0 := Blk.new w #[.int .i64 c0, .int .i64 c1, .int .i64 ph, .int .i64 c3, .int .i64 c4, .slice a n k, .slice a' m k'] 36
  have b0 := alloc_below w (.cells #[.int .i64 c0, .int .i64 c1, .int .i64 ph, .int .i64 c3, .int .i64 c4, .slice a n k, .slice a' m k'] 36)
  obtain ⟨w0, hw0⟩ : ∃ w0, w.alloc (.cells #[.int .i64 c0, .int .i64 c1, .int .i64 ph, .int .i64 c3, .int .i64 c4, .slice a n k, .slice a' m k'] 36) = w0 := ⟨_, rfl⟩
  rw [hw0] at X0 b0
  have x2 := X0.cell 2; have x5 := X0.cell 5; have x6 := X0.cell 6
  clear X0
  rcases ph_cases ph with rfl | rfl | rfl | rfl | rfl | rfl | rfl | rfl | h
  case inr.inr.inr.inr.inr.inr.inr.inr =>
    have d1 : (ph == 1) = false := by simp; omega
    have d4 : (ph == 4) = false := by simp; omega
    have d5 : (ph == 5) = false := by simp; omega
    have d7 : (ph == 7) = false := by simp; omega
    have d3 : (ph == 3) = false := by simp; omega
    have HE : Hid (s = 1) := by show _ = _; rw [HD.out, if_neg (by omega), if_neg (by omega)]
    clear h
    go_enter Tryd.func56, Tryd.ntmps56
    go_wp2
    go_ret
    exact ⟨by rw [HE.out]; rfl, b0⟩
  all_goals
    go_enter Tryd.func56, Tryd.ntmps56
    go_wp2
    go_ret
    exact ⟨by rw [HD.out]; simp, b0⟩
set_option maxRecDepth 100000 in
set_option maxHeartbeats 3200000 in
theorem stepsC (c : Cm) (a a' : Option Addr) (k k' : Nat) (w : World) :
    Calls Tryd.prog 68 #[c.agg (.slice a c.ps.length k) (.slice a' c.rs.length k')] w fun e w' => e = .returned (.int .i64 c.steps) ∧ Below w.heap.size w w' := by
  obtain ⟨c0, c1, ph, c3, c4, ps, rs⟩ := c
  have HD : Hid ((⟨c0, c1, ph, c3, c4, ps, rs⟩ : Cm).steps = if ph = 1 ∨ ph = 4 ∨ ph = 5 ∨ ph = 7 then (ps.length : Int) else if ph = 3 then rs.length else if ph = 2 ∨ ph = 6 ∨ ph = 8 then 1 else 0) := by show _ = _; rfl
  obtain ⟨s, hs⟩ : ∃ s, (⟨c0, c1, ph, c3, c4, ps, rs⟩ : Cm).steps = s := ⟨_, rfl⟩
  show Calls _ _ #[.agg #[.int .i64 c0, .int .i64 c1, .int .i64 ph, .int .i64 c3, .int .i64 c4, .slice a ps.length k, .slice a' rs.length k']] _ _
  rw [hs] at HD ⊢
  obtain ⟨n, hn⟩ : ∃ n, ps.length = n := ⟨_, rfl⟩
  obtain ⟨m, hm⟩ : ∃ m, rs.length = m := ⟨_, rfl⟩
  rw [hn, hm] at HD ⊢
  clear hs hn hm
  have X0 := Blk.new w #[.int .i64 c0, .int .i64 c1, .int .i64 ph, .int .i64 c3, .int .i64 c4, .slice a n k, .slice a' m k'] 36
  have b0 := alloc_below w (.cells #[.int .i64 c0, .int .i64 c1, .int .i64 ph, .int .i64 c3, .int .i64 c4, .slice a n k, .slice a' m k'] 36)
  obtain ⟨w0, hw0⟩ : ∃ w0, w.alloc (.cells #[.int .i64 c0, .int .i64 c1, .int .i64 ph, .int .i64 c3, .int .i64 c4, .slice a n k, .slice a' m k'] 36) = w0 := ⟨_, rfl⟩
  rw [hw0] at X0 b0
  have x2 := X0.cell 2; have x5 := X0.cell 5; have x6 := X0.cell 6
  clear X0
  rcases ph_cases ph with rfl | rfl | rfl | rfl | rfl | rfl | rfl | rfl | h
  case inr.inr.inr.inr.inr.inr.inr.inr =>
    have d1 : (ph == 1) = false := by simp; omega
    have d4 : (ph == 4) = false := by simp; omega
    have d5 : (ph == 5) = false := by simp; omega
    have d7 : (ph == 7) = false := by simp; omega
    have d3 : (ph == 3) = false := by simp; omega
    have d2 : (ph == 2) = false := by simp; omega
    have d6 : (ph == 6) = false := by simp; omega
    have d8 : (ph == 8) = false := by simp; omega
    have HE : Hid (s = 0) := by show _ = _; rw [HD.out, if_neg (by omega), if_neg (by omega), if_neg (by omega)]
    clear h
    go_enter Tryd.func68, Tryd.ntmps68
    go_wp2
    go_ret
    exact ⟨by rw [HE.out]; rfl, b0⟩
  all_goals
    go_enter Tryd.func68, Tryd.ntmps68
    go_wp2
    go_ret
    exact ⟨by rw [HD.out]; simp, b0⟩

theorem cells_take (ps : List R2) (k : Nat) (h : k < ps.length) : (cellsP ps).take (k + 1) = (cellsP ps).take k ++ [ps[k].c] := by
  unfold cellsP
  rw [List.take_succ_eq_append_getElem (by simpa using h)]; simp
set_option maxRecDepth 100000 in
set_option maxHeartbeats 3200000 in
theorem rowCellsC (v : Value) (ps : List R2) (B : Nat) (w : World) (hv : Sees2 B w v ps) (hB : B ≤ w.heap.size) (hlen : ps.length ≤ 1048576) :
    Calls Tryd.prog 67 #[v] w fun e w' => ∃ v', e = .returned v' ∧ Ints.Owns w.heap.size w' v' (cellsP ps) ∧ Below w.heap.size w w' := by
  obtain ⟨a, cap, rfl⟩ := hv.form
  obtain ⟨g, hg⟩ : ∃ g, w.heap.size = g := ⟨_, rfl⟩
  obtain ⟨n, hn⟩ : ∃ n, ps.length = n := ⟨_, rfl⟩
  rw [hg] at hB ⊢
  rw [hn] at hv hlen ⊢
  have u0 : Ints.Owns g w (.slice none 0 0) [] := Ints.own_nil _ _
  have b0 : Below g w w := Below.refl _ _
  have HN := (show Hid _ from hn)
  have hlI : (n : Int) ≤ 1048576 := by omega
  clear hn
  go_enter Tryd.func67, Tryd.ntmps67
  go_wp2
  go_loopw [3, 8] (fun ov iv wr => ∃ (k cx : Nat) (ax : Option Addr), k ≤ n ∧ iv = .int .i64 k ∧ ov = .slice ax k cx ∧ Ints.Owns g wr (.slice ax k cx) ((cellsP ps).take k) ∧ Below g w wr) (fun _ iv _ => n - (intOf iv).toNat)
  case atStart => exact ⟨0, _, _, Nat.zero_le _, rfl, rfl, by simpa using u0, b0⟩
  case round =>
    obtain ⟨k, cx, ax, hk, rfl, rfl, O, hb⟩ := hrel
    clear u0 b0
    have hsz : g ≤ wr.heap.size := by have := hb.size; omega
    by_cases hlt : k < n
    · have hkm : k < ps.length := by rw [HN.out]; exact hlt
      obtain ⟨b, off, rfl, hbB, hc⟩ := (hv.on hb hB).open (by omega)
      obtain ⟨a0, a1⟩ := at2 (hc k hkm)
      have i1 : (k : Int) < n := by omega
      have i0 : (0 : Int) ≤ k := by omega
      have HE : Hid ((cellsP ps).take (k + 1) = (cellsP ps).take k ++ [ps[k].c]) := cells_take ps k hkm
      have hl : ((cellsP ps).take k).length = k := by unfold cellsP; rw [List.length_take, List.length_map]; omega
      have hl1 : ((cellsP ps).take (k + 1)).length = k + 1 := by unfold cellsP; rw [List.length_take, List.length_map]; omega
      obtain ⟨x, hx⟩ : ∃ x, ps[k] = x := ⟨_, rfl⟩
      rw [hx] at a0 a1 HE
      change wr.cell? ⟨b, off + k * 2, none⟩ = _ at a0
      change wr.cell? ⟨b, off + k * 2 + 1, none⟩ = _ at a1
      have bA := alloc_below wr (.cells #[.int .i64 x.c, .int .i64 x.v] 56)
      have X0 := Blk.new wr #[.int .i64 x.c, .int .i64 x.v] 56
      have OA := O.on bA (Nat.le_refl _)
      have bA' := hb.trans (bA.mono hsz)
      obtain ⟨wA, hwA⟩ : ∃ W, wr.alloc (.cells #[.int .i64 x.c, .int .i64 x.v] 56) = W := ⟨_, rfl⟩
      rw [hwA] at OA bA' X0
      have x0 := X0.cell 0
      have hsA : g ≤ wA.heap.size := by have := bA'.size; omega
      obtain ⟨v3, w3, hr3, O3, G3, L3⟩ := pushI _ _ g wA OA hsA (by omega) x.c
      rw [← HE.out] at O3
      have b3 := bA'.grown G3 hsA (fun q hq => (OA.at q hq).1)
      obtain ⟨a3, c3, rfl⟩ := O3.form
      rw [hl1] at O3 hr3 L3
      clear hc hx hl hl1 bA X0
      go_wp2_with (at_builtin; refine wpList_app _ rfl _ _ 26 rfl _ _ _ _ rfl rfl hr3 ?_)
      clear hr3
      go_roundw
      case rel => exact ⟨k + 1, _, _, by omega, by go_num, rfl, O3, b3⟩
      case measure => simp [intOf]; omega
    · obtain rfl : k = n := by omega
      have i1 : ¬ (k : Int) < k := by omega
      have hf : (cellsP ps).take k = cellsP ps := List.take_of_length_le (by unfold cellsP; rw [List.length_map, HN.out]; exact Nat.le_refl _)
      rw [hf] at O
      clear hf
      go_wp2
      go_ret
      exact ⟨_, rfl, O, hb⟩
end Commits
end Go.Proofs.YtppikpdphcfomaaDoor
/- An operation of a region that draws its order, taken first, its slot written out. -/
namespace Go.Proofs.YtppikpdphcfomaaDoor
namespace Bas
section
variable {P : Program} {ops : Array Oper} {Q : Exit → Act → World → Prop} {md : Region.Mode} {S : World → Prop}
theorem takeH {i : Nat} (d : Option Tmp) (v : Value) {oi : Oper} {fuel : Nat} {listed : Array Bool} {a : Act} {w : World} (hi : ops[i]? = some oi) (hd : oi.dst = d)
    (hs : Region.noSelect ops = true) (hf : Region.free md ops listed i = true) (hr : (Region.ready md ops listed).contains i = true)
    (hQ : ∀ c a w, Q (.panic c) (a.put d v) w → Q (.panic c) a w) (hy : YieldsIf P ops S oi v a) (hS : S w)
    (h : wpAnyH P md ops Q S fuel (listed.setIfInBounds i true) (a.put d v) w) : wpAnyH P md ops Q S (fuel + 1) listed a w := by
  subst hd; exact wpAnyH_take hi hs hf hr hQ hy hS h
theorem undrewB {w w' : World} (h : RowKit.Below w.drew.heap.size w.drew w') : RowKit.Below w.heap.size w w' := ⟨h.os, h.tape, h.output, h.size, h.block⟩
end
end Bas
end Go.Proofs.YtppikpdphcfomaaDoor
