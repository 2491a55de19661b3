/- The laws' own comparisons, sizes and marks of commits. -/
import Derived.Test.YtajbmokidcdfnaaCommitTo
set_option linter.unusedVariables false
set_option linter.unusedSimpArgs false
namespace Go.Proofs.Ytajbmokidcdfnaa
open Go.RowKit
namespace Commits
open Bas Flat Logs

set_option maxRecDepth 100000 in
set_option maxHeartbeats 3200000 in
theorem eqCommitC (c : Cm) (vP vR vP' vR' : Value) (B : Nat) (w : World) (hv : SeeC B w vP vR c.ps c.rs) (hv' : SeeC B w vP' vR' c.ps c.rs) (hB : B ≤ w.heap.size) :
    Calls Try.prog 13 #[c.agg vP vR, c.agg vP' vR'] w fun e w' => e = .returned (.bool true) ∧ Below w.heap.size w w' := by
  obtain ⟨c0, c1, c2, c3, c4, ps, rs⟩ := c
  dsimp only at hv hv'
  show Calls _ _ #[.agg #[.int .i64 c0, .int .i64 c1, .int .i64 c2, .int .i64 c3, .int .i64 c4, vP, vR], .agg #[.int .i64 c0, .int .i64 c1, .int .i64 c2, .int .i64 c3, .int .i64 c4, vP', vR']] _ _
  obtain ⟨q, hq⟩ : ∃ q, w.heap.size = q := ⟨_, rfl⟩
  have X0 := Blk.new w #[.int .i64 c0, .int .i64 c1, .int .i64 c2, .int .i64 c3, .int .i64 c4, vP, vR] 30
  have b0 := alloc_below w (.cells #[.int .i64 c0, .int .i64 c1, .int .i64 c2, .int .i64 c3, .int .i64 c4, vP, vR] 30)
  obtain ⟨w0, hw0⟩ : ∃ w0, w.alloc (.cells #[.int .i64 c0, .int .i64 c1, .int .i64 c2, .int .i64 c3, .int .i64 c4, vP, vR] 30) = w0 := ⟨_, rfl⟩
  have hz0 : w0.heap.size = q + 1 := by rw [← hw0, ← hq]; simp
  rw [hw0] at X0 b0
  rw [hq] at X0 b0 hB ⊢
  obtain ⟨q1, hq1⟩ : ∃ q, w0.heap.size = q := ⟨_, rfl⟩
  have l01 : q < q1 := by omega
  clear hz0
  have Y1 := Blk.new w0 #[.int .i64 c0, .int .i64 c1, .int .i64 c2, .int .i64 c3, .int .i64 c4, vP', vR'] 30
  have b1 := alloc_below w0 (.cells #[.int .i64 c0, .int .i64 c1, .int .i64 c2, .int .i64 c3, .int .i64 c4, vP', vR'] 30)
  obtain ⟨w1, hw1⟩ : ∃ w1, w0.alloc (.cells #[.int .i64 c0, .int .i64 c1, .int .i64 c2, .int .i64 c3, .int .i64 c4, vP', vR'] 30) = w1 := ⟨_, rfl⟩
  rw [hw1] at Y1 b1
  rw [hq1] at Y1 b1
  have X1 := X0.on b1 (by omega)
  have bb : Below q w w1 := b0.trans (b1.mono (by omega))
  have z1 : q < w1.heap.size := X1.lt
  have x0 := X1.cell 0; have x1 := X1.cell 1; have x2 := X1.cell 2; have x3 := X1.cell 3; have x4 := X1.cell 4; have x5 := X1.cell 5
  have y0 := Y1.cell 0; have y1 := Y1.cell 1; have y2 := Y1.cell 2; have y3 := Y1.cell 3; have y4 := Y1.cell 4; have y5 := Y1.cell 5
  have sv := hv.on bb hB
  have sv' := hv'.on bb hB
  have cA := eqRowsC vP vP' ps B w1 sv.p sv'.p (by omega)
  have cM : ∀ w2, Below w1.heap.size w1 w2 → Calls Try.prog 42 #[vR, vR'] w2 fun e w' => e = .returned (.bool true) ∧ Below w2.heap.size w2 w' := fun w2 b2 =>
    Ints.eqIntsC vR vR' rs B w2 (sv.r.on b2 (by omega)) (sv'.r.on b2 (by omega)) (by have := b2.size; omega)
  have X2 : ∀ w2, Below w1.heap.size w1 w2 → w2.cell? ⟨q, 6, none⟩ = some vR := fun w2 b2 => (X1.on b2 X1.lt).cell 6
  have Y2 : ∀ w2, Below w1.heap.size w1 w2 → w2.cell? ⟨q1, 6, none⟩ = some vR' := fun w2 b2 => (Y1.on b2 Y1.lt).cell 6
  clear X0 X1 Y1 sv sv' hv hv' b0 b1
  go_enter Try.func13, Try.ntmps13
  go_wp2_with fail
  refine cA.mono ?_
  rintro e w2 ⟨rfl, b2⟩
  have x6 := X2 _ b2
  have y6 := Y2 _ b2
  clear x0 x1 x2 x3 x4 x5 y0 y1 y2 y3 y4 y5 cA
  go_wp2_with fail
  refine (cM _ b2).mono ?_
  rintro e w3 ⟨rfl, b3⟩
  have z2 := b2.size
  go_wp2
  go_ret
  exact ⟨rfl, (bb.trans (b2.mono (by omega))).trans (b3.mono (by omega))⟩

theorem szIntsC (a : Option Addr) (n cap : Nat) (left : Int) (w : World) (h0 : 0 ≤ left) (h1 : left ≤ 1048576) (hm : n ≤ maxLen) :
    Calls Try.prog 49 #[.slice a n cap, .int .i64 left] w fun e w' => e = .returned (.int .i64 (if (n : Int) ≤ left then left - n else -1)) ∧ w = w' := by
  have hm' : (n : Int) ≤ 9223372036854775807 := by unfold maxLen at hm; omega
  clear hm
  by_cases h : (n : Int) ≤ left
  · rw [if_pos h]
    go_enter Try.func49, Try.ntmps49
    go_wp2
    go_ret
    exact ⟨by go_num, rfl⟩
  · rw [if_neg h]
    have h' : left - (n : Int) < 0 := by omega
    go_enter Try.func49, Try.ntmps49
    go_wp2
    go_ret
    exact ⟨rfl, rfl⟩
def Left (left r : Int) (P : Prop) : Prop := r < 0 ∨ (0 ≤ r ∧ r ≤ left ∧ P)
theorem seesI_room {B : Nat} {w : World} {v : Value} {zs : List Int} (h : Ints.Sees B w v zs) : zs.length ≤ maxLen := by obtain ⟨a, cap, -, h1, h2, -⟩ := h; omega
set_option maxRecDepth 100000 in
set_option maxHeartbeats 1600000 in
theorem szCommitC (c : Cm) (vP vR : Value) (left : Int) (B : Nat) (w : World) (hv : SeeC B w vP vR c.ps c.rs) (h0 : 0 ≤ left) (h1 : left ≤ 1048576) :
    Calls Try.prog 9 #[c.agg vP vR, .int .i64 left] w fun e w' => ∃ r, e = .returned (.int .i64 r) ∧ Left left r (Fit c) ∧ Below w.heap.size w w' := by
  obtain ⟨c0, c1, c2, c3, c4, ps, rs⟩ := c
  dsimp only at hv
  show Calls _ _ #[.agg #[.int .i64 c0, .int .i64 c1, .int .i64 c2, .int .i64 c3, .int .i64 c4, vP, vR], _] _ _
  have m1 := hv.p.room
  have m2 := seesI_room hv.r
  obtain ⟨ac, cc, rfl⟩ := hv.p.form
  obtain ⟨am, cm, rfl⟩ := hv.r.form
  obtain ⟨nc, hnc⟩ : ∃ n, ps.length = n := ⟨_, rfl⟩
  obtain ⟨nm, hnm⟩ : ∃ n, rs.length = n := ⟨_, rfl⟩
  have HF : Hid (nc ≤ 1048576 → nm ≤ 1048576 → Fit ⟨c0, c1, c2, c3, c4, ps, rs⟩) := fun a b => ⟨by show ps.length ≤ _; omega, by show rs.length ≤ _; omega⟩
  rw [hnc] at m1 ⊢
  rw [hnm] at m2 ⊢
  have X0 := Blk.new w #[.int .i64 c0, .int .i64 c1, .int .i64 c2, .int .i64 c3, .int .i64 c4, .slice ac nc cc, .slice am nm cm] 25
  have b0 := alloc_below w (.cells #[.int .i64 c0, .int .i64 c1, .int .i64 c2, .int .i64 c3, .int .i64 c4, .slice ac nc cc, .slice am nm cm] 25)
  obtain ⟨w0, hw0⟩ : ∃ w0, w.alloc (.cells #[.int .i64 c0, .int .i64 c1, .int .i64 c2, .int .i64 c3, .int .i64 c4, .slice ac nc cc, .slice am nm cm] 25) = w0 := ⟨_, rfl⟩
  rw [hw0] at X0 b0
  have x5 := X0.cell 5; have x6 := X0.cell 6
  have k1 := szRowsC ac nc cc left w0 h0 h1 m1
  clear hnc hnm hv X0
  by_cases g1 : (nc : Int) ≤ left
  · rw [if_pos g1] at k1
    have k2 := szIntsC am nm cm (left - nc) w0 (by omega) (by omega) m2
    by_cases g2 : (nm : Int) ≤ left - nc
    · rw [if_pos g2] at k2
      go_enter Try.func9, Try.ntmps9
      go_wp2_with fail
      refine k1.mono ?_
      rintro e w1 ⟨rfl, rfl⟩
      go_wp2_with fail
      refine k2.mono ?_
      rintro e w1 ⟨rfl, rfl⟩
      go_wp2
      go_ret
      exact ⟨_, rfl, .inr ⟨by omega, by omega, HF.out (by omega) (by omega)⟩, b0⟩
    · rw [if_neg g2] at k2
      go_enter Try.func9, Try.ntmps9
      go_wp2_with fail
      refine k1.mono ?_
      rintro e w1 ⟨rfl, rfl⟩
      go_wp2_with fail
      refine k2.mono ?_
      rintro e w1 ⟨rfl, rfl⟩
      go_wp2
      go_ret
      exact ⟨_, rfl, .inl (by decide), b0⟩
  · rw [if_neg g1] at k1
    go_enter Try.func9, Try.ntmps9
    go_wp2_with fail
    refine k1.mono ?_
    rintro e w1 ⟨rfl, rfl⟩
    go_wp2
    go_ret
    exact ⟨_, rfl, .inl (by decide), b0⟩

/-- blocks of which S holds may have changed, and new ones have come -/
structure Chg (S : Nat → Prop) (w w' : World) : Prop where
  os : w'.os = w.os
  tape : w'.tape = w.tape
  output : w'.output = w.output
  size : w.heap.size ≤ w'.heap.size
  block : ∀ i, i < w.heap.size → ¬ S i → w'.heap[i]? = w.heap[i]?
section
variable {S S' : Nat → Prop} {w w' w'' : World}
theorem Chg.trans (h : Chg S w w') (h' : Chg S w' w'') : Chg S w w'' :=
  ⟨h'.os.trans h.os, h'.tape.trans h.tape, h'.output.trans h.output, Nat.le_trans h.size h'.size, fun i hi hn => (h'.block i (Nat.lt_of_lt_of_le hi h.size) hn).trans (h.block i hi hn)⟩
theorem Chg.of (h : Below w.heap.size w w') : Chg S w w' := ⟨h.os, h.tape, h.output, h.size, fun i hi _ => h.block i hi⟩
theorem Chg.grown {v : Value} (h : w.grownBy w' v.ownBlock) (hs : ∀ k, v.ownBlock = some k → S k) : Chg S w w' :=
  ⟨h.os, h.tape, h.output, h.size, fun i hi hn => h.block i hi (fun e => hn (hs i e.symm))⟩
theorem Chg.below {B : Nat} (h : Chg S w w') (hB : B ≤ w.heap.size) (hs : ∀ i, S i → B ≤ i) : Below B w w' :=
  ⟨h.os, h.tape, h.output, h.size, fun i hi => h.block i (by omega) (fun hx => by have := hs i hx; omega)⟩
end
def Two (a b : Value) (i : Nat) : Prop := a.ownBlock = some i ∨ b.ownBlock = some i
/-- a commit's rows lie apart from another's -/
structure Apart (a b : Value) (a' b' : Value) : Prop where
  h : ∀ k, Two a b k → ¬ Two a' b' k
theorem OwnC.two {B : Nat} {w : World} {vP vR : Value} {ps : List R2} {rs : List Int} (h : OwnC B w vP vR ps rs) : ∀ k, Two vP vR k → B ≤ k ∧ k < w.heap.size := by
  rintro k (hk | hk)
  · exact h.p.at k hk
  · exact h.r.at k hk
theorem apart_new {B B' : Nat} {w w' : World} {a b a' b' : Value} {ps ps' : List R2} {rs rs' : List Int} (h : OwnC B w a b ps rs) (h' : OwnC B' w' a' b' ps' rs') (hB : w.heap.size ≤ B') : Apart a b a' b' :=
  ⟨fun k hk hk' => by have := (h.two k hk).2; have := (h'.two k hk').1; omega⟩
theorem Apart.symm {a b a' b' : Value} (h : Apart a b a' b') : Apart a' b' a b := ⟨fun k hk hk' => h.h k hk' hk⟩
theorem OwnC.keep {B : Nat} {w w' : World} {vP vR a b : Value} {ps : List R2} {rs : List Int} (h : OwnC B w vP vR ps rs) (hc : Chg (Two a b) w w') (hd : Apart vP vR a b) : OwnC B w' vP vR ps rs :=
  ⟨h.p.keep fun k hk => hc.block k (h.p.at k hk).2 (hd.h k (.inl hk)), h.r.keep fun k hk => hc.block k (h.r.at k hk).2 (hd.h k (.inr hk))⟩
theorem Chg.blk {a b : Value} {w w' : World} (hc : Chg (Two a b) w w') {B p : Nat} {ps : List R2} {rs : List Int} {cs : Array Value} {t : TypeId} (h : OwnC B w a b ps rs) (hb : Blk w p cs t) (h1 : 88 ≠ t) (h2 : 3 ≠ t) : Blk w' p cs t := by
  refine (hc.block p hb.lt ?_).trans hb
  rintro (hk | hk)
  · exact h.p.off hb h1 p hk rfl
  · have hr := h.r
    unfold Ints.Owns at hr
    obtain ⟨k1, k2⟩ := hr
    rcases k2 with ⟨rfl, h0⟩ | ⟨g, cap, cur, rfl, hg, hh, r⟩
    · cases hk
    · cases hk
      unfold Blk at hb
      rw [hb] at hh
      simp at hh
      exact h2 hh.2.symm
theorem grown_alloc' {w w' : World} {o : Obj} {r : Option Nat} (h : (w.alloc o).grownBy w' r) : w.grownBy w' r :=
  ⟨h.os, h.tape, h.output, Nat.le_trans (by simp) h.size, fun k hk hr => by
    rw [h.block k (by simp; omega) hr]
    exact (alloc_below w o).block k hk⟩

set_option maxRecDepth 100000 in
set_option maxHeartbeats 1600000 in
theorem markCommitC (c : Cm) (vP vR : Value) (k : Int) (hk0 : 0 ≤ k) (hk1 : k ≤ 500000000) (B : Nat) (w : World) (hv : OwnC B w vP vR c.ps c.rs) (hf : Fit c) :
    Calls Try.prog 20 #[c.agg vP vR, .int .i64 k] w fun e w' => e = .returned (.int .i64 (k + 2 * (c.ps.length : Int) + (c.rs.length : Int))) ∧ OwnC B w' vP vR (marksR k c.ps.length) (Ints.marksK (k + 2 * (c.ps.length : Int)) c.rs.length) ∧ Chg (Two vP vR) w w' := by
  obtain ⟨c0, c1, c2, c3, c4, ps, rs⟩ := c
  obtain ⟨hf1, hf2⟩ := hf
  dsimp only at hv hf1 hf2 ⊢
  show Calls _ _ #[.agg #[.int .i64 c0, .int .i64 c1, .int .i64 c2, .int .i64 c3, .int .i64 c4, vP, vR], _] _ _
  obtain ⟨q, hq⟩ : ∃ q, w.heap.size = q := ⟨_, rfl⟩
  have X0 := Blk.new w #[.int .i64 c0, .int .i64 c1, .int .i64 c2, .int .i64 c3, .int .i64 c4, vP, vR] 30
  have b0 := alloc_below w (.cells #[.int .i64 c0, .int .i64 c1, .int .i64 c2, .int .i64 c3, .int .i64 c4, vP, vR] 30)
  obtain ⟨w0, hw0⟩ : ∃ w0, w.alloc (.cells #[.int .i64 c0, .int .i64 c1, .int .i64 c2, .int .i64 c3, .int .i64 c4, vP, vR] 30) = w0 := ⟨_, rfl⟩
  rw [hw0] at X0 b0
  have op := hv.p.on b0 (Nat.le_refl _)
  have or := hv.r.on b0 (Nat.le_refl _)
  have hdj : ∀ k, vR.ownBlock = some k → some k ≠ vP.ownBlock := apartRI or op (by decide)
  have hqp : ∀ k, vP.ownBlock = some k → k < w.heap.size := fun k hk => (hv.p.at k hk).2
  have hqr : ∀ k, vR.ownBlock = some k → k < w.heap.size := fun k hk => (hv.r.at k hk).2
  rw [hq] at X0 hqp hqr
  have x5 := X0.cell 5
  have m1 := markRowsC vP ps k B w0 op hk0 (by omega) hf1
  obtain ⟨np, hnp⟩ : ∃ n, ps.length = n := ⟨_, rfl⟩
  have hfp : np ≤ 1048576 := by omega
  rw [hnp] at m1 ⊢
  have HD := (show Hid _ from hdj)
  clear hv hdj hnp
  go_enter Try.func20, Try.ntmps20
  go_wp2_with fail
  refine m1.mono ?_
  rintro e w1 ⟨rfl, M1, G1⟩
  have X1 := X0.grown G1 (fun e => by have := hqp q e.symm; omega)
  have or1 := or.grown G1 HD.out
  have x6 := X1.cell 6
  clear x5 m1
  go_wp2_with fail
  refine (Ints.markIntsK vR rs (k + 2 * (np : Int)) (by omega) (by omega) B w1 or1 hf2).mono ?_
  rintro e w2 ⟨rfl, M2, G2⟩
  have M1' := M1.grown G2 (fun k hk e => HD.out k e.symm hk.symm)
  have hC : Chg (Two vP vR) w w2 := ((Chg.of b0).trans (Chg.grown G1 (fun k hk => .inl hk))).trans (Chg.grown G2 (fun k hk => .inr hk))
  go_wp2
  go_ret
  exact ⟨rfl, ⟨M1', M2⟩, hC⟩
set_option maxRecDepth 100000 in
set_option maxHeartbeats 1600000 in
theorem heldCommitC (n0 n1 n2 n3 n4 : Int) (vP vR : Value) (np nr : Nat) (k : Int) (hk0 : 0 ≤ k) (hk1 : k ≤ 500000000) (B : Nat) (w : World) (hv : SeeC B w vP vR (marksR k np) (Ints.marksK (k + 2 * (np : Int)) nr)) (hB : B ≤ w.heap.size) (h1 : np ≤ 1048576) (h2 : nr ≤ 1048576) :
    Calls Try.prog 21 #[.agg #[.int .i64 n0, .int .i64 n1, .int .i64 n2, .int .i64 n3, .int .i64 n4, vP, vR], .int .i64 k] w fun e w' => e = .returned (.int .i64 (k + 2 * (np : Int) + (nr : Int))) ∧ Below w.heap.size w w' := by
  obtain ⟨q, hq⟩ : ∃ q, w.heap.size = q := ⟨_, rfl⟩
  have X0 := Blk.new w #[.int .i64 n0, .int .i64 n1, .int .i64 n2, .int .i64 n3, .int .i64 n4, vP, vR] 30
  have b0 := alloc_below w (.cells #[.int .i64 n0, .int .i64 n1, .int .i64 n2, .int .i64 n3, .int .i64 n4, vP, vR] 30)
  obtain ⟨w0, hw0⟩ : ∃ w0, w.alloc (.cells #[.int .i64 n0, .int .i64 n1, .int .i64 n2, .int .i64 n3, .int .i64 n4, vP, vR] 30) = w0 := ⟨_, rfl⟩
  rw [hw0] at X0 b0
  have hv0 := hv.on b0 hB
  have k1 := heldRowsC vP np k _ w0 hv0.p hk0 (by omega) h1
  have k2 := Ints.heldIntsK vR nr (k + 2 * (np : Int)) (by omega) (by omega) _ w0 hv0.r h2
  rw [hq] at X0 b0 ⊢
  have x5 := X0.cell 5; have x6 := X0.cell 6
  have p1 : ¬ (k + 2 * (np : Int) < 0) := by omega
  have p2 : ¬ (k + 2 * (np : Int) + (nr : Int) < 0) := by omega
  go_enter Try.func21, Try.ntmps21
  go_wp2_with fail
  refine k1.mono ?_
  rintro e w1 ⟨rfl, rfl⟩
  go_wp2_with fail
  refine k2.mono ?_
  rintro e w1 ⟨rfl, rfl⟩
  go_wp2
  go_ret
  exact ⟨rfl, b0⟩
end Commits
end Go.Proofs.Ytajbmokidcdfnaa
