/- The laws' own copies, comparisons and sizes of things. -/
import Derived.Test.YtppkohkcffnghaaThSame
set_option linter.unusedVariables false
set_option linter.unusedSimpArgs false
namespace Go.Proofs.Ytppkohkcffnghaa
open Go.RowKit
namespace Ops
open Bas

/-- things that are not too great -/
def FitT (t : Th) : Prop := t.c.length ≤ 1048576 ∧ t.m.length ≤ 1048576

set_option maxRecDepth 100000 in
set_option maxHeartbeats 1600000 in
theorem toThC (vc vm : Value) (t : Th) (B : Nat) (w : World) (hv : SeeT B w vc vm t) (hB : B ≤ w.heap.size) (hf : FitT t) :
    Calls Try.prog 21 #[.agg #[vc, vm, .int .i64 t.n]] w fun e w' => ∃ vc' vm', e = .returned (.agg #[vc', vm', .int .i64 t.n]) ∧ OwnT w.heap.size w' vc' vm' t ∧ Below w.heap.size w w' := by
  obtain ⟨q, hq⟩ : ∃ q, w.heap.size = q := ⟨_, rfl⟩
  have X0 := Blk.new w #[vc, vm, .int .i64 t.n] 53
  have b0 := alloc_below w (.cells #[vc, vm, .int .i64 t.n] 53)
  obtain ⟨w0, hw0⟩ : ∃ w0, w.alloc (.cells #[vc, vm, .int .i64 t.n] 53) = w0 := ⟨_, rfl⟩
  have hz0 : w0.heap.size = q + 1 := by rw [← hw0, ← hq]; simp
  rw [hw0] at X0 b0
  rw [hq] at X0 b0 hB ⊢
  obtain ⟨q1, hq1⟩ : ∃ q, w0.heap.size = q := ⟨_, rfl⟩
  have l01 : q < q1 := by omega
  clear hz0
  have R1 := Blk.new w0 #[.slice none 0 0, .slice none 0 0, .int .i64 0] 37
  have b1 := alloc_below w0 (.cells #[.slice none 0 0, .slice none 0 0, .int .i64 0] 37)
  obtain ⟨w1, hw1⟩ : ∃ w1, w0.alloc (.cells #[.slice none 0 0, .slice none 0 0, .int .i64 0] 37) = w1 := ⟨_, rfl⟩
  have hz1 : w1.heap.size = q1 + 1 := by rw [← hw1, ← hq1]; simp
  rw [hw1] at R1 b1
  rw [hq1] at R1 b1
  obtain ⟨q2, hq2⟩ : ∃ q, w1.heap.size = q := ⟨_, rfl⟩
  have l12 : q1 < q2 := by omega
  clear hz1
  have R2 := Blk.new w1 #[.slice none 0 0, .slice none 0 0, .int .i64 0] 37
  have b2 := alloc_below w1 (.cells #[.slice none 0 0, .slice none 0 0, .int .i64 0] 37)
  obtain ⟨w2, hw2⟩ : ∃ w2, w1.alloc (.cells #[.slice none 0 0, .slice none 0 0, .int .i64 0] 37) = w2 := ⟨_, rfl⟩
  rw [hw2] at R2 b2
  rw [hq2] at R2 b2
  have X2 := (X0.on b1 (by omega)).on b2 (by omega)
  have R12 := R1.on b2 (by omega)
  have bb : Below q w w2 := (b0.trans (b1.mono (by omega))).trans (b2.mono (by omega))
  have z2 : q2 < w2.heap.size := R2.lt
  have x0 := X2.cell 0
  have sv := hv.on bb hB
  have cA := Ints.toIntsC vc t.c B w2 sv.c (by omega) hf.1
  obtain ⟨tn, htn⟩ : ∃ x, t.n = x := ⟨_, rfl⟩
  rw [htn] at X2 hw0 ⊢
  clear X0 R1 b0 b1 b2 htn
  go_enter Try.func21, Try.ntmps21
  go_wp2_with fail
  refine cA.mono ?_
  rintro e w3 ⟨v3, rfl, O3, b3⟩
  obtain ⟨a3, k3, rfl⟩ := O3.form
  have X3 := X2.on b3 X2.lt
  have R3 := R2.on b3 R2.lt
  have S3 := R12.on b3 R12.lt
  have bb3 := bb.trans (b3.mono (by omega))
  have z3 := b3.size
  have r30 := R3.cell 0
  have f30 := R3.froz 0
  have X4 := X3.other (show q ≠ q2 by omega) 0 (.slice a3 t.c.length k3)
  have S4 := S3.other (show q1 ≠ q2 by omega) 0 (.slice a3 t.c.length k3)
  have R4 := R3.set 0 (.slice a3 t.c.length k3)
  have O4_ := own_other O3 (q := q2) (by omega) 0 (.slice a3 t.c.length k3)
  have b4 := bb3.setCell (p := ⟨q2, 0, none⟩) (show q ≤ q2 by omega) (.slice a3 t.c.length k3)
  obtain ⟨w4, hw4⟩ : ∃ W, w3.setCell ⟨q2, 0, none⟩ (.slice a3 t.c.length k3) = W := ⟨_, rfl⟩
  rw [hw4] at X4 S4 R4 O4_ b4
  have z4 : w3.heap.size = w4.heap.size := by rw [← hw4]; simp [World.setCell]
  have x1 := X4.cell 1
  have cM := Ints.toIntsC vm t.m B w4 ((hv.on b4 hB).m) (by omega) hf.2
  clear cA x0 X2 R2 R12 X3 R3 S3 O3
  go_wp2_with fail
  refine cM.mono ?_
  rintro e w5 ⟨v5, rfl, O5, b5⟩
  obtain ⟨a5, k5, rfl⟩ := O5.form
  have X5 := X4.on b5 X4.lt
  have R5 := R4.on b5 R4.lt
  have S5 := S4.on b5 S4.lt
  have P5 := O4_.on b5 (Nat.le_refl _)
  have bb5 := b4.trans (b5.mono (by have := b4.size; omega))
  have hd : Dj (.slice a3 t.c.length k3) (.slice a5 t.m.length k5) := dj_new (B' := 0) O4_ O5
  have z5 := b5.size
  have r50 := R5.cell 0; have r51 := R5.cell 1; have r52 := R5.cell 2
  have f50 := R5.froz 0; have f51 := R5.froz 1; have f52 := R5.froz 2
  have x52 := X5.cell 2
  have s50 := S5.cell 0; have s51 := S5.cell 1; have s52 := S5.cell 2
  have g50 := S5.froz 0; have g51 := S5.froz 1; have g52 := S5.froz 2
  have Oa : Ints.Owns q _ (.slice a3 t.c.length k3) t.c := (own_other (own_other (own_other (own_other (own_other P5 (q := q2) (by omega) 1 (.slice a5 t.m.length k5)) (q := q2) (by omega) 2 (.int .i64 tn)) (q := q1) (by omega) 0 (.slice a3 t.c.length k3)) (q := q1) (by omega) 1 (.slice a5 t.m.length k5)) (q := q1) (by omega) 2 (.int .i64 tn)).mono (show q ≤ w2.heap.size by omega)
  have Ob : Ints.Owns q _ (.slice a5 t.m.length k5) t.m := (own_other (own_other (own_other (own_other (own_other O5 (q := q2) (by omega) 1 (.slice a5 t.m.length k5)) (q := q2) (by omega) 2 (.int .i64 tn)) (q := q1) (by omega) 0 (.slice a3 t.c.length k3)) (q := q1) (by omega) 1 (.slice a5 t.m.length k5)) (q := q1) (by omega) 2 (.int .i64 tn)).mono (show q ≤ w4.heap.size by omega)
  have bF := ((((bb5.setCell (p := ⟨q2, 1, none⟩) (show q ≤ q2 by omega) (.slice a5 t.m.length k5)).setCell (p := ⟨q2, 2, none⟩) (show q ≤ q2 by omega) (.int .i64 tn)).setCell (p := ⟨q1, 0, none⟩) (show q ≤ q1 by omega) (.slice a3 t.c.length k3)).setCell (p := ⟨q1, 1, none⟩) (show q ≤ q1 by omega) (.slice a5 t.m.length k5)).setCell (p := ⟨q1, 2, none⟩) (show q ≤ q1 by omega) (.int .i64 tn)
  have R6 := (R5.set 1 (.slice a5 t.m.length k5)).set 2 (.int .i64 tn)
  have S6 := (((((S5.other (show q1 ≠ q2 by omega) 1 (.slice a5 t.m.length k5)).other (show q1 ≠ q2 by omega) 2 (.int .i64 tn)).set 0 (.slice a3 t.c.length k3)).set 1 (.slice a5 t.m.length k5)).set 2 (.int .i64 tn))
  clear x1 cM X4 S4 R4 O4_ hw4
  go_wp2
  refine bodyPost_ret (v := .agg #[.slice a3 t.c.length k3, .slice a5 t.m.length k5, .int .i64 tn]) (by simp [results, Try.results21, go_sem, s50, s51, s52]) rfl ?_
  exact ⟨_, _, rfl, ⟨Oa, Ob, hd⟩, bF⟩
end Ops
end Go.Proofs.Ytppkohkcffnghaa
