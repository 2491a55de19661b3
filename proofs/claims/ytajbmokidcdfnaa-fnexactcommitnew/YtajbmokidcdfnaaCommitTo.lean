/- The laws' own copies, comparisons, sizes and marks of commits. -/
import Derived.Test.YtajbmokidcdfnaaCommitOkW
import Derived.Deep.RegionHeld3
set_option linter.unusedVariables false
set_option linter.unusedSimpArgs false
namespace Go.Proofs.Ytajbmokidcdfnaa
open Go.RowKit
namespace Commits
open Bas Flat Logs

theorem ownI_other {B : Nat} {w : World} {v : Value} {zs : List Int} {q : Nat} (h : Ints.Owns B w v zs) (hq : ∀ k, v.ownBlock = some k → k ≠ q) (i : Nat) (u : Value) : Ints.Owns B (w.setCell ⟨q, i, none⟩ u) v zs :=
  h.keep fun k hk => Below.heap_setCell _ _ _ _ (hq k hk)
/-- rows that are not too long -/
def Fit (c : Cm) : Prop := c.ps.length ≤ 1048576 ∧ c.rs.length ≤ 1048576

set_option maxRecDepth 100000 in
set_option maxHeartbeats 3200000 in
theorem toCommitC (c : Cm) (vP vR : Value) (B : Nat) (w : World) (hv : SeeC B w vP vR c.ps c.rs) (hB : B ≤ w.heap.size) (hf : Fit c) :
    Calls Try.prog 11 #[c.agg vP vR] w fun e w' => ∃ vP' vR', e = .returned (c.agg vP' vR') ∧ OwnC w.heap.size w' vP' vR' c.ps c.rs ∧ Below w.heap.size w w' := by
  obtain ⟨c0, c1, c2, c3, c4, ps, rs⟩ := c
  obtain ⟨hf1, hf2⟩ := hf
  dsimp only at hv hf1 hf2 ⊢
  obtain ⟨q, hq⟩ : ∃ q, w.heap.size = q := ⟨_, rfl⟩
  have X0 := Blk.new w #[.int .i64 c0, .int .i64 c1, .int .i64 c2, .int .i64 c3, .int .i64 c4, vP, vR] 25
  have b0 := alloc_below w (.cells #[.int .i64 c0, .int .i64 c1, .int .i64 c2, .int .i64 c3, .int .i64 c4, vP, vR] 25)
  obtain ⟨w0, hw0⟩ : ∃ w0, w.alloc (.cells #[.int .i64 c0, .int .i64 c1, .int .i64 c2, .int .i64 c3, .int .i64 c4, vP, vR] 25) = w0 := ⟨_, rfl⟩
  have hz0 : w0.heap.size = q + 1 := by rw [← hw0, ← hq]; simp
  rw [hw0] at X0 b0
  rw [hq] at X0 b0 hB ⊢
  obtain ⟨q1, hq1⟩ : ∃ q, w0.heap.size = q := ⟨_, rfl⟩
  have l01 : q < q1 := by omega
  clear hz0
  have S1 := Blk.new w0 #[.int .i64 0, .int .i64 0, .int .i64 0, .int .i64 0, .int .i64 0, .slice none 0 0, .slice none 0 0] 30
  have b1 := alloc_below w0 (.cells #[.int .i64 0, .int .i64 0, .int .i64 0, .int .i64 0, .int .i64 0, .slice none 0 0, .slice none 0 0] 30)
  obtain ⟨w1, hw1⟩ : ∃ w1, w0.alloc (.cells #[.int .i64 0, .int .i64 0, .int .i64 0, .int .i64 0, .int .i64 0, .slice none 0 0, .slice none 0 0] 30) = w1 := ⟨_, rfl⟩
  have hz1 : w1.heap.size = q1 + 1 := by rw [← hw1, ← hq1]; simp
  rw [hw1] at S1 b1
  rw [hq1] at S1 b1
  obtain ⟨q2, hq2⟩ : ∃ q, w1.heap.size = q := ⟨_, rfl⟩
  have l12 : q1 < q2 := by omega
  clear hz1
  have R2 := Blk.new w1 #[.int .i64 0, .int .i64 0, .int .i64 0, .int .i64 0, .int .i64 0, .slice none 0 0, .slice none 0 0] 30
  have b2 := alloc_below w1 (.cells #[.int .i64 0, .int .i64 0, .int .i64 0, .int .i64 0, .int .i64 0, .slice none 0 0, .slice none 0 0] 30)
  obtain ⟨w2, hw2⟩ : ∃ w2, w1.alloc (.cells #[.int .i64 0, .int .i64 0, .int .i64 0, .int .i64 0, .int .i64 0, .slice none 0 0, .slice none 0 0] 30) = w2 := ⟨_, rfl⟩
  rw [hw2] at R2 b2
  rw [hq2] at R2 b2
  have X2 := (X0.on b1 (by omega)).on b2 (by omega)
  have S2 := S1.on b2 (by omega)
  have bb : Below q w w2 := (b0.trans (b1.mono (by omega))).trans (b2.mono (by omega))
  have z2 : q2 < w2.heap.size := R2.lt
  have n2 : q ≠ q2 := by omega
  have n1 : q1 ≠ q2 := by omega
  have x0 := X2.cell 0; have x1 := X2.cell 1; have x2 := X2.cell 2; have x3 := X2.cell 3; have x4 := X2.cell 4; have x5 := X2.cell 5
  have r2 := fun i => R2.cell i; have f2 := fun i => R2.froz i
  have X3 := (((((X2.other n2 0 (.int .i64 c0)).other n2 1 (.int .i64 c1)).other n2 2 (.int .i64 c2)).other n2 3 (.int .i64 c3)).other n2 4 (.int .i64 c4))
  have S3 := (((((S2.other n1 0 (.int .i64 c0)).other n1 1 (.int .i64 c1)).other n1 2 (.int .i64 c2)).other n1 3 (.int .i64 c3)).other n1 4 (.int .i64 c4))
  have R3 := (((((R2.set 0 (.int .i64 c0)).set 1 (.int .i64 c1)).set 2 (.int .i64 c2)).set 3 (.int .i64 c3)).set 4 (.int .i64 c4))
  have b3 := (((((bb.setCell (p := ⟨q2, 0, none⟩) (show q ≤ q2 by omega) (.int .i64 c0)).setCell (p := ⟨q2, 1, none⟩) (show q ≤ q2 by omega) (.int .i64 c1)).setCell (p := ⟨q2, 2, none⟩) (show q ≤ q2 by omega) (.int .i64 c2)).setCell (p := ⟨q2, 3, none⟩) (show q ≤ q2 by omega) (.int .i64 c3)).setCell (p := ⟨q2, 4, none⟩) (show q ≤ q2 by omega) (.int .i64 c4))
  obtain ⟨w3, hw3⟩ : ∃ W, ((((w2.setCell ⟨q2, 0, none⟩ (.int .i64 c0)).setCell ⟨q2, 1, none⟩ (.int .i64 c1)).setCell ⟨q2, 2, none⟩ (.int .i64 c2)).setCell ⟨q2, 3, none⟩ (.int .i64 c3)).setCell ⟨q2, 4, none⟩ (.int .i64 c4) = W := ⟨_, rfl⟩
  rw [hw3] at X3 S3 R3 b3
  have sv := hv.on b3 hB
  have x35 := X3.cell 5
  have hq1w : q1 < w3.heap.size := S3.lt
  have z3 := b3.size
  have cA := toRowsC vP ps B w3 sv.p (by omega) hf1
  clear X0 S1 b0 b1 b2
  go_enter Try.func11, Try.ntmps11
  go_wp2_with fail
  try rw [hw3]
  refine cA.mono ?_
  rintro e w4 ⟨v4, rfl, O4, b4⟩
  obtain ⟨a3, k3, rfl⟩ := O4.form
  obtain ⟨np, hnp⟩ : ∃ n, ps.length = n := ⟨_, rfl⟩
  rw [hnp] at O4 ⊢
  clear x0 x1 x2 x3 x4 x5 x35 r2 f2 hw3
  have X4 := X3.on b4 X3.lt
  have S4 := S3.on b4 S3.lt
  have R4 := R3.on b4 R3.lt
  have b4' := b3.trans (b4.mono (by omega))
  have z4 : q2 < w4.heap.size := R4.lt
  have r5 := R4.cell 5; have f5 := R4.froz 5
  have o4 := O4.at
  have d4 : ∀ k, (Value.slice a3 np k3).ownBlock = some k → k ≠ q2 := fun k hk => by have := (o4 k hk).1; have := R3.lt; omega
  have X5 := X4.other n2 5 (.slice a3 np k3)
  have S5 := S4.other n1 5 (.slice a3 np k3)
  have R5 := R4.set 5 (.slice a3 np k3)
  have O5 := Owns.other O4 (p := q2) (i := 5) d4 (.slice a3 np k3)
  have b5 := b4'.setCell (p := ⟨q2, 5, none⟩) (show q ≤ q2 by omega) (.slice a3 np k3)
  obtain ⟨w5, hw5⟩ : ∃ W, w4.setCell ⟨q2, 5, none⟩ (.slice a3 np k3) = W := ⟨_, rfl⟩
  rw [hw5] at X5 S5 R5 O5 b5
  have z5 := b5.size
  have x6 := X5.cell 6
  have cM := Ints.toIntsC vR rs B w5 ((hv.on b5 hB).r) (by omega) hf2
  clear X3 S3 R3 X4 S4 O4 sv
  go_wp2_with fail
  try rw [hw5]
  refine cM.mono ?_
  rintro e w6 ⟨v6, rfl, O6, b6⟩
  obtain ⟨a5, k5, rfl⟩ := O6.form
  obtain ⟨nr, hnr⟩ : ∃ n, rs.length = n := ⟨_, rfl⟩
  rw [hnr] at O6 ⊢
  have S6 := S5.on b6 S5.lt
  have R6 := R5.on b6 R5.lt
  have P6 := O5.on b6 (Nat.le_refl _)
  have b6' := b5.trans (b6.mono (by omega))
  have o6 := O6.at
  have d6 : ∀ k, (Value.slice a5 nr k5).ownBlock = some k → k ≠ q2 := fun k hk => by have := (o6 k hk).1; have := R5.lt; omega
  have d6' : ∀ k, (Value.slice a5 nr k5).ownBlock = some k → k ≠ q1 := fun k hk => by have := (o6 k hk).1; have := S5.lt; omega
  have d4' : ∀ k, (Value.slice a3 np k3).ownBlock = some k → k ≠ q1 := fun k hk => by have := (o4 k hk).1; have := hq1w; omega
  clear x6 cA cM hw5 r5 f5
  have r6 := fun i => R6.cell i; have f6 := fun i => R6.froz i
  have s6 := fun i => S6.cell i; have g6 := fun i => S6.froz i
  have S7 := ((((((((S6.other n1 6 (.slice a5 nr k5)).set 0 (.int .i64 c0)).set 1 (.int .i64 c1)).set 2 (.int .i64 c2)).set 3 (.int .i64 c3)).set 4 (.int .i64 c4)).set 5 (.slice a3 np k3)).set 6 (.slice a5 nr k5))
  have s7 := fun i => S7.cell i
  have Oa := (Owns.other (Owns.other (Owns.other (Owns.other (Owns.other (Owns.other (Owns.other (Owns.other P6 (p := q2) (i := 6) d4 (.slice a5 nr k5)) (p := q1) (i := 0) d4' (.int .i64 c0)) (p := q1) (i := 1) d4' (.int .i64 c1)) (p := q1) (i := 2) d4' (.int .i64 c2)) (p := q1) (i := 3) d4' (.int .i64 c3)) (p := q1) (i := 4) d4' (.int .i64 c4)) (p := q1) (i := 5) d4' (.slice a3 np k3)) (p := q1) (i := 6) d4' (.slice a5 nr k5))
  have Ob := (ownI_other (ownI_other (ownI_other (ownI_other (ownI_other (ownI_other (ownI_other (ownI_other O6 (q := q2) d6 6 (.slice a5 nr k5)) (q := q1) d6' 0 (.int .i64 c0)) (q := q1) d6' 1 (.int .i64 c1)) (q := q1) d6' 2 (.int .i64 c2)) (q := q1) d6' 3 (.int .i64 c3)) (q := q1) d6' 4 (.int .i64 c4)) (q := q1) d6' 5 (.slice a3 np k3)) (q := q1) d6' 6 (.slice a5 nr k5))
  have bF := ((((((((b6'.setCell (p := ⟨q2, 6, none⟩) (show q ≤ q2 by omega) (.slice a5 nr k5)).setCell (p := ⟨q1, 0, none⟩) (show q ≤ q1 by omega) (.int .i64 c0)).setCell (p := ⟨q1, 1, none⟩) (show q ≤ q1 by omega) (.int .i64 c1)).setCell (p := ⟨q1, 2, none⟩) (show q ≤ q1 by omega) (.int .i64 c2)).setCell (p := ⟨q1, 3, none⟩) (show q ≤ q1 by omega) (.int .i64 c3)).setCell (p := ⟨q1, 4, none⟩) (show q ≤ q1 by omega) (.int .i64 c4)).setCell (p := ⟨q1, 5, none⟩) (show q ≤ q1 by omega) (.slice a3 np k3)).setCell (p := ⟨q1, 6, none⟩) (show q ≤ q1 by omega) (.slice a5 nr k5))
  go_wp2
  refine bodyPost_ret (v := .agg #[.int .i64 c0, .int .i64 c1, .int .i64 c2, .int .i64 c3, .int .i64 c4, .slice a3 np k3, .slice a5 nr k5]) (by simp [results, Try.results11, go_sem, s7]) rfl ?_
  exact ⟨_, _, rfl, ⟨Oa.mono (by omega), Ob.mono (by omega)⟩, bF⟩

end Commits
end Go.Proofs.Ytajbmokidcdfnaa
