/- Several texts of one proof, in build order: CommitLeftW, CommitBackW. -/
import Derived.Test.YtppikpdphcfomaaDoorCB8
/- CommitLeft: what both answer. -/
set_option linter.unusedVariables false
set_option linter.unusedSimpArgs false
namespace Go.Proofs.YtppikpdphcfomaaDoor
open Go.RowKit
namespace Commits
open Bas Flat Logs

theorem rises_ge {zs : List Int} (h : rises zs = true) : ∀ j (hj : j < zs.length), (j : Int) ≤ zs[j] := by
  intro j
  induction j with
  | zero => intro hj; exact (rises_cell h (List.getElem_mem hj)).1
  | succ j ih =>
    intro hj
    have h1 := ih (by omega)
    have h2 := rises_lt h hj
    omega
theorem rises_len {zs : List Int} (h : rises zs = true) : zs.length ≤ 8 := by
  by_cases h9 : zs.length ≤ 8
  · exact h9
  · have h1 := rises_ge h 8 (by omega)
    have h2 := (rises_cell h (List.getElem_mem (show 8 < zs.length by omega))).2
    omega
theorem bounds_of {C : Cm} (h : commitOk C = true) : C.ps.length ≤ 300 ∧ C.rs.length ≤ 8 ∧ 0 ≤ C.at' ∧ C.at' ≤ 300 ∧ (1 ≤ C.ph ∧ C.ph ≤ 8) := by
  obtain ⟨-, -, -, d, -, f, g0, g1⟩ := commit_out h
  have h1 := rowsOk_out d
  have h2 := rises_len f
  refine ⟨h1, h2, g0, ?_, phase_in h⟩
  unfold Cm.steps at g1
  split at g1
  · omega
  · split at g1
    · omega
    · split at g1 <;> omega
theorem left_no {C : Cm} (h : commitOk C = false) : leftOf C = 0 := by unfold leftOf; rw [h]; rfl
theorem left_yes {C : Cm} {n m : Nat} (h : commitOk C = true) (hn : C.ps.length = n) (hm : C.rs.length = m) : leftOf C = (if C.ph = 1 then (n : Int) - C.at' + 1 + m + 2 * n else if C.ph = 2 then 1 + (m : Int) + 2 * n else if C.ph = 3 then (m : Int) - C.at' + 2 * n else if C.ph = 4 then 2 * (n : Int) - C.at' else if C.ph = 5 then (n : Int) - C.at' else if C.ph = 7 then C.at' + 1 else 0) := by
  unfold leftOf; rw [h, hn, hm]; rfl
theorem ph8 {x : Int} (h : 1 ≤ x ∧ x ≤ 8) : x = 1 ∨ x = 2 ∨ x = 3 ∨ x = 4 ∨ x = 5 ∨ x = 6 ∨ x = 7 ∨ x = 8 := by omega

end Commits
end Go.Proofs.YtppikpdphcfomaaDoor
/- Going back over locks. -/
set_option linter.unusedVariables false
set_option linter.unusedSimpArgs false
namespace Go.Proofs.YtppikpdphcfomaaDoor
open Go.RowKit
namespace Commits
open Bas Flat Logs
def phB (x : Int) : Int := if x = 0 then 8 else 7
def atB (x : Int) : Int := if x = 0 then 0 else x - 1

set_option maxRecDepth 100000 in
set_option maxHeartbeats 6400000 in
theorem backS (who rv ph at' wv : Int) (x : Int) (ap ar : Option Addr) (n kp m kr : Nat) (w : World) (hx0 : 0 ≤ x) (hx1 : x ≤ 1000000) :
    Calls Tryd.prog 24 #[.agg #[.int .i64 who, .int .i64 rv, .int .i64 ph, .int .i64 at', .int .i64 wv, .slice ap n kp, .slice ar m kr], .int .i64 x] w fun e w' => e = .returned (.agg #[.int .i64 who, .int .i64 rv, .int .i64 (phB x), .int .i64 (atB x), .int .i64 wv, .slice ap n kp, .slice ar m kr]) ∧ Below w.heap.size w w' := by
  obtain ⟨q, hq⟩ : ∃ q, w.heap.size = q := ⟨_, rfl⟩
  have X0 := Blk.new w #[.int .i64 who, .int .i64 rv, .int .i64 ph, .int .i64 at', .int .i64 wv, .slice ap n kp, .slice ar m kr] 36
  have b0 := alloc_below w (.cells #[.int .i64 who, .int .i64 rv, .int .i64 ph, .int .i64 at', .int .i64 wv, .slice ap n kp, .slice ar m kr] 36)
  obtain ⟨w0, hw0⟩ : ∃ w0, w.alloc (.cells #[.int .i64 who, .int .i64 rv, .int .i64 ph, .int .i64 at', .int .i64 wv, .slice ap n kp, .slice ar m kr] 36) = w0 := ⟨_, rfl⟩
  have hz0 : w0.heap.size = q + 1 := by rw [← hw0, ← hq]; simp
  rw [hw0] at X0 b0
  rw [hq] at X0 b0 ⊢
  obtain ⟨q1, hq1⟩ : ∃ q, w0.heap.size = q := ⟨_, rfl⟩
  have l01 : q < q1 := by omega
  clear hz0
  have S1 := Blk.new w0 #[.int .i64 0, .int .i64 0, .int .i64 0, .int .i64 0, .int .i64 0, .slice none 0 0, .slice none 0 0] 36
  have b1 := alloc_below w0 (.cells #[.int .i64 0, .int .i64 0, .int .i64 0, .int .i64 0, .int .i64 0, .slice none 0 0, .slice none 0 0] 36)
  obtain ⟨w1, hw1⟩ : ∃ w1, w0.alloc (.cells #[.int .i64 0, .int .i64 0, .int .i64 0, .int .i64 0, .int .i64 0, .slice none 0 0, .slice none 0 0] 36) = w1 := ⟨_, rfl⟩
  rw [hw1] at S1 b1
  rw [hq1] at S1 b1
  have X1 := X0.on b1 (by omega)
  have bb : Below q w w1 := b0.trans (b1.mono (by omega))
  have x2 := X1.cell 2; have x3 := X1.cell 3; have f1 := fun i => X1.froz i
  by_cases hz : x = 0
  · subst hz
    have X2 : Blk ((((w1.setCell ⟨q, 3, none⟩ (.int .i64 (-1))).setCell ⟨q, 2, none⟩ (.int .i64 7)).setCell ⟨q, 3, none⟩ (.int .i64 0)).setCell ⟨q, 2, none⟩ (.int .i64 8)) q #[.int .i64 who, .int .i64 rv, .int .i64 8, .int .i64 0, .int .i64 wv, .slice ap n kp, .slice ar m kr] 36 := ((((X1.set 3 (.int .i64 (-1))).set 2 (.int .i64 7)).set 3 (.int .i64 0)).set 2 (.int .i64 8))
    have S2 : Blk ((((w1.setCell ⟨q, 3, none⟩ (.int .i64 (-1))).setCell ⟨q, 2, none⟩ (.int .i64 7)).setCell ⟨q, 3, none⟩ (.int .i64 0)).setCell ⟨q, 2, none⟩ (.int .i64 8)) q1 #[.int .i64 0, .int .i64 0, .int .i64 0, .int .i64 0, .int .i64 0, .slice none 0 0, .slice none 0 0] 36 := ((((S1.other (show q1 ≠ q by omega) 3 (.int .i64 (-1))).other (show q1 ≠ q by omega) 2 (.int .i64 7)).other (show q1 ≠ q by omega) 3 (.int .i64 0)).other (show q1 ≠ q by omega) 2 (.int .i64 8))
    have b2 : Below q w ((((w1.setCell ⟨q, 3, none⟩ (.int .i64 (-1))).setCell ⟨q, 2, none⟩ (.int .i64 7)).setCell ⟨q, 3, none⟩ (.int .i64 0)).setCell ⟨q, 2, none⟩ (.int .i64 8)) := ((((bb.setCell (p := ⟨q, 3, none⟩) (Nat.le_refl q) (.int .i64 (-1))).setCell (p := ⟨q, 2, none⟩) (Nat.le_refl q) (.int .i64 7)).setCell (p := ⟨q, 3, none⟩) (Nat.le_refl q) (.int .i64 0)).setCell (p := ⟨q, 2, none⟩) (Nat.le_refl q) (.int .i64 8))
    have y0 := X2.cell 0; have y1 := X2.cell 1; have y2 := X2.cell 2; have y3 := X2.cell 3; have y4 := X2.cell 4; have y5 := X2.cell 5; have y6 := X2.cell 6
    have s2 := fun i => S2.cell i; have g2 := fun i => S2.froz i
    have S3 := (((((((S2.set 0 (.int .i64 who)).set 1 (.int .i64 rv)).set 2 (.int .i64 8)).set 3 (.int .i64 0)).set 4 (.int .i64 wv)).set 5 (.slice ap n kp)).set 6 (.slice ar m kr))
    have s3 := fun i => S3.cell i
    have b3 := (((((((b2.setCell (p := ⟨q1, 0, none⟩) (show q ≤ q1 by omega) (.int .i64 who)).setCell (p := ⟨q1, 1, none⟩) (show q ≤ q1 by omega) (.int .i64 rv)).setCell (p := ⟨q1, 2, none⟩) (show q ≤ q1 by omega) (.int .i64 8)).setCell (p := ⟨q1, 3, none⟩) (show q ≤ q1 by omega) (.int .i64 0)).setCell (p := ⟨q1, 4, none⟩) (show q ≤ q1 by omega) (.int .i64 wv)).setCell (p := ⟨q1, 5, none⟩) (show q ≤ q1 by omega) (.slice ap n kp)).setCell (p := ⟨q1, 6, none⟩) (show q ≤ q1 by omega) (.slice ar m kr))
    clear X2 S2 S3 b2
    clear X0 b0 b1 X1 S1 bb
    go_enter Tryd.func24, Tryd.ntmps24
    go_wp2
    refine bodyPost_ret (v := .agg #[.int .i64 who, .int .i64 rv, .int .i64 8, .int .i64 0, .int .i64 wv, .slice ap n kp, .slice ar m kr]) (by simp [results, Tryd.results24, go_sem, s3]) rfl ⟨rfl, b3⟩
  · have hd : (x == 0) = false := by simp [hz]
    have hw1' : IntKind.i64.wrap (x - 1) = x - 1 := by rw [IntKind.wrap_i64]; omega
    have e1 : phB x = 7 := if_neg hz
    have e2 : atB x = x - 1 := if_neg hz
    rw [e1, e2]
    clear hz e1 e2
    have X2 : Blk ((w1.setCell ⟨q, 3, none⟩ (.int .i64 (x - 1))).setCell ⟨q, 2, none⟩ (.int .i64 7)) q #[.int .i64 who, .int .i64 rv, .int .i64 7, .int .i64 (x - 1), .int .i64 wv, .slice ap n kp, .slice ar m kr] 36 := ((X1.set 3 (.int .i64 (x - 1))).set 2 (.int .i64 7))
    have S2 : Blk ((w1.setCell ⟨q, 3, none⟩ (.int .i64 (x - 1))).setCell ⟨q, 2, none⟩ (.int .i64 7)) q1 #[.int .i64 0, .int .i64 0, .int .i64 0, .int .i64 0, .int .i64 0, .slice none 0 0, .slice none 0 0] 36 := ((S1.other (show q1 ≠ q by omega) 3 (.int .i64 (x - 1))).other (show q1 ≠ q by omega) 2 (.int .i64 7))
    have b2 : Below q w ((w1.setCell ⟨q, 3, none⟩ (.int .i64 (x - 1))).setCell ⟨q, 2, none⟩ (.int .i64 7)) := ((bb.setCell (p := ⟨q, 3, none⟩) (Nat.le_refl q) (.int .i64 (x - 1))).setCell (p := ⟨q, 2, none⟩) (Nat.le_refl q) (.int .i64 7))
    have y0 := X2.cell 0; have y1 := X2.cell 1; have y2 := X2.cell 2; have y3 := X2.cell 3; have y4 := X2.cell 4; have y5 := X2.cell 5; have y6 := X2.cell 6
    have s2 := fun i => S2.cell i; have g2 := fun i => S2.froz i
    have S3 := (((((((S2.set 0 (.int .i64 who)).set 1 (.int .i64 rv)).set 2 (.int .i64 7)).set 3 (.int .i64 (x - 1))).set 4 (.int .i64 wv)).set 5 (.slice ap n kp)).set 6 (.slice ar m kr))
    have s3 := fun i => S3.cell i
    have b3 := (((((((b2.setCell (p := ⟨q1, 0, none⟩) (show q ≤ q1 by omega) (.int .i64 who)).setCell (p := ⟨q1, 1, none⟩) (show q ≤ q1 by omega) (.int .i64 rv)).setCell (p := ⟨q1, 2, none⟩) (show q ≤ q1 by omega) (.int .i64 7)).setCell (p := ⟨q1, 3, none⟩) (show q ≤ q1 by omega) (.int .i64 (x - 1))).setCell (p := ⟨q1, 4, none⟩) (show q ≤ q1 by omega) (.int .i64 wv)).setCell (p := ⟨q1, 5, none⟩) (show q ≤ q1 by omega) (.slice ap n kp)).setCell (p := ⟨q1, 6, none⟩) (show q ≤ q1 by omega) (.slice ar m kr))
    clear X2 S2 S3 b2
    clear X0 b0 b1 X1 S1 bb
    go_enter Tryd.func24, Tryd.ntmps24
    go_wp2
    refine bodyPost_ret (v := .agg #[.int .i64 who, .int .i64 rv, .int .i64 7, .int .i64 (x - 1), .int .i64 wv, .slice ap n kp, .slice ar m kr]) (by simp [results, Tryd.results24, go_sem, s3]) rfl ⟨rfl, b3⟩

set_option maxRecDepth 100000 in
set_option maxHeartbeats 6400000 in
theorem backI (who rv ph at' wv : Int) (x : Int) (ap ar : Option Addr) (n kp m kr : Nat) (w : World) (hx0 : 0 ≤ x) (hx1 : x ≤ 1000000) :
    Calls Tryd.prog 70 #[.agg #[.int .i64 who, .int .i64 rv, .int .i64 ph, .int .i64 at', .int .i64 wv, .slice ap n kp, .slice ar m kr], .int .i64 x] w fun e w' => e = .returned (.agg #[.int .i64 who, .int .i64 rv, .int .i64 (phB x), .int .i64 (atB x), .int .i64 wv, .slice ap n kp, .slice ar m kr]) ∧ Below w.heap.size w w' := by
  obtain ⟨q, hq⟩ : ∃ q, w.heap.size = q := ⟨_, rfl⟩
  have X0 := Blk.new w #[.int .i64 who, .int .i64 rv, .int .i64 ph, .int .i64 at', .int .i64 wv, .slice ap n kp, .slice ar m kr] 36
  have b0 := alloc_below w (.cells #[.int .i64 who, .int .i64 rv, .int .i64 ph, .int .i64 at', .int .i64 wv, .slice ap n kp, .slice ar m kr] 36)
  obtain ⟨w0, hw0⟩ : ∃ w0, w.alloc (.cells #[.int .i64 who, .int .i64 rv, .int .i64 ph, .int .i64 at', .int .i64 wv, .slice ap n kp, .slice ar m kr] 36) = w0 := ⟨_, rfl⟩
  have hz0 : w0.heap.size = q + 1 := by rw [← hw0, ← hq]; simp
  rw [hw0] at X0 b0
  rw [hq] at X0 b0 ⊢
  obtain ⟨q1, hq1⟩ : ∃ q, w0.heap.size = q := ⟨_, rfl⟩
  have l01 : q < q1 := by omega
  clear hz0
  have S1 := Blk.new w0 #[.int .i64 0, .int .i64 0, .int .i64 0, .int .i64 0, .int .i64 0, .slice none 0 0, .slice none 0 0] 36
  have b1 := alloc_below w0 (.cells #[.int .i64 0, .int .i64 0, .int .i64 0, .int .i64 0, .int .i64 0, .slice none 0 0, .slice none 0 0] 36)
  obtain ⟨w1, hw1⟩ : ∃ w1, w0.alloc (.cells #[.int .i64 0, .int .i64 0, .int .i64 0, .int .i64 0, .int .i64 0, .slice none 0 0, .slice none 0 0] 36) = w1 := ⟨_, rfl⟩
  rw [hw1] at S1 b1
  rw [hq1] at S1 b1
  have X1 := X0.on b1 (by omega)
  have bb : Below q w w1 := b0.trans (b1.mono (by omega))
  have x2 := X1.cell 2; have x3 := X1.cell 3; have f1 := fun i => X1.froz i
  by_cases hz : x = 0
  · subst hz
    have X2 : Blk ((((w1.setCell ⟨q, 2, none⟩ (.int .i64 7)).setCell ⟨q, 3, none⟩ (.int .i64 (-1))).setCell ⟨q, 2, none⟩ (.int .i64 8)).setCell ⟨q, 3, none⟩ (.int .i64 0)) q #[.int .i64 who, .int .i64 rv, .int .i64 8, .int .i64 0, .int .i64 wv, .slice ap n kp, .slice ar m kr] 36 := ((((X1.set 2 (.int .i64 7)).set 3 (.int .i64 (-1))).set 2 (.int .i64 8)).set 3 (.int .i64 0))
    have S2 : Blk ((((w1.setCell ⟨q, 2, none⟩ (.int .i64 7)).setCell ⟨q, 3, none⟩ (.int .i64 (-1))).setCell ⟨q, 2, none⟩ (.int .i64 8)).setCell ⟨q, 3, none⟩ (.int .i64 0)) q1 #[.int .i64 0, .int .i64 0, .int .i64 0, .int .i64 0, .int .i64 0, .slice none 0 0, .slice none 0 0] 36 := ((((S1.other (show q1 ≠ q by omega) 2 (.int .i64 7)).other (show q1 ≠ q by omega) 3 (.int .i64 (-1))).other (show q1 ≠ q by omega) 2 (.int .i64 8)).other (show q1 ≠ q by omega) 3 (.int .i64 0))
    have b2 : Below q w ((((w1.setCell ⟨q, 2, none⟩ (.int .i64 7)).setCell ⟨q, 3, none⟩ (.int .i64 (-1))).setCell ⟨q, 2, none⟩ (.int .i64 8)).setCell ⟨q, 3, none⟩ (.int .i64 0)) := ((((bb.setCell (p := ⟨q, 2, none⟩) (Nat.le_refl q) (.int .i64 7)).setCell (p := ⟨q, 3, none⟩) (Nat.le_refl q) (.int .i64 (-1))).setCell (p := ⟨q, 2, none⟩) (Nat.le_refl q) (.int .i64 8)).setCell (p := ⟨q, 3, none⟩) (Nat.le_refl q) (.int .i64 0))
    have y0 := X2.cell 0; have y1 := X2.cell 1; have y2 := X2.cell 2; have y3 := X2.cell 3; have y4 := X2.cell 4; have y5 := X2.cell 5; have y6 := X2.cell 6
    have s2 := fun i => S2.cell i; have g2 := fun i => S2.froz i
    have S3 := (((((((S2.set 0 (.int .i64 who)).set 1 (.int .i64 rv)).set 2 (.int .i64 8)).set 3 (.int .i64 0)).set 4 (.int .i64 wv)).set 5 (.slice ap n kp)).set 6 (.slice ar m kr))
    have s3 := fun i => S3.cell i
    have b3 := (((((((b2.setCell (p := ⟨q1, 0, none⟩) (show q ≤ q1 by omega) (.int .i64 who)).setCell (p := ⟨q1, 1, none⟩) (show q ≤ q1 by omega) (.int .i64 rv)).setCell (p := ⟨q1, 2, none⟩) (show q ≤ q1 by omega) (.int .i64 8)).setCell (p := ⟨q1, 3, none⟩) (show q ≤ q1 by omega) (.int .i64 0)).setCell (p := ⟨q1, 4, none⟩) (show q ≤ q1 by omega) (.int .i64 wv)).setCell (p := ⟨q1, 5, none⟩) (show q ≤ q1 by omega) (.slice ap n kp)).setCell (p := ⟨q1, 6, none⟩) (show q ≤ q1 by omega) (.slice ar m kr))
    clear X2 S2 S3 b2
    clear X0 b0 b1 X1 S1 bb
    go_enter Tryd.func70, Tryd.ntmps70
    go_wp2
    refine bodyPost_ret (v := .agg #[.int .i64 who, .int .i64 rv, .int .i64 8, .int .i64 0, .int .i64 wv, .slice ap n kp, .slice ar m kr]) (by simp [results, Tryd.results70, go_sem, s3]) rfl ⟨rfl, b3⟩
  · have hd : (x == 0) = false := by simp [hz]
    have hw1' : IntKind.i64.wrap (x - 1) = x - 1 := by rw [IntKind.wrap_i64]; omega
    have e1 : phB x = 7 := if_neg hz
    have e2 : atB x = x - 1 := if_neg hz
    rw [e1, e2]
    clear hz e1 e2
    have X2 : Blk ((w1.setCell ⟨q, 2, none⟩ (.int .i64 7)).setCell ⟨q, 3, none⟩ (.int .i64 (x - 1))) q #[.int .i64 who, .int .i64 rv, .int .i64 7, .int .i64 (x - 1), .int .i64 wv, .slice ap n kp, .slice ar m kr] 36 := ((X1.set 2 (.int .i64 7)).set 3 (.int .i64 (x - 1)))
    have S2 : Blk ((w1.setCell ⟨q, 2, none⟩ (.int .i64 7)).setCell ⟨q, 3, none⟩ (.int .i64 (x - 1))) q1 #[.int .i64 0, .int .i64 0, .int .i64 0, .int .i64 0, .int .i64 0, .slice none 0 0, .slice none 0 0] 36 := ((S1.other (show q1 ≠ q by omega) 2 (.int .i64 7)).other (show q1 ≠ q by omega) 3 (.int .i64 (x - 1)))
    have b2 : Below q w ((w1.setCell ⟨q, 2, none⟩ (.int .i64 7)).setCell ⟨q, 3, none⟩ (.int .i64 (x - 1))) := ((bb.setCell (p := ⟨q, 2, none⟩) (Nat.le_refl q) (.int .i64 7)).setCell (p := ⟨q, 3, none⟩) (Nat.le_refl q) (.int .i64 (x - 1)))
    have y0 := X2.cell 0; have y1 := X2.cell 1; have y2 := X2.cell 2; have y3 := X2.cell 3; have y4 := X2.cell 4; have y5 := X2.cell 5; have y6 := X2.cell 6
    have s2 := fun i => S2.cell i; have g2 := fun i => S2.froz i
    have S3 := (((((((S2.set 0 (.int .i64 who)).set 1 (.int .i64 rv)).set 2 (.int .i64 7)).set 3 (.int .i64 (x - 1))).set 4 (.int .i64 wv)).set 5 (.slice ap n kp)).set 6 (.slice ar m kr))
    have s3 := fun i => S3.cell i
    have b3 := (((((((b2.setCell (p := ⟨q1, 0, none⟩) (show q ≤ q1 by omega) (.int .i64 who)).setCell (p := ⟨q1, 1, none⟩) (show q ≤ q1 by omega) (.int .i64 rv)).setCell (p := ⟨q1, 2, none⟩) (show q ≤ q1 by omega) (.int .i64 7)).setCell (p := ⟨q1, 3, none⟩) (show q ≤ q1 by omega) (.int .i64 (x - 1))).setCell (p := ⟨q1, 4, none⟩) (show q ≤ q1 by omega) (.int .i64 wv)).setCell (p := ⟨q1, 5, none⟩) (show q ≤ q1 by omega) (.slice ap n kp)).setCell (p := ⟨q1, 6, none⟩) (show q ≤ q1 by omega) (.slice ar m kr))
    clear X2 S2 S3 b2
    clear X0 b0 b1 X1 S1 bb
    go_enter Tryd.func70, Tryd.ntmps70
    go_wp2
    refine bodyPost_ret (v := .agg #[.int .i64 who, .int .i64 rv, .int .i64 7, .int .i64 (x - 1), .int .i64 wv, .slice ap n kp, .slice ar m kr]) (by simp [results, Tryd.results70, go_sem, s3]) rfl ⟨rfl, b3⟩
end Commits
end Go.Proofs.YtppikpdphcfomaaDoor
