/- Several texts of one proof, in build order: CommitOnW. -/
import Derived.Test.YtppikpdphcfomaaDoorCB9
/- On to the next phase that has steps. -/
set_option linter.unusedVariables false
set_option linter.unusedSimpArgs false
namespace Go.Proofs.YtppikpdphcfomaaDoor
open Go.RowKit
namespace Commits
open Bas Flat Logs
/-- the phase that one comes to -/
def goPh (n m : Nat) (p : Int) : Int := if p = 3 then (if m = 0 then (if n = 0 then 6 else 4) else 3) else if p = 4 then (if n = 0 then 6 else 4) else p

set_option maxRecDepth 100000 in
set_option maxHeartbeats 6400000 in
theorem onS (who rv ph at' wv : Int) (p : Int) (ap ar : Option Addr) (n kp m kr : Nat) (w : World) :
    Calls Tryd.prog 25 #[.agg #[.int .i64 who, .int .i64 rv, .int .i64 ph, .int .i64 at', .int .i64 wv, .slice ap n kp, .slice ar m kr], .int .i64 p] w fun e w' => e = .returned (.agg #[.int .i64 who, .int .i64 rv, .int .i64 (goPh n m p), .int .i64 0, .int .i64 wv, .slice ap n kp, .slice ar m kr]) ∧ Below w.heap.size w w' := by
  obtain ⟨q, hq⟩ : ∃ q, w.heap.size = q := ⟨_, rfl⟩
  have X0 := Blk.new w #[.int .i64 who, .int .i64 rv, .int .i64 ph, .int .i64 at', .int .i64 wv, .slice ap n kp, .slice ar m kr] 36
  have b0 := alloc_below w (.cells #[.int .i64 who, .int .i64 rv, .int .i64 ph, .int .i64 at', .int .i64 wv, .slice ap n kp, .slice ar m kr] 36)
  obtain ⟨w0, hw0⟩ : ∃ w0, w.alloc (.cells #[.int .i64 who, .int .i64 rv, .int .i64 ph, .int .i64 at', .int .i64 wv, .slice ap n kp, .slice ar m kr] 36) = w0 := ⟨_, rfl⟩
  have hz0 : w0.heap.size = q + 1 := by rw [← hw0, ← hq]; simp
  rw [hw0] at X0 b0
  rw [hq] at X0 b0 ⊢
  obtain ⟨q1, hq1⟩ : ∃ q, w0.heap.size = q := ⟨_, rfl⟩
  have l01 : q < q1 := by omega
  clear hz0
  have S1 := Blk.new w0 #[.int .i64 0, .int .i64 0, .int .i64 0, .int .i64 0, .int .i64 0, .slice none 0 0, .slice none 0 0] 36
  have b1 := alloc_below w0 (.cells #[.int .i64 0, .int .i64 0, .int .i64 0, .int .i64 0, .int .i64 0, .slice none 0 0, .slice none 0 0] 36)
  obtain ⟨w1, hw1⟩ : ∃ w1, w0.alloc (.cells #[.int .i64 0, .int .i64 0, .int .i64 0, .int .i64 0, .int .i64 0, .slice none 0 0, .slice none 0 0] 36) = w1 := ⟨_, rfl⟩
  rw [hw1] at S1 b1
  rw [hq1] at S1 b1
  have X1 := X0.on b1 (by omega)
  have bb : Below q w w1 := b0.trans (b1.mono (by omega))
  have x2 := X1.cell 2; have x3 := X1.cell 3; have x5 := X1.cell 5; have x6 := X1.cell 6; have f1 := fun i => X1.froz i
  clear X0 b0 b1
  have e3 : ∀ x : Int, ¬ x = 3 → (x == 3) = false := fun x h => by simp [h]
  have e4 : ∀ x : Int, ¬ x = 4 → (x == 4) = false := fun x h => by simp [h]
  by_cases h3 : p = 3
  · subst h3
    by_cases hm : m = 0
    · subst hm
      by_cases hn : n = 0
      · subst hn
        show Calls _ _ _ _ fun e w' => e = .returned (.agg #[.int .i64 who, .int .i64 rv, .int .i64 6, .int .i64 0, .int .i64 wv, .slice ap 0 kp, .slice ar 0 kr]) ∧ _
        have zc : (((w1.setCell ⟨q, 3, none⟩ (.int .i64 0)).setCell ⟨q, 2, none⟩ (.int .i64 3)).setCell ⟨q, 2, none⟩ (.int .i64 4)).cell? ⟨q, 2, none⟩ = some (.int .i64 4) := (((X1.set 3 (.int .i64 0)).set 2 (.int .i64 3)).set 2 (.int .i64 4)).cell 2
        have X2 : Blk ((((w1.setCell ⟨q, 3, none⟩ (.int .i64 0)).setCell ⟨q, 2, none⟩ (.int .i64 3)).setCell ⟨q, 2, none⟩ (.int .i64 4)).setCell ⟨q, 2, none⟩ (.int .i64 6)) q #[.int .i64 who, .int .i64 rv, .int .i64 6, .int .i64 0, .int .i64 wv, .slice ap 0 kp, .slice ar 0 kr] 36 := ((((X1.set 3 (.int .i64 0)).set 2 (.int .i64 3)).set 2 (.int .i64 4)).set 2 (.int .i64 6))
        have S2 : Blk ((((w1.setCell ⟨q, 3, none⟩ (.int .i64 0)).setCell ⟨q, 2, none⟩ (.int .i64 3)).setCell ⟨q, 2, none⟩ (.int .i64 4)).setCell ⟨q, 2, none⟩ (.int .i64 6)) q1 #[.int .i64 0, .int .i64 0, .int .i64 0, .int .i64 0, .int .i64 0, .slice none 0 0, .slice none 0 0] 36 := ((((S1.other (show q1 ≠ q by omega) 3 (.int .i64 0)).other (show q1 ≠ q by omega) 2 (.int .i64 3)).other (show q1 ≠ q by omega) 2 (.int .i64 4)).other (show q1 ≠ q by omega) 2 (.int .i64 6))
        have b2 : Below q w ((((w1.setCell ⟨q, 3, none⟩ (.int .i64 0)).setCell ⟨q, 2, none⟩ (.int .i64 3)).setCell ⟨q, 2, none⟩ (.int .i64 4)).setCell ⟨q, 2, none⟩ (.int .i64 6)) := ((((bb.setCell (p := ⟨q, 3, none⟩) (Nat.le_refl q) (.int .i64 0)).setCell (p := ⟨q, 2, none⟩) (Nat.le_refl q) (.int .i64 3)).setCell (p := ⟨q, 2, none⟩) (Nat.le_refl q) (.int .i64 4)).setCell (p := ⟨q, 2, none⟩) (Nat.le_refl q) (.int .i64 6))
        have y0 := X2.cell 0; have y1 := X2.cell 1; have y2 := X2.cell 2; have y3 := X2.cell 3; have y4 := X2.cell 4; have y5 := X2.cell 5; have y6 := X2.cell 6
        have s2 := fun i => S2.cell i; have g2 := fun i => S2.froz i
        have S9 := (((((((S2.set 0 (.int .i64 who)).set 1 (.int .i64 rv)).set 2 (.int .i64 6)).set 3 (.int .i64 0)).set 4 (.int .i64 wv)).set 5 (.slice ap 0 kp)).set 6 (.slice ar 0 kr))
        have s9 := fun i => S9.cell i
        have b9 := (((((((b2.setCell (p := ⟨q1, 0, none⟩) (show q ≤ q1 by omega) (.int .i64 who)).setCell (p := ⟨q1, 1, none⟩) (show q ≤ q1 by omega) (.int .i64 rv)).setCell (p := ⟨q1, 2, none⟩) (show q ≤ q1 by omega) (.int .i64 6)).setCell (p := ⟨q1, 3, none⟩) (show q ≤ q1 by omega) (.int .i64 0)).setCell (p := ⟨q1, 4, none⟩) (show q ≤ q1 by omega) (.int .i64 wv)).setCell (p := ⟨q1, 5, none⟩) (show q ≤ q1 by omega) (.slice ap 0 kp)).setCell (p := ⟨q1, 6, none⟩) (show q ≤ q1 by omega) (.slice ar 0 kr))
        clear X1 S1 bb X2 S2 b2 S9
        go_enter Tryd.func25, Tryd.ntmps25
        go_wp2
        refine bodyPost_ret (v := .agg #[.int .i64 who, .int .i64 rv, .int .i64 6, .int .i64 0, .int .i64 wv, .slice ap 0 kp, .slice ar 0 kr]) (by simp [results, Tryd.results25, go_sem, s9]) rfl ⟨rfl, b9⟩
      · have hgo : goPh n 0 3 = 4 := by unfold goPh; simp [hn]
        rw [hgo]
        have hd : ((n : Int) == 0) = false := by simp [hn]
        clear hgo
        have zc : ((w1.setCell ⟨q, 3, none⟩ (.int .i64 0)).setCell ⟨q, 2, none⟩ (.int .i64 3)).cell? ⟨q, 2, none⟩ = some (.int .i64 3) := ((X1.set 3 (.int .i64 0)).set 2 (.int .i64 3)).cell 2
        have X2 : Blk (((w1.setCell ⟨q, 3, none⟩ (.int .i64 0)).setCell ⟨q, 2, none⟩ (.int .i64 3)).setCell ⟨q, 2, none⟩ (.int .i64 4)) q #[.int .i64 who, .int .i64 rv, .int .i64 4, .int .i64 0, .int .i64 wv, .slice ap n kp, .slice ar 0 kr] 36 := (((X1.set 3 (.int .i64 0)).set 2 (.int .i64 3)).set 2 (.int .i64 4))
        have S2 : Blk (((w1.setCell ⟨q, 3, none⟩ (.int .i64 0)).setCell ⟨q, 2, none⟩ (.int .i64 3)).setCell ⟨q, 2, none⟩ (.int .i64 4)) q1 #[.int .i64 0, .int .i64 0, .int .i64 0, .int .i64 0, .int .i64 0, .slice none 0 0, .slice none 0 0] 36 := (((S1.other (show q1 ≠ q by omega) 3 (.int .i64 0)).other (show q1 ≠ q by omega) 2 (.int .i64 3)).other (show q1 ≠ q by omega) 2 (.int .i64 4))
        have b2 : Below q w (((w1.setCell ⟨q, 3, none⟩ (.int .i64 0)).setCell ⟨q, 2, none⟩ (.int .i64 3)).setCell ⟨q, 2, none⟩ (.int .i64 4)) := (((bb.setCell (p := ⟨q, 3, none⟩) (Nat.le_refl q) (.int .i64 0)).setCell (p := ⟨q, 2, none⟩) (Nat.le_refl q) (.int .i64 3)).setCell (p := ⟨q, 2, none⟩) (Nat.le_refl q) (.int .i64 4))
        have y0 := X2.cell 0; have y1 := X2.cell 1; have y2 := X2.cell 2; have y3 := X2.cell 3; have y4 := X2.cell 4; have y5 := X2.cell 5; have y6 := X2.cell 6
        have s2 := fun i => S2.cell i; have g2 := fun i => S2.froz i
        have S9 := (((((((S2.set 0 (.int .i64 who)).set 1 (.int .i64 rv)).set 2 (.int .i64 4)).set 3 (.int .i64 0)).set 4 (.int .i64 wv)).set 5 (.slice ap n kp)).set 6 (.slice ar 0 kr))
        have s9 := fun i => S9.cell i
        have b9 := (((((((b2.setCell (p := ⟨q1, 0, none⟩) (show q ≤ q1 by omega) (.int .i64 who)).setCell (p := ⟨q1, 1, none⟩) (show q ≤ q1 by omega) (.int .i64 rv)).setCell (p := ⟨q1, 2, none⟩) (show q ≤ q1 by omega) (.int .i64 4)).setCell (p := ⟨q1, 3, none⟩) (show q ≤ q1 by omega) (.int .i64 0)).setCell (p := ⟨q1, 4, none⟩) (show q ≤ q1 by omega) (.int .i64 wv)).setCell (p := ⟨q1, 5, none⟩) (show q ≤ q1 by omega) (.slice ap n kp)).setCell (p := ⟨q1, 6, none⟩) (show q ≤ q1 by omega) (.slice ar 0 kr))
        clear X1 S1 bb X2 S2 b2 S9
        go_enter Tryd.func25, Tryd.ntmps25
        go_wp2
        refine bodyPost_ret (v := .agg #[.int .i64 who, .int .i64 rv, .int .i64 4, .int .i64 0, .int .i64 wv, .slice ap n kp, .slice ar 0 kr]) (by simp [results, Tryd.results25, go_sem, s9]) rfl ⟨rfl, b9⟩
    · have hgo : goPh n m 3 = 3 := by unfold goPh; simp [hm]
      rw [hgo]
      have hd : ((m : Int) == 0) = false := by simp [hm]
      clear hgo
      have X2 : Blk ((w1.setCell ⟨q, 3, none⟩ (.int .i64 0)).setCell ⟨q, 2, none⟩ (.int .i64 3)) q #[.int .i64 who, .int .i64 rv, .int .i64 3, .int .i64 0, .int .i64 wv, .slice ap n kp, .slice ar m kr] 36 := ((X1.set 3 (.int .i64 0)).set 2 (.int .i64 3))
      have S2 : Blk ((w1.setCell ⟨q, 3, none⟩ (.int .i64 0)).setCell ⟨q, 2, none⟩ (.int .i64 3)) q1 #[.int .i64 0, .int .i64 0, .int .i64 0, .int .i64 0, .int .i64 0, .slice none 0 0, .slice none 0 0] 36 := ((S1.other (show q1 ≠ q by omega) 3 (.int .i64 0)).other (show q1 ≠ q by omega) 2 (.int .i64 3))
      have b2 : Below q w ((w1.setCell ⟨q, 3, none⟩ (.int .i64 0)).setCell ⟨q, 2, none⟩ (.int .i64 3)) := ((bb.setCell (p := ⟨q, 3, none⟩) (Nat.le_refl q) (.int .i64 0)).setCell (p := ⟨q, 2, none⟩) (Nat.le_refl q) (.int .i64 3))
      have y0 := X2.cell 0; have y1 := X2.cell 1; have y2 := X2.cell 2; have y3 := X2.cell 3; have y4 := X2.cell 4; have y5 := X2.cell 5; have y6 := X2.cell 6
      have s2 := fun i => S2.cell i; have g2 := fun i => S2.froz i
      have S9 := (((((((S2.set 0 (.int .i64 who)).set 1 (.int .i64 rv)).set 2 (.int .i64 3)).set 3 (.int .i64 0)).set 4 (.int .i64 wv)).set 5 (.slice ap n kp)).set 6 (.slice ar m kr))
      have s9 := fun i => S9.cell i
      have b9 := (((((((b2.setCell (p := ⟨q1, 0, none⟩) (show q ≤ q1 by omega) (.int .i64 who)).setCell (p := ⟨q1, 1, none⟩) (show q ≤ q1 by omega) (.int .i64 rv)).setCell (p := ⟨q1, 2, none⟩) (show q ≤ q1 by omega) (.int .i64 3)).setCell (p := ⟨q1, 3, none⟩) (show q ≤ q1 by omega) (.int .i64 0)).setCell (p := ⟨q1, 4, none⟩) (show q ≤ q1 by omega) (.int .i64 wv)).setCell (p := ⟨q1, 5, none⟩) (show q ≤ q1 by omega) (.slice ap n kp)).setCell (p := ⟨q1, 6, none⟩) (show q ≤ q1 by omega) (.slice ar m kr))
      clear X1 S1 bb X2 S2 b2 S9
      go_enter Tryd.func25, Tryd.ntmps25
      go_wp2
      refine bodyPost_ret (v := .agg #[.int .i64 who, .int .i64 rv, .int .i64 3, .int .i64 0, .int .i64 wv, .slice ap n kp, .slice ar m kr]) (by simp [results, Tryd.results25, go_sem, s9]) rfl ⟨rfl, b9⟩
  · by_cases h4 : p = 4
    · subst h4
      by_cases hn : n = 0
      · subst hn
        show Calls _ _ _ _ fun e w' => e = .returned (.agg #[.int .i64 who, .int .i64 rv, .int .i64 6, .int .i64 0, .int .i64 wv, .slice ap 0 kp, .slice ar m kr]) ∧ _
        have zc : ((w1.setCell ⟨q, 3, none⟩ (.int .i64 0)).setCell ⟨q, 2, none⟩ (.int .i64 4)).cell? ⟨q, 2, none⟩ = some (.int .i64 4) := ((X1.set 3 (.int .i64 0)).set 2 (.int .i64 4)).cell 2
        have X2 : Blk (((w1.setCell ⟨q, 3, none⟩ (.int .i64 0)).setCell ⟨q, 2, none⟩ (.int .i64 4)).setCell ⟨q, 2, none⟩ (.int .i64 6)) q #[.int .i64 who, .int .i64 rv, .int .i64 6, .int .i64 0, .int .i64 wv, .slice ap 0 kp, .slice ar m kr] 36 := (((X1.set 3 (.int .i64 0)).set 2 (.int .i64 4)).set 2 (.int .i64 6))
        have S2 : Blk (((w1.setCell ⟨q, 3, none⟩ (.int .i64 0)).setCell ⟨q, 2, none⟩ (.int .i64 4)).setCell ⟨q, 2, none⟩ (.int .i64 6)) q1 #[.int .i64 0, .int .i64 0, .int .i64 0, .int .i64 0, .int .i64 0, .slice none 0 0, .slice none 0 0] 36 := (((S1.other (show q1 ≠ q by omega) 3 (.int .i64 0)).other (show q1 ≠ q by omega) 2 (.int .i64 4)).other (show q1 ≠ q by omega) 2 (.int .i64 6))
        have b2 : Below q w (((w1.setCell ⟨q, 3, none⟩ (.int .i64 0)).setCell ⟨q, 2, none⟩ (.int .i64 4)).setCell ⟨q, 2, none⟩ (.int .i64 6)) := (((bb.setCell (p := ⟨q, 3, none⟩) (Nat.le_refl q) (.int .i64 0)).setCell (p := ⟨q, 2, none⟩) (Nat.le_refl q) (.int .i64 4)).setCell (p := ⟨q, 2, none⟩) (Nat.le_refl q) (.int .i64 6))
        have y0 := X2.cell 0; have y1 := X2.cell 1; have y2 := X2.cell 2; have y3 := X2.cell 3; have y4 := X2.cell 4; have y5 := X2.cell 5; have y6 := X2.cell 6
        have s2 := fun i => S2.cell i; have g2 := fun i => S2.froz i
        have S9 := (((((((S2.set 0 (.int .i64 who)).set 1 (.int .i64 rv)).set 2 (.int .i64 6)).set 3 (.int .i64 0)).set 4 (.int .i64 wv)).set 5 (.slice ap 0 kp)).set 6 (.slice ar m kr))
        have s9 := fun i => S9.cell i
        have b9 := (((((((b2.setCell (p := ⟨q1, 0, none⟩) (show q ≤ q1 by omega) (.int .i64 who)).setCell (p := ⟨q1, 1, none⟩) (show q ≤ q1 by omega) (.int .i64 rv)).setCell (p := ⟨q1, 2, none⟩) (show q ≤ q1 by omega) (.int .i64 6)).setCell (p := ⟨q1, 3, none⟩) (show q ≤ q1 by omega) (.int .i64 0)).setCell (p := ⟨q1, 4, none⟩) (show q ≤ q1 by omega) (.int .i64 wv)).setCell (p := ⟨q1, 5, none⟩) (show q ≤ q1 by omega) (.slice ap 0 kp)).setCell (p := ⟨q1, 6, none⟩) (show q ≤ q1 by omega) (.slice ar m kr))
        clear X1 S1 bb X2 S2 b2 S9
        go_enter Tryd.func25, Tryd.ntmps25
        go_wp2
        refine bodyPost_ret (v := .agg #[.int .i64 who, .int .i64 rv, .int .i64 6, .int .i64 0, .int .i64 wv, .slice ap 0 kp, .slice ar m kr]) (by simp [results, Tryd.results25, go_sem, s9]) rfl ⟨rfl, b9⟩
      · have hgo : goPh n m 4 = 4 := by unfold goPh; simp [hn]
        rw [hgo]
        have hd : ((n : Int) == 0) = false := by simp [hn]
        clear hgo
        have X2 : Blk ((w1.setCell ⟨q, 3, none⟩ (.int .i64 0)).setCell ⟨q, 2, none⟩ (.int .i64 4)) q #[.int .i64 who, .int .i64 rv, .int .i64 4, .int .i64 0, .int .i64 wv, .slice ap n kp, .slice ar m kr] 36 := ((X1.set 3 (.int .i64 0)).set 2 (.int .i64 4))
        have S2 : Blk ((w1.setCell ⟨q, 3, none⟩ (.int .i64 0)).setCell ⟨q, 2, none⟩ (.int .i64 4)) q1 #[.int .i64 0, .int .i64 0, .int .i64 0, .int .i64 0, .int .i64 0, .slice none 0 0, .slice none 0 0] 36 := ((S1.other (show q1 ≠ q by omega) 3 (.int .i64 0)).other (show q1 ≠ q by omega) 2 (.int .i64 4))
        have b2 : Below q w ((w1.setCell ⟨q, 3, none⟩ (.int .i64 0)).setCell ⟨q, 2, none⟩ (.int .i64 4)) := ((bb.setCell (p := ⟨q, 3, none⟩) (Nat.le_refl q) (.int .i64 0)).setCell (p := ⟨q, 2, none⟩) (Nat.le_refl q) (.int .i64 4))
        have y0 := X2.cell 0; have y1 := X2.cell 1; have y2 := X2.cell 2; have y3 := X2.cell 3; have y4 := X2.cell 4; have y5 := X2.cell 5; have y6 := X2.cell 6
        have s2 := fun i => S2.cell i; have g2 := fun i => S2.froz i
        have S9 := (((((((S2.set 0 (.int .i64 who)).set 1 (.int .i64 rv)).set 2 (.int .i64 4)).set 3 (.int .i64 0)).set 4 (.int .i64 wv)).set 5 (.slice ap n kp)).set 6 (.slice ar m kr))
        have s9 := fun i => S9.cell i
        have b9 := (((((((b2.setCell (p := ⟨q1, 0, none⟩) (show q ≤ q1 by omega) (.int .i64 who)).setCell (p := ⟨q1, 1, none⟩) (show q ≤ q1 by omega) (.int .i64 rv)).setCell (p := ⟨q1, 2, none⟩) (show q ≤ q1 by omega) (.int .i64 4)).setCell (p := ⟨q1, 3, none⟩) (show q ≤ q1 by omega) (.int .i64 0)).setCell (p := ⟨q1, 4, none⟩) (show q ≤ q1 by omega) (.int .i64 wv)).setCell (p := ⟨q1, 5, none⟩) (show q ≤ q1 by omega) (.slice ap n kp)).setCell (p := ⟨q1, 6, none⟩) (show q ≤ q1 by omega) (.slice ar m kr))
        clear X1 S1 bb X2 S2 b2 S9
        go_enter Tryd.func25, Tryd.ntmps25
        go_wp2
        refine bodyPost_ret (v := .agg #[.int .i64 who, .int .i64 rv, .int .i64 4, .int .i64 0, .int .i64 wv, .slice ap n kp, .slice ar m kr]) (by simp [results, Tryd.results25, go_sem, s9]) rfl ⟨rfl, b9⟩
    · have hgo : goPh n m p = p := by unfold goPh; rw [if_neg h3, if_neg h4]
      rw [hgo]
      have d3 := e3 p h3; have d4 := e4 p h4
      clear hgo h3 h4 e3 e4
      have X2 : Blk ((w1.setCell ⟨q, 3, none⟩ (.int .i64 0)).setCell ⟨q, 2, none⟩ (.int .i64 p)) q #[.int .i64 who, .int .i64 rv, .int .i64 p, .int .i64 0, .int .i64 wv, .slice ap n kp, .slice ar m kr] 36 := ((X1.set 3 (.int .i64 0)).set 2 (.int .i64 p))
      have S2 : Blk ((w1.setCell ⟨q, 3, none⟩ (.int .i64 0)).setCell ⟨q, 2, none⟩ (.int .i64 p)) q1 #[.int .i64 0, .int .i64 0, .int .i64 0, .int .i64 0, .int .i64 0, .slice none 0 0, .slice none 0 0] 36 := ((S1.other (show q1 ≠ q by omega) 3 (.int .i64 0)).other (show q1 ≠ q by omega) 2 (.int .i64 p))
      have b2 : Below q w ((w1.setCell ⟨q, 3, none⟩ (.int .i64 0)).setCell ⟨q, 2, none⟩ (.int .i64 p)) := ((bb.setCell (p := ⟨q, 3, none⟩) (Nat.le_refl q) (.int .i64 0)).setCell (p := ⟨q, 2, none⟩) (Nat.le_refl q) (.int .i64 p))
      have y0 := X2.cell 0; have y1 := X2.cell 1; have y2 := X2.cell 2; have y3 := X2.cell 3; have y4 := X2.cell 4; have y5 := X2.cell 5; have y6 := X2.cell 6
      have s2 := fun i => S2.cell i; have g2 := fun i => S2.froz i
      have S9 := (((((((S2.set 0 (.int .i64 who)).set 1 (.int .i64 rv)).set 2 (.int .i64 p)).set 3 (.int .i64 0)).set 4 (.int .i64 wv)).set 5 (.slice ap n kp)).set 6 (.slice ar m kr))
      have s9 := fun i => S9.cell i
      have b9 := (((((((b2.setCell (p := ⟨q1, 0, none⟩) (show q ≤ q1 by omega) (.int .i64 who)).setCell (p := ⟨q1, 1, none⟩) (show q ≤ q1 by omega) (.int .i64 rv)).setCell (p := ⟨q1, 2, none⟩) (show q ≤ q1 by omega) (.int .i64 p)).setCell (p := ⟨q1, 3, none⟩) (show q ≤ q1 by omega) (.int .i64 0)).setCell (p := ⟨q1, 4, none⟩) (show q ≤ q1 by omega) (.int .i64 wv)).setCell (p := ⟨q1, 5, none⟩) (show q ≤ q1 by omega) (.slice ap n kp)).setCell (p := ⟨q1, 6, none⟩) (show q ≤ q1 by omega) (.slice ar m kr))
      clear X1 S1 bb X2 S2 b2 S9
      go_enter Tryd.func25, Tryd.ntmps25
      go_wp2
      refine bodyPost_ret (v := .agg #[.int .i64 who, .int .i64 rv, .int .i64 p, .int .i64 0, .int .i64 wv, .slice ap n kp, .slice ar m kr]) (by simp [results, Tryd.results25, go_sem, s9]) rfl ⟨rfl, b9⟩

set_option maxRecDepth 100000 in
set_option maxHeartbeats 6400000 in
theorem onI (who rv ph at' wv : Int) (p : Int) (ap ar : Option Addr) (n kp m kr : Nat) (w : World) :
    Calls Tryd.prog 82 #[.agg #[.int .i64 who, .int .i64 rv, .int .i64 ph, .int .i64 at', .int .i64 wv, .slice ap n kp, .slice ar m kr], .int .i64 p] w fun e w' => e = .returned (.agg #[.int .i64 who, .int .i64 rv, .int .i64 (goPh n m p), .int .i64 0, .int .i64 wv, .slice ap n kp, .slice ar m kr]) ∧ Below w.heap.size w w' := by
  obtain ⟨q, hq⟩ : ∃ q, w.heap.size = q := ⟨_, rfl⟩
  have X0 := Blk.new w #[.int .i64 who, .int .i64 rv, .int .i64 ph, .int .i64 at', .int .i64 wv, .slice ap n kp, .slice ar m kr] 36
  have b0 := alloc_below w (.cells #[.int .i64 who, .int .i64 rv, .int .i64 ph, .int .i64 at', .int .i64 wv, .slice ap n kp, .slice ar m kr] 36)
  obtain ⟨w0, hw0⟩ : ∃ w0, w.alloc (.cells #[.int .i64 who, .int .i64 rv, .int .i64 ph, .int .i64 at', .int .i64 wv, .slice ap n kp, .slice ar m kr] 36) = w0 := ⟨_, rfl⟩
  have hz0 : w0.heap.size = q + 1 := by rw [← hw0, ← hq]; simp
  rw [hw0] at X0 b0
  rw [hq] at X0 b0 ⊢
  obtain ⟨q1, hq1⟩ : ∃ q, w0.heap.size = q := ⟨_, rfl⟩
  have l01 : q < q1 := by omega
  clear hz0
  have S1 := Blk.new w0 #[.int .i64 0, .int .i64 0, .int .i64 0, .int .i64 0, .int .i64 0, .slice none 0 0, .slice none 0 0] 36
  have b1 := alloc_below w0 (.cells #[.int .i64 0, .int .i64 0, .int .i64 0, .int .i64 0, .int .i64 0, .slice none 0 0, .slice none 0 0] 36)
  obtain ⟨w1, hw1⟩ : ∃ w1, w0.alloc (.cells #[.int .i64 0, .int .i64 0, .int .i64 0, .int .i64 0, .int .i64 0, .slice none 0 0, .slice none 0 0] 36) = w1 := ⟨_, rfl⟩
  rw [hw1] at S1 b1
  rw [hq1] at S1 b1
  have X1 := X0.on b1 (by omega)
  have bb : Below q w w1 := b0.trans (b1.mono (by omega))
  have x2 := X1.cell 2; have x3 := X1.cell 3; have x5 := X1.cell 5; have x6 := X1.cell 6; have f1 := fun i => X1.froz i
  clear X0 b0 b1
  have e3 : ∀ x : Int, ¬ x = 3 → (x == 3) = false := fun x h => by simp [h]
  have e4 : ∀ x : Int, ¬ x = 4 → (x == 4) = false := fun x h => by simp [h]
  by_cases h3 : p = 3
  · subst h3
    by_cases hm : m = 0
    · subst hm
      by_cases hn : n = 0
      · subst hn
        show Calls _ _ _ _ fun e w' => e = .returned (.agg #[.int .i64 who, .int .i64 rv, .int .i64 6, .int .i64 0, .int .i64 wv, .slice ap 0 kp, .slice ar 0 kr]) ∧ _
        have X2 : Blk ((w1.setCell ⟨q, 2, none⟩ (.int .i64 6)).setCell ⟨q, 3, none⟩ (.int .i64 0)) q #[.int .i64 who, .int .i64 rv, .int .i64 6, .int .i64 0, .int .i64 wv, .slice ap 0 kp, .slice ar 0 kr] 36 := ((X1.set 2 (.int .i64 6)).set 3 (.int .i64 0))
        have S2 : Blk ((w1.setCell ⟨q, 2, none⟩ (.int .i64 6)).setCell ⟨q, 3, none⟩ (.int .i64 0)) q1 #[.int .i64 0, .int .i64 0, .int .i64 0, .int .i64 0, .int .i64 0, .slice none 0 0, .slice none 0 0] 36 := ((S1.other (show q1 ≠ q by omega) 2 (.int .i64 6)).other (show q1 ≠ q by omega) 3 (.int .i64 0))
        have b2 : Below q w ((w1.setCell ⟨q, 2, none⟩ (.int .i64 6)).setCell ⟨q, 3, none⟩ (.int .i64 0)) := ((bb.setCell (p := ⟨q, 2, none⟩) (Nat.le_refl q) (.int .i64 6)).setCell (p := ⟨q, 3, none⟩) (Nat.le_refl q) (.int .i64 0))
        have y0 := X2.cell 0; have y1 := X2.cell 1; have y2 := X2.cell 2; have y3 := X2.cell 3; have y4 := X2.cell 4; have y5 := X2.cell 5; have y6 := X2.cell 6
        have s2 := fun i => S2.cell i; have g2 := fun i => S2.froz i
        have S9 := (((((((S2.set 0 (.int .i64 who)).set 1 (.int .i64 rv)).set 2 (.int .i64 6)).set 3 (.int .i64 0)).set 4 (.int .i64 wv)).set 5 (.slice ap 0 kp)).set 6 (.slice ar 0 kr))
        have s9 := fun i => S9.cell i
        have b9 := (((((((b2.setCell (p := ⟨q1, 0, none⟩) (show q ≤ q1 by omega) (.int .i64 who)).setCell (p := ⟨q1, 1, none⟩) (show q ≤ q1 by omega) (.int .i64 rv)).setCell (p := ⟨q1, 2, none⟩) (show q ≤ q1 by omega) (.int .i64 6)).setCell (p := ⟨q1, 3, none⟩) (show q ≤ q1 by omega) (.int .i64 0)).setCell (p := ⟨q1, 4, none⟩) (show q ≤ q1 by omega) (.int .i64 wv)).setCell (p := ⟨q1, 5, none⟩) (show q ≤ q1 by omega) (.slice ap 0 kp)).setCell (p := ⟨q1, 6, none⟩) (show q ≤ q1 by omega) (.slice ar 0 kr))
        clear X1 S1 bb X2 S2 b2 S9
        go_enter Tryd.func82, Tryd.ntmps82
        go_wp2
        refine bodyPost_ret (v := .agg #[.int .i64 who, .int .i64 rv, .int .i64 6, .int .i64 0, .int .i64 wv, .slice ap 0 kp, .slice ar 0 kr]) (by simp [results, Tryd.results82, go_sem, s9]) rfl ⟨rfl, b9⟩
      · have hgo : goPh n 0 3 = 4 := by unfold goPh; simp [hn]
        rw [hgo]
        have hd : ((n : Int) == 0) = false := by simp [hn]
        clear hgo
        have X2 : Blk ((w1.setCell ⟨q, 2, none⟩ (.int .i64 4)).setCell ⟨q, 3, none⟩ (.int .i64 0)) q #[.int .i64 who, .int .i64 rv, .int .i64 4, .int .i64 0, .int .i64 wv, .slice ap n kp, .slice ar 0 kr] 36 := ((X1.set 2 (.int .i64 4)).set 3 (.int .i64 0))
        have S2 : Blk ((w1.setCell ⟨q, 2, none⟩ (.int .i64 4)).setCell ⟨q, 3, none⟩ (.int .i64 0)) q1 #[.int .i64 0, .int .i64 0, .int .i64 0, .int .i64 0, .int .i64 0, .slice none 0 0, .slice none 0 0] 36 := ((S1.other (show q1 ≠ q by omega) 2 (.int .i64 4)).other (show q1 ≠ q by omega) 3 (.int .i64 0))
        have b2 : Below q w ((w1.setCell ⟨q, 2, none⟩ (.int .i64 4)).setCell ⟨q, 3, none⟩ (.int .i64 0)) := ((bb.setCell (p := ⟨q, 2, none⟩) (Nat.le_refl q) (.int .i64 4)).setCell (p := ⟨q, 3, none⟩) (Nat.le_refl q) (.int .i64 0))
        have y0 := X2.cell 0; have y1 := X2.cell 1; have y2 := X2.cell 2; have y3 := X2.cell 3; have y4 := X2.cell 4; have y5 := X2.cell 5; have y6 := X2.cell 6
        have s2 := fun i => S2.cell i; have g2 := fun i => S2.froz i
        have S9 := (((((((S2.set 0 (.int .i64 who)).set 1 (.int .i64 rv)).set 2 (.int .i64 4)).set 3 (.int .i64 0)).set 4 (.int .i64 wv)).set 5 (.slice ap n kp)).set 6 (.slice ar 0 kr))
        have s9 := fun i => S9.cell i
        have b9 := (((((((b2.setCell (p := ⟨q1, 0, none⟩) (show q ≤ q1 by omega) (.int .i64 who)).setCell (p := ⟨q1, 1, none⟩) (show q ≤ q1 by omega) (.int .i64 rv)).setCell (p := ⟨q1, 2, none⟩) (show q ≤ q1 by omega) (.int .i64 4)).setCell (p := ⟨q1, 3, none⟩) (show q ≤ q1 by omega) (.int .i64 0)).setCell (p := ⟨q1, 4, none⟩) (show q ≤ q1 by omega) (.int .i64 wv)).setCell (p := ⟨q1, 5, none⟩) (show q ≤ q1 by omega) (.slice ap n kp)).setCell (p := ⟨q1, 6, none⟩) (show q ≤ q1 by omega) (.slice ar 0 kr))
        clear X1 S1 bb X2 S2 b2 S9
        go_enter Tryd.func82, Tryd.ntmps82
        go_wp2
        refine bodyPost_ret (v := .agg #[.int .i64 who, .int .i64 rv, .int .i64 4, .int .i64 0, .int .i64 wv, .slice ap n kp, .slice ar 0 kr]) (by simp [results, Tryd.results82, go_sem, s9]) rfl ⟨rfl, b9⟩
    · have hgo : goPh n m 3 = 3 := by unfold goPh; simp [hm]
      rw [hgo]
      have hd : ((m : Int) == 0) = false := by simp [hm]
      clear hgo
      have X2 : Blk ((w1.setCell ⟨q, 2, none⟩ (.int .i64 3)).setCell ⟨q, 3, none⟩ (.int .i64 0)) q #[.int .i64 who, .int .i64 rv, .int .i64 3, .int .i64 0, .int .i64 wv, .slice ap n kp, .slice ar m kr] 36 := ((X1.set 2 (.int .i64 3)).set 3 (.int .i64 0))
      have S2 : Blk ((w1.setCell ⟨q, 2, none⟩ (.int .i64 3)).setCell ⟨q, 3, none⟩ (.int .i64 0)) q1 #[.int .i64 0, .int .i64 0, .int .i64 0, .int .i64 0, .int .i64 0, .slice none 0 0, .slice none 0 0] 36 := ((S1.other (show q1 ≠ q by omega) 2 (.int .i64 3)).other (show q1 ≠ q by omega) 3 (.int .i64 0))
      have b2 : Below q w ((w1.setCell ⟨q, 2, none⟩ (.int .i64 3)).setCell ⟨q, 3, none⟩ (.int .i64 0)) := ((bb.setCell (p := ⟨q, 2, none⟩) (Nat.le_refl q) (.int .i64 3)).setCell (p := ⟨q, 3, none⟩) (Nat.le_refl q) (.int .i64 0))
      have y0 := X2.cell 0; have y1 := X2.cell 1; have y2 := X2.cell 2; have y3 := X2.cell 3; have y4 := X2.cell 4; have y5 := X2.cell 5; have y6 := X2.cell 6
      have s2 := fun i => S2.cell i; have g2 := fun i => S2.froz i
      have S9 := (((((((S2.set 0 (.int .i64 who)).set 1 (.int .i64 rv)).set 2 (.int .i64 3)).set 3 (.int .i64 0)).set 4 (.int .i64 wv)).set 5 (.slice ap n kp)).set 6 (.slice ar m kr))
      have s9 := fun i => S9.cell i
      have b9 := (((((((b2.setCell (p := ⟨q1, 0, none⟩) (show q ≤ q1 by omega) (.int .i64 who)).setCell (p := ⟨q1, 1, none⟩) (show q ≤ q1 by omega) (.int .i64 rv)).setCell (p := ⟨q1, 2, none⟩) (show q ≤ q1 by omega) (.int .i64 3)).setCell (p := ⟨q1, 3, none⟩) (show q ≤ q1 by omega) (.int .i64 0)).setCell (p := ⟨q1, 4, none⟩) (show q ≤ q1 by omega) (.int .i64 wv)).setCell (p := ⟨q1, 5, none⟩) (show q ≤ q1 by omega) (.slice ap n kp)).setCell (p := ⟨q1, 6, none⟩) (show q ≤ q1 by omega) (.slice ar m kr))
      clear X1 S1 bb X2 S2 b2 S9
      go_enter Tryd.func82, Tryd.ntmps82
      go_wp2
      refine bodyPost_ret (v := .agg #[.int .i64 who, .int .i64 rv, .int .i64 3, .int .i64 0, .int .i64 wv, .slice ap n kp, .slice ar m kr]) (by simp [results, Tryd.results82, go_sem, s9]) rfl ⟨rfl, b9⟩
  · by_cases h4 : p = 4
    · subst h4
      by_cases hn : n = 0
      · subst hn
        show Calls _ _ _ _ fun e w' => e = .returned (.agg #[.int .i64 who, .int .i64 rv, .int .i64 6, .int .i64 0, .int .i64 wv, .slice ap 0 kp, .slice ar m kr]) ∧ _
        have X2 : Blk ((w1.setCell ⟨q, 2, none⟩ (.int .i64 6)).setCell ⟨q, 3, none⟩ (.int .i64 0)) q #[.int .i64 who, .int .i64 rv, .int .i64 6, .int .i64 0, .int .i64 wv, .slice ap 0 kp, .slice ar m kr] 36 := ((X1.set 2 (.int .i64 6)).set 3 (.int .i64 0))
        have S2 : Blk ((w1.setCell ⟨q, 2, none⟩ (.int .i64 6)).setCell ⟨q, 3, none⟩ (.int .i64 0)) q1 #[.int .i64 0, .int .i64 0, .int .i64 0, .int .i64 0, .int .i64 0, .slice none 0 0, .slice none 0 0] 36 := ((S1.other (show q1 ≠ q by omega) 2 (.int .i64 6)).other (show q1 ≠ q by omega) 3 (.int .i64 0))
        have b2 : Below q w ((w1.setCell ⟨q, 2, none⟩ (.int .i64 6)).setCell ⟨q, 3, none⟩ (.int .i64 0)) := ((bb.setCell (p := ⟨q, 2, none⟩) (Nat.le_refl q) (.int .i64 6)).setCell (p := ⟨q, 3, none⟩) (Nat.le_refl q) (.int .i64 0))
        have y0 := X2.cell 0; have y1 := X2.cell 1; have y2 := X2.cell 2; have y3 := X2.cell 3; have y4 := X2.cell 4; have y5 := X2.cell 5; have y6 := X2.cell 6
        have s2 := fun i => S2.cell i; have g2 := fun i => S2.froz i
        have S9 := (((((((S2.set 0 (.int .i64 who)).set 1 (.int .i64 rv)).set 2 (.int .i64 6)).set 3 (.int .i64 0)).set 4 (.int .i64 wv)).set 5 (.slice ap 0 kp)).set 6 (.slice ar m kr))
        have s9 := fun i => S9.cell i
        have b9 := (((((((b2.setCell (p := ⟨q1, 0, none⟩) (show q ≤ q1 by omega) (.int .i64 who)).setCell (p := ⟨q1, 1, none⟩) (show q ≤ q1 by omega) (.int .i64 rv)).setCell (p := ⟨q1, 2, none⟩) (show q ≤ q1 by omega) (.int .i64 6)).setCell (p := ⟨q1, 3, none⟩) (show q ≤ q1 by omega) (.int .i64 0)).setCell (p := ⟨q1, 4, none⟩) (show q ≤ q1 by omega) (.int .i64 wv)).setCell (p := ⟨q1, 5, none⟩) (show q ≤ q1 by omega) (.slice ap 0 kp)).setCell (p := ⟨q1, 6, none⟩) (show q ≤ q1 by omega) (.slice ar m kr))
        clear X1 S1 bb X2 S2 b2 S9
        go_enter Tryd.func82, Tryd.ntmps82
        go_wp2
        refine bodyPost_ret (v := .agg #[.int .i64 who, .int .i64 rv, .int .i64 6, .int .i64 0, .int .i64 wv, .slice ap 0 kp, .slice ar m kr]) (by simp [results, Tryd.results82, go_sem, s9]) rfl ⟨rfl, b9⟩
      · have hgo : goPh n m 4 = 4 := by unfold goPh; simp [hn]
        rw [hgo]
        have hd : ((n : Int) == 0) = false := by simp [hn]
        clear hgo
        have X2 : Blk ((w1.setCell ⟨q, 2, none⟩ (.int .i64 4)).setCell ⟨q, 3, none⟩ (.int .i64 0)) q #[.int .i64 who, .int .i64 rv, .int .i64 4, .int .i64 0, .int .i64 wv, .slice ap n kp, .slice ar m kr] 36 := ((X1.set 2 (.int .i64 4)).set 3 (.int .i64 0))
        have S2 : Blk ((w1.setCell ⟨q, 2, none⟩ (.int .i64 4)).setCell ⟨q, 3, none⟩ (.int .i64 0)) q1 #[.int .i64 0, .int .i64 0, .int .i64 0, .int .i64 0, .int .i64 0, .slice none 0 0, .slice none 0 0] 36 := ((S1.other (show q1 ≠ q by omega) 2 (.int .i64 4)).other (show q1 ≠ q by omega) 3 (.int .i64 0))
        have b2 : Below q w ((w1.setCell ⟨q, 2, none⟩ (.int .i64 4)).setCell ⟨q, 3, none⟩ (.int .i64 0)) := ((bb.setCell (p := ⟨q, 2, none⟩) (Nat.le_refl q) (.int .i64 4)).setCell (p := ⟨q, 3, none⟩) (Nat.le_refl q) (.int .i64 0))
        have y0 := X2.cell 0; have y1 := X2.cell 1; have y2 := X2.cell 2; have y3 := X2.cell 3; have y4 := X2.cell 4; have y5 := X2.cell 5; have y6 := X2.cell 6
        have s2 := fun i => S2.cell i; have g2 := fun i => S2.froz i
        have S9 := (((((((S2.set 0 (.int .i64 who)).set 1 (.int .i64 rv)).set 2 (.int .i64 4)).set 3 (.int .i64 0)).set 4 (.int .i64 wv)).set 5 (.slice ap n kp)).set 6 (.slice ar m kr))
        have s9 := fun i => S9.cell i
        have b9 := (((((((b2.setCell (p := ⟨q1, 0, none⟩) (show q ≤ q1 by omega) (.int .i64 who)).setCell (p := ⟨q1, 1, none⟩) (show q ≤ q1 by omega) (.int .i64 rv)).setCell (p := ⟨q1, 2, none⟩) (show q ≤ q1 by omega) (.int .i64 4)).setCell (p := ⟨q1, 3, none⟩) (show q ≤ q1 by omega) (.int .i64 0)).setCell (p := ⟨q1, 4, none⟩) (show q ≤ q1 by omega) (.int .i64 wv)).setCell (p := ⟨q1, 5, none⟩) (show q ≤ q1 by omega) (.slice ap n kp)).setCell (p := ⟨q1, 6, none⟩) (show q ≤ q1 by omega) (.slice ar m kr))
        clear X1 S1 bb X2 S2 b2 S9
        go_enter Tryd.func82, Tryd.ntmps82
        go_wp2
        refine bodyPost_ret (v := .agg #[.int .i64 who, .int .i64 rv, .int .i64 4, .int .i64 0, .int .i64 wv, .slice ap n kp, .slice ar m kr]) (by simp [results, Tryd.results82, go_sem, s9]) rfl ⟨rfl, b9⟩
    · have hgo : goPh n m p = p := by unfold goPh; rw [if_neg h3, if_neg h4]
      rw [hgo]
      have d3 := e3 p h3; have d4 := e4 p h4
      clear hgo h3 h4 e3 e4
      have X2 : Blk ((w1.setCell ⟨q, 2, none⟩ (.int .i64 p)).setCell ⟨q, 3, none⟩ (.int .i64 0)) q #[.int .i64 who, .int .i64 rv, .int .i64 p, .int .i64 0, .int .i64 wv, .slice ap n kp, .slice ar m kr] 36 := ((X1.set 2 (.int .i64 p)).set 3 (.int .i64 0))
      have S2 : Blk ((w1.setCell ⟨q, 2, none⟩ (.int .i64 p)).setCell ⟨q, 3, none⟩ (.int .i64 0)) q1 #[.int .i64 0, .int .i64 0, .int .i64 0, .int .i64 0, .int .i64 0, .slice none 0 0, .slice none 0 0] 36 := ((S1.other (show q1 ≠ q by omega) 2 (.int .i64 p)).other (show q1 ≠ q by omega) 3 (.int .i64 0))
      have b2 : Below q w ((w1.setCell ⟨q, 2, none⟩ (.int .i64 p)).setCell ⟨q, 3, none⟩ (.int .i64 0)) := ((bb.setCell (p := ⟨q, 2, none⟩) (Nat.le_refl q) (.int .i64 p)).setCell (p := ⟨q, 3, none⟩) (Nat.le_refl q) (.int .i64 0))
      have y0 := X2.cell 0; have y1 := X2.cell 1; have y2 := X2.cell 2; have y3 := X2.cell 3; have y4 := X2.cell 4; have y5 := X2.cell 5; have y6 := X2.cell 6
      have s2 := fun i => S2.cell i; have g2 := fun i => S2.froz i
      have S9 := (((((((S2.set 0 (.int .i64 who)).set 1 (.int .i64 rv)).set 2 (.int .i64 p)).set 3 (.int .i64 0)).set 4 (.int .i64 wv)).set 5 (.slice ap n kp)).set 6 (.slice ar m kr))
      have s9 := fun i => S9.cell i
      have b9 := (((((((b2.setCell (p := ⟨q1, 0, none⟩) (show q ≤ q1 by omega) (.int .i64 who)).setCell (p := ⟨q1, 1, none⟩) (show q ≤ q1 by omega) (.int .i64 rv)).setCell (p := ⟨q1, 2, none⟩) (show q ≤ q1 by omega) (.int .i64 p)).setCell (p := ⟨q1, 3, none⟩) (show q ≤ q1 by omega) (.int .i64 0)).setCell (p := ⟨q1, 4, none⟩) (show q ≤ q1 by omega) (.int .i64 wv)).setCell (p := ⟨q1, 5, none⟩) (show q ≤ q1 by omega) (.slice ap n kp)).setCell (p := ⟨q1, 6, none⟩) (show q ≤ q1 by omega) (.slice ar m kr))
      clear X1 S1 bb X2 S2 b2 S9
      go_enter Tryd.func82, Tryd.ntmps82
      go_wp2
      refine bodyPost_ret (v := .agg #[.int .i64 who, .int .i64 rv, .int .i64 p, .int .i64 0, .int .i64 wv, .slice ap n kp, .slice ar m kr]) (by simp [results, Tryd.results82, go_sem, s9]) rfl ⟨rfl, b9⟩
end Commits
end Go.Proofs.YtppikpdphcfomaaDoor
