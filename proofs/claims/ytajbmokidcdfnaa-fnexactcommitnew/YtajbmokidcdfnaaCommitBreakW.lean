/- CommitBreak: what both answer. -/
import Derived.Test.YtajbmokidcdfnaaCommitCopyW
import Derived.Test.YtajbmokidcdfnaaCommitBackW
set_option linter.unusedVariables false
set_option linter.unusedSimpArgs false
namespace Go.Proofs.Ytajbmokidcdfnaa
open Go.RowKit
namespace Commits
open Bas Flat Logs
/-- the phase and the place of a commit that is broken off -/
def brkPh (C : Cm) : Int := if commitOk C = true then (if C.ph = 1 then phB C.at' else if C.ph = 2 ∨ C.ph = 3 then phB C.ps.length else C.ph) else C.ph
def brkAt (C : Cm) : Int := if commitOk C = true then (if C.ph = 1 then atB C.at' else if C.ph = 2 ∨ C.ph = 3 then atB C.ps.length else C.at') else C.at'
theorem broke_no {C : Cm} (h : commitOk C = false) : brkPh C = C.ph ∧ brkAt C = C.at' ∧ broke C = false := by
  unfold brkPh brkAt broke
  rw [h]
  exact ⟨rfl, rfl, rfl⟩
theorem broke_late {C : Cm} (h : commitOk C = true) (h3 : 3 < C.ph) : brkPh C = C.ph ∧ brkAt C = C.at' ∧ broke C = false := by
  unfold brkPh brkAt broke
  rw [h, if_pos rfl, if_pos rfl, if_neg (by omega), if_neg (by omega), if_neg (by omega), if_neg (by omega), decide_eq_false (by omega)]
  exact ⟨rfl, rfl, rfl⟩
theorem broke_lock {C : Cm} (h : commitOk C = true) (h1 : C.ph = 1) : brkPh C = phB C.at' ∧ brkAt C = atB C.at' ∧ broke C = true := by
  unfold brkPh brkAt broke
  rw [h, if_pos rfl, if_pos rfl, if_pos h1, if_pos h1, decide_eq_true (by omega)]
  exact ⟨rfl, rfl, rfl⟩
theorem broke_mid {C : Cm} (h : commitOk C = true) (h1 : C.ph = 2 ∨ C.ph = 3) : brkPh C = phB C.ps.length ∧ brkAt C = atB C.ps.length ∧ broke C = true := by
  unfold brkPh brkAt broke
  have n1 : ¬ C.ph = 1 := by omega
  rw [h, if_pos rfl, if_pos rfl, if_neg n1, if_pos h1, if_neg n1, if_pos h1, decide_eq_true (by omega)]
  exact ⟨rfl, rfl, rfl⟩

theorem own7 {B q : Nat} {w : World} {vP vR u0 u1 u2 u3 u4 u5 u6 : Value} {ps : List R2} {rs : List Int} {cs : Array Value} (h : OwnC B w vP vR ps rs) (hb : Blk w q cs 30) :
    OwnC B (((((((w.setCell ⟨q, 0, none⟩ u0).setCell ⟨q, 1, none⟩ u1).setCell ⟨q, 2, none⟩ u2).setCell ⟨q, 3, none⟩ u3).setCell ⟨q, 4, none⟩ u4).setCell ⟨q, 5, none⟩ u5).setCell ⟨q, 6, none⟩ u6) vP vR ps rs := by
  have d1 : ∀ k, vP.ownBlock = some k → k ≠ q := h.p.off hb (by decide)
  have d2 : ∀ k, vR.ownBlock = some k → k ≠ q := by
    intro k hk
    have hr := h.r
    unfold Ints.Owns at hr
    obtain ⟨k1, k2⟩ := hr
    rcases k2 with ⟨rfl, h0⟩ | ⟨g, cap, cur, rfl, hg, hh, r⟩
    · cases hk
    · cases hk
      rintro rfl
      unfold Blk at hb
      rw [hb] at hh
      simp at hh
  exact ⟨Owns.other (Owns.other (Owns.other (Owns.other (Owns.other (Owns.other (Owns.other h.p d1 u0) d1 u1) d1 u2) d1 u3) d1 u4) d1 u5) d1 u6,
    ownI_other (ownI_other (ownI_other (ownI_other (ownI_other (ownI_other (ownI_other h.r d2 0 u0) d2 1 u1) d2 2 u2) d2 3 u3) d2 4 u4) d2 5 u5) d2 6 u6⟩

set_option maxRecDepth 100000 in
set_option maxHeartbeats 12800000 in
theorem specBreak (C : Cm) (who rv ph at' wv : Int) (ps : List R2) (rs : List Int) (hC : C = ⟨who, rv, ph, at', wv, ps, rs⟩) (vP vR : Value) (B : Nat) (w : World) (hv : SeeC B w vP vR ps rs) (hB : B ≤ w.heap.size) (hf1 : ps.length ≤ 1048576) (hf2 : rs.length ≤ 1048576) :
    Calls Try.prog 22 #[.agg #[.int .i64 who, .int .i64 rv, .int .i64 ph, .int .i64 at', .int .i64 wv, vP, vR]] w fun e w' => ∃ a k a' k', e = .returned (.tuple #[.agg #[.int .i64 who, .int .i64 rv, .int .i64 (brkPh C), .int .i64 (brkAt C), .int .i64 wv, .slice a ps.length k, .slice a' rs.length k'], .bool (broke C)]) ∧ OwnC w.heap.size w' (.slice a ps.length k) (.slice a' rs.length k') ps rs ∧ Below w.heap.size w w' := by
  have cO := fun (W : World) (u v : Value) (B : Nat) (h : SeeC B W u v ps rs) (hB : B ≤ W.heap.size) => specOkE C who rv ph at' wv ps rs hC u v B W h hB
  have hb := fun (h : commitOk C = true) => bounds_of h
  have b1 := fun (h : commitOk C = false) => broke_no h
  have b2 := fun (h : commitOk C = true) (h3 : 3 < C.ph) => broke_late h h3
  have b3 := fun (h : commitOk C = true) (h3 : C.ph = 1) => broke_lock h h3
  have b4 := fun (h : commitOk C = true) (h3 : C.ph = 2 ∨ C.ph = 3) => broke_mid h h3
  have hcp : C.ph = ph ∧ C.at' = at' ∧ C.ps = ps ∧ C.rs = rs := by subst hC; exact ⟨rfl, rfl, rfl, rfl⟩
  obtain ⟨hc1, hc2, hc3, hc4⟩ := hcp
  rw [hc1] at hb b1 b2 b3 b4
  rw [hc2] at hb b1 b2 b3
  rw [hc3] at hb b4
  rw [hc4] at hb
  clear hc1 hc2 hc3 hc4 hC
  obtain ⟨bp, hbp⟩ : ∃ x, brkPh C = x := ⟨_, rfl⟩
  obtain ⟨ba, hba⟩ : ∃ x, brkAt C = x := ⟨_, rfl⟩
  obtain ⟨bo, hbo⟩ : ∃ x, broke C = x := ⟨_, rfl⟩
  obtain ⟨co, hco⟩ : ∃ x, commitOk C = x := ⟨_, rfl⟩
  rw [hbp, hba, hbo] at b1 b2 b3 b4
  rw [hbp, hba, hbo]
  rw [hco] at cO hb b1 b2 b3 b4
  clear hbp hba hbo hco
  obtain ⟨ap, kp, rfl⟩ := hv.p.form
  obtain ⟨ar, kr, rfl⟩ := hv.r.form
  obtain ⟨n, hn⟩ : ∃ n, ps.length = n := ⟨_, rfl⟩
  obtain ⟨m, hm⟩ : ∃ m, rs.length = m := ⟨_, rfl⟩
  rw [hn] at hv hb b4 hf1 ⊢
  rw [hm] at hv hb hf2 ⊢
  obtain ⟨g, hg⟩ : ∃ g, w.heap.size = g := ⟨_, rfl⟩
  have X0 := Blk.new w #[.int .i64 who, .int .i64 rv, .int .i64 ph, .int .i64 at', .int .i64 wv, .slice ap n kp, .slice ar m kr] 30
  have b0 := alloc_below w (.cells #[.int .i64 who, .int .i64 rv, .int .i64 ph, .int .i64 at', .int .i64 wv, .slice ap n kp, .slice ar m kr] 30)
  obtain ⟨w0, hw0⟩ : ∃ w0, w.alloc (.cells #[.int .i64 who, .int .i64 rv, .int .i64 ph, .int .i64 at', .int .i64 wv, .slice ap n kp, .slice ar m kr] 30) = w0 := ⟨_, rfl⟩
  have hz0 : w0.heap.size = g + 1 := by rw [← hw0, ← hg]; simp
  rw [hw0] at X0 b0
  rw [hg] at X0 b0 hB ⊢
  obtain ⟨q1, hq1⟩ : ∃ q, w0.heap.size = q := ⟨_, rfl⟩
  have l01 : g < q1 := by omega
  clear hz0
  have S1 := Blk.new w0 #[.int .i64 0, .int .i64 0, .int .i64 0, .int .i64 0, .int .i64 0, .slice none 0 0, .slice none 0 0] 30
  have c1 := alloc_below w0 (.cells #[.int .i64 0, .int .i64 0, .int .i64 0, .int .i64 0, .int .i64 0, .slice none 0 0, .slice none 0 0] 30)
  obtain ⟨w1, hw1⟩ : ∃ w1, w0.alloc (.cells #[.int .i64 0, .int .i64 0, .int .i64 0, .int .i64 0, .int .i64 0, .slice none 0 0, .slice none 0 0] 30) = w1 := ⟨_, rfl⟩
  rw [hw1] at S1 c1
  rw [hq1] at S1 c1
  have X1 := X0.on c1 (by omega)
  have bb : Below g w w1 := b0.trans (c1.mono (by omega))
  have sv := hv.on bb hB
  have x0 := X1.cell 0; have x1 := X1.cell 1; have x2 := X1.cell 2; have x3 := X1.cell 3; have x4 := X1.cell 4; have x5 := X1.cell 5; have x6 := X1.cell 6
  go_enter Try.func22, Try.ntmps22
  go_wp2_with fail
  clear x0 x1 x2 x3 x4 x5 x6
  refine (copyS who rv ph at' wv ps rs _ _ B w1 sv (by have := bb.size; omega) (by omega) (by omega)).mono ?_
  rintro e w2 ⟨a2, k2, d2, l2, rfl, O2, b2'⟩
  rw [hn, hm] at O2
  rw [hn, hm]
  have X2 := X1.on b2' X1.lt; have S2 := S1.on b2' S1.lt
  have bb2 := bb.trans (b2'.mono (by have := bb.size; omega))
  have Y3 := Blk.new w2 #[.int .i64 who, .int .i64 rv, .int .i64 ph, .int .i64 at', .int .i64 wv, .slice a2 n k2, .slice d2 m l2] 30
  have b3' := alloc_below w2 (.cells #[.int .i64 who, .int .i64 rv, .int .i64 ph, .int .i64 at', .int .i64 wv, .slice a2 n k2, .slice d2 m l2] 30)
  obtain ⟨q3, hq3⟩ : ∃ q, w2.heap.size = q := ⟨_, rfl⟩
  obtain ⟨w3, hw3⟩ : ∃ W, w2.alloc (.cells #[.int .i64 who, .int .i64 rv, .int .i64 ph, .int .i64 at', .int .i64 wv, .slice a2 n k2, .slice d2 m l2] 30) = W := ⟨_, rfl⟩
  rw [hw3] at Y3 b3'
  have X3 := X2.on b3' X2.lt; have S3 := S2.on b3' S2.lt
  have l3 : g ≤ w1.heap.size := by have := bb.size; omega
  have O3 := (O2.on b3' (Nat.le_refl _)).mono l3
  have bb3 := bb2.trans (b3'.mono (by have := bb2.size; omega))
  rw [hq3] at Y3
  clear X0 X1 X2 S1 S2 O2 b0 c1 bb bb2 b2' b3' sv
  have x0 := X3.cell 0; have x1 := X3.cell 1; have x2 := X3.cell 2; have x3 := X3.cell 3; have x4 := X3.cell 4; have x5 := X3.cell 5; have x6 := X3.cell 6
  have y3 := fun i => Y3.cell i; have f3 := fun i => Y3.froz i
  have sv3 := hv.on bb3 hB
  go_wp2_with fail
  clear x0 x1 x2 x3 x4 x5 x6 y3 f3 hw3
  refine (cO w3 _ _ B sv3 (by have := bb3.size; omega)).mono ?_
  rintro e w4 ⟨rfl, b4'⟩
  have X := X3.on b4' X3.lt; have S := S3.on b4' S3.lt; have Y := Y3.on b4' Y3.lt; have O := O3.on b4' (Nat.le_refl _)
  have bb := bb3.trans (b4'.mono (by have := bb3.size; omega))
  clear X3 S3 Y3 O3 bb3 sv3 b4' cO
  have hq13 : q1 < w4.heap.size := S.lt
  have x2 := X.cell 2; have x3 := X.cell 3; have x5 := X.cell 5
  have y0 := Y.cell 0; have y1 := Y.cell 1; have y2 := Y.cell 2; have y3 := Y.cell 3; have y4 := Y.cell 4; have y5 := Y.cell 5; have y6 := Y.cell 6
  cases co
  · obtain ⟨rfl, rfl, rfl⟩ := b1 rfl
    clear hb b1 b2 b3 b4
    have S9 := (((((((S.set 0 (.int .i64 who)).set 1 (.int .i64 rv)).set 2 (.int .i64 bp)).set 3 (.int .i64 ba)).set 4 (.int .i64 wv)).set 5 (.slice a2 n k2)).set 6 (.slice d2 m l2))
    have s9 := fun i => S9.cell i
    have O9 := own7 (u0 := .int .i64 who) (u1 := .int .i64 rv) (u2 := .int .i64 bp) (u3 := .int .i64 ba) (u4 := .int .i64 wv) (u5 := .slice a2 n k2) (u6 := .slice d2 m l2) O S
    have b9 := (((((((bb.setCell (p := ⟨q1, 0, none⟩) (show g ≤ q1 by omega) (.int .i64 who)).setCell (p := ⟨q1, 1, none⟩) (show g ≤ q1 by omega) (.int .i64 rv)).setCell (p := ⟨q1, 2, none⟩) (show g ≤ q1 by omega) (.int .i64 bp)).setCell (p := ⟨q1, 3, none⟩) (show g ≤ q1 by omega) (.int .i64 ba)).setCell (p := ⟨q1, 4, none⟩) (show g ≤ q1 by omega) (.int .i64 wv)).setCell (p := ⟨q1, 5, none⟩) (show g ≤ q1 by omega) (.slice a2 n k2)).setCell (p := ⟨q1, 6, none⟩) (show g ≤ q1 by omega) (.slice d2 m l2))
    have s8 := fun i => S.cell i; have g8 := fun i => S.froz i
    clear S O X Y bb
    go_wp2
    refine bodyPost_ret (v := .tuple #[.agg #[.int .i64 who, .int .i64 rv, .int .i64 bp, .int .i64 ba, .int .i64 wv, .slice a2 n k2, .slice d2 m l2], .bool false]) (by simp [results, Try.results22, go_sem, s9]) rfl ?_
    exact ⟨_, _, _, _, rfl, O9, b9⟩
  obtain ⟨hb1, hb2, hb3, hb4, hb5⟩ := hb rfl
  by_cases h3 : 3 < ph
  · obtain ⟨rfl, rfl, rfl⟩ := b2 rfl h3
    clear hb b1 b2 b3 b4
    have S9 := (((((((S.set 0 (.int .i64 who)).set 1 (.int .i64 rv)).set 2 (.int .i64 bp)).set 3 (.int .i64 ba)).set 4 (.int .i64 wv)).set 5 (.slice a2 n k2)).set 6 (.slice d2 m l2))
    have s9 := fun i => S9.cell i
    have O9 := own7 (u0 := .int .i64 who) (u1 := .int .i64 rv) (u2 := .int .i64 bp) (u3 := .int .i64 ba) (u4 := .int .i64 wv) (u5 := .slice a2 n k2) (u6 := .slice d2 m l2) O S
    have b9 := (((((((bb.setCell (p := ⟨q1, 0, none⟩) (show g ≤ q1 by omega) (.int .i64 who)).setCell (p := ⟨q1, 1, none⟩) (show g ≤ q1 by omega) (.int .i64 rv)).setCell (p := ⟨q1, 2, none⟩) (show g ≤ q1 by omega) (.int .i64 bp)).setCell (p := ⟨q1, 3, none⟩) (show g ≤ q1 by omega) (.int .i64 ba)).setCell (p := ⟨q1, 4, none⟩) (show g ≤ q1 by omega) (.int .i64 wv)).setCell (p := ⟨q1, 5, none⟩) (show g ≤ q1 by omega) (.slice a2 n k2)).setCell (p := ⟨q1, 6, none⟩) (show g ≤ q1 by omega) (.slice d2 m l2))
    have s8 := fun i => S.cell i; have g8 := fun i => S.froz i
    clear S O X Y bb
    go_wp2
    refine bodyPost_ret (v := .tuple #[.agg #[.int .i64 who, .int .i64 rv, .int .i64 bp, .int .i64 ba, .int .i64 wv, .slice a2 n k2, .slice d2 m l2], .bool false]) (by simp [results, Try.results22, go_sem, s9]) rfl ?_
    exact ⟨_, _, _, _, rfl, O9, b9⟩
  have h3' : decide (3 < ph) = false := decide_eq_false h3
  by_cases h1 : ph = 1
  · obtain ⟨rfl, rfl, rfl⟩ := b3 rfl h1
    subst h1
    clear hb b1 b2 b3 b4
    go_wp2_with fail
    refine (backS who rv 1 at' wv at' a2 d2 n k2 m l2 w4 hb3 (by omega)).mono ?_
    rintro e w5 ⟨rfl, b5⟩
    have S5 := S.on b5 S.lt; have O5 := O.on b5 (Nat.le_refl _)
    have bb5 := bb.trans (b5.mono (by have := bb.size; omega))
    have S9 := (((((((S5.set 0 (.int .i64 who)).set 1 (.int .i64 rv)).set 2 (.int .i64 (phB at'))).set 3 (.int .i64 (atB at'))).set 4 (.int .i64 wv)).set 5 (.slice a2 n k2)).set 6 (.slice d2 m l2))
    have s9 := fun i => S9.cell i
    have O9 := own7 (u0 := .int .i64 who) (u1 := .int .i64 rv) (u2 := .int .i64 (phB at')) (u3 := .int .i64 (atB at')) (u4 := .int .i64 wv) (u5 := .slice a2 n k2) (u6 := .slice d2 m l2) O5 S5
    have b9 := (((((((bb5.setCell (p := ⟨q1, 0, none⟩) (show g ≤ q1 by omega) (.int .i64 who)).setCell (p := ⟨q1, 1, none⟩) (show g ≤ q1 by omega) (.int .i64 rv)).setCell (p := ⟨q1, 2, none⟩) (show g ≤ q1 by omega) (.int .i64 (phB at'))).setCell (p := ⟨q1, 3, none⟩) (show g ≤ q1 by omega) (.int .i64 (atB at'))).setCell (p := ⟨q1, 4, none⟩) (show g ≤ q1 by omega) (.int .i64 wv)).setCell (p := ⟨q1, 5, none⟩) (show g ≤ q1 by omega) (.slice a2 n k2)).setCell (p := ⟨q1, 6, none⟩) (show g ≤ q1 by omega) (.slice d2 m l2))
    have s8 := fun i => S5.cell i; have g8 := fun i => S5.froz i
    clear S O X Y bb S5 O5 bb5 y0 y1 y2 y3 y4 y5 y6 x2 x3 x5
    go_wp2
    refine bodyPost_ret (v := .tuple #[.agg #[.int .i64 who, .int .i64 rv, .int .i64 (phB at'), .int .i64 (atB at'), .int .i64 wv, .slice a2 n k2, .slice d2 m l2], .bool true]) (by simp [results, Try.results22, go_sem, s9]) rfl ?_
    exact ⟨_, _, _, _, rfl, O9, b9⟩
  obtain ⟨rfl, rfl, rfl⟩ := b4 rfl (by omega)
  have h1' : (ph == 1) = false := by simp [h1]
  clear hb b1 b2 b3 b4 h3 h1
  go_wp2_with fail
  refine (backS who rv ph at' wv (n : Int) a2 d2 n k2 m l2 w4 (by omega) (by omega)).mono ?_
  rintro e w5 ⟨rfl, b5⟩
  have S5 := S.on b5 S.lt; have O5 := O.on b5 (Nat.le_refl _)
  have bb5 := bb.trans (b5.mono (by have := bb.size; omega))
  have S9 := (((((((S5.set 0 (.int .i64 who)).set 1 (.int .i64 rv)).set 2 (.int .i64 (phB (n : Int)))).set 3 (.int .i64 (atB (n : Int)))).set 4 (.int .i64 wv)).set 5 (.slice a2 n k2)).set 6 (.slice d2 m l2))
  have s9 := fun i => S9.cell i
  have O9 := own7 (u0 := .int .i64 who) (u1 := .int .i64 rv) (u2 := .int .i64 (phB (n : Int))) (u3 := .int .i64 (atB (n : Int))) (u4 := .int .i64 wv) (u5 := .slice a2 n k2) (u6 := .slice d2 m l2) O5 S5
  have b9 := (((((((bb5.setCell (p := ⟨q1, 0, none⟩) (show g ≤ q1 by omega) (.int .i64 who)).setCell (p := ⟨q1, 1, none⟩) (show g ≤ q1 by omega) (.int .i64 rv)).setCell (p := ⟨q1, 2, none⟩) (show g ≤ q1 by omega) (.int .i64 (phB (n : Int)))).setCell (p := ⟨q1, 3, none⟩) (show g ≤ q1 by omega) (.int .i64 (atB (n : Int)))).setCell (p := ⟨q1, 4, none⟩) (show g ≤ q1 by omega) (.int .i64 wv)).setCell (p := ⟨q1, 5, none⟩) (show g ≤ q1 by omega) (.slice a2 n k2)).setCell (p := ⟨q1, 6, none⟩) (show g ≤ q1 by omega) (.slice d2 m l2))
  have s8 := fun i => S5.cell i; have g8 := fun i => S5.froz i
  clear S O X Y bb S5 O5 bb5 y0 y1 y2 y3 y4 y5 y6 x2 x3 x5
  go_wp2
  refine bodyPost_ret (v := .tuple #[.agg #[.int .i64 who, .int .i64 rv, .int .i64 (phB (n : Int)), .int .i64 (atB (n : Int)), .int .i64 wv, .slice a2 n k2, .slice d2 m l2], .bool true]) (by simp [results, Try.results22, go_sem, s9]) rfl ?_
  exact ⟨_, _, _, _, rfl, O9, b9⟩

set_option maxRecDepth 100000 in
set_option maxHeartbeats 12800000 in
theorem implBreak (C : Cm) (who rv ph at' wv : Int) (ps : List R2) (rs : List Int) (hC : C = ⟨who, rv, ph, at', wv, ps, rs⟩) (vP vR : Value) (B : Nat) (w : World) (hv : SeeC B w vP vR ps rs) (hB : B ≤ w.heap.size) (hf1 : ps.length ≤ 1048576) (hf2 : rs.length ≤ 1048576) :
    Calls Try.prog 23 #[.agg #[.int .i64 who, .int .i64 rv, .int .i64 ph, .int .i64 at', .int .i64 wv, vP, vR]] w fun e w' => ∃ a k a' k', e = .returned (.tuple #[.agg #[.int .i64 who, .int .i64 rv, .int .i64 (brkPh C), .int .i64 (brkAt C), .int .i64 wv, .slice a ps.length k, .slice a' rs.length k'], .bool (broke C)]) ∧ OwnC w.heap.size w' (.slice a ps.length k) (.slice a' rs.length k') ps rs ∧ Below w.heap.size w w' := by
  have cO := fun (W : World) (u v : Value) (B : Nat) (h : SeeC B W u v ps rs) (hB : B ≤ W.heap.size) => implOkE C who rv ph at' wv ps rs hC u v B W h hB
  have hb := fun (h : commitOk C = true) => bounds_of h
  have b1 := fun (h : commitOk C = false) => broke_no h
  have b2 := fun (h : commitOk C = true) (h3 : 3 < C.ph) => broke_late h h3
  have b3 := fun (h : commitOk C = true) (h3 : C.ph = 1) => broke_lock h h3
  have b4 := fun (h : commitOk C = true) (h3 : C.ph = 2 ∨ C.ph = 3) => broke_mid h h3
  have hcp : C.ph = ph ∧ C.at' = at' ∧ C.ps = ps ∧ C.rs = rs := by subst hC; exact ⟨rfl, rfl, rfl, rfl⟩
  obtain ⟨hc1, hc2, hc3, hc4⟩ := hcp
  rw [hc1] at hb b1 b2 b3 b4
  rw [hc2] at hb b1 b2 b3
  rw [hc3] at hb b4
  rw [hc4] at hb
  clear hc1 hc2 hc3 hc4 hC
  obtain ⟨bp, hbp⟩ : ∃ x, brkPh C = x := ⟨_, rfl⟩
  obtain ⟨ba, hba⟩ : ∃ x, brkAt C = x := ⟨_, rfl⟩
  obtain ⟨bo, hbo⟩ : ∃ x, broke C = x := ⟨_, rfl⟩
  obtain ⟨co, hco⟩ : ∃ x, commitOk C = x := ⟨_, rfl⟩
  rw [hbp, hba, hbo] at b1 b2 b3 b4
  rw [hbp, hba, hbo]
  rw [hco] at cO hb b1 b2 b3 b4
  clear hbp hba hbo hco
  obtain ⟨ap, kp, rfl⟩ := hv.p.form
  obtain ⟨ar, kr, rfl⟩ := hv.r.form
  obtain ⟨n, hn⟩ : ∃ n, ps.length = n := ⟨_, rfl⟩
  obtain ⟨m, hm⟩ : ∃ m, rs.length = m := ⟨_, rfl⟩
  rw [hn] at hv hb b4 hf1 ⊢
  rw [hm] at hv hb hf2 ⊢
  obtain ⟨g, hg⟩ : ∃ g, w.heap.size = g := ⟨_, rfl⟩
  have X0 := Blk.new w #[.int .i64 who, .int .i64 rv, .int .i64 ph, .int .i64 at', .int .i64 wv, .slice ap n kp, .slice ar m kr] 30
  have b0 := alloc_below w (.cells #[.int .i64 who, .int .i64 rv, .int .i64 ph, .int .i64 at', .int .i64 wv, .slice ap n kp, .slice ar m kr] 30)
  obtain ⟨w0, hw0⟩ : ∃ w0, w.alloc (.cells #[.int .i64 who, .int .i64 rv, .int .i64 ph, .int .i64 at', .int .i64 wv, .slice ap n kp, .slice ar m kr] 30) = w0 := ⟨_, rfl⟩
  have hz0 : w0.heap.size = g + 1 := by rw [← hw0, ← hg]; simp
  rw [hw0] at X0 b0
  rw [hg] at X0 b0 hB ⊢
  obtain ⟨q1, hq1⟩ : ∃ q, w0.heap.size = q := ⟨_, rfl⟩
  have l01 : g < q1 := by omega
  clear hz0
  have S1 := Blk.new w0 #[.int .i64 0, .int .i64 0, .int .i64 0, .int .i64 0, .int .i64 0, .slice none 0 0, .slice none 0 0] 30
  have c1 := alloc_below w0 (.cells #[.int .i64 0, .int .i64 0, .int .i64 0, .int .i64 0, .int .i64 0, .slice none 0 0, .slice none 0 0] 30)
  obtain ⟨w1, hw1⟩ : ∃ w1, w0.alloc (.cells #[.int .i64 0, .int .i64 0, .int .i64 0, .int .i64 0, .int .i64 0, .slice none 0 0, .slice none 0 0] 30) = w1 := ⟨_, rfl⟩
  rw [hw1] at S1 c1
  rw [hq1] at S1 c1
  have X1 := X0.on c1 (by omega)
  have bb : Below g w w1 := b0.trans (c1.mono (by omega))
  have sv := hv.on bb hB
  have x0 := X1.cell 0; have x1 := X1.cell 1; have x2 := X1.cell 2; have x3 := X1.cell 3; have x4 := X1.cell 4; have x5 := X1.cell 5; have x6 := X1.cell 6
  have xf := fun i => X1.froz i
  go_enter Try.func23, Try.ntmps23
  go_wp2_with fail
  clear x0 x1 x2 x3 x4 x5 x6 xf
  refine (copyI who rv ph at' wv ps rs _ _ B w1 sv (by have := bb.size; omega) (by omega) (by omega)).mono ?_
  rintro e w2 ⟨a2, k2, d2, l2, rfl, O2, b2'⟩
  rw [hn, hm] at O2
  rw [hn, hm]
  have X2 := X1.on b2' X1.lt; have S2 := S1.on b2' S1.lt
  have bb2 := bb.trans (b2'.mono (by have := bb.size; omega))
  have l3 : g ≤ w1.heap.size := by have := bb.size; omega
  have hne : q1 ≠ g := by omega
  have X3 := (((((((X2.set 0 (.int .i64 who)).set 1 (.int .i64 rv)).set 2 (.int .i64 ph)).set 3 (.int .i64 at')).set 4 (.int .i64 wv)).set 5 (.slice a2 n k2)).set 6 (.slice d2 m l2))
  have S3 := (((((((S2.other hne 0 (.int .i64 who)).other hne 1 (.int .i64 rv)).other hne 2 (.int .i64 ph)).other hne 3 (.int .i64 at')).other hne 4 (.int .i64 wv)).other hne 5 (.slice a2 n k2)).other hne 6 (.slice d2 m l2))
  have O3 := (own7 (u0 := .int .i64 who) (u1 := .int .i64 rv) (u2 := .int .i64 ph) (u3 := .int .i64 at') (u4 := .int .i64 wv) (u5 := .slice a2 n k2) (u6 := .slice d2 m l2) O2 X2).mono l3
  have bb3 := (((((((bb2.setCell (p := ⟨g, 0, none⟩) (show g ≤ g by omega) (.int .i64 who)).setCell (p := ⟨g, 1, none⟩) (show g ≤ g by omega) (.int .i64 rv)).setCell (p := ⟨g, 2, none⟩) (show g ≤ g by omega) (.int .i64 ph)).setCell (p := ⟨g, 3, none⟩) (show g ≤ g by omega) (.int .i64 at')).setCell (p := ⟨g, 4, none⟩) (show g ≤ g by omega) (.int .i64 wv)).setCell (p := ⟨g, 5, none⟩) (show g ≤ g by omega) (.slice a2 n k2)).setCell (p := ⟨g, 6, none⟩) (show g ≤ g by omega) (.slice d2 m l2))
  have x2f := fun i => X2.cell i; have xf := fun i => X2.froz i
  obtain ⟨w3, hw3⟩ : ∃ W, (((((((w2.setCell ⟨g, 0, none⟩ (.int .i64 who)).setCell ⟨g, 1, none⟩ (.int .i64 rv)).setCell ⟨g, 2, none⟩ (.int .i64 ph)).setCell ⟨g, 3, none⟩ (.int .i64 at')).setCell ⟨g, 4, none⟩ (.int .i64 wv)).setCell ⟨g, 5, none⟩ (.slice a2 n k2)).setCell ⟨g, 6, none⟩ (.slice d2 m l2)) = W := ⟨_, rfl⟩
  have X3 : Blk w3 g #[.int .i64 who, .int .i64 rv, .int .i64 ph, .int .i64 at', .int .i64 wv, .slice a2 n k2, .slice d2 m l2] 30 := hw3 ▸ X3
  rw [hw3] at S3 O3 bb3
  clear X0 X1 X2 S1 S2 O2 b0 c1 bb bb2 b2' sv
  have x0 := X3.cell 0; have x1 := X3.cell 1; have x2 := X3.cell 2; have x3 := X3.cell 3; have x4 := X3.cell 4; have x5 := X3.cell 5; have x6 := X3.cell 6
  have sv3 := O3.sees
  go_wp2_with fail
  try rw [hw3]
  clear x0 x1 x2 x3 x4 x5 x6 x2f xf hw3
  refine (cO w3 _ _ _ sv3 (Nat.le_refl _)).mono ?_
  rintro e w4 ⟨rfl, b4'⟩
  have X := X3.on b4' X3.lt; have S := S3.on b4' S3.lt; have O := O3.on b4' (Nat.le_refl _)
  have bb := bb3.trans (b4'.mono (by have := bb3.size; omega))
  clear X3 S3 O3 bb3 sv3 b4' cO
  have hq13 : q1 < w4.heap.size := S.lt
  have y0 := X.cell 0; have y1 := X.cell 1; have y2 := X.cell 2; have y3 := X.cell 3; have y4 := X.cell 4; have y5 := X.cell 5; have y6 := X.cell 6
  cases co
  · obtain ⟨rfl, rfl, rfl⟩ := b1 rfl
    clear hb b1 b2 b3 b4
    have S9 := (((((((S.set 0 (.int .i64 who)).set 1 (.int .i64 rv)).set 2 (.int .i64 bp)).set 3 (.int .i64 ba)).set 4 (.int .i64 wv)).set 5 (.slice a2 n k2)).set 6 (.slice d2 m l2))
    have s9 := fun i => S9.cell i
    have O9 := own7 (u0 := .int .i64 who) (u1 := .int .i64 rv) (u2 := .int .i64 bp) (u3 := .int .i64 ba) (u4 := .int .i64 wv) (u5 := .slice a2 n k2) (u6 := .slice d2 m l2) O S
    have b9 := (((((((bb.setCell (p := ⟨q1, 0, none⟩) (show g ≤ q1 by omega) (.int .i64 who)).setCell (p := ⟨q1, 1, none⟩) (show g ≤ q1 by omega) (.int .i64 rv)).setCell (p := ⟨q1, 2, none⟩) (show g ≤ q1 by omega) (.int .i64 bp)).setCell (p := ⟨q1, 3, none⟩) (show g ≤ q1 by omega) (.int .i64 ba)).setCell (p := ⟨q1, 4, none⟩) (show g ≤ q1 by omega) (.int .i64 wv)).setCell (p := ⟨q1, 5, none⟩) (show g ≤ q1 by omega) (.slice a2 n k2)).setCell (p := ⟨q1, 6, none⟩) (show g ≤ q1 by omega) (.slice d2 m l2))
    have s8 := fun i => S.cell i; have g8 := fun i => S.froz i
    clear S O X bb
    go_wp2
    refine bodyPost_ret (v := .tuple #[.agg #[.int .i64 who, .int .i64 rv, .int .i64 bp, .int .i64 ba, .int .i64 wv, .slice a2 n k2, .slice d2 m l2], .bool false]) (by simp [results, Try.results23, go_sem, s9]) rfl ?_
    exact ⟨_, _, _, _, rfl, O9, b9⟩
  obtain ⟨hb1, hb2, hb3, hb4, hb5⟩ := hb rfl
  by_cases h3 : 3 < ph
  · obtain ⟨rfl, rfl, rfl⟩ := b2 rfl h3
    have h1' : (bp == 1) = false := by simp; omega
    have h2' : (bp == 2) = false := by simp; omega
    have h3' : (bp == 3) = false := by simp; omega
    clear hb b1 b2 b3 b4
    have S9 := (((((((S.set 0 (.int .i64 who)).set 1 (.int .i64 rv)).set 2 (.int .i64 bp)).set 3 (.int .i64 ba)).set 4 (.int .i64 wv)).set 5 (.slice a2 n k2)).set 6 (.slice d2 m l2))
    have s9 := fun i => S9.cell i
    have O9 := own7 (u0 := .int .i64 who) (u1 := .int .i64 rv) (u2 := .int .i64 bp) (u3 := .int .i64 ba) (u4 := .int .i64 wv) (u5 := .slice a2 n k2) (u6 := .slice d2 m l2) O S
    have b9 := (((((((bb.setCell (p := ⟨q1, 0, none⟩) (show g ≤ q1 by omega) (.int .i64 who)).setCell (p := ⟨q1, 1, none⟩) (show g ≤ q1 by omega) (.int .i64 rv)).setCell (p := ⟨q1, 2, none⟩) (show g ≤ q1 by omega) (.int .i64 bp)).setCell (p := ⟨q1, 3, none⟩) (show g ≤ q1 by omega) (.int .i64 ba)).setCell (p := ⟨q1, 4, none⟩) (show g ≤ q1 by omega) (.int .i64 wv)).setCell (p := ⟨q1, 5, none⟩) (show g ≤ q1 by omega) (.slice a2 n k2)).setCell (p := ⟨q1, 6, none⟩) (show g ≤ q1 by omega) (.slice d2 m l2))
    have s8 := fun i => S.cell i; have g8 := fun i => S.froz i
    clear S O X bb
    go_wp2
    refine bodyPost_ret (v := .tuple #[.agg #[.int .i64 who, .int .i64 rv, .int .i64 bp, .int .i64 ba, .int .i64 wv, .slice a2 n k2, .slice d2 m l2], .bool false]) (by simp [results, Try.results23, go_sem, s9]) rfl ?_
    exact ⟨_, _, _, _, rfl, O9, b9⟩
  by_cases h1 : ph = 1
  · obtain ⟨rfl, rfl, rfl⟩ := b3 rfl h1
    subst h1
    clear hb b1 b2 b3 b4
    go_wp2_with fail
    refine (backI who rv 1 at' wv at' a2 d2 n k2 m l2 w4 hb3 (by omega)).mono ?_
    rintro e w5 ⟨rfl, b5⟩
    have S5 := S.on b5 S.lt; have O5 := O.on b5 (Nat.le_refl _)
    have bb5 := bb.trans (b5.mono (by have := bb.size; omega))
    have S9 := (((((((S5.set 0 (.int .i64 who)).set 1 (.int .i64 rv)).set 2 (.int .i64 (phB at'))).set 3 (.int .i64 (atB at'))).set 4 (.int .i64 wv)).set 5 (.slice a2 n k2)).set 6 (.slice d2 m l2))
    have s9 := fun i => S9.cell i
    have O9 := own7 (u0 := .int .i64 who) (u1 := .int .i64 rv) (u2 := .int .i64 (phB at')) (u3 := .int .i64 (atB at')) (u4 := .int .i64 wv) (u5 := .slice a2 n k2) (u6 := .slice d2 m l2) O5 S5
    have b9 := (((((((bb5.setCell (p := ⟨q1, 0, none⟩) (show g ≤ q1 by omega) (.int .i64 who)).setCell (p := ⟨q1, 1, none⟩) (show g ≤ q1 by omega) (.int .i64 rv)).setCell (p := ⟨q1, 2, none⟩) (show g ≤ q1 by omega) (.int .i64 (phB at'))).setCell (p := ⟨q1, 3, none⟩) (show g ≤ q1 by omega) (.int .i64 (atB at'))).setCell (p := ⟨q1, 4, none⟩) (show g ≤ q1 by omega) (.int .i64 wv)).setCell (p := ⟨q1, 5, none⟩) (show g ≤ q1 by omega) (.slice a2 n k2)).setCell (p := ⟨q1, 6, none⟩) (show g ≤ q1 by omega) (.slice d2 m l2))
    have s8 := fun i => S5.cell i; have g8 := fun i => S5.froz i
    clear S O X bb S5 O5 bb5 y0 y1 y2 y3 y4 y5 y6
    go_wp2
    refine bodyPost_ret (v := .tuple #[.agg #[.int .i64 who, .int .i64 rv, .int .i64 (phB at'), .int .i64 (atB at'), .int .i64 wv, .slice a2 n k2, .slice d2 m l2], .bool true]) (by simp [results, Try.results23, go_sem, s9]) rfl ?_
    exact ⟨_, _, _, _, rfl, O9, b9⟩
  obtain ⟨rfl, rfl, rfl⟩ := b4 rfl (by omega)
  have h1' : (ph == 1) = false := by simp [h1]
  obtain h2 | h2 : ph = 2 ∨ ph = 3 := by omega
  all_goals
    subst h2
    clear hb b1 b2 b3 b4 h3 h1 h1'
    go_wp2_with fail
    refine (backI who rv _ at' wv (n : Int) a2 d2 n k2 m l2 w4 (by omega) (by omega)).mono ?_
    rintro e w5 ⟨rfl, b5⟩
    have S5 := S.on b5 S.lt; have O5 := O.on b5 (Nat.le_refl _)
    have bb5 := bb.trans (b5.mono (by have := bb.size; omega))
    have S9 := (((((((S5.set 0 (.int .i64 who)).set 1 (.int .i64 rv)).set 2 (.int .i64 (phB (n : Int)))).set 3 (.int .i64 (atB (n : Int)))).set 4 (.int .i64 wv)).set 5 (.slice a2 n k2)).set 6 (.slice d2 m l2))
    have s9 := fun i => S9.cell i
    have O9 := own7 (u0 := .int .i64 who) (u1 := .int .i64 rv) (u2 := .int .i64 (phB (n : Int))) (u3 := .int .i64 (atB (n : Int))) (u4 := .int .i64 wv) (u5 := .slice a2 n k2) (u6 := .slice d2 m l2) O5 S5
    have b9 := (((((((bb5.setCell (p := ⟨q1, 0, none⟩) (show g ≤ q1 by omega) (.int .i64 who)).setCell (p := ⟨q1, 1, none⟩) (show g ≤ q1 by omega) (.int .i64 rv)).setCell (p := ⟨q1, 2, none⟩) (show g ≤ q1 by omega) (.int .i64 (phB (n : Int)))).setCell (p := ⟨q1, 3, none⟩) (show g ≤ q1 by omega) (.int .i64 (atB (n : Int)))).setCell (p := ⟨q1, 4, none⟩) (show g ≤ q1 by omega) (.int .i64 wv)).setCell (p := ⟨q1, 5, none⟩) (show g ≤ q1 by omega) (.slice a2 n k2)).setCell (p := ⟨q1, 6, none⟩) (show g ≤ q1 by omega) (.slice d2 m l2))
    have s8 := fun i => S5.cell i; have g8 := fun i => S5.froz i
    clear S O X bb S5 O5 bb5 y0 y1 y2 y3 y4 y5 y6
    go_wp2
    refine bodyPost_ret (v := .tuple #[.agg #[.int .i64 who, .int .i64 rv, .int .i64 (phB (n : Int)), .int .i64 (atB (n : Int)), .int .i64 wv, .slice a2 n k2, .slice d2 m l2], .bool true]) (by simp [results, Try.results23, go_sem, s9]) rfl ?_
    exact ⟨_, _, _, _, rfl, O9, b9⟩
end Commits
end Go.Proofs.Ytajbmokidcdfnaa
