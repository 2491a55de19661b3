/- Several texts of one proof, in build order: CommitCopyW. -/
import Derived.Test.YtppikpdphcfomaaDoorCB9
/- A commit's copies; going back over locks. -/
set_option linter.unusedVariables false
set_option linter.unusedSimpArgs false
namespace Go.Proofs.YtppikpdphcfomaaDoor
open Go.RowKit
namespace Commits
open Bas Flat Logs
theorem appNilR (v : Value) (ty : TypeId) (ps : List R2) (B : Nat) (w : World) (hv : Sees2 B w v ps) (hlen : ps.length ≤ 1048576) :
    ∃ v' w', (Builtin.append_ #[34, 34] 34 #[.slice none 0 0, v]).run Tryd.prog w = .ok v' w' ∧ Owns2 w.heap.size w' v' ps ∧ Below w.heap.size w w' := by
  obtain ⟨v', w', hr, hO, hG, -⟩ := app rowRow (.slice none 0 0) v 34 [] ps B w.heap.size w (Owns.nil _ _ _ _) (Nat.le_refl _) hv (by simp; omega)
  rw [List.nil_append] at hO
  exact ⟨v', w', hr, hO, (Below.refl _ _).grown hG (Nat.le_refl _) (fun k hk => by cases hk)⟩
theorem appLitR (v : Value) (ps : List R2) (B : Nat) (w : World) (hv : Sees2 B w v ps) (hB : B ≤ w.heap.size) (hlen : ps.length ≤ 1048576) :
    ∃ v' w', (Builtin.append_ #[34, 34] 34 #[.slice (some ⟨w.heap.size, 0, none⟩) 0 0, v]).run Tryd.prog (w.alloc (.cells #[] 56)) = .ok v' w' ∧ Owns2 w.heap.size w' v' ps ∧ Below w.heap.size w w' := by
  obtain ⟨v', w', hr, hO, hG, -⟩ := app rowRow _ v 34 [] ps B w.heap.size (w.alloc (.cells #[] 56)) (owns_litR w (Nat.le_refl _)) (by simp) (hv.on (alloc_below w _) hB) (by simp; omega)
  rw [List.nil_append] at hO
  exact ⟨v', w', hr, hO, (alloc_below w _).grown hG (by simp) (fun k hk => by cases hk; exact Nat.le_refl _)⟩

set_option maxRecDepth 100000 in
set_option maxHeartbeats 6400000 in
theorem copyS (who rv ph at' wv : Int) (ps : List R2) (rs : List Int) (vP vR : Value) (B : Nat) (w : World) (hv : SeeC B w vP vR ps rs) (hB : B ≤ w.heap.size) (hf1 : ps.length ≤ 1048576) (hf2 : rs.length ≤ 1048576) :
    Calls Tryd.prog 20 #[.agg #[.int .i64 who, .int .i64 rv, .int .i64 ph, .int .i64 at', .int .i64 wv, vP, vR]] w fun e w' => ∃ a k a' k', e = .returned (.agg #[.int .i64 who, .int .i64 rv, .int .i64 ph, .int .i64 at', .int .i64 wv, .slice a ps.length k, .slice a' rs.length k']) ∧ OwnC w.heap.size w' (.slice a ps.length k) (.slice a' rs.length k') ps rs ∧ Below w.heap.size w w' := by
  obtain ⟨ap, kp, rfl⟩ := hv.p.form
  obtain ⟨ar, kr, rfl⟩ := hv.r.form
  obtain ⟨q, hq⟩ : ∃ q, w.heap.size = q := ⟨_, rfl⟩
  obtain ⟨n, hn⟩ : ∃ n, ps.length = n := ⟨_, rfl⟩
  obtain ⟨m, hm⟩ : ∃ m, rs.length = m := ⟨_, rfl⟩
  rw [hn, hm] at hv ⊢
  have X0 := Blk.new w #[.int .i64 who, .int .i64 rv, .int .i64 ph, .int .i64 at', .int .i64 wv, .slice ap n kp, .slice ar m kr] 36
  have b0 := alloc_below w (.cells #[.int .i64 who, .int .i64 rv, .int .i64 ph, .int .i64 at', .int .i64 wv, .slice ap n kp, .slice ar m kr] 36)
  obtain ⟨w0, hw0⟩ : ∃ w0, w.alloc (.cells #[.int .i64 who, .int .i64 rv, .int .i64 ph, .int .i64 at', .int .i64 wv, .slice ap n kp, .slice ar m kr] 36) = w0 := ⟨_, rfl⟩
  have hz0 : w0.heap.size = q + 1 := by rw [← hw0, ← hq]; simp
  rw [hw0] at X0 b0
  rw [hq] at X0 b0 hB ⊢
  obtain ⟨q1, hq1⟩ : ∃ q, w0.heap.size = q := ⟨_, rfl⟩
  have l01 : q < q1 := by omega
  clear hz0
  have S1 := Blk.new w0 #[.int .i64 0, .int .i64 0, .int .i64 0, .int .i64 0, .int .i64 0, .slice none 0 0, .slice none 0 0] 36
  have b1 := alloc_below w0 (.cells #[.int .i64 0, .int .i64 0, .int .i64 0, .int .i64 0, .int .i64 0, .slice none 0 0, .slice none 0 0] 36)
  obtain ⟨w1, hw1⟩ : ∃ w1, w0.alloc (.cells #[.int .i64 0, .int .i64 0, .int .i64 0, .int .i64 0, .int .i64 0, .slice none 0 0, .slice none 0 0] 36) = w1 := ⟨_, rfl⟩
  rw [hw1] at S1 b1
  rw [hq1] at S1 b1
  have X1 := X0.on b1 (by omega)
  have bb : Below q w w1 := b0.trans (b1.mono (by omega))
  have z1 : q1 < w1.heap.size := S1.lt
  have sv := hv.on bb hB
  obtain ⟨v3, w3, hr3, O3, b3⟩ := appLitR _ ps B w1 sv.p (by omega) hf1
  have X3 := X1.on b3 (by omega); have S3 := S1.on b3 (by omega)
  have bb3 := bb.trans (b3.mono (by omega))
  obtain ⟨a3, c3, rfl⟩ := O3.form
  rw [hn] at O3 hr3
  have o3 := O3.at
  have d3 : ∀ k, (Value.slice a3 n c3).ownBlock = some k → k ≠ q := fun k hk => by have := (o3 k hk).1; omega
  have d3' : ∀ k, (Value.slice a3 n c3).ownBlock = some k → k ≠ q1 := fun k hk => by have := (o3 k hk).1; omega
  have n1 : q1 ≠ q := by omega
  have X4 := X3.set 5 (.slice a3 n c3)
  have S4 := S3.other n1 5 (.slice a3 n c3)
  have O4 := Owns.other O3 (p := q) (i := 5) d3 (.slice a3 n c3)
  have b4 := bb3.setCell (p := ⟨q, 5, none⟩) (Nat.le_refl q) (.slice a3 n c3)
  obtain ⟨w4, hw4⟩ : ∃ W, w3.setCell ⟨q, 5, none⟩ (.slice a3 n c3) = W := ⟨_, rfl⟩
  rw [hw4] at X4 S4 O4 b4
  have z4 : q1 < w4.heap.size := S4.lt
  have sv4 := hv.on b4 hB
  obtain ⟨v5, w5, hr5, O5, b5⟩ := Ints.appLit _ 26 rs B w4 sv4.r (by omega) hf2
  have X5 := X4.on b5 X4.lt; have S5 := S4.on b5 S4.lt; have P5 := O4.on b5 (Nat.le_refl _)
  have bb5 := b4.trans (b5.mono (by omega))
  obtain ⟨a5, c5, rfl⟩ := O5.form
  rw [hm] at O5 hr5
  have o5 := O5.at
  have d5 : ∀ k, (Value.slice a5 m c5).ownBlock = some k → k ≠ q := fun k hk => by have := (o5 k hk).1; omega
  have d5' : ∀ k, (Value.slice a5 m c5).ownBlock = some k → k ≠ q1 := fun k hk => by have := (o5 k hk).1; omega
  have X6 := X5.set 6 (.slice a5 m c5)
  have S6 := S5.other n1 6 (.slice a5 m c5)
  have O6 := ownI_other O5 (q := q) d5 6 (.slice a5 m c5)
  have P6 := Owns.other P5 (p := q) (i := 6) d3 (.slice a5 m c5)
  have b6 := bb5.setCell (p := ⟨q, 6, none⟩) (Nat.le_refl q) (.slice a5 m c5)
  obtain ⟨w6, hw6⟩ : ∃ W, w5.setCell ⟨q, 6, none⟩ (.slice a5 m c5) = W := ⟨_, rfl⟩
  rw [hw6] at X6 S6 O6 P6 b6
  have x1 := (X1.on (alloc_below w1 (.cells #[] 56)) X1.lt).cell 5; have x3 := fun i => X3.cell i; have f3 := fun i => X3.froz i; have x4 := (X4.on (alloc_below w4 (.cells #[] 3)) X4.lt).cell 6
  have x5 := fun i => X5.cell i; have f5 := fun i => X5.froz i
  have x60 := X6.cell 0; have x61 := X6.cell 1; have x62 := X6.cell 2; have x63 := X6.cell 3; have x64 := X6.cell 4; have x65 := X6.cell 5; have x66 := X6.cell 6
  have s6 := fun i => S6.cell i; have g6 := fun i => S6.froz i
  have S7 := (((((((S6.set 0 (.int .i64 who)).set 1 (.int .i64 rv)).set 2 (.int .i64 ph)).set 3 (.int .i64 at')).set 4 (.int .i64 wv)).set 5 (.slice a3 n c3)).set 6 (.slice a5 m c5))
  have s7 := fun i => S7.cell i
  have Oa := (Owns.other (Owns.other (Owns.other (Owns.other (Owns.other (Owns.other (Owns.other P6 (p := q1) (i := 0) d3' (.int .i64 who)) (p := q1) (i := 1) d3' (.int .i64 rv)) (p := q1) (i := 2) d3' (.int .i64 ph)) (p := q1) (i := 3) d3' (.int .i64 at')) (p := q1) (i := 4) d3' (.int .i64 wv)) (p := q1) (i := 5) d3' (.slice a3 n c3)) (p := q1) (i := 6) d3' (.slice a5 m c5))
  have Ob := (ownI_other (ownI_other (ownI_other (ownI_other (ownI_other (ownI_other (ownI_other O6 (q := q1) d5' 0 (.int .i64 who)) (q := q1) d5' 1 (.int .i64 rv)) (q := q1) d5' 2 (.int .i64 ph)) (q := q1) d5' 3 (.int .i64 at')) (q := q1) d5' 4 (.int .i64 wv)) (q := q1) d5' 5 (.slice a3 n c3)) (q := q1) d5' 6 (.slice a5 m c5))
  have bF := (((((((b6.setCell (p := ⟨q1, 0, none⟩) (show q ≤ q1 by omega) (.int .i64 who)).setCell (p := ⟨q1, 1, none⟩) (show q ≤ q1 by omega) (.int .i64 rv)).setCell (p := ⟨q1, 2, none⟩) (show q ≤ q1 by omega) (.int .i64 ph)).setCell (p := ⟨q1, 3, none⟩) (show q ≤ q1 by omega) (.int .i64 at')).setCell (p := ⟨q1, 4, none⟩) (show q ≤ q1 by omega) (.int .i64 wv)).setCell (p := ⟨q1, 5, none⟩) (show q ≤ q1 by omega) (.slice a3 n c3)).setCell (p := ⟨q1, 6, none⟩) (show q ≤ q1 by omega) (.slice a5 m c5))
  clear X0 X1 X3 X4 X5 S1 S3 S4 S5 O3 O4 O5 P5 b0 b1 bb b3 bb3 b4 b5 bb5 sv sv4 hv S7 n1 d3 d3' d5 d5'
  go_enter Tryd.func20, Tryd.ntmps20
  go_wp2_with (first | (at_builtin; refine wpList_app _ rfl _ _ 34 rfl _ _ _ _ rfl rfl hr3 ?_) | (at_builtin; refine wpList_app _ rfl _ _ 26 rfl _ _ _ _ rfl rfl hr5 ?_))
  refine bodyPost_ret (v := .agg #[.int .i64 who, .int .i64 rv, .int .i64 ph, .int .i64 at', .int .i64 wv, .slice a3 n c3, .slice a5 m c5]) (by simp [results, Tryd.results20, go_sem, s7]) rfl ?_
  exact ⟨_, _, _, _, rfl, ⟨Oa.mono (by omega), Ob.mono (by omega)⟩, bF⟩

set_option maxRecDepth 100000 in
set_option maxHeartbeats 6400000 in
theorem copyI (who rv ph at' wv : Int) (ps : List R2) (rs : List Int) (vP vR : Value) (B : Nat) (w : World) (hv : SeeC B w vP vR ps rs) (hB : B ≤ w.heap.size) (hf1 : ps.length ≤ 1048576) (hf2 : rs.length ≤ 1048576) :
    Calls Tryd.prog 33 #[.agg #[.int .i64 who, .int .i64 rv, .int .i64 ph, .int .i64 at', .int .i64 wv, vP, vR]] w fun e w' => ∃ a k a' k', e = .returned (.agg #[.int .i64 who, .int .i64 rv, .int .i64 ph, .int .i64 at', .int .i64 wv, .slice a ps.length k, .slice a' rs.length k']) ∧ OwnC w.heap.size w' (.slice a ps.length k) (.slice a' rs.length k') ps rs ∧ Below w.heap.size w w' := by
  obtain ⟨ap, kp, rfl⟩ := hv.p.form
  obtain ⟨ar, kr, rfl⟩ := hv.r.form
  obtain ⟨q, hq⟩ : ∃ q, w.heap.size = q := ⟨_, rfl⟩
  obtain ⟨n, hn⟩ : ∃ n, ps.length = n := ⟨_, rfl⟩
  obtain ⟨m, hm⟩ : ∃ m, rs.length = m := ⟨_, rfl⟩
  rw [hn, hm] at hv ⊢
  have X0 := Blk.new w #[.int .i64 who, .int .i64 rv, .int .i64 ph, .int .i64 at', .int .i64 wv, .slice ap n kp, .slice ar m kr] 36
  have b0 := alloc_below w (.cells #[.int .i64 who, .int .i64 rv, .int .i64 ph, .int .i64 at', .int .i64 wv, .slice ap n kp, .slice ar m kr] 36)
  obtain ⟨w0, hw0⟩ : ∃ w0, w.alloc (.cells #[.int .i64 who, .int .i64 rv, .int .i64 ph, .int .i64 at', .int .i64 wv, .slice ap n kp, .slice ar m kr] 36) = w0 := ⟨_, rfl⟩
  have hz0 : w0.heap.size = q + 1 := by rw [← hw0, ← hq]; simp
  rw [hw0] at X0 b0
  rw [hq] at X0 b0 hB ⊢
  obtain ⟨q1, hq1⟩ : ∃ q, w0.heap.size = q := ⟨_, rfl⟩
  have l01 : q < q1 := by omega
  clear hz0
  have S1 := Blk.new w0 #[.int .i64 0, .int .i64 0, .int .i64 0, .int .i64 0, .int .i64 0, .slice none 0 0, .slice none 0 0] 36
  have b1 := alloc_below w0 (.cells #[.int .i64 0, .int .i64 0, .int .i64 0, .int .i64 0, .int .i64 0, .slice none 0 0, .slice none 0 0] 36)
  obtain ⟨w1, hw1⟩ : ∃ w1, w0.alloc (.cells #[.int .i64 0, .int .i64 0, .int .i64 0, .int .i64 0, .int .i64 0, .slice none 0 0, .slice none 0 0] 36) = w1 := ⟨_, rfl⟩
  rw [hw1] at S1 b1
  rw [hq1] at S1 b1
  have X1 := X0.on b1 (by omega)
  have bb : Below q w w1 := b0.trans (b1.mono (by omega))
  have z1 : q1 < w1.heap.size := S1.lt
  have sv := hv.on bb hB
  obtain ⟨v3, w3, hr3, O3, b3⟩ := appNilR _ 34 ps B w1 sv.p hf1
  have X3 := X1.on b3 (by omega); have S3 := S1.on b3 (by omega)
  have bb3 := bb.trans (b3.mono (by omega))
  obtain ⟨a3, c3, rfl⟩ := O3.form
  rw [hn] at O3 hr3
  have o3 := O3.at
  have d3 : ∀ k, (Value.slice a3 n c3).ownBlock = some k → k ≠ q := fun k hk => by have := (o3 k hk).1; omega
  have d3' : ∀ k, (Value.slice a3 n c3).ownBlock = some k → k ≠ q1 := fun k hk => by have := (o3 k hk).1; omega
  have n1 : q1 ≠ q := by omega
  have X4 := X3.set 5 (.slice a3 n c3)
  have S4 := S3.other n1 5 (.slice a3 n c3)
  have O4 := Owns.other O3 (p := q) (i := 5) d3 (.slice a3 n c3)
  have b4 := bb3.setCell (p := ⟨q, 5, none⟩) (Nat.le_refl q) (.slice a3 n c3)
  obtain ⟨w4, hw4⟩ : ∃ W, w3.setCell ⟨q, 5, none⟩ (.slice a3 n c3) = W := ⟨_, rfl⟩
  rw [hw4] at X4 S4 O4 b4
  have z4 : q1 < w4.heap.size := S4.lt
  have sv4 := hv.on b4 hB
  obtain ⟨v5, w5, hr5, O5, b5⟩ := Ints.appNil _ 26 rs B w4 sv4.r hf2
  have X5 := X4.on b5 X4.lt; have S5 := S4.on b5 S4.lt; have P5 := O4.on b5 (Nat.le_refl _)
  have bb5 := b4.trans (b5.mono (by omega))
  obtain ⟨a5, c5, rfl⟩ := O5.form
  rw [hm] at O5 hr5
  have o5 := O5.at
  have d5 : ∀ k, (Value.slice a5 m c5).ownBlock = some k → k ≠ q := fun k hk => by have := (o5 k hk).1; omega
  have d5' : ∀ k, (Value.slice a5 m c5).ownBlock = some k → k ≠ q1 := fun k hk => by have := (o5 k hk).1; omega
  have X6 := X5.set 6 (.slice a5 m c5)
  have S6 := S5.other n1 6 (.slice a5 m c5)
  have O6 := ownI_other O5 (q := q) d5 6 (.slice a5 m c5)
  have P6 := Owns.other P5 (p := q) (i := 6) d3 (.slice a5 m c5)
  have b6 := bb5.setCell (p := ⟨q, 6, none⟩) (Nat.le_refl q) (.slice a5 m c5)
  obtain ⟨w6, hw6⟩ : ∃ W, w5.setCell ⟨q, 6, none⟩ (.slice a5 m c5) = W := ⟨_, rfl⟩
  rw [hw6] at X6 S6 O6 P6 b6
  have x1 := X1.cell 5; have x3 := fun i => X3.cell i; have f3 := fun i => X3.froz i; have x4 := X4.cell 6
  have x5 := fun i => X5.cell i; have f5 := fun i => X5.froz i
  have x60 := X6.cell 0; have x61 := X6.cell 1; have x62 := X6.cell 2; have x63 := X6.cell 3; have x64 := X6.cell 4; have x65 := X6.cell 5; have x66 := X6.cell 6
  have s6 := fun i => S6.cell i; have g6 := fun i => S6.froz i
  have S7 := (((((((S6.set 0 (.int .i64 who)).set 1 (.int .i64 rv)).set 2 (.int .i64 ph)).set 3 (.int .i64 at')).set 4 (.int .i64 wv)).set 5 (.slice a3 n c3)).set 6 (.slice a5 m c5))
  have s7 := fun i => S7.cell i
  have Oa := (Owns.other (Owns.other (Owns.other (Owns.other (Owns.other (Owns.other (Owns.other P6 (p := q1) (i := 0) d3' (.int .i64 who)) (p := q1) (i := 1) d3' (.int .i64 rv)) (p := q1) (i := 2) d3' (.int .i64 ph)) (p := q1) (i := 3) d3' (.int .i64 at')) (p := q1) (i := 4) d3' (.int .i64 wv)) (p := q1) (i := 5) d3' (.slice a3 n c3)) (p := q1) (i := 6) d3' (.slice a5 m c5))
  have Ob := (ownI_other (ownI_other (ownI_other (ownI_other (ownI_other (ownI_other (ownI_other O6 (q := q1) d5' 0 (.int .i64 who)) (q := q1) d5' 1 (.int .i64 rv)) (q := q1) d5' 2 (.int .i64 ph)) (q := q1) d5' 3 (.int .i64 at')) (q := q1) d5' 4 (.int .i64 wv)) (q := q1) d5' 5 (.slice a3 n c3)) (q := q1) d5' 6 (.slice a5 m c5))
  have bF := (((((((b6.setCell (p := ⟨q1, 0, none⟩) (show q ≤ q1 by omega) (.int .i64 who)).setCell (p := ⟨q1, 1, none⟩) (show q ≤ q1 by omega) (.int .i64 rv)).setCell (p := ⟨q1, 2, none⟩) (show q ≤ q1 by omega) (.int .i64 ph)).setCell (p := ⟨q1, 3, none⟩) (show q ≤ q1 by omega) (.int .i64 at')).setCell (p := ⟨q1, 4, none⟩) (show q ≤ q1 by omega) (.int .i64 wv)).setCell (p := ⟨q1, 5, none⟩) (show q ≤ q1 by omega) (.slice a3 n c3)).setCell (p := ⟨q1, 6, none⟩) (show q ≤ q1 by omega) (.slice a5 m c5))
  clear X0 X1 X3 X4 X5 S1 S3 S4 S5 O3 O4 O5 P5 b0 b1 bb b3 bb3 b4 b5 bb5 sv sv4 hv S7 n1 d3 d3' d5 d5'
  go_enter Tryd.func33, Tryd.ntmps33
  go_wp2_with (first | (at_builtin; refine wpList_app _ rfl _ _ 34 rfl _ _ _ _ rfl rfl hr3 ?_) | (at_builtin; refine wpList_app _ rfl _ _ 26 rfl _ _ _ _ rfl rfl hr5 ?_))
  refine bodyPost_ret (v := .agg #[.int .i64 who, .int .i64 rv, .int .i64 ph, .int .i64 at', .int .i64 wv, .slice a3 n c3, .slice a5 m c5]) (by simp [results, Tryd.results33, go_sem, s7]) rfl ?_
  exact ⟨_, _, _, _, rfl, ⟨Oa.mono (by omega), Ob.mono (by omega)⟩, bF⟩

end Commits
end Go.Proofs.YtppikpdphcfomaaDoor
