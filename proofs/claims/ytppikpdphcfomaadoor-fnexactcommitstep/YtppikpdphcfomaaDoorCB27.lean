/- Several texts of one proof, in build order: CommitSpecStep2. -/
import Derived.Test.YtppikpdphcfomaaDoorCB13
import Derived.Test.YtppikpdphcfomaaDoorCB16
import Derived.Test.YtppikpdphcfomaaDoorCB20
import Derived.Test.YtppikpdphcfomaaDoorCB23
import Derived.Test.YtppikpdphcfomaaDoorCB24
import Derived.Test.YtppikpdphcfomaaDoorCB25
/- CommitStep, as specified: phase 2. -/
set_option linter.unusedVariables false
set_option linter.unusedSimpArgs false
namespace Go.Proofs.YtppikpdphcfomaaDoor
open Go.RowKit
namespace Commits
open Bas Flat Logs
open Words (W3 lockMay lockTo storeMay storeTo unlockMay unlockTo tickC tickR Err wAt memOk)
theorem on_end {ph at' : Int} {n m : Nat} {p : Int} (h : ¬ at' + 1 < stepsN ph n m) : onPh ph at' n m p = goPh n m p := if_neg h
theorem at_end {ph at' : Int} {n m : Nat} (h : ¬ at' + 1 < stepsN ph n m) : onAt ph at' n m = 0 := if_neg h

set_option maxRecDepth 100000 in
set_option maxHeartbeats 12800000 in
theorem specStep2 (who rv wv : Int) (k : Nat) (ps : List R2) (rs : List Int) (mc : Int) (ws : List W3) (vM vP vR : Value) (B : Nat) (w : World)
    (hM : Words.Sees B w vM ws) (hC : SeeC B w vP vR ps rs) (hB : B ≤ w.heap.size) (hl : ws.length ≤ 1048576) (hMO : memOk mc ws = true) (hCO : commitOk ⟨who, rv, 2, (k : Int), wv, ps, rs⟩ = true) :
    Calls Tryd.prog 6 #[.agg #[.int .i64 mc, vM], .agg #[.int .i64 who, .int .i64 rv, .int .i64 2, .int .i64 (k : Int), .int .i64 wv, vP, vR]] w fun e w' => StepTold who rv ps rs (stepY mc ws ⟨who, rv, 2, (k : Int), wv, ps, rs⟩) w e w' := by
  obtain ⟨av, kv, rfl⟩ := hM.form
  obtain ⟨ap, kp, rfl⟩ := hC.p.form
  obtain ⟨ar, kr, rfl⟩ := hC.r.form
  obtain ⟨hb1, hb2, hb3, hb4, -⟩ := bounds_of hCO
  have hrow := step_row hCO
  have hrd := step_read hCO
  have hl8 := (Words.memOk_out hMO).1
  have hmc := (Words.memOk_out hMO).2.1
  dsimp only at hb1 hb2 hb3 hb4 hrow hrd
  obtain ⟨g, hg⟩ : ∃ g, w.heap.size = g := ⟨_, rfl⟩
  have hcm := fun v (W : World) (h : Words.Sees B W v ws) (hB : B ≤ W.heap.size) => Words.specCopy mc v ws B W h hB hl
  have hcc := fun vP vR (W : World) (h : SeeC B W vP vR ps rs) (hB : B ≤ W.heap.size) => copyS who rv 2 (k : Int) wv ps rs vP vR B W h hB (by omega) (by omega)
  have hmo := fun v (W : World) (h : Words.Sees B W v ws) (hB : B ≤ W.heap.size) => Words.specOk mc v ws B W h hB
  have hco := fun vP vR (W : World) (h : SeeC B W vP vR ps rs) (hB : B ≤ W.heap.size) => specOkE _ who rv 2 (k : Int) wv ps rs rfl vP vR B W h hB
  rw [hMO] at hmo
  rw [hCO] at hco
  obtain ⟨Z, hZ⟩ : ∃ Z, stepY mc ws ⟨who, rv, 2, (k : Int), wv, ps, rs⟩ = Z := ⟨_, rfl⟩
  rw [hZ]
  obtain ⟨n, hn⟩ : ∃ n, ps.length = n := ⟨_, rfl⟩
  obtain ⟨m, hm⟩ : ∃ n, rs.length = n := ⟨_, rfl⟩
  obtain ⟨nw, hnw⟩ : ∃ n, ws.length = n := ⟨_, rfl⟩
  have HN := (show Hid (ps.length = n) from hn); have HM2 := (show Hid (rs.length = m) from hm); have HW := (show Hid (ws.length = nw) from hnw)
  have htk := fun v W (h : Words.Sees B W v ws) (hB : B ≤ W.heap.size) => Words.specTick mc v ws B W h hB hl
  have HT := (show Hid (tickR mc ws = 0 → tickC mc ws = mc) from tick_same hmc)
  obtain ⟨tc, htc⟩ : ∃ b, tickC mc ws = b := ⟨_, rfl⟩
  obtain ⟨tr, htr⟩ : ∃ l, tickR mc ws = l := ⟨_, rfl⟩
  rw [htc, htr] at htk HT
  have HY : Hid (Z = ⟨tc, ws, if tr = 0 then phB n else onPh 2 k n m 3, if tr = 0 then atB n else onAt 2 k n m, if tr = 0 then wv else tr⟩) := by
    have hy : stepY mc ws ⟨who, rv, 2, (k : Int), wv, ps, rs⟩ = ⟨tickC mc ws, ws, if tickR mc ws = 0 then phB ps.length else onPh 2 k ps.length rs.length 3, if tickR mc ws = 0 then atB ps.length else onAt 2 k ps.length rs.length, if tickR mc ws = 0 then wv else tickR mc ws⟩ := rfl
    rw [hZ, htc, htr, hn, hm] at hy
    exact hy
  clear hZ htc htr hrow hrd hmc
  rw [hn] at hC hcc hb1 ⊢
  rw [hm] at hC hcc hb2 ⊢
  rw [hnw] at hM hl hl8 ⊢
  have HL8 := (show Hid (nw = 8) from hl8)
  clear hl8 hn hm hnw hMO hCO
  have Mb := Blk.new w #[.int .i64 mc, .slice av nw kv] 33
  have b0 := alloc_below w (.cells #[.int .i64 mc, .slice av nw kv] 33)
  obtain ⟨w0, hw0⟩ : ∃ w0, w.alloc (.cells #[.int .i64 mc, .slice av nw kv] 33) = w0 := ⟨_, rfl⟩
  have hz0 : w0.heap.size = g + 1 := by rw [← hw0, ← hg]; simp
  rw [hw0] at Mb b0
  rw [hg] at Mb b0 hB
  obtain ⟨q1, hq1⟩ : ∃ q, w0.heap.size = q := ⟨_, rfl⟩
  have l01 : g < q1 := by omega
  clear hz0
  have Cb := Blk.new w0 #[.int .i64 who, .int .i64 rv, .int .i64 2, .int .i64 (k : Int), .int .i64 wv, .slice ap n kp, .slice ar m kr] 36
  have b1 := alloc_below w0 (.cells #[.int .i64 who, .int .i64 rv, .int .i64 2, .int .i64 (k : Int), .int .i64 wv, .slice ap n kp, .slice ar m kr] 36)
  obtain ⟨w1, hw1⟩ : ∃ w1, w0.alloc (.cells #[.int .i64 who, .int .i64 rv, .int .i64 2, .int .i64 (k : Int), .int .i64 wv, .slice ap n kp, .slice ar m kr] 36) = w1 := ⟨_, rfl⟩
  have hz1 : w1.heap.size = q1 + 1 := by rw [← hw1, ← hq1]; simp
  rw [hw1] at Cb b1
  rw [hq1] at Cb b1
  obtain ⟨q2, hq2⟩ : ∃ q, w1.heap.size = q := ⟨_, rfl⟩
  have l12 : q1 < q2 := by omega
  clear hz1
  have R1 := Blk.new w1 #[.int .i64 0, .slice none 0 0] 33
  have b2 := alloc_below w1 (.cells #[.int .i64 0, .slice none 0 0] 33)
  obtain ⟨w2, hw2⟩ : ∃ w2, w1.alloc (.cells #[.int .i64 0, .slice none 0 0] 33) = w2 := ⟨_, rfl⟩
  have hz2 : w2.heap.size = q2 + 1 := by rw [← hw2, ← hq2]; simp
  rw [hw2] at R1 b2
  rw [hq2] at R1 b2
  obtain ⟨q3, hq3⟩ : ∃ q, w2.heap.size = q := ⟨_, rfl⟩
  have l23 : q2 < q3 := by omega
  clear hz2
  have R2 := Blk.new w2 #[.int .i64 0, .int .i64 0, .int .i64 0, .int .i64 0, .int .i64 0, .slice none 0 0, .slice none 0 0] 36
  have b3 := alloc_below w2 (.cells #[.int .i64 0, .int .i64 0, .int .i64 0, .int .i64 0, .int .i64 0, .slice none 0 0, .slice none 0 0] 36)
  obtain ⟨w3, hw3⟩ : ∃ w3, w2.alloc (.cells #[.int .i64 0, .int .i64 0, .int .i64 0, .int .i64 0, .int .i64 0, .slice none 0 0, .slice none 0 0] 36) = w3 := ⟨_, rfl⟩
  rw [hw3] at R2 b3
  rw [hq3] at R2 b3
  replace Mb := ((Mb.on b1 (by omega)).on b2 (by omega)).on b3 (by omega)
  replace Cb := (Cb.on b2 (by omega)).on b3 (by omega)
  replace R1 := R1.on b3 (by omega)
  have bb : Below g w w3 := ((b0.trans (b1.mono (by omega))).trans (b2.mono (by omega))).trans (b3.mono (by omega))
  have l3 : q3 < w3.heap.size := R2.lt
  replace hM := hM.on bb hB; replace hC := hC.on bb hB
  clear b0 b1 b2 b3
  have m0 := Mb.cell 0; have m1 := Mb.cell 1
  go_enter Tryd.func6, Tryd.ntmps6
  go_wp2_with fail
  clear hw0 hw1 hw2 hw3 m0 m1
  refine (hcm _ w3 hM (by have := bb.size; omega)).mono ?_
  rintro e w4 ⟨vx, rfl, OX, b4⟩
  obtain ⟨ax, kx, rfl⟩ := OX.form
  rw [HW.out] at OX ⊢
  replace OX := OX.mono (show g ≤ w3.heap.size by have := bb.size; omega)
  replace Mb := Mb.on b4 Mb.lt; replace Cb := Cb.on b4 Cb.lt; replace R1 := R1.on b4 R1.lt; replace R2 := R2.on b4 R2.lt
  replace hM := hM.on b4 (by have := bb.size; omega); replace hC := hC.on b4 (by have := bb.size; omega)
  replace bb := bb.trans (b4.mono (by have := bb.size; omega))
  have l4 : q3 < w4.heap.size := R2.lt
  clear b4 l3 hcm
  have Xb := Blk.new w4 #[.int .i64 mc, .slice ax nw kx] 33
  have b5 := alloc_below w4 (.cells #[.int .i64 mc, .slice ax nw kx] 33)
  obtain ⟨q4, hq4⟩ : ∃ q, w4.heap.size = q := ⟨_, rfl⟩
  have l34 : q3 < q4 := by omega
  obtain ⟨w5, hw5⟩ : ∃ W, w4.alloc (.cells #[.int .i64 mc, .slice ax nw kx] 33) = W := ⟨_, rfl⟩
  rw [hw5] at Xb b5
  rw [hq4] at Xb
  replace Mb := Mb.on b5 Mb.lt; replace Cb := Cb.on b5 Cb.lt; replace R1 := R1.on b5 R1.lt; replace R2 := R2.on b5 R2.lt; replace OX := OX.on b5 (Nat.le_refl _)
  replace hM := hM.on b5 (by have := bb.size; omega); replace hC := hC.on b5 (by have := bb.size; omega)
  replace bb := bb.trans (b5.mono (by have := bb.size; omega))
  clear b5
  have c0 := Cb.cell 0; have c1 := Cb.cell 1; have c2 := Cb.cell 2; have c3 := Cb.cell 3; have c4 := Cb.cell 4; have c5 := Cb.cell 5; have c6 := Cb.cell 6
  have xf := fun i => Xb.cell i; have xg := fun i => Xb.froz i
  go_wp2_with fail
  try rw [hw5]
  clear c0 c1 c2 c3 c4 c5 c6 xf xg
  refine (hcc _ _ w5 hC (by have := bb.size; omega)).mono ?_
  rintro e w6 ⟨a2, k2, d2, l2, rfl, OD, b6⟩
  replace OD := OD.mono (show g ≤ w5.heap.size by have := bb.size; omega)
  replace Mb := Mb.on b6 Mb.lt; replace Cb := Cb.on b6 Cb.lt; replace R1 := R1.on b6 R1.lt; replace R2 := R2.on b6 R2.lt; replace Xb := Xb.on b6 Xb.lt; replace OX := OX.on b6 (Nat.le_refl _)
  replace hM := hM.on b6 (by have := bb.size; omega); replace hC := hC.on b6 (by have := bb.size; omega)
  replace bb := bb.trans (b6.mono (by have := bb.size; omega))
  have l6 : q4 < w6.heap.size := Xb.lt
  clear b6 hw5 hq4 hcc l4
  have Db := Blk.new w6 #[.int .i64 who, .int .i64 rv, .int .i64 2, .int .i64 (k : Int), .int .i64 wv, .slice a2 n k2, .slice d2 m l2] 36
  have b7 := alloc_below w6 (.cells #[.int .i64 who, .int .i64 rv, .int .i64 2, .int .i64 (k : Int), .int .i64 wv, .slice a2 n k2, .slice d2 m l2] 36)
  obtain ⟨q5, hq5⟩ : ∃ q, w6.heap.size = q := ⟨_, rfl⟩
  have l45 : q4 < q5 := by omega
  obtain ⟨w7, hw7⟩ : ∃ W, w6.alloc (.cells #[.int .i64 who, .int .i64 rv, .int .i64 2, .int .i64 (k : Int), .int .i64 wv, .slice a2 n k2, .slice d2 m l2] 36) = W := ⟨_, rfl⟩
  rw [hw7] at Db b7
  rw [hq5] at Db
  replace Mb := Mb.on b7 Mb.lt; replace Cb := Cb.on b7 Cb.lt; replace R1 := R1.on b7 R1.lt; replace R2 := R2.on b7 R2.lt; replace Xb := Xb.on b7 Xb.lt; replace OX := OX.on b7 (Nat.le_refl _); replace OD := OD.on b7 (Nat.le_refl _)
  replace hM := hM.on b7 (by have := bb.size; omega); replace hC := hC.on b7 (by have := bb.size; omega)
  replace bb := bb.trans (b7.mono (by have := bb.size; omega))
  clear b7
  have m0 := Mb.cell 0; have m1 := Mb.cell 1
  have df := fun i => Db.cell i; have dg := fun i => Db.froz i
  go_wp2_with fail
  try rw [hw7]
  clear m0 m1 df dg hw7 hq5
  refine (hmo _ w7 hM (by have := bb.size; omega)).mono ?_
  rintro e w8 ⟨rfl, b8⟩
  replace Mb := Mb.on b8 Mb.lt
  replace Cb := Cb.on b8 Cb.lt
  replace R1 := R1.on b8 R1.lt
  replace R2 := R2.on b8 R2.lt
  replace Xb := Xb.on b8 Xb.lt
  replace Db := Db.on b8 Db.lt
  replace OX := OX.on b8 (Nat.le_refl _)
  replace OD := OD.on b8 (Nat.le_refl _)
  replace hM := hM.on b8 (by have := bb.size; omega); replace hC := hC.on b8 (by have := bb.size; omega)
  replace bb := bb.trans (b8.mono (by have := bb.size; omega))
  clear b8
  have c0 := Cb.cell 0; have c1 := Cb.cell 1; have c2 := Cb.cell 2; have c3 := Cb.cell 3; have c4 := Cb.cell 4; have c5 := Cb.cell 5; have c6 := Cb.cell 6
  go_wp2_with fail
  clear c0 c1 c2 c3 c4 c5 c6
  refine (hco _ _ w8 hC (by have := bb.size; omega)).mono ?_
  rintro e w9 ⟨rfl, b9⟩
  replace Mb := Mb.on b9 Mb.lt
  replace Cb := Cb.on b9 Cb.lt
  replace R1 := R1.on b9 R1.lt
  replace R2 := R2.on b9 R2.lt
  replace Xb := Xb.on b9 Xb.lt
  replace Db := Db.on b9 Db.lt
  replace OX := OX.on b9 (Nat.le_refl _)
  replace OD := OD.on b9 (Nat.le_refl _)
  replace hM := hM.on b9 (by have := bb.size; omega); replace hC := hC.on b9 (by have := bb.size; omega)
  replace bb := bb.trans (b9.mono (by have := bb.size; omega))
  clear b9 hmo hco
  have c2 := Cb.cell 2; have m0 := Mb.cell 0; have m1 := Mb.cell 1
  go_wp2_with fail
  clear c2 m0 m1
  refine (htk _ w9 hM (by have := bb.size; omega)).mono ?_
  rintro e V1 ⟨v8, rfl, OM8, b8⟩
  obtain ⟨a8, k8, rfl⟩ := OM8.form
  rw [HW.out] at OM8 ⊢
  replace OM8 := OM8.mono (show g ≤ w9.heap.size by have := bb.size; omega)
  replace Mb := Mb.on b8 Mb.lt
  replace Cb := Cb.on b8 Cb.lt
  replace R1 := R1.on b8 R1.lt
  replace R2 := R2.on b8 R2.lt
  replace Xb := Xb.on b8 Xb.lt
  replace Db := Db.on b8 Db.lt
  replace OX := OX.on b8 (Nat.le_refl _)
  replace OD := OD.on b8 (Nat.le_refl _)
  replace hM := hM.on b8 (by have := bb.size; omega); replace hC := hC.on b8 (by have := bb.size; omega)
  replace bb := bb.trans (b8.mono (by have := bb.size; omega))
  clear b8
  have Yb := Blk.new V1 #[.int .i64 tc, .slice a8 nw k8] 33
  have bA := alloc_below V1 (.cells #[.int .i64 tc, .slice a8 nw k8] 33)
  have hl5 : q5 < V1.heap.size := Db.lt
  replace Mb := Mb.on bA Mb.lt
  replace Cb := Cb.on bA Cb.lt
  replace R1 := R1.on bA R1.lt
  replace R2 := R2.on bA R2.lt
  replace Xb := Xb.on bA Xb.lt
  replace Db := Db.on bA Db.lt
  replace OX := OX.on bA (Nat.le_refl _)
  replace OM8 := OM8.on bA (Nat.le_refl _)
  replace OD := OD.on bA (Nat.le_refl _)
  replace hM := hM.on bA (by have := bb.size; omega); replace hC := hC.on bA (by have := bb.size; omega)
  replace bb := bb.trans (bA.mono (by have := bb.size; omega))
  obtain ⟨q8, hq8⟩ : ∃ q, V1.heap.size = q := ⟨_, rfl⟩
  have l58 : q5 < q8 := by omega
  obtain ⟨VA, hVA⟩ : ∃ W, V1.alloc (.cells #[.int .i64 tc, .slice a8 nw k8] 33) = W := ⟨_, rfl⟩
  rw [hVA] at Mb Cb R1 R2 Xb Db Yb OX OM8 OD bb hM hC
  rw [hq8] at Yb
  clear bA hl5
  have y1 := fun i => Yb.cell i; have y2 := fun i => Yb.froz i
  by_cases htr0 : tr = 0
  · have htd : (tr == 0) = true := by simp [htr0]
    have HZ : Hid (Z = ⟨mc, ws, (phB n), (atB n), wv⟩) := by show _ = _; rw [HY.out, if_pos htr0, if_pos htr0, if_pos htr0, HT.out htr0]
    clear HT HY htr0
    go_wp2_with fail
    try rw [hVA]
    clear hVA hq8 y1 y2
    have cCM : (VA.cell? ⟨q4, 0, none⟩ = some (.int .i64 mc) ∧ VA.cell? ⟨q4, 1, none⟩ = some (.slice ax nw kx)) ∧ (VA.cell? ⟨q5, 0, none⟩ = some (.int .i64 who) ∧ VA.cell? ⟨q5, 1, none⟩ = some (.int .i64 rv) ∧ VA.cell? ⟨q5, 2, none⟩ = some (.int .i64 2) ∧ VA.cell? ⟨q5, 3, none⟩ = some (.int .i64 (k : Int)) ∧ VA.cell? ⟨q5, 4, none⟩ = some (.int .i64 wv) ∧ VA.cell? ⟨q5, 5, none⟩ = some (.slice a2 n k2) ∧ VA.cell? ⟨q5, 6, none⟩ = some (.slice d2 m l2)) ∧ (VA.cell? ⟨q1, 0, none⟩ = some (.int .i64 who) ∧ VA.cell? ⟨q1, 1, none⟩ = some (.int .i64 rv) ∧ VA.cell? ⟨q1, 2, none⟩ = some (.int .i64 2) ∧ VA.cell? ⟨q1, 3, none⟩ = some (.int .i64 (k : Int)) ∧ VA.cell? ⟨q1, 4, none⟩ = some (.int .i64 wv) ∧ VA.cell? ⟨q1, 5, none⟩ = some (.slice ap n kp) ∧ VA.cell? ⟨q1, 6, none⟩ = some (.slice ar m kr)) := ⟨⟨Xb.cell 0, Xb.cell 1⟩, ⟨Db.cell 0, Db.cell 1, Db.cell 2, Db.cell 3, Db.cell 4, Db.cell 5, Db.cell 6⟩, ⟨Cb.cell 0, Cb.cell 1, Cb.cell 2, Cb.cell 3, Cb.cell 4, Cb.cell 5, Cb.cell 6⟩⟩
    replace Mb := Mb.drew
    replace Cb := Cb.drew
    replace R1 := R1.drew
    replace R2 := R2.drew
    replace Xb := Xb.drew
    replace Db := Db.drew
    replace Yb := Yb.drew
    replace OX := OX.drew
    replace OM8 := OM8.drew
    replace hM := hM.on (drew_lowC VA) (show B ≤ VA.heap.size by have := bb.size; omega); replace hC := hC.on (drew_lowC VA) (show B ≤ VA.heap.size by have := bb.size; omega)
    replace OD : OwnC _ _ _ _ _ _ := OD.on (drew_lowC VA) (Nat.le_refl _); replace bb := bb.drew
    obtain ⟨WD63, hWD⟩ : ∃ W, VA.drew = W := ⟨_, rfl⟩
    refine wp_region_held_drew (S := fun W => (W.cell? ⟨q4, 0, none⟩ = some (.int .i64 mc) ∧ W.cell? ⟨q4, 1, none⟩ = some (.slice ax nw kx)) ∧ (W.cell? ⟨q5, 0, none⟩ = some (.int .i64 who) ∧ W.cell? ⟨q5, 1, none⟩ = some (.int .i64 rv) ∧ W.cell? ⟨q5, 2, none⟩ = some (.int .i64 2) ∧ W.cell? ⟨q5, 3, none⟩ = some (.int .i64 (k : Int)) ∧ W.cell? ⟨q5, 4, none⟩ = some (.int .i64 wv) ∧ W.cell? ⟨q5, 5, none⟩ = some (.slice a2 n k2) ∧ W.cell? ⟨q5, 6, none⟩ = some (.slice d2 m l2)) ∧ (W.cell? ⟨q1, 0, none⟩ = some (.int .i64 who) ∧ W.cell? ⟨q1, 1, none⟩ = some (.int .i64 rv) ∧ W.cell? ⟨q1, 2, none⟩ = some (.int .i64 2) ∧ W.cell? ⟨q1, 3, none⟩ = some (.int .i64 (k : Int)) ∧ W.cell? ⟨q1, 4, none⟩ = some (.int .i64 wv) ∧ W.cell? ⟨q1, 5, none⟩ = some (.slice ap n kp) ∧ W.cell? ⟨q1, 6, none⟩ = some (.slice ar m kr))) (by kernel_rfl) cCM (fun hHeld => ?_)
    rw [hWD] at Mb Cb R1 R2 Xb Db Yb OX OM8 OD bb hM hC hHeld ⊢
    clear hWD cCM
    refine takeH (i := 0) (some 81) (.agg #[.int .i64 mc, .slice ax nw kx]) rfl rfl (by kernel_rfl) (by kernel_rfl) (by kernel_rfl) (fun _ _ _ h => h) (Or.inl ⟨by rfl, fun w hSw => by (try dsimp only at hSw); go_simp⟩) (by assumption) ?_
    try simp only [Act.put, List.setIfInBounds_toArray, List.set_cons_zero, List.set_cons_succ]
    refine takeH (i := 1) (some 82) (.agg #[.int .i64 who, .int .i64 rv, .int .i64 2, .int .i64 (k : Int), .int .i64 wv, .slice a2 n k2, .slice d2 m l2]) rfl rfl (by kernel_rfl) (by kernel_rfl) (by kernel_rfl) (fun _ _ _ h => h) (Or.inl ⟨by rfl, fun w hSw => by (try dsimp only at hSw); go_simp⟩) (by assumption) ?_
    try simp only [Act.put, List.setIfInBounds_toArray, List.set_cons_zero, List.set_cons_succ]
    refine takeH (i := 2) (some 83) (.pointer (some ⟨q1, 5, none⟩)) rfl rfl (by kernel_rfl) (by kernel_rfl) (by kernel_rfl) (fun _ _ _ h => h) (Or.inl ⟨by rfl, fun w hSw => by (try dsimp only at hSw); go_simp⟩) (by assumption) ?_
    try simp only [Act.put, List.setIfInBounds_toArray, List.set_cons_zero, List.set_cons_succ]
    refine takeH (i := 3) (some 84) (.slice ap n kp) rfl rfl (by kernel_rfl) (by kernel_rfl) (by kernel_rfl) (fun _ _ _ h => h) (Or.inl ⟨by rfl, fun w hSw => by (try dsimp only at hSw); go_simp⟩) (by assumption) ?_
    try simp only [Act.put, List.setIfInBounds_toArray, List.set_cons_zero, List.set_cons_succ]
    refine takeH (i := 4) (some 85) (.int .i64 n) rfl rfl (by kernel_rfl) (by kernel_rfl) (by kernel_rfl) (fun _ _ _ h => h) (Or.inl ⟨by rfl, fun w hSw => by (try dsimp only at hSw); go_simp⟩) (by assumption) ?_
    try simp only [Act.put, List.setIfInBounds_toArray, List.set_cons_zero, List.set_cons_succ]
    refine wpAnyH_ready (rs := [5]) (by kernel_rfl) (by simp) ?_
    refine AllReadyH.cons rfl (fun K hK => ?_) AllReadyH.nil
    go_simp
    refine (backS who rv 2 k wv (n : Int) a2 d2 n k2 m l2 WD63 (by omega) (by omega)).mono ?_
    rintro e V65 ⟨rfl, b64⟩
    replace Mb := Mb.on b64 Mb.lt
    replace Cb := Cb.on b64 Cb.lt
    replace R1 := R1.on b64 R1.lt
    replace R2 := R2.on b64 R2.lt
    replace Xb := Xb.on b64 Xb.lt
    replace Db := Db.on b64 Db.lt
    replace Yb := Yb.on b64 Yb.lt
    replace OX := OX.on b64 (Nat.le_refl _)
    replace OM8 := OM8.on b64 (Nat.le_refl _)
    replace OD := OD.on b64 (Nat.le_refl _)
    replace hM := hM.on b64 (by have := bb.size; omega); replace hC := hC.on b64 (by have := bb.size; omega)
    replace bb := bb.trans (b64.mono (by have := bb.size; omega))
    clear b64
    go_simp
    refine hK.out _ _ ⟨⟨Xb.cell 0, Xb.cell 1⟩, ⟨Db.cell 0, Db.cell 1, Db.cell 2, Db.cell 3, Db.cell 4, Db.cell 5, Db.cell 6⟩, ⟨Cb.cell 0, Cb.cell 1, Cb.cell 2, Cb.cell 3, Cb.cell 4, Cb.cell 5, Cb.cell 6⟩⟩ (fun _ => ?_)
    clear hK K
    try simp only [Act.put, List.setIfInBounds_toArray, List.set_cons_zero, List.set_cons_succ]
    have r1 := fun i => R1.cell i; have f1 := fun i => R1.froz i
    refine wpAnyH_ready (rs := [6]) (by kernel_rfl) (by simp) ?_
    refine AllReadyH.cons rfl (fun K hK => ?_) AllReadyH.nil
    go_simp
    have ooOX := wordsOff OX R1 (by decide)
    have ooOM8 := wordsOff OM8 R1 (by decide)
    have ooD := twoOff OD R1 (by decide) (by decide)
    have Mb_ := ((Mb.other (show g ≠ q2 by omega) 0 (.int .i64 mc)).other (show g ≠ q2 by omega) 1 (.slice ax nw kx))
    have Cb_ := ((Cb.other (show q1 ≠ q2 by omega) 0 (.int .i64 mc)).other (show q1 ≠ q2 by omega) 1 (.slice ax nw kx))
    have R1_ := ((R1.set 0 (.int .i64 mc)).set 1 (.slice ax nw kx))
    simp only [List.setIfInBounds_toArray, List.set_cons_zero, List.set_cons_succ] at R1_
    have R2_ := ((R2.other (show q3 ≠ q2 by omega) 0 (.int .i64 mc)).other (show q3 ≠ q2 by omega) 1 (.slice ax nw kx))
    have Xb_ := ((Xb.other (show q4 ≠ q2 by omega) 0 (.int .i64 mc)).other (show q4 ≠ q2 by omega) 1 (.slice ax nw kx))
    have Db_ := ((Db.other (show q5 ≠ q2 by omega) 0 (.int .i64 mc)).other (show q5 ≠ q2 by omega) 1 (.slice ax nw kx))
    have Yb_ := ((Yb.other (show q8 ≠ q2 by omega) 0 (.int .i64 mc)).other (show q8 ≠ q2 by omega) 1 (.slice ax nw kx))
    replace OX := (Words.Owns.other (Words.Owns.other OX (p := ⟨q2, 0, none⟩) ooOX (.int .i64 mc)) (p := ⟨q2, 1, none⟩) ooOX (.slice ax nw kx))
    replace OM8 := (Words.Owns.other (Words.Owns.other OM8 (p := ⟨q2, 0, none⟩) ooOM8 (.int .i64 mc)) (p := ⟨q2, 1, none⟩) ooOM8 (.slice ax nw kx))
    replace OD := (ownC_other (i := 1) (u := .slice ax nw kx) (ownC_other (i := 0) (u := .int .i64 mc) OD ooD) ooD)
    replace bb := ((bb.setCell (p := ⟨q2, 0, none⟩) (show g ≤ q2 by omega) (.int .i64 mc)).setCell (p := ⟨q2, 1, none⟩) (show g ≤ q2 by omega) (.slice ax nw kx))
    have Mb := Mb_; have Cb := Cb_; have R1 := R1_; have R2 := R2_; have Xb := Xb_; have Db := Db_; have Yb := Yb_
    clear Mb_ Cb_ R1_ R2_ Xb_ Db_ Yb_ ooOX ooOM8 ooD
    obtain ⟨V66, hWN⟩ : ∃ W, ((V65.setCell ⟨q2, 0, none⟩ (.int .i64 mc)).setCell ⟨q2, 1, none⟩ (.slice ax nw kx)) = W := ⟨_, rfl⟩
    rw [hWN] at Mb Cb R1 R2 Xb Db Yb OX OM8 OD bb ⊢
    clear hWN r1 f1
    refine hK.out _ _ ⟨⟨Xb.cell 0, Xb.cell 1⟩, ⟨Db.cell 0, Db.cell 1, Db.cell 2, Db.cell 3, Db.cell 4, Db.cell 5, Db.cell 6⟩, ⟨Cb.cell 0, Cb.cell 1, Cb.cell 2, Cb.cell 3, Cb.cell 4, Cb.cell 5, Cb.cell 6⟩⟩ (fun _ => ?_)
    clear hK K
    try simp only [Act.put, List.setIfInBounds_toArray, List.set_cons_zero, List.set_cons_succ]
    have r1 := fun i => R2.cell i; have f1 := fun i => R2.froz i
    refine wpAnyH_ready (rs := [7]) (by kernel_rfl) (by simp) ?_
    refine AllReadyH.cons rfl (fun K hK => ?_) AllReadyH.nil
    go_simp
    have ooOX := wordsOff OX R2 (by decide)
    have ooOM8 := wordsOff OM8 R2 (by decide)
    have ooD := twoOff OD R2 (by decide) (by decide)
    have Mb_ := (((((((Mb.other (show g ≠ q3 by omega) 0 (.int .i64 who)).other (show g ≠ q3 by omega) 1 (.int .i64 rv)).other (show g ≠ q3 by omega) 2 (.int .i64 (phB (n : Int)))).other (show g ≠ q3 by omega) 3 (.int .i64 (atB (n : Int)))).other (show g ≠ q3 by omega) 4 (.int .i64 wv)).other (show g ≠ q3 by omega) 5 (.slice a2 n k2)).other (show g ≠ q3 by omega) 6 (.slice d2 m l2))
    have Cb_ := (((((((Cb.other (show q1 ≠ q3 by omega) 0 (.int .i64 who)).other (show q1 ≠ q3 by omega) 1 (.int .i64 rv)).other (show q1 ≠ q3 by omega) 2 (.int .i64 (phB (n : Int)))).other (show q1 ≠ q3 by omega) 3 (.int .i64 (atB (n : Int)))).other (show q1 ≠ q3 by omega) 4 (.int .i64 wv)).other (show q1 ≠ q3 by omega) 5 (.slice a2 n k2)).other (show q1 ≠ q3 by omega) 6 (.slice d2 m l2))
    have R1_ := (((((((R1.other (show q2 ≠ q3 by omega) 0 (.int .i64 who)).other (show q2 ≠ q3 by omega) 1 (.int .i64 rv)).other (show q2 ≠ q3 by omega) 2 (.int .i64 (phB (n : Int)))).other (show q2 ≠ q3 by omega) 3 (.int .i64 (atB (n : Int)))).other (show q2 ≠ q3 by omega) 4 (.int .i64 wv)).other (show q2 ≠ q3 by omega) 5 (.slice a2 n k2)).other (show q2 ≠ q3 by omega) 6 (.slice d2 m l2))
    have R2_ := (((((((R2.set 0 (.int .i64 who)).set 1 (.int .i64 rv)).set 2 (.int .i64 (phB (n : Int)))).set 3 (.int .i64 (atB (n : Int)))).set 4 (.int .i64 wv)).set 5 (.slice a2 n k2)).set 6 (.slice d2 m l2))
    simp only [List.setIfInBounds_toArray, List.set_cons_zero, List.set_cons_succ] at R2_
    have Xb_ := (((((((Xb.other (show q4 ≠ q3 by omega) 0 (.int .i64 who)).other (show q4 ≠ q3 by omega) 1 (.int .i64 rv)).other (show q4 ≠ q3 by omega) 2 (.int .i64 (phB (n : Int)))).other (show q4 ≠ q3 by omega) 3 (.int .i64 (atB (n : Int)))).other (show q4 ≠ q3 by omega) 4 (.int .i64 wv)).other (show q4 ≠ q3 by omega) 5 (.slice a2 n k2)).other (show q4 ≠ q3 by omega) 6 (.slice d2 m l2))
    have Db_ := (((((((Db.other (show q5 ≠ q3 by omega) 0 (.int .i64 who)).other (show q5 ≠ q3 by omega) 1 (.int .i64 rv)).other (show q5 ≠ q3 by omega) 2 (.int .i64 (phB (n : Int)))).other (show q5 ≠ q3 by omega) 3 (.int .i64 (atB (n : Int)))).other (show q5 ≠ q3 by omega) 4 (.int .i64 wv)).other (show q5 ≠ q3 by omega) 5 (.slice a2 n k2)).other (show q5 ≠ q3 by omega) 6 (.slice d2 m l2))
    have Yb_ := (((((((Yb.other (show q8 ≠ q3 by omega) 0 (.int .i64 who)).other (show q8 ≠ q3 by omega) 1 (.int .i64 rv)).other (show q8 ≠ q3 by omega) 2 (.int .i64 (phB (n : Int)))).other (show q8 ≠ q3 by omega) 3 (.int .i64 (atB (n : Int)))).other (show q8 ≠ q3 by omega) 4 (.int .i64 wv)).other (show q8 ≠ q3 by omega) 5 (.slice a2 n k2)).other (show q8 ≠ q3 by omega) 6 (.slice d2 m l2))
    replace OX := (Words.Owns.other (Words.Owns.other (Words.Owns.other (Words.Owns.other (Words.Owns.other (Words.Owns.other (Words.Owns.other OX (p := ⟨q3, 0, none⟩) ooOX (.int .i64 who)) (p := ⟨q3, 1, none⟩) ooOX (.int .i64 rv)) (p := ⟨q3, 2, none⟩) ooOX (.int .i64 (phB (n : Int)))) (p := ⟨q3, 3, none⟩) ooOX (.int .i64 (atB (n : Int)))) (p := ⟨q3, 4, none⟩) ooOX (.int .i64 wv)) (p := ⟨q3, 5, none⟩) ooOX (.slice a2 n k2)) (p := ⟨q3, 6, none⟩) ooOX (.slice d2 m l2))
    replace OM8 := (Words.Owns.other (Words.Owns.other (Words.Owns.other (Words.Owns.other (Words.Owns.other (Words.Owns.other (Words.Owns.other OM8 (p := ⟨q3, 0, none⟩) ooOM8 (.int .i64 who)) (p := ⟨q3, 1, none⟩) ooOM8 (.int .i64 rv)) (p := ⟨q3, 2, none⟩) ooOM8 (.int .i64 (phB (n : Int)))) (p := ⟨q3, 3, none⟩) ooOM8 (.int .i64 (atB (n : Int)))) (p := ⟨q3, 4, none⟩) ooOM8 (.int .i64 wv)) (p := ⟨q3, 5, none⟩) ooOM8 (.slice a2 n k2)) (p := ⟨q3, 6, none⟩) ooOM8 (.slice d2 m l2))
    replace OD := (ownC_other (i := 6) (u := .slice d2 m l2) (ownC_other (i := 5) (u := .slice a2 n k2) (ownC_other (i := 4) (u := .int .i64 wv) (ownC_other (i := 3) (u := .int .i64 (atB (n : Int))) (ownC_other (i := 2) (u := .int .i64 (phB (n : Int))) (ownC_other (i := 1) (u := .int .i64 rv) (ownC_other (i := 0) (u := .int .i64 who) OD ooD) ooD) ooD) ooD) ooD) ooD) ooD)
    replace bb := (((((((bb.setCell (p := ⟨q3, 0, none⟩) (show g ≤ q3 by omega) (.int .i64 who)).setCell (p := ⟨q3, 1, none⟩) (show g ≤ q3 by omega) (.int .i64 rv)).setCell (p := ⟨q3, 2, none⟩) (show g ≤ q3 by omega) (.int .i64 (phB (n : Int)))).setCell (p := ⟨q3, 3, none⟩) (show g ≤ q3 by omega) (.int .i64 (atB (n : Int)))).setCell (p := ⟨q3, 4, none⟩) (show g ≤ q3 by omega) (.int .i64 wv)).setCell (p := ⟨q3, 5, none⟩) (show g ≤ q3 by omega) (.slice a2 n k2)).setCell (p := ⟨q3, 6, none⟩) (show g ≤ q3 by omega) (.slice d2 m l2))
    have Mb := Mb_; have Cb := Cb_; have R1 := R1_; have R2 := R2_; have Xb := Xb_; have Db := Db_; have Yb := Yb_
    clear Mb_ Cb_ R1_ R2_ Xb_ Db_ Yb_ ooOX ooOM8 ooD
    obtain ⟨V67, hWN⟩ : ∃ W, (((((((V66.setCell ⟨q3, 0, none⟩ (.int .i64 who)).setCell ⟨q3, 1, none⟩ (.int .i64 rv)).setCell ⟨q3, 2, none⟩ (.int .i64 (phB (n : Int)))).setCell ⟨q3, 3, none⟩ (.int .i64 (atB (n : Int)))).setCell ⟨q3, 4, none⟩ (.int .i64 wv)).setCell ⟨q3, 5, none⟩ (.slice a2 n k2)).setCell ⟨q3, 6, none⟩ (.slice d2 m l2)) = W := ⟨_, rfl⟩
    rw [hWN] at Mb Cb R1 R2 Xb Db Yb OX OM8 OD bb ⊢
    clear hWN r1 f1
    refine hK.out _ _ ⟨⟨Xb.cell 0, Xb.cell 1⟩, ⟨Db.cell 0, Db.cell 1, Db.cell 2, Db.cell 3, Db.cell 4, Db.cell 5, Db.cell 6⟩, ⟨Cb.cell 0, Cb.cell 1, Cb.cell 2, Cb.cell 3, Cb.cell 4, Cb.cell 5, Cb.cell 6⟩⟩ (fun _ => ?_)
    clear hK K
    try simp only [Act.put, List.setIfInBounds_toArray, List.set_cons_zero, List.set_cons_succ]
    refine wpAnyH_done (by kernel_rfl) ?_ _
    have r1 := fun i => R1.cell i; have r2 := fun i => R2.cell i
    clear hHeld
    go_wp2
    refine bodyPost_ret (v := .tuple #[.agg #[.int .i64 mc, .slice ax nw kx], .agg #[.int .i64 who, .int .i64 rv, .int .i64 (phB (n : Int)), .int .i64 (atB (n : Int)), .int .i64 wv, .slice a2 n k2, .slice d2 m l2]]) (by simp [results, Tryd.results6, go_sem, r1, r2]) rfl ?_
    have OM := OX
    exact told_mk HZ.out HW.out HN.out HM2.out hg OM OD bb
  · have htd : (tr == 0) = false := by simp [htr0]
    have HZ : Hid (Z = ⟨tc, ws, (goPh n m 3), 0, tr⟩) := by show _ = _; rw [HY.out, if_neg htr0, if_neg htr0, if_neg htr0, on_end (show ¬ (k : Int) + 1 < stepsN 2 n m from by show ¬ (k : Int) + 1 < (1 : Int); omega), at_end (show ¬ (k : Int) + 1 < stepsN 2 n m from by show ¬ (k : Int) + 1 < (1 : Int); omega)]
    clear HT HY htr0
    have x1 := fun i => Xb.cell i; have x2 := fun i => Xb.froz i
    have ooOX := wordsOff OX Xb (by decide)
    have ooOM8 := wordsOff OM8 Xb (by decide)
    have ooD := twoOff OD Xb (by decide) (by decide)
    have Mb_ := ((Mb.other (show g ≠ q4 by omega) 0 (.int .i64 tc)).other (show g ≠ q4 by omega) 1 (.slice a8 nw k8))
    have Cb_ := ((Cb.other (show q1 ≠ q4 by omega) 0 (.int .i64 tc)).other (show q1 ≠ q4 by omega) 1 (.slice a8 nw k8))
    have R1_ := ((R1.other (show q2 ≠ q4 by omega) 0 (.int .i64 tc)).other (show q2 ≠ q4 by omega) 1 (.slice a8 nw k8))
    have R2_ := ((R2.other (show q3 ≠ q4 by omega) 0 (.int .i64 tc)).other (show q3 ≠ q4 by omega) 1 (.slice a8 nw k8))
    have Xb_ := ((Xb.set 0 (.int .i64 tc)).set 1 (.slice a8 nw k8))
    simp only [List.setIfInBounds_toArray, List.set_cons_zero, List.set_cons_succ] at Xb_
    have Db_ := ((Db.other (show q5 ≠ q4 by omega) 0 (.int .i64 tc)).other (show q5 ≠ q4 by omega) 1 (.slice a8 nw k8))
    have Yb_ := ((Yb.other (show q8 ≠ q4 by omega) 0 (.int .i64 tc)).other (show q8 ≠ q4 by omega) 1 (.slice a8 nw k8))
    replace OX := (Words.Owns.other (Words.Owns.other OX (p := ⟨q4, 0, none⟩) ooOX (.int .i64 tc)) (p := ⟨q4, 1, none⟩) ooOX (.slice a8 nw k8))
    replace OM8 := (Words.Owns.other (Words.Owns.other OM8 (p := ⟨q4, 0, none⟩) ooOM8 (.int .i64 tc)) (p := ⟨q4, 1, none⟩) ooOM8 (.slice a8 nw k8))
    replace OD := (ownC_other (i := 1) (u := .slice a8 nw k8) (ownC_other (i := 0) (u := .int .i64 tc) OD ooD) ooD)
    replace bb := ((bb.setCell (p := ⟨q4, 0, none⟩) (show g ≤ q4 by omega) (.int .i64 tc)).setCell (p := ⟨q4, 1, none⟩) (show g ≤ q4 by omega) (.slice a8 nw k8))
    have Mb := Mb_; have Cb := Cb_; have R1 := R1_; have R2 := R2_; have Xb := Xb_; have Db := Db_; have Yb := Yb_
    clear Mb_ Cb_ R1_ R2_ Xb_ Db_ Yb_ ooOX ooOM8 ooD
    obtain ⟨WX, hWX⟩ : ∃ W, ((VA.setCell ⟨q4, 0, none⟩ (.int .i64 tc)).setCell ⟨q4, 1, none⟩ (.slice a8 nw k8)) = W := ⟨_, rfl⟩
    rw [hWX] at Mb Cb R1 R2 Xb Db Yb OX OM8 OD bb
    have dA := fun i => Db.cell i; have dB := fun i => Db.froz i
    have ooOX := wordsOff OX Db (by decide)
    have ooOM8 := wordsOff OM8 Db (by decide)
    have ooD := twoOff OD Db (by decide) (by decide)
    have Mb_ := (Mb.other (show g ≠ q5 by omega) 4 (.int .i64 tr))
    have Cb_ := (Cb.other (show q1 ≠ q5 by omega) 4 (.int .i64 tr))
    have R1_ := (R1.other (show q2 ≠ q5 by omega) 4 (.int .i64 tr))
    have R2_ := (R2.other (show q3 ≠ q5 by omega) 4 (.int .i64 tr))
    have Xb_ := (Xb.other (show q4 ≠ q5 by omega) 4 (.int .i64 tr))
    have Db_ := (Db.set 4 (.int .i64 tr))
    simp only [List.setIfInBounds_toArray, List.set_cons_zero, List.set_cons_succ] at Db_
    have Yb_ := (Yb.other (show q8 ≠ q5 by omega) 4 (.int .i64 tr))
    replace OX := (Words.Owns.other OX (p := ⟨q5, 4, none⟩) ooOX (.int .i64 tr))
    replace OM8 := (Words.Owns.other OM8 (p := ⟨q5, 4, none⟩) ooOM8 (.int .i64 tr))
    replace OD := (ownC_other (i := 4) (u := .int .i64 tr) OD ooD)
    replace bb := (bb.setCell (p := ⟨q5, 4, none⟩) (show g ≤ q5 by omega) (.int .i64 tr))
    have Mb := Mb_; have Cb := Cb_; have R1 := R1_; have R2 := R2_; have Xb := Xb_; have Db := Db_; have Yb := Yb_
    clear Mb_ Cb_ R1_ R2_ Xb_ Db_ Yb_ ooOX ooOM8 ooD
    obtain ⟨WT, hWT⟩ : ∃ W, (WX.setCell ⟨q5, 4, none⟩ (.int .i64 tr)) = W := ⟨_, rfl⟩
    rw [hWT] at Mb Cb R1 R2 Xb Db Yb OX OM8 OD bb
    have n0 := Db.cell 0
    have n1 := Db.cell 1
    have n2 := Db.cell 2
    have n3 := Db.cell 3
    have n4 := Db.cell 4
    have n5 := Db.cell 5
    have n6 := Db.cell 6
    go_wp2_with fail
    try rw [hWT]
    clear hVA hq8 y1 y2 hWX hWT x1 x2 dA dB n0 n1 n2 n3 n4 n5 n6
    refine (onS who rv 2 k tr 3 a2 d2 n k2 m l2 WT).mono ?_
    rintro e WO ⟨rfl, b10⟩
    replace Mb := Mb.on b10 Mb.lt
    replace Cb := Cb.on b10 Cb.lt
    replace R1 := R1.on b10 R1.lt
    replace R2 := R2.on b10 R2.lt
    replace Xb := Xb.on b10 Xb.lt
    replace Db := Db.on b10 Db.lt
    replace Yb := Yb.on b10 Yb.lt
    replace OX := OX.on b10 (Nat.le_refl _)
    replace OM8 := OM8.on b10 (Nat.le_refl _)
    replace OD := OD.on b10 (Nat.le_refl _)
    replace bb := bb.trans (b10.mono (by have := bb.size; omega))
    clear b10
    have g1 := fun i => Db.cell i; have g2 := fun i => Db.froz i
    go_wp2_with fail
    have ooOX := wordsOff OX Db (by decide)
    have ooOM8 := wordsOff OM8 Db (by decide)
    have ooD := twoOff OD Db (by decide) (by decide)
    have Mb_ := (((((((Mb.other (show g ≠ q5 by omega) 0 (.int .i64 who)).other (show g ≠ q5 by omega) 1 (.int .i64 rv)).other (show g ≠ q5 by omega) 2 (.int .i64 (goPh n m 3))).other (show g ≠ q5 by omega) 3 (.int .i64 0)).other (show g ≠ q5 by omega) 4 (.int .i64 tr)).other (show g ≠ q5 by omega) 5 (.slice a2 n k2)).other (show g ≠ q5 by omega) 6 (.slice d2 m l2))
    have Cb_ := (((((((Cb.other (show q1 ≠ q5 by omega) 0 (.int .i64 who)).other (show q1 ≠ q5 by omega) 1 (.int .i64 rv)).other (show q1 ≠ q5 by omega) 2 (.int .i64 (goPh n m 3))).other (show q1 ≠ q5 by omega) 3 (.int .i64 0)).other (show q1 ≠ q5 by omega) 4 (.int .i64 tr)).other (show q1 ≠ q5 by omega) 5 (.slice a2 n k2)).other (show q1 ≠ q5 by omega) 6 (.slice d2 m l2))
    have R1_ := (((((((R1.other (show q2 ≠ q5 by omega) 0 (.int .i64 who)).other (show q2 ≠ q5 by omega) 1 (.int .i64 rv)).other (show q2 ≠ q5 by omega) 2 (.int .i64 (goPh n m 3))).other (show q2 ≠ q5 by omega) 3 (.int .i64 0)).other (show q2 ≠ q5 by omega) 4 (.int .i64 tr)).other (show q2 ≠ q5 by omega) 5 (.slice a2 n k2)).other (show q2 ≠ q5 by omega) 6 (.slice d2 m l2))
    have R2_ := (((((((R2.other (show q3 ≠ q5 by omega) 0 (.int .i64 who)).other (show q3 ≠ q5 by omega) 1 (.int .i64 rv)).other (show q3 ≠ q5 by omega) 2 (.int .i64 (goPh n m 3))).other (show q3 ≠ q5 by omega) 3 (.int .i64 0)).other (show q3 ≠ q5 by omega) 4 (.int .i64 tr)).other (show q3 ≠ q5 by omega) 5 (.slice a2 n k2)).other (show q3 ≠ q5 by omega) 6 (.slice d2 m l2))
    have Xb_ := (((((((Xb.other (show q4 ≠ q5 by omega) 0 (.int .i64 who)).other (show q4 ≠ q5 by omega) 1 (.int .i64 rv)).other (show q4 ≠ q5 by omega) 2 (.int .i64 (goPh n m 3))).other (show q4 ≠ q5 by omega) 3 (.int .i64 0)).other (show q4 ≠ q5 by omega) 4 (.int .i64 tr)).other (show q4 ≠ q5 by omega) 5 (.slice a2 n k2)).other (show q4 ≠ q5 by omega) 6 (.slice d2 m l2))
    have Db_ := (((((((Db.set 0 (.int .i64 who)).set 1 (.int .i64 rv)).set 2 (.int .i64 (goPh n m 3))).set 3 (.int .i64 0)).set 4 (.int .i64 tr)).set 5 (.slice a2 n k2)).set 6 (.slice d2 m l2))
    simp only [List.setIfInBounds_toArray, List.set_cons_zero, List.set_cons_succ] at Db_
    have Yb_ := (((((((Yb.other (show q8 ≠ q5 by omega) 0 (.int .i64 who)).other (show q8 ≠ q5 by omega) 1 (.int .i64 rv)).other (show q8 ≠ q5 by omega) 2 (.int .i64 (goPh n m 3))).other (show q8 ≠ q5 by omega) 3 (.int .i64 0)).other (show q8 ≠ q5 by omega) 4 (.int .i64 tr)).other (show q8 ≠ q5 by omega) 5 (.slice a2 n k2)).other (show q8 ≠ q5 by omega) 6 (.slice d2 m l2))
    replace OX := (Words.Owns.other (Words.Owns.other (Words.Owns.other (Words.Owns.other (Words.Owns.other (Words.Owns.other (Words.Owns.other OX (p := ⟨q5, 0, none⟩) ooOX (.int .i64 who)) (p := ⟨q5, 1, none⟩) ooOX (.int .i64 rv)) (p := ⟨q5, 2, none⟩) ooOX (.int .i64 (goPh n m 3))) (p := ⟨q5, 3, none⟩) ooOX (.int .i64 0)) (p := ⟨q5, 4, none⟩) ooOX (.int .i64 tr)) (p := ⟨q5, 5, none⟩) ooOX (.slice a2 n k2)) (p := ⟨q5, 6, none⟩) ooOX (.slice d2 m l2))
    replace OM8 := (Words.Owns.other (Words.Owns.other (Words.Owns.other (Words.Owns.other (Words.Owns.other (Words.Owns.other (Words.Owns.other OM8 (p := ⟨q5, 0, none⟩) ooOM8 (.int .i64 who)) (p := ⟨q5, 1, none⟩) ooOM8 (.int .i64 rv)) (p := ⟨q5, 2, none⟩) ooOM8 (.int .i64 (goPh n m 3))) (p := ⟨q5, 3, none⟩) ooOM8 (.int .i64 0)) (p := ⟨q5, 4, none⟩) ooOM8 (.int .i64 tr)) (p := ⟨q5, 5, none⟩) ooOM8 (.slice a2 n k2)) (p := ⟨q5, 6, none⟩) ooOM8 (.slice d2 m l2))
    replace OD := (ownC_other (i := 6) (u := .slice d2 m l2) (ownC_other (i := 5) (u := .slice a2 n k2) (ownC_other (i := 4) (u := .int .i64 tr) (ownC_other (i := 3) (u := .int .i64 0) (ownC_other (i := 2) (u := .int .i64 (goPh n m 3)) (ownC_other (i := 1) (u := .int .i64 rv) (ownC_other (i := 0) (u := .int .i64 who) OD ooD) ooD) ooD) ooD) ooD) ooD) ooD)
    replace bb := (((((((bb.setCell (p := ⟨q5, 0, none⟩) (show g ≤ q5 by omega) (.int .i64 who)).setCell (p := ⟨q5, 1, none⟩) (show g ≤ q5 by omega) (.int .i64 rv)).setCell (p := ⟨q5, 2, none⟩) (show g ≤ q5 by omega) (.int .i64 (goPh n m 3))).setCell (p := ⟨q5, 3, none⟩) (show g ≤ q5 by omega) (.int .i64 0)).setCell (p := ⟨q5, 4, none⟩) (show g ≤ q5 by omega) (.int .i64 tr)).setCell (p := ⟨q5, 5, none⟩) (show g ≤ q5 by omega) (.slice a2 n k2)).setCell (p := ⟨q5, 6, none⟩) (show g ≤ q5 by omega) (.slice d2 m l2))
    have Mb := Mb_; have Cb := Cb_; have R1 := R1_; have R2 := R2_; have Xb := Xb_; have Db := Db_; have Yb := Yb_
    clear Mb_ Cb_ R1_ R2_ Xb_ Db_ Yb_ ooOX ooOM8 ooD
    obtain ⟨WQ, hWN⟩ : ∃ W, (((((((WO.setCell ⟨q5, 0, none⟩ (.int .i64 who)).setCell ⟨q5, 1, none⟩ (.int .i64 rv)).setCell ⟨q5, 2, none⟩ (.int .i64 (goPh n m 3))).setCell ⟨q5, 3, none⟩ (.int .i64 0)).setCell ⟨q5, 4, none⟩ (.int .i64 tr)).setCell ⟨q5, 5, none⟩ (.slice a2 n k2)).setCell ⟨q5, 6, none⟩ (.slice d2 m l2)) = W := ⟨_, rfl⟩
    rw [hWN] at Mb Cb R1 R2 Xb Db Yb OX OM8 OD bb ⊢
    clear g1 g2 hWN
    have cCM : (WQ.cell? ⟨q4, 0, none⟩ = some (.int .i64 tc) ∧ WQ.cell? ⟨q4, 1, none⟩ = some (.slice a8 nw k8)) ∧ (WQ.cell? ⟨q5, 0, none⟩ = some (.int .i64 who) ∧ WQ.cell? ⟨q5, 1, none⟩ = some (.int .i64 rv) ∧ WQ.cell? ⟨q5, 2, none⟩ = some (.int .i64 (goPh n m 3)) ∧ WQ.cell? ⟨q5, 3, none⟩ = some (.int .i64 0) ∧ WQ.cell? ⟨q5, 4, none⟩ = some (.int .i64 tr) ∧ WQ.cell? ⟨q5, 5, none⟩ = some (.slice a2 n k2) ∧ WQ.cell? ⟨q5, 6, none⟩ = some (.slice d2 m l2)) ∧ (WQ.cell? ⟨q1, 0, none⟩ = some (.int .i64 who) ∧ WQ.cell? ⟨q1, 1, none⟩ = some (.int .i64 rv) ∧ WQ.cell? ⟨q1, 2, none⟩ = some (.int .i64 2) ∧ WQ.cell? ⟨q1, 3, none⟩ = some (.int .i64 (k : Int)) ∧ WQ.cell? ⟨q1, 4, none⟩ = some (.int .i64 wv) ∧ WQ.cell? ⟨q1, 5, none⟩ = some (.slice ap n kp) ∧ WQ.cell? ⟨q1, 6, none⟩ = some (.slice ar m kr)) := ⟨⟨Xb.cell 0, Xb.cell 1⟩, ⟨Db.cell 0, Db.cell 1, Db.cell 2, Db.cell 3, Db.cell 4, Db.cell 5, Db.cell 6⟩, ⟨Cb.cell 0, Cb.cell 1, Cb.cell 2, Cb.cell 3, Cb.cell 4, Cb.cell 5, Cb.cell 6⟩⟩
    replace Mb := Mb.drew
    replace Cb := Cb.drew
    replace R1 := R1.drew
    replace R2 := R2.drew
    replace Xb := Xb.drew
    replace Db := Db.drew
    replace Yb := Yb.drew
    replace OX := OX.drew
    replace OM8 := OM8.drew
    replace OD : OwnC _ _ _ _ _ _ := OD.on (drew_lowC WQ) (Nat.le_refl _); replace bb := bb.drew
    obtain ⟨WD68, hWD⟩ : ∃ W, WQ.drew = W := ⟨_, rfl⟩
    refine wp_region_held_drew (S := fun W => (W.cell? ⟨q4, 0, none⟩ = some (.int .i64 tc) ∧ W.cell? ⟨q4, 1, none⟩ = some (.slice a8 nw k8)) ∧ (W.cell? ⟨q5, 0, none⟩ = some (.int .i64 who) ∧ W.cell? ⟨q5, 1, none⟩ = some (.int .i64 rv) ∧ W.cell? ⟨q5, 2, none⟩ = some (.int .i64 (goPh n m 3)) ∧ W.cell? ⟨q5, 3, none⟩ = some (.int .i64 0) ∧ W.cell? ⟨q5, 4, none⟩ = some (.int .i64 tr) ∧ W.cell? ⟨q5, 5, none⟩ = some (.slice a2 n k2) ∧ W.cell? ⟨q5, 6, none⟩ = some (.slice d2 m l2)) ∧ (W.cell? ⟨q1, 0, none⟩ = some (.int .i64 who) ∧ W.cell? ⟨q1, 1, none⟩ = some (.int .i64 rv) ∧ W.cell? ⟨q1, 2, none⟩ = some (.int .i64 2) ∧ W.cell? ⟨q1, 3, none⟩ = some (.int .i64 (k : Int)) ∧ W.cell? ⟨q1, 4, none⟩ = some (.int .i64 wv) ∧ W.cell? ⟨q1, 5, none⟩ = some (.slice ap n kp) ∧ W.cell? ⟨q1, 6, none⟩ = some (.slice ar m kr))) (by kernel_rfl) cCM (fun hHeld => ?_)
    rw [hWD] at Mb Cb R1 R2 Xb Db Yb OX OM8 OD bb hHeld ⊢
    clear hWD cCM
    refine takeH (i := 0) (some 234) (.agg #[.int .i64 tc, .slice a8 nw k8]) rfl rfl (by kernel_rfl) (by kernel_rfl) (by kernel_rfl) (fun _ _ _ h => h) (Or.inl ⟨by rfl, fun w hSw => by (try dsimp only at hSw); go_simp⟩) (by assumption) ?_
    try simp only [Act.put, List.setIfInBounds_toArray, List.set_cons_zero, List.set_cons_succ]
    refine takeH (i := 1) (some 235) (.agg #[.int .i64 who, .int .i64 rv, .int .i64 (goPh n m 3), .int .i64 0, .int .i64 tr, .slice a2 n k2, .slice d2 m l2]) rfl rfl (by kernel_rfl) (by kernel_rfl) (by kernel_rfl) (fun _ _ _ h => h) (Or.inl ⟨by rfl, fun w hSw => by (try dsimp only at hSw); go_simp⟩) (by assumption) ?_
    try simp only [Act.put, List.setIfInBounds_toArray, List.set_cons_zero, List.set_cons_succ]
    have r1 := fun i => R1.cell i; have f1 := fun i => R1.froz i
    refine wpAnyH_ready (rs := [2]) (by kernel_rfl) (by simp) ?_
    refine AllReadyH.cons rfl (fun K hK => ?_) AllReadyH.nil
    go_simp
    have ooOX := wordsOff OX R1 (by decide)
    have ooOM8 := wordsOff OM8 R1 (by decide)
    have ooD := twoOff OD R1 (by decide) (by decide)
    have Mb_ := ((Mb.other (show g ≠ q2 by omega) 0 (.int .i64 tc)).other (show g ≠ q2 by omega) 1 (.slice a8 nw k8))
    have Cb_ := ((Cb.other (show q1 ≠ q2 by omega) 0 (.int .i64 tc)).other (show q1 ≠ q2 by omega) 1 (.slice a8 nw k8))
    have R1_ := ((R1.set 0 (.int .i64 tc)).set 1 (.slice a8 nw k8))
    simp only [List.setIfInBounds_toArray, List.set_cons_zero, List.set_cons_succ] at R1_
    have R2_ := ((R2.other (show q3 ≠ q2 by omega) 0 (.int .i64 tc)).other (show q3 ≠ q2 by omega) 1 (.slice a8 nw k8))
    have Xb_ := ((Xb.other (show q4 ≠ q2 by omega) 0 (.int .i64 tc)).other (show q4 ≠ q2 by omega) 1 (.slice a8 nw k8))
    have Db_ := ((Db.other (show q5 ≠ q2 by omega) 0 (.int .i64 tc)).other (show q5 ≠ q2 by omega) 1 (.slice a8 nw k8))
    have Yb_ := ((Yb.other (show q8 ≠ q2 by omega) 0 (.int .i64 tc)).other (show q8 ≠ q2 by omega) 1 (.slice a8 nw k8))
    replace OX := (Words.Owns.other (Words.Owns.other OX (p := ⟨q2, 0, none⟩) ooOX (.int .i64 tc)) (p := ⟨q2, 1, none⟩) ooOX (.slice a8 nw k8))
    replace OM8 := (Words.Owns.other (Words.Owns.other OM8 (p := ⟨q2, 0, none⟩) ooOM8 (.int .i64 tc)) (p := ⟨q2, 1, none⟩) ooOM8 (.slice a8 nw k8))
    replace OD := (ownC_other (i := 1) (u := .slice a8 nw k8) (ownC_other (i := 0) (u := .int .i64 tc) OD ooD) ooD)
    replace bb := ((bb.setCell (p := ⟨q2, 0, none⟩) (show g ≤ q2 by omega) (.int .i64 tc)).setCell (p := ⟨q2, 1, none⟩) (show g ≤ q2 by omega) (.slice a8 nw k8))
    have Mb := Mb_; have Cb := Cb_; have R1 := R1_; have R2 := R2_; have Xb := Xb_; have Db := Db_; have Yb := Yb_
    clear Mb_ Cb_ R1_ R2_ Xb_ Db_ Yb_ ooOX ooOM8 ooD
    obtain ⟨V69, hWN⟩ : ∃ W, ((WD68.setCell ⟨q2, 0, none⟩ (.int .i64 tc)).setCell ⟨q2, 1, none⟩ (.slice a8 nw k8)) = W := ⟨_, rfl⟩
    rw [hWN] at Mb Cb R1 R2 Xb Db Yb OX OM8 OD bb ⊢
    clear hWN r1 f1
    refine hK.out _ _ ⟨⟨Xb.cell 0, Xb.cell 1⟩, ⟨Db.cell 0, Db.cell 1, Db.cell 2, Db.cell 3, Db.cell 4, Db.cell 5, Db.cell 6⟩, ⟨Cb.cell 0, Cb.cell 1, Cb.cell 2, Cb.cell 3, Cb.cell 4, Cb.cell 5, Cb.cell 6⟩⟩ (fun _ => ?_)
    clear hK K
    try simp only [Act.put, List.setIfInBounds_toArray, List.set_cons_zero, List.set_cons_succ]
    have r1 := fun i => R2.cell i; have f1 := fun i => R2.froz i
    refine wpAnyH_ready (rs := [3]) (by kernel_rfl) (by simp) ?_
    refine AllReadyH.cons rfl (fun K hK => ?_) AllReadyH.nil
    go_simp
    have ooOX := wordsOff OX R2 (by decide)
    have ooOM8 := wordsOff OM8 R2 (by decide)
    have ooD := twoOff OD R2 (by decide) (by decide)
    have Mb_ := (((((((Mb.other (show g ≠ q3 by omega) 0 (.int .i64 who)).other (show g ≠ q3 by omega) 1 (.int .i64 rv)).other (show g ≠ q3 by omega) 2 (.int .i64 (goPh n m 3))).other (show g ≠ q3 by omega) 3 (.int .i64 0)).other (show g ≠ q3 by omega) 4 (.int .i64 tr)).other (show g ≠ q3 by omega) 5 (.slice a2 n k2)).other (show g ≠ q3 by omega) 6 (.slice d2 m l2))
    have Cb_ := (((((((Cb.other (show q1 ≠ q3 by omega) 0 (.int .i64 who)).other (show q1 ≠ q3 by omega) 1 (.int .i64 rv)).other (show q1 ≠ q3 by omega) 2 (.int .i64 (goPh n m 3))).other (show q1 ≠ q3 by omega) 3 (.int .i64 0)).other (show q1 ≠ q3 by omega) 4 (.int .i64 tr)).other (show q1 ≠ q3 by omega) 5 (.slice a2 n k2)).other (show q1 ≠ q3 by omega) 6 (.slice d2 m l2))
    have R1_ := (((((((R1.other (show q2 ≠ q3 by omega) 0 (.int .i64 who)).other (show q2 ≠ q3 by omega) 1 (.int .i64 rv)).other (show q2 ≠ q3 by omega) 2 (.int .i64 (goPh n m 3))).other (show q2 ≠ q3 by omega) 3 (.int .i64 0)).other (show q2 ≠ q3 by omega) 4 (.int .i64 tr)).other (show q2 ≠ q3 by omega) 5 (.slice a2 n k2)).other (show q2 ≠ q3 by omega) 6 (.slice d2 m l2))
    have R2_ := (((((((R2.set 0 (.int .i64 who)).set 1 (.int .i64 rv)).set 2 (.int .i64 (goPh n m 3))).set 3 (.int .i64 0)).set 4 (.int .i64 tr)).set 5 (.slice a2 n k2)).set 6 (.slice d2 m l2))
    simp only [List.setIfInBounds_toArray, List.set_cons_zero, List.set_cons_succ] at R2_
    have Xb_ := (((((((Xb.other (show q4 ≠ q3 by omega) 0 (.int .i64 who)).other (show q4 ≠ q3 by omega) 1 (.int .i64 rv)).other (show q4 ≠ q3 by omega) 2 (.int .i64 (goPh n m 3))).other (show q4 ≠ q3 by omega) 3 (.int .i64 0)).other (show q4 ≠ q3 by omega) 4 (.int .i64 tr)).other (show q4 ≠ q3 by omega) 5 (.slice a2 n k2)).other (show q4 ≠ q3 by omega) 6 (.slice d2 m l2))
    have Db_ := (((((((Db.other (show q5 ≠ q3 by omega) 0 (.int .i64 who)).other (show q5 ≠ q3 by omega) 1 (.int .i64 rv)).other (show q5 ≠ q3 by omega) 2 (.int .i64 (goPh n m 3))).other (show q5 ≠ q3 by omega) 3 (.int .i64 0)).other (show q5 ≠ q3 by omega) 4 (.int .i64 tr)).other (show q5 ≠ q3 by omega) 5 (.slice a2 n k2)).other (show q5 ≠ q3 by omega) 6 (.slice d2 m l2))
    have Yb_ := (((((((Yb.other (show q8 ≠ q3 by omega) 0 (.int .i64 who)).other (show q8 ≠ q3 by omega) 1 (.int .i64 rv)).other (show q8 ≠ q3 by omega) 2 (.int .i64 (goPh n m 3))).other (show q8 ≠ q3 by omega) 3 (.int .i64 0)).other (show q8 ≠ q3 by omega) 4 (.int .i64 tr)).other (show q8 ≠ q3 by omega) 5 (.slice a2 n k2)).other (show q8 ≠ q3 by omega) 6 (.slice d2 m l2))
    replace OX := (Words.Owns.other (Words.Owns.other (Words.Owns.other (Words.Owns.other (Words.Owns.other (Words.Owns.other (Words.Owns.other OX (p := ⟨q3, 0, none⟩) ooOX (.int .i64 who)) (p := ⟨q3, 1, none⟩) ooOX (.int .i64 rv)) (p := ⟨q3, 2, none⟩) ooOX (.int .i64 (goPh n m 3))) (p := ⟨q3, 3, none⟩) ooOX (.int .i64 0)) (p := ⟨q3, 4, none⟩) ooOX (.int .i64 tr)) (p := ⟨q3, 5, none⟩) ooOX (.slice a2 n k2)) (p := ⟨q3, 6, none⟩) ooOX (.slice d2 m l2))
    replace OM8 := (Words.Owns.other (Words.Owns.other (Words.Owns.other (Words.Owns.other (Words.Owns.other (Words.Owns.other (Words.Owns.other OM8 (p := ⟨q3, 0, none⟩) ooOM8 (.int .i64 who)) (p := ⟨q3, 1, none⟩) ooOM8 (.int .i64 rv)) (p := ⟨q3, 2, none⟩) ooOM8 (.int .i64 (goPh n m 3))) (p := ⟨q3, 3, none⟩) ooOM8 (.int .i64 0)) (p := ⟨q3, 4, none⟩) ooOM8 (.int .i64 tr)) (p := ⟨q3, 5, none⟩) ooOM8 (.slice a2 n k2)) (p := ⟨q3, 6, none⟩) ooOM8 (.slice d2 m l2))
    replace OD := (ownC_other (i := 6) (u := .slice d2 m l2) (ownC_other (i := 5) (u := .slice a2 n k2) (ownC_other (i := 4) (u := .int .i64 tr) (ownC_other (i := 3) (u := .int .i64 0) (ownC_other (i := 2) (u := .int .i64 (goPh n m 3)) (ownC_other (i := 1) (u := .int .i64 rv) (ownC_other (i := 0) (u := .int .i64 who) OD ooD) ooD) ooD) ooD) ooD) ooD) ooD)
    replace bb := (((((((bb.setCell (p := ⟨q3, 0, none⟩) (show g ≤ q3 by omega) (.int .i64 who)).setCell (p := ⟨q3, 1, none⟩) (show g ≤ q3 by omega) (.int .i64 rv)).setCell (p := ⟨q3, 2, none⟩) (show g ≤ q3 by omega) (.int .i64 (goPh n m 3))).setCell (p := ⟨q3, 3, none⟩) (show g ≤ q3 by omega) (.int .i64 0)).setCell (p := ⟨q3, 4, none⟩) (show g ≤ q3 by omega) (.int .i64 tr)).setCell (p := ⟨q3, 5, none⟩) (show g ≤ q3 by omega) (.slice a2 n k2)).setCell (p := ⟨q3, 6, none⟩) (show g ≤ q3 by omega) (.slice d2 m l2))
    have Mb := Mb_; have Cb := Cb_; have R1 := R1_; have R2 := R2_; have Xb := Xb_; have Db := Db_; have Yb := Yb_
    clear Mb_ Cb_ R1_ R2_ Xb_ Db_ Yb_ ooOX ooOM8 ooD
    obtain ⟨V70, hWN⟩ : ∃ W, (((((((V69.setCell ⟨q3, 0, none⟩ (.int .i64 who)).setCell ⟨q3, 1, none⟩ (.int .i64 rv)).setCell ⟨q3, 2, none⟩ (.int .i64 (goPh n m 3))).setCell ⟨q3, 3, none⟩ (.int .i64 0)).setCell ⟨q3, 4, none⟩ (.int .i64 tr)).setCell ⟨q3, 5, none⟩ (.slice a2 n k2)).setCell ⟨q3, 6, none⟩ (.slice d2 m l2)) = W := ⟨_, rfl⟩
    rw [hWN] at Mb Cb R1 R2 Xb Db Yb OX OM8 OD bb ⊢
    clear hWN r1 f1
    refine hK.out _ _ ⟨⟨Xb.cell 0, Xb.cell 1⟩, ⟨Db.cell 0, Db.cell 1, Db.cell 2, Db.cell 3, Db.cell 4, Db.cell 5, Db.cell 6⟩, ⟨Cb.cell 0, Cb.cell 1, Cb.cell 2, Cb.cell 3, Cb.cell 4, Cb.cell 5, Cb.cell 6⟩⟩ (fun _ => ?_)
    clear hK K
    try simp only [Act.put, List.setIfInBounds_toArray, List.set_cons_zero, List.set_cons_succ]
    refine wpAnyH_done (by kernel_rfl) ?_ _
    have r1 := fun i => R1.cell i; have r2 := fun i => R2.cell i
    clear hHeld
    go_wp2
    refine bodyPost_ret (v := .tuple #[.agg #[.int .i64 tc, .slice a8 nw k8], .agg #[.int .i64 who, .int .i64 rv, .int .i64 (goPh n m 3), .int .i64 0, .int .i64 tr, .slice a2 n k2, .slice d2 m l2]]) (by simp [results, Tryd.results6, go_sem, r1, r2]) rfl ?_
    have OM := OM8
    exact told_mk HZ.out HW.out HN.out HM2.out hg OM OD bb
end Commits
end Go.Proofs.YtppikpdphcfomaaDoor
