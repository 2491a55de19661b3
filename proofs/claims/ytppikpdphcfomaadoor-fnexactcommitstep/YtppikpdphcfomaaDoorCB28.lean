/- Several texts of one proof, in build order: CommitSpecStep3. -/
import Derived.Test.YtppikpdphcfomaaDoorCB13
import Derived.Test.YtppikpdphcfomaaDoorCB16
import Derived.Test.YtppikpdphcfomaaDoorCB20
import Derived.Test.YtppikpdphcfomaaDoorCB23
import Derived.Test.YtppikpdphcfomaaDoorCB24
import Derived.Test.YtppikpdphcfomaaDoorCB25
/- CommitStep, as specified: phase 3. -/
set_option linter.unusedVariables false
set_option linter.unusedSimpArgs false
namespace Go.Proofs.YtppikpdphcfomaaDoor
open Go.RowKit
namespace Commits
open Bas Flat Logs
open Words (W3 lockMay lockTo storeMay storeTo unlockMay unlockTo tickC tickR Err wAt memOk)
theorem on_mid3 {ph at' : Int} {n m : Nat} {p : Int} (h : at' + 1 < stepsN ph n m) : onPh ph at' n m p = ph := if_pos h
theorem at_mid3 {ph at' : Int} {n m : Nat} (h : at' + 1 < stepsN ph n m) : onAt ph at' n m = at' + 1 := if_pos h

set_option maxRecDepth 100000 in
set_option maxHeartbeats 12800000 in
theorem specStep3 (who rv wv : Int) (k : Nat) (ps : List R2) (rs : List Int) (mc : Int) (ws : List W3) (vM vP vR : Value) (B : Nat) (w : World)
    (hM : Words.Sees B w vM ws) (hC : SeeC B w vP vR ps rs) (hB : B ≤ w.heap.size) (hl : ws.length ≤ 1048576) (hMO : memOk mc ws = true) (hCO : commitOk ⟨who, rv, 3, (k : Int), wv, ps, rs⟩ = true) :
    Calls Tryd.prog 6 #[.agg #[.int .i64 mc, vM], .agg #[.int .i64 who, .int .i64 rv, .int .i64 3, .int .i64 (k : Int), .int .i64 wv, vP, vR]] w fun e w' => StepTold who rv ps rs (stepY mc ws ⟨who, rv, 3, (k : Int), wv, ps, rs⟩) w e w' := by
  obtain ⟨av, kv, rfl⟩ := hM.form
  obtain ⟨ap, kp, rfl⟩ := hC.p.form
  obtain ⟨ar, kr, rfl⟩ := hC.r.form
  obtain ⟨hb1, hb2, hb3, hb4, -⟩ := bounds_of hCO
  have hrow := step_row hCO
  have hrd := step_read hCO
  have hl8 := (Words.memOk_out hMO).1
  have hmc := (Words.memOk_out hMO).2.1
  dsimp only at hb1 hb2 hb3 hb4 hrow hrd
  obtain ⟨g, hg⟩ : ∃ g, w.heap.size = g := ⟨_, rfl⟩
  have hcm := fun v (W : World) (h : Words.Sees B W v ws) (hB : B ≤ W.heap.size) => Words.specCopy mc v ws B W h hB hl
  have hcc := fun vP vR (W : World) (h : SeeC B W vP vR ps rs) (hB : B ≤ W.heap.size) => copyS who rv 3 (k : Int) wv ps rs vP vR B W h hB (by omega) (by omega)
  have hmo := fun v (W : World) (h : Words.Sees B W v ws) (hB : B ≤ W.heap.size) => Words.specOk mc v ws B W h hB
  have hco := fun vP vR (W : World) (h : SeeC B W vP vR ps rs) (hB : B ≤ W.heap.size) => specOkE _ who rv 3 (k : Int) wv ps rs rfl vP vR B W h hB
  rw [hMO] at hmo
  rw [hCO] at hco
  obtain ⟨Z, hZ⟩ : ∃ Z, stepY mc ws ⟨who, rv, 3, (k : Int), wv, ps, rs⟩ = Z := ⟨_, rfl⟩
  rw [hZ]
  obtain ⟨n, hn⟩ : ∃ n, ps.length = n := ⟨_, rfl⟩
  obtain ⟨m, hm⟩ : ∃ n, rs.length = n := ⟨_, rfl⟩
  obtain ⟨nw, hnw⟩ : ∃ n, ws.length = n := ⟨_, rfl⟩
  have HN := (show Hid (ps.length = n) from hn); have HM2 := (show Hid (rs.length = m) from hm); have HW := (show Hid (ws.length = nw) from hnw)
  rw [Int.toNat_natCast] at hrd
  obtain ⟨hk, cn, hcn, hcl⟩ := hrd rfl
  obtain ⟨bm, om, rfl, hbm, hwa, hwb, hwc⟩ := word3_at hM cn (by omega)
  obtain ⟨br, or', rfl, hbr, hrr⟩ := int_at hC.r k (by omega)
  rw [hcn] at hrr
  obtain ⟨x, hx⟩ : ∃ x, wAt ws (cn : Int) = x := ⟨_, rfl⟩
  rw [hx] at hwa hwb hwc
  have HY : Hid (Z = ⟨mc, ws, if bad x who rv = true then phB n else onPh 3 k n m 4, if bad x who rv = true then atB n else onAt 3 k n m, wv⟩) := by
    have hy : stepY mc ws ⟨who, rv, 3, (k : Int), wv, ps, rs⟩ = ⟨mc, ws, if bad (wAt ws (rs.getD k 0)) who rv = true then phB ps.length else onPh 3 k ps.length rs.length 4, if bad (wAt ws (rs.getD k 0)) who rv = true then atB ps.length else onAt 3 k ps.length rs.length, wv⟩ := rfl
    rw [hZ, hcn, hx, hn, hm] at hy
    exact hy
  obtain ⟨xv, xw, xo⟩ := x
  dsimp only at hwa hwb hwc
  clear hZ hcn hx hrow hrd
  have hcI : (cn : Int) < 8 := by omega
  have hc0 : (0 : Int) ≤ cn := by omega
  rw [hm] at hk
  rw [hn] at hC hcc hb1 ⊢
  rw [hm] at hC hcc hb2 ⊢
  rw [hnw] at hM hl hl8 ⊢
  have HL8 := (show Hid (nw = 8) from hl8)
  clear hl8 hn hm hnw hMO hCO
  have Mb := Blk.new w #[.int .i64 mc, .slice (some ⟨bm, om, none⟩) nw kv] 33
  have b0 := alloc_below w (.cells #[.int .i64 mc, .slice (some ⟨bm, om, none⟩) nw kv] 33)
  obtain ⟨w0, hw0⟩ : ∃ w0, w.alloc (.cells #[.int .i64 mc, .slice (some ⟨bm, om, none⟩) nw kv] 33) = w0 := ⟨_, rfl⟩
  have hz0 : w0.heap.size = g + 1 := by rw [← hw0, ← hg]; simp
  rw [hw0] at Mb b0
  rw [hg] at Mb b0 hB
  obtain ⟨q1, hq1⟩ : ∃ q, w0.heap.size = q := ⟨_, rfl⟩
  have l01 : g < q1 := by omega
  clear hz0
  have Cb := Blk.new w0 #[.int .i64 who, .int .i64 rv, .int .i64 3, .int .i64 (k : Int), .int .i64 wv, .slice ap n kp, .slice (some ⟨br, or', none⟩) m kr] 36
  have b1 := alloc_below w0 (.cells #[.int .i64 who, .int .i64 rv, .int .i64 3, .int .i64 (k : Int), .int .i64 wv, .slice ap n kp, .slice (some ⟨br, or', none⟩) m kr] 36)
  obtain ⟨w1, hw1⟩ : ∃ w1, w0.alloc (.cells #[.int .i64 who, .int .i64 rv, .int .i64 3, .int .i64 (k : Int), .int .i64 wv, .slice ap n kp, .slice (some ⟨br, or', none⟩) m kr] 36) = w1 := ⟨_, rfl⟩
  have hz1 : w1.heap.size = q1 + 1 := by rw [← hw1, ← hq1]; simp
  rw [hw1] at Cb b1
  rw [hq1] at Cb b1
  obtain ⟨q2, hq2⟩ : ∃ q, w1.heap.size = q := ⟨_, rfl⟩
  have l12 : q1 < q2 := by omega
  clear hz1
  have R1 := Blk.new w1 #[.int .i64 0, .slice none 0 0] 33
  have b2 := alloc_below w1 (.cells #[.int .i64 0, .slice none 0 0] 33)
  obtain ⟨w2, hw2⟩ : ∃ w2, w1.alloc (.cells #[.int .i64 0, .slice none 0 0] 33) = w2 := ⟨_, rfl⟩
  have hz2 : w2.heap.size = q2 + 1 := by rw [← hw2, ← hq2]; simp
  rw [hw2] at R1 b2
  rw [hq2] at R1 b2
  obtain ⟨q3, hq3⟩ : ∃ q, w2.heap.size = q := ⟨_, rfl⟩
  have l23 : q2 < q3 := by omega
  clear hz2
  have R2 := Blk.new w2 #[.int .i64 0, .int .i64 0, .int .i64 0, .int .i64 0, .int .i64 0, .slice none 0 0, .slice none 0 0] 36
  have b3 := alloc_below w2 (.cells #[.int .i64 0, .int .i64 0, .int .i64 0, .int .i64 0, .int .i64 0, .slice none 0 0, .slice none 0 0] 36)
  obtain ⟨w3, hw3⟩ : ∃ w3, w2.alloc (.cells #[.int .i64 0, .int .i64 0, .int .i64 0, .int .i64 0, .int .i64 0, .slice none 0 0, .slice none 0 0] 36) = w3 := ⟨_, rfl⟩
  rw [hw3] at R2 b3
  rw [hq3] at R2 b3
  replace Mb := ((Mb.on b1 (by omega)).on b2 (by omega)).on b3 (by omega)
  replace Cb := (Cb.on b2 (by omega)).on b3 (by omega)
  replace R1 := R1.on b3 (by omega)
  have bb : Below g w w3 := ((b0.trans (b1.mono (by omega))).trans (b2.mono (by omega))).trans (b3.mono (by omega))
  have l3 : q3 < w3.heap.size := R2.lt
  replace hM := hM.on bb hB; replace hC := hC.on bb hB
  clear b0 b1 b2 b3
  have eR : w3.cell? ⟨br, or' + k, none⟩ = some (.int .i64 cn) := (bb.cell (p := ⟨br, or' + k, none⟩) (show br < g by omega)).trans hrr
  have eA : w3.cell? ⟨bm, om + cn * 3, none⟩ = some (.int .i64 xv) := (bb.cell (p := ⟨bm, om + cn * 3, none⟩) (show bm < g by omega)).trans hwa
  have eB : w3.cell? ⟨bm, om + cn * 3 + 1, none⟩ = some (.int .i64 xw) := (bb.cell (p := ⟨bm, om + cn * 3 + 1, none⟩) (show bm < g by omega)).trans hwb
  have eC : w3.cell? ⟨bm, om + cn * 3 + 2, none⟩ = some (.int .i64 xo) := (bb.cell (p := ⟨bm, om + cn * 3 + 2, none⟩) (show bm < g by omega)).trans hwc
  have hkI : (k : Int) < m := by omega
  have hk0 : (0 : Int) ≤ k := by omega
  have hcW : (cn : Int) < nw := by have := HL8.out; omega
  clear hwa hwb hwc hrr
  have m0 := Mb.cell 0; have m1 := Mb.cell 1
  go_enter Tryd.func6, Tryd.ntmps6
  go_wp2_with fail
  clear hw0 hw1 hw2 hw3 m0 m1
  refine (hcm _ w3 hM (by have := bb.size; omega)).mono ?_
  rintro e w4 ⟨vx, rfl, OX, b4⟩
  obtain ⟨ax, kx, rfl⟩ := OX.form
  rw [HW.out] at OX ⊢
  replace OX := OX.mono (show g ≤ w3.heap.size by have := bb.size; omega)
  replace Mb := Mb.on b4 Mb.lt; replace Cb := Cb.on b4 Cb.lt; replace R1 := R1.on b4 R1.lt; replace R2 := R2.on b4 R2.lt
  replace hM := hM.on b4 (by have := bb.size; omega); replace hC := hC.on b4 (by have := bb.size; omega)
  replace eR := (b4.cell (p := ⟨br, or' + k, none⟩) (show br < _ by have := bb.size; omega)).trans eR; replace eA := (b4.cell (p := ⟨bm, om + cn * 3, none⟩) (show bm < _ by have := bb.size; omega)).trans eA; replace eB := (b4.cell (p := ⟨bm, om + cn * 3 + 1, none⟩) (show bm < _ by have := bb.size; omega)).trans eB; replace eC := (b4.cell (p := ⟨bm, om + cn * 3 + 2, none⟩) (show bm < _ by have := bb.size; omega)).trans eC
  replace bb := bb.trans (b4.mono (by have := bb.size; omega))
  have l4 : q3 < w4.heap.size := R2.lt
  clear b4 l3 hcm
  have Xb := Blk.new w4 #[.int .i64 mc, .slice ax nw kx] 33
  have b5 := alloc_below w4 (.cells #[.int .i64 mc, .slice ax nw kx] 33)
  obtain ⟨q4, hq4⟩ : ∃ q, w4.heap.size = q := ⟨_, rfl⟩
  have l34 : q3 < q4 := by omega
  obtain ⟨w5, hw5⟩ : ∃ W, w4.alloc (.cells #[.int .i64 mc, .slice ax nw kx] 33) = W := ⟨_, rfl⟩
  rw [hw5] at Xb b5
  rw [hq4] at Xb
  replace Mb := Mb.on b5 Mb.lt; replace Cb := Cb.on b5 Cb.lt; replace R1 := R1.on b5 R1.lt; replace R2 := R2.on b5 R2.lt; replace OX := OX.on b5 (Nat.le_refl _)
  replace hM := hM.on b5 (by have := bb.size; omega); replace hC := hC.on b5 (by have := bb.size; omega)
  replace eR := (b5.cell (p := ⟨br, or' + k, none⟩) (show br < _ by have := bb.size; omega)).trans eR; replace eA := (b5.cell (p := ⟨bm, om + cn * 3, none⟩) (show bm < _ by have := bb.size; omega)).trans eA; replace eB := (b5.cell (p := ⟨bm, om + cn * 3 + 1, none⟩) (show bm < _ by have := bb.size; omega)).trans eB; replace eC := (b5.cell (p := ⟨bm, om + cn * 3 + 2, none⟩) (show bm < _ by have := bb.size; omega)).trans eC
  replace bb := bb.trans (b5.mono (by have := bb.size; omega))
  clear b5
  have c0 := Cb.cell 0; have c1 := Cb.cell 1; have c2 := Cb.cell 2; have c3 := Cb.cell 3; have c4 := Cb.cell 4; have c5 := Cb.cell 5; have c6 := Cb.cell 6
  have xf := fun i => Xb.cell i; have xg := fun i => Xb.froz i
  go_wp2_with fail
  try rw [hw5]
  clear c0 c1 c2 c3 c4 c5 c6 xf xg
  refine (hcc _ _ w5 hC (by have := bb.size; omega)).mono ?_
  rintro e w6 ⟨a2, k2, d2, l2, rfl, OD, b6⟩
  replace OD := OD.mono (show g ≤ w5.heap.size by have := bb.size; omega)
  replace Mb := Mb.on b6 Mb.lt; replace Cb := Cb.on b6 Cb.lt; replace R1 := R1.on b6 R1.lt; replace R2 := R2.on b6 R2.lt; replace Xb := Xb.on b6 Xb.lt; replace OX := OX.on b6 (Nat.le_refl _)
  replace hM := hM.on b6 (by have := bb.size; omega); replace hC := hC.on b6 (by have := bb.size; omega)
  replace eR := (b6.cell (p := ⟨br, or' + k, none⟩) (show br < _ by have := bb.size; omega)).trans eR; replace eA := (b6.cell (p := ⟨bm, om + cn * 3, none⟩) (show bm < _ by have := bb.size; omega)).trans eA; replace eB := (b6.cell (p := ⟨bm, om + cn * 3 + 1, none⟩) (show bm < _ by have := bb.size; omega)).trans eB; replace eC := (b6.cell (p := ⟨bm, om + cn * 3 + 2, none⟩) (show bm < _ by have := bb.size; omega)).trans eC
  replace bb := bb.trans (b6.mono (by have := bb.size; omega))
  have l6 : q4 < w6.heap.size := Xb.lt
  clear b6 hw5 hq4 hcc l4
  have Db := Blk.new w6 #[.int .i64 who, .int .i64 rv, .int .i64 3, .int .i64 (k : Int), .int .i64 wv, .slice a2 n k2, .slice d2 m l2] 36
  have b7 := alloc_below w6 (.cells #[.int .i64 who, .int .i64 rv, .int .i64 3, .int .i64 (k : Int), .int .i64 wv, .slice a2 n k2, .slice d2 m l2] 36)
  obtain ⟨q5, hq5⟩ : ∃ q, w6.heap.size = q := ⟨_, rfl⟩
  have l45 : q4 < q5 := by omega
  obtain ⟨w7, hw7⟩ : ∃ W, w6.alloc (.cells #[.int .i64 who, .int .i64 rv, .int .i64 3, .int .i64 (k : Int), .int .i64 wv, .slice a2 n k2, .slice d2 m l2] 36) = W := ⟨_, rfl⟩
  rw [hw7] at Db b7
  rw [hq5] at Db
  replace Mb := Mb.on b7 Mb.lt; replace Cb := Cb.on b7 Cb.lt; replace R1 := R1.on b7 R1.lt; replace R2 := R2.on b7 R2.lt; replace Xb := Xb.on b7 Xb.lt; replace OX := OX.on b7 (Nat.le_refl _); replace OD := OD.on b7 (Nat.le_refl _)
  replace hM := hM.on b7 (by have := bb.size; omega); replace hC := hC.on b7 (by have := bb.size; omega)
  replace eR := (b7.cell (p := ⟨br, or' + k, none⟩) (show br < _ by have := bb.size; omega)).trans eR; replace eA := (b7.cell (p := ⟨bm, om + cn * 3, none⟩) (show bm < _ by have := bb.size; omega)).trans eA; replace eB := (b7.cell (p := ⟨bm, om + cn * 3 + 1, none⟩) (show bm < _ by have := bb.size; omega)).trans eB; replace eC := (b7.cell (p := ⟨bm, om + cn * 3 + 2, none⟩) (show bm < _ by have := bb.size; omega)).trans eC
  replace bb := bb.trans (b7.mono (by have := bb.size; omega))
  clear b7
  have m0 := Mb.cell 0; have m1 := Mb.cell 1
  have df := fun i => Db.cell i; have dg := fun i => Db.froz i
  go_wp2_with fail
  try rw [hw7]
  clear m0 m1 df dg hw7 hq5
  refine (hmo _ w7 hM (by have := bb.size; omega)).mono ?_
  rintro e w8 ⟨rfl, b8⟩
  replace Mb := Mb.on b8 Mb.lt
  replace Cb := Cb.on b8 Cb.lt
  replace R1 := R1.on b8 R1.lt
  replace R2 := R2.on b8 R2.lt
  replace Xb := Xb.on b8 Xb.lt
  replace Db := Db.on b8 Db.lt
  replace OX := OX.on b8 (Nat.le_refl _)
  replace OD := OD.on b8 (Nat.le_refl _)
  replace hM := hM.on b8 (by have := bb.size; omega); replace hC := hC.on b8 (by have := bb.size; omega)
  replace eR := (b8.cell (p := ⟨br, or' + k, none⟩) (show br < _ by have := bb.size; omega)).trans eR; replace eA := (b8.cell (p := ⟨bm, om + cn * 3, none⟩) (show bm < _ by have := bb.size; omega)).trans eA; replace eB := (b8.cell (p := ⟨bm, om + cn * 3 + 1, none⟩) (show bm < _ by have := bb.size; omega)).trans eB; replace eC := (b8.cell (p := ⟨bm, om + cn * 3 + 2, none⟩) (show bm < _ by have := bb.size; omega)).trans eC
  replace bb := bb.trans (b8.mono (by have := bb.size; omega))
  clear b8
  have c0 := Cb.cell 0; have c1 := Cb.cell 1; have c2 := Cb.cell 2; have c3 := Cb.cell 3; have c4 := Cb.cell 4; have c5 := Cb.cell 5; have c6 := Cb.cell 6
  go_wp2_with fail
  clear c0 c1 c2 c3 c4 c5 c6
  refine (hco _ _ w8 hC (by have := bb.size; omega)).mono ?_
  rintro e w9 ⟨rfl, b9⟩
  replace Mb := Mb.on b9 Mb.lt
  replace Cb := Cb.on b9 Cb.lt
  replace R1 := R1.on b9 R1.lt
  replace R2 := R2.on b9 R2.lt
  replace Xb := Xb.on b9 Xb.lt
  replace Db := Db.on b9 Db.lt
  replace OX := OX.on b9 (Nat.le_refl _)
  replace OD := OD.on b9 (Nat.le_refl _)
  replace hM := hM.on b9 (by have := bb.size; omega); replace hC := hC.on b9 (by have := bb.size; omega)
  replace eR := (b9.cell (p := ⟨br, or' + k, none⟩) (show br < _ by have := bb.size; omega)).trans eR; replace eA := (b9.cell (p := ⟨bm, om + cn * 3, none⟩) (show bm < _ by have := bb.size; omega)).trans eA; replace eB := (b9.cell (p := ⟨bm, om + cn * 3 + 1, none⟩) (show bm < _ by have := bb.size; omega)).trans eB; replace eC := (b9.cell (p := ⟨bm, om + cn * 3 + 2, none⟩) (show bm < _ by have := bb.size; omega)).trans eC
  replace bb := bb.trans (b9.mono (by have := bb.size; omega))
  clear b9 hmo hco
  have c2 := Cb.cell 2
  go_wp2_with fail
  clear c2
  have cCM : (w9.cell? ⟨q1, 0, none⟩ = some (.int .i64 who) ∧ w9.cell? ⟨q1, 1, none⟩ = some (.int .i64 rv) ∧ w9.cell? ⟨q1, 2, none⟩ = some (.int .i64 3) ∧ w9.cell? ⟨q1, 3, none⟩ = some (.int .i64 (k : Int)) ∧ w9.cell? ⟨q1, 4, none⟩ = some (.int .i64 wv) ∧ w9.cell? ⟨q1, 5, none⟩ = some (.slice ap n kp) ∧ w9.cell? ⟨q1, 6, none⟩ = some (.slice (some ⟨br, or', none⟩) m kr)) ∧ (w9.cell? ⟨g, 0, none⟩ = some (.int .i64 mc) ∧ w9.cell? ⟨g, 1, none⟩ = some (.slice (some ⟨bm, om, none⟩) nw kv)) ∧ w9.cell? ⟨br, or' + k, none⟩ = some (.int .i64 cn) ∧ w9.cell? ⟨bm, om + cn * 3, none⟩ = some (.int .i64 xv) ∧ w9.cell? ⟨bm, om + cn * 3 + 1, none⟩ = some (.int .i64 xw) ∧ w9.cell? ⟨bm, om + cn * 3 + 2, none⟩ = some (.int .i64 xo) := ⟨⟨Cb.cell 0, Cb.cell 1, Cb.cell 2, Cb.cell 3, Cb.cell 4, Cb.cell 5, Cb.cell 6⟩, ⟨Mb.cell 0, Mb.cell 1⟩, eR, eA, eB, eC⟩
  replace Mb := Mb.drew
  replace Cb := Cb.drew
  replace R1 := R1.drew
  replace R2 := R2.drew
  replace Xb := Xb.drew
  replace Db := Db.drew
  replace OX := OX.drew
  replace hM := hM.on (drew_lowC w9) (show B ≤ w9.heap.size by have := bb.size; omega); replace hC := hC.on (drew_lowC w9) (show B ≤ w9.heap.size by have := bb.size; omega)
  replace OD : OwnC _ _ _ _ _ _ := OD.on (drew_lowC w9) (Nat.le_refl _); replace bb := bb.drew
  replace eR : w9.drew.cell? ⟨br, or' + k, none⟩ = _ := eR
  replace eA : w9.drew.cell? ⟨bm, om + cn * 3, none⟩ = _ := eA
  replace eB : w9.drew.cell? ⟨bm, om + cn * 3 + 1, none⟩ = _ := eB
  replace eC : w9.drew.cell? ⟨bm, om + cn * 3 + 2, none⟩ = _ := eC
  obtain ⟨WD71, hWD⟩ : ∃ W, w9.drew = W := ⟨_, rfl⟩
  refine wp_region_held_drew (S := fun W => (W.cell? ⟨q1, 0, none⟩ = some (.int .i64 who) ∧ W.cell? ⟨q1, 1, none⟩ = some (.int .i64 rv) ∧ W.cell? ⟨q1, 2, none⟩ = some (.int .i64 3) ∧ W.cell? ⟨q1, 3, none⟩ = some (.int .i64 (k : Int)) ∧ W.cell? ⟨q1, 4, none⟩ = some (.int .i64 wv) ∧ W.cell? ⟨q1, 5, none⟩ = some (.slice ap n kp) ∧ W.cell? ⟨q1, 6, none⟩ = some (.slice (some ⟨br, or', none⟩) m kr)) ∧ (W.cell? ⟨g, 0, none⟩ = some (.int .i64 mc) ∧ W.cell? ⟨g, 1, none⟩ = some (.slice (some ⟨bm, om, none⟩) nw kv)) ∧ W.cell? ⟨br, or' + k, none⟩ = some (.int .i64 cn) ∧ W.cell? ⟨bm, om + cn * 3, none⟩ = some (.int .i64 xv) ∧ W.cell? ⟨bm, om + cn * 3 + 1, none⟩ = some (.int .i64 xw) ∧ W.cell? ⟨bm, om + cn * 3 + 2, none⟩ = some (.int .i64 xo)) (by kernel_rfl) cCM (fun hHeld => ?_)
  rw [hWD] at Mb Cb R1 R2 Xb Db OX OD bb hM hC eR eA eB eC hHeld ⊢
  clear hWD cCM
  refine takeH (i := 0) (some 94) (.pointer (some ⟨g, 1, none⟩)) rfl rfl (by kernel_rfl) (by kernel_rfl) (by kernel_rfl) (fun _ _ _ h => h) (Or.inl ⟨by rfl, fun w hSw => by (try dsimp only at hSw); go_simp⟩) (by assumption) ?_
  try simp only [Act.put, List.setIfInBounds_toArray, List.set_cons_zero, List.set_cons_succ]
  refine takeH (i := 1) (some 95) (.slice (some ⟨bm, om, none⟩) nw kv) rfl rfl (by kernel_rfl) (by kernel_rfl) (by kernel_rfl) (fun _ _ _ h => h) (Or.inl ⟨by rfl, fun w hSw => by (try dsimp only at hSw); go_simp⟩) (by assumption) ?_
  try simp only [Act.put, List.setIfInBounds_toArray, List.set_cons_zero, List.set_cons_succ]
  refine takeH (i := 2) (some 96) (.pointer (some ⟨q1, 6, none⟩)) rfl rfl (by kernel_rfl) (by kernel_rfl) (by kernel_rfl) (fun _ _ _ h => h) (Or.inl ⟨by rfl, fun w hSw => by (try dsimp only at hSw); go_simp⟩) (by assumption) ?_
  try simp only [Act.put, List.setIfInBounds_toArray, List.set_cons_zero, List.set_cons_succ]
  refine takeH (i := 3) (some 97) (.slice (some ⟨br, or', none⟩) m kr) rfl rfl (by kernel_rfl) (by kernel_rfl) (by kernel_rfl) (fun _ _ _ h => h) (Or.inl ⟨by rfl, fun w hSw => by (try dsimp only at hSw); go_simp⟩) (by assumption) ?_
  try simp only [Act.put, List.setIfInBounds_toArray, List.set_cons_zero, List.set_cons_succ]
  refine takeH (i := 4) (some 98) (.pointer (some ⟨q1, 3, none⟩)) rfl rfl (by kernel_rfl) (by kernel_rfl) (by kernel_rfl) (fun _ _ _ h => h) (Or.inl ⟨by rfl, fun w hSw => by (try dsimp only at hSw); go_simp⟩) (by assumption) ?_
  try simp only [Act.put, List.setIfInBounds_toArray, List.set_cons_zero, List.set_cons_succ]
  refine takeH (i := 5) (some 99) (.int .i64 k) rfl rfl (by kernel_rfl) (by kernel_rfl) (by kernel_rfl) (fun _ _ _ h => h) (Or.inl ⟨by rfl, fun w hSw => by (try dsimp only at hSw); go_simp⟩) (by assumption) ?_
  try simp only [Act.put, List.setIfInBounds_toArray, List.set_cons_zero, List.set_cons_succ]
  refine takeH (i := 6) (some 100) (.pointer (some ⟨br, or' + k, none⟩)) rfl rfl (by kernel_rfl) (by kernel_rfl) (by kernel_rfl) (fun _ _ _ h => h) (Or.inl ⟨by rfl, fun w hSw => by (try dsimp only at hSw); go_simp⟩) (by assumption) ?_
  try simp only [Act.put, List.setIfInBounds_toArray, List.set_cons_zero, List.set_cons_succ]
  refine takeH (i := 7) (some 101) (.int .i64 cn) rfl rfl (by kernel_rfl) (by kernel_rfl) (by kernel_rfl) (fun _ _ _ h => h) (Or.inl ⟨by rfl, fun w hSw => by (try dsimp only at hSw); go_simp⟩) (by assumption) ?_
  try simp only [Act.put, List.setIfInBounds_toArray, List.set_cons_zero, List.set_cons_succ]
  refine takeH (i := 8) (some 102) (.pointer (some ⟨bm, om + cn * 3, none⟩)) rfl rfl (by kernel_rfl) (by kernel_rfl) (by kernel_rfl) (fun _ _ _ h => h) (Or.inl ⟨by rfl, fun w hSw => by (try dsimp only at hSw); go_simp⟩) (by assumption) ?_
  try simp only [Act.put, List.setIfInBounds_toArray, List.set_cons_zero, List.set_cons_succ]
  refine takeH (i := 9) (some 103) (.agg #[.int .i64 xv, .int .i64 xw, .int .i64 xo]) rfl rfl (by kernel_rfl) (by kernel_rfl) (by kernel_rfl) (fun _ _ _ h => h) (Or.inl ⟨by rfl, fun w hSw => by (try dsimp only at hSw); go_simp⟩) (by assumption) ?_
  try simp only [Act.put, List.setIfInBounds_toArray, List.set_cons_zero, List.set_cons_succ]
  refine wpAnyH_ready (rs := [10]) (by kernel_rfl) (by simp) ?_
  refine AllReadyH.cons rfl (fun K hK => ?_) AllReadyH.nil
  go_simp
  have bA := alloc_below WD71 (.cells #[.int .i64 0, .int .i64 0, .int .i64 0] 61)
  have Wb := Blk.new WD71 #[.int .i64 0, .int .i64 0, .int .i64 0] 61
  have hl5 : q5 < WD71.heap.size := Db.lt
  have hOX8 : ∀ k, (Value.slice ax nw kx).ownBlock = some k → k < WD71.heap.size := fun k hk => (Words.Owns.at OX k hk).2
  replace eR := (bA.cell (p := ⟨br, or' + k, none⟩) (show br < _ by have := bb.size; omega)).trans eR
  replace eA := (bA.cell (p := ⟨bm, om + cn * 3, none⟩) (show bm < _ by have := bb.size; omega)).trans eA
  replace eB := (bA.cell (p := ⟨bm, om + cn * 3 + 1, none⟩) (show bm < _ by have := bb.size; omega)).trans eB
  replace eC := (bA.cell (p := ⟨bm, om + cn * 3 + 2, none⟩) (show bm < _ by have := bb.size; omega)).trans eC
  replace Mb := Mb.on bA Mb.lt
  replace Cb := Cb.on bA Cb.lt
  replace R1 := R1.on bA R1.lt
  replace R2 := R2.on bA R2.lt
  replace Xb := Xb.on bA Xb.lt
  replace Db := Db.on bA Db.lt
  replace OX := OX.on bA (Nat.le_refl _)
  replace OD := OD.on bA (Nat.le_refl _)
  replace hM := hM.on bA (by have := bb.size; omega); replace hC := hC.on bA (by have := bb.size; omega)
  replace bb := bb.trans (bA.mono (by have := bb.size; omega))
  refine hK.out _ _ ⟨⟨Cb.cell 0, Cb.cell 1, Cb.cell 2, Cb.cell 3, Cb.cell 4, Cb.cell 5, Cb.cell 6⟩, ⟨Mb.cell 0, Mb.cell 1⟩, eR, eA, eB, eC⟩ (fun _ => ?_)
  clear hK K bA
  try simp only [Act.put, List.setIfInBounds_toArray, List.set_cons_zero, List.set_cons_succ]
  obtain ⟨q8, hq8⟩ : ∃ q, WD71.heap.size = q := ⟨_, rfl⟩
  have l58 : q5 < q8 := by omega
  have lbm : bm < q8 := by omega
  have lbr : br < q8 := by omega
  have ooOXw : ∀ k, (Value.slice ax nw kx).ownBlock = some k → k ≠ q8 := fun k hk => by have := hOX8 k hk; omega
  obtain ⟨VA, hVA⟩ : ∃ W, WD71.alloc (.cells #[.int .i64 0, .int .i64 0, .int .i64 0] 61) = W := ⟨_, rfl⟩
  rw [hVA] at Mb Cb R1 R2 Xb Db Wb OX OD bb hM hC eR eA eB eC ⊢
  rw [hq8] at Wb ⊢
  clear hVA hq8 hl5 hOX8
  have y1 := fun i => Wb.cell i; have y2 := fun i => Wb.froz i
  refine wpAnyH_ready (rs := [11]) (by kernel_rfl) (by simp) ?_
  refine AllReadyH.cons rfl (fun K hK => ?_) AllReadyH.nil
  go_simp
  have ooOX := ooOXw
  have ooD := twoOff OD Wb (by decide) (by decide)
  have Mb_ := (((Mb.other (show g ≠ q8 by omega) 0 (.int .i64 xv)).other (show g ≠ q8 by omega) 1 (.int .i64 xw)).other (show g ≠ q8 by omega) 2 (.int .i64 xo))
  have Cb_ := (((Cb.other (show q1 ≠ q8 by omega) 0 (.int .i64 xv)).other (show q1 ≠ q8 by omega) 1 (.int .i64 xw)).other (show q1 ≠ q8 by omega) 2 (.int .i64 xo))
  have R1_ := (((R1.other (show q2 ≠ q8 by omega) 0 (.int .i64 xv)).other (show q2 ≠ q8 by omega) 1 (.int .i64 xw)).other (show q2 ≠ q8 by omega) 2 (.int .i64 xo))
  have R2_ := (((R2.other (show q3 ≠ q8 by omega) 0 (.int .i64 xv)).other (show q3 ≠ q8 by omega) 1 (.int .i64 xw)).other (show q3 ≠ q8 by omega) 2 (.int .i64 xo))
  have Xb_ := (((Xb.other (show q4 ≠ q8 by omega) 0 (.int .i64 xv)).other (show q4 ≠ q8 by omega) 1 (.int .i64 xw)).other (show q4 ≠ q8 by omega) 2 (.int .i64 xo))
  have Db_ := (((Db.other (show q5 ≠ q8 by omega) 0 (.int .i64 xv)).other (show q5 ≠ q8 by omega) 1 (.int .i64 xw)).other (show q5 ≠ q8 by omega) 2 (.int .i64 xo))
  have Wb_ := (((Wb.set 0 (.int .i64 xv)).set 1 (.int .i64 xw)).set 2 (.int .i64 xo))
  simp only [List.setIfInBounds_toArray, List.set_cons_zero, List.set_cons_succ] at Wb_
  replace OX := (Words.Owns.other (Words.Owns.other (Words.Owns.other OX (p := ⟨q8, 0, none⟩) ooOX (.int .i64 xv)) (p := ⟨q8, 1, none⟩) ooOX (.int .i64 xw)) (p := ⟨q8, 2, none⟩) ooOX (.int .i64 xo))
  replace OD := (ownC_other (i := 2) (u := .int .i64 xo) (ownC_other (i := 1) (u := .int .i64 xw) (ownC_other (i := 0) (u := .int .i64 xv) OD ooD) ooD) ooD)
  replace bb := (((bb.setCell (p := ⟨q8, 0, none⟩) (show g ≤ q8 by omega) (.int .i64 xv)).setCell (p := ⟨q8, 1, none⟩) (show g ≤ q8 by omega) (.int .i64 xw)).setCell (p := ⟨q8, 2, none⟩) (show g ≤ q8 by omega) (.int .i64 xo))
  replace eR : (((VA.setCell ⟨q8, 0, none⟩ (.int .i64 xv)).setCell ⟨q8, 1, none⟩ (.int .i64 xw)).setCell ⟨q8, 2, none⟩ (.int .i64 xo)).cell? ⟨br, or' + k, none⟩ = _ := ((cell_ne (show br ≠ q8 by omega)).trans ((cell_ne (show br ≠ q8 by omega)).trans ((cell_ne (show br ≠ q8 by omega)).trans eR)))
  replace eA : (((VA.setCell ⟨q8, 0, none⟩ (.int .i64 xv)).setCell ⟨q8, 1, none⟩ (.int .i64 xw)).setCell ⟨q8, 2, none⟩ (.int .i64 xo)).cell? ⟨bm, om + cn * 3, none⟩ = _ := ((cell_ne (show bm ≠ q8 by omega)).trans ((cell_ne (show bm ≠ q8 by omega)).trans ((cell_ne (show bm ≠ q8 by omega)).trans eA)))
  replace eB : (((VA.setCell ⟨q8, 0, none⟩ (.int .i64 xv)).setCell ⟨q8, 1, none⟩ (.int .i64 xw)).setCell ⟨q8, 2, none⟩ (.int .i64 xo)).cell? ⟨bm, om + cn * 3 + 1, none⟩ = _ := ((cell_ne (show bm ≠ q8 by omega)).trans ((cell_ne (show bm ≠ q8 by omega)).trans ((cell_ne (show bm ≠ q8 by omega)).trans eB)))
  replace eC : (((VA.setCell ⟨q8, 0, none⟩ (.int .i64 xv)).setCell ⟨q8, 1, none⟩ (.int .i64 xw)).setCell ⟨q8, 2, none⟩ (.int .i64 xo)).cell? ⟨bm, om + cn * 3 + 2, none⟩ = _ := ((cell_ne (show bm ≠ q8 by omega)).trans ((cell_ne (show bm ≠ q8 by omega)).trans ((cell_ne (show bm ≠ q8 by omega)).trans eC)))
  have Mb := Mb_; have Cb := Cb_; have R1 := R1_; have R2 := R2_; have Xb := Xb_; have Db := Db_; have Wb := Wb_
  clear Mb_ Cb_ R1_ R2_ Xb_ Db_ Wb_ ooOX ooD
  obtain ⟨VS, hWN⟩ : ∃ W, (((VA.setCell ⟨q8, 0, none⟩ (.int .i64 xv)).setCell ⟨q8, 1, none⟩ (.int .i64 xw)).setCell ⟨q8, 2, none⟩ (.int .i64 xo)) = W := ⟨_, rfl⟩
  rw [hWN] at Mb Cb R1 R2 Xb Db Wb OX OD bb eR eA eB eC ⊢
  clear hWN y1 y2
  refine hK.out _ _ ⟨⟨Cb.cell 0, Cb.cell 1, Cb.cell 2, Cb.cell 3, Cb.cell 4, Cb.cell 5, Cb.cell 6⟩, ⟨Mb.cell 0, Mb.cell 1⟩, eR, eA, eB, eC⟩ (fun _ => ?_)
  clear hK K
  try simp only [Act.put, List.setIfInBounds_toArray, List.set_cons_zero, List.set_cons_succ]
  refine wpAnyH_done (by kernel_rfl) ?_ _
  clear hHeld
  clear eR eA eB eC
  have x0 := Wb.cell 0; have x1 := Wb.cell 1; have x2 := Wb.cell 2; have d0 := Cb.cell 0; have d1 := Cb.cell 1
  by_cases h1 : xo ≠ 0 ∧ xo ≠ who
  · have hbad : bad ⟨xv, xw, xo⟩ who rv = true := by unfold bad; simp [h1.1, h1.2]
    have HZ : Hid (Z = ⟨mc, ws, (phB (n : Int)), (atB (n : Int)), wv⟩) := by show _ = _; rw [HY.out, if_pos hbad, if_pos hbad]
    have f1 : (xo != 0) = true := by simp [h1.1]
    have f2 : (xo != who) = true := by simp [h1.2]
    clear h1 hbad HY
    go_wp2_with fail
    clear x0 x1 x2 d0 d1
    have cCM : (VS.cell? ⟨q4, 0, none⟩ = some (.int .i64 mc) ∧ VS.cell? ⟨q4, 1, none⟩ = some (.slice ax nw kx)) ∧ (VS.cell? ⟨q5, 0, none⟩ = some (.int .i64 who) ∧ VS.cell? ⟨q5, 1, none⟩ = some (.int .i64 rv) ∧ VS.cell? ⟨q5, 2, none⟩ = some (.int .i64 3) ∧ VS.cell? ⟨q5, 3, none⟩ = some (.int .i64 (k : Int)) ∧ VS.cell? ⟨q5, 4, none⟩ = some (.int .i64 wv) ∧ VS.cell? ⟨q5, 5, none⟩ = some (.slice a2 n k2) ∧ VS.cell? ⟨q5, 6, none⟩ = some (.slice d2 m l2)) ∧ (VS.cell? ⟨q1, 0, none⟩ = some (.int .i64 who) ∧ VS.cell? ⟨q1, 1, none⟩ = some (.int .i64 rv) ∧ VS.cell? ⟨q1, 2, none⟩ = some (.int .i64 3) ∧ VS.cell? ⟨q1, 3, none⟩ = some (.int .i64 (k : Int)) ∧ VS.cell? ⟨q1, 4, none⟩ = some (.int .i64 wv) ∧ VS.cell? ⟨q1, 5, none⟩ = some (.slice ap n kp) ∧ VS.cell? ⟨q1, 6, none⟩ = some (.slice (some ⟨br, or', none⟩) m kr)) := ⟨⟨Xb.cell 0, Xb.cell 1⟩, ⟨Db.cell 0, Db.cell 1, Db.cell 2, Db.cell 3, Db.cell 4, Db.cell 5, Db.cell 6⟩, ⟨Cb.cell 0, Cb.cell 1, Cb.cell 2, Cb.cell 3, Cb.cell 4, Cb.cell 5, Cb.cell 6⟩⟩
    replace Mb := Mb.drew
    replace Cb := Cb.drew
    replace R1 := R1.drew
    replace R2 := R2.drew
    replace Xb := Xb.drew
    replace Db := Db.drew
    replace Wb := Wb.drew
    replace OX := OX.drew
    replace OD : OwnC _ _ _ _ _ _ := OD.on (drew_lowC VS) (Nat.le_refl _); replace bb := bb.drew
    obtain ⟨WD72, hWD⟩ : ∃ W, VS.drew = W := ⟨_, rfl⟩
    refine wp_region_held_drew (S := fun W => (W.cell? ⟨q4, 0, none⟩ = some (.int .i64 mc) ∧ W.cell? ⟨q4, 1, none⟩ = some (.slice ax nw kx)) ∧ (W.cell? ⟨q5, 0, none⟩ = some (.int .i64 who) ∧ W.cell? ⟨q5, 1, none⟩ = some (.int .i64 rv) ∧ W.cell? ⟨q5, 2, none⟩ = some (.int .i64 3) ∧ W.cell? ⟨q5, 3, none⟩ = some (.int .i64 (k : Int)) ∧ W.cell? ⟨q5, 4, none⟩ = some (.int .i64 wv) ∧ W.cell? ⟨q5, 5, none⟩ = some (.slice a2 n k2) ∧ W.cell? ⟨q5, 6, none⟩ = some (.slice d2 m l2)) ∧ (W.cell? ⟨q1, 0, none⟩ = some (.int .i64 who) ∧ W.cell? ⟨q1, 1, none⟩ = some (.int .i64 rv) ∧ W.cell? ⟨q1, 2, none⟩ = some (.int .i64 3) ∧ W.cell? ⟨q1, 3, none⟩ = some (.int .i64 (k : Int)) ∧ W.cell? ⟨q1, 4, none⟩ = some (.int .i64 wv) ∧ W.cell? ⟨q1, 5, none⟩ = some (.slice ap n kp) ∧ W.cell? ⟨q1, 6, none⟩ = some (.slice (some ⟨br, or', none⟩) m kr))) (by kernel_rfl) cCM (fun hHeld => ?_)
    rw [hWD] at Mb Cb R1 R2 Xb Db Wb OX OD bb hHeld ⊢
    clear hWD cCM
    refine takeH (i := 0) (some 121) (.agg #[.int .i64 mc, .slice ax nw kx]) rfl rfl (by kernel_rfl) (by kernel_rfl) (by kernel_rfl) (fun _ _ _ h => h) (Or.inl ⟨by rfl, fun w hSw => by (try dsimp only at hSw); go_simp⟩) (by assumption) ?_
    try simp only [Act.put, List.setIfInBounds_toArray, List.set_cons_zero, List.set_cons_succ]
    refine takeH (i := 1) (some 122) (.agg #[.int .i64 who, .int .i64 rv, .int .i64 3, .int .i64 (k : Int), .int .i64 wv, .slice a2 n k2, .slice d2 m l2]) rfl rfl (by kernel_rfl) (by kernel_rfl) (by kernel_rfl) (fun _ _ _ h => h) (Or.inl ⟨by rfl, fun w hSw => by (try dsimp only at hSw); go_simp⟩) (by assumption) ?_
    try simp only [Act.put, List.setIfInBounds_toArray, List.set_cons_zero, List.set_cons_succ]
    refine takeH (i := 2) (some 123) (.pointer (some ⟨q1, 5, none⟩)) rfl rfl (by kernel_rfl) (by kernel_rfl) (by kernel_rfl) (fun _ _ _ h => h) (Or.inl ⟨by rfl, fun w hSw => by (try dsimp only at hSw); go_simp⟩) (by assumption) ?_
    try simp only [Act.put, List.setIfInBounds_toArray, List.set_cons_zero, List.set_cons_succ]
    refine takeH (i := 3) (some 124) (.slice ap n kp) rfl rfl (by kernel_rfl) (by kernel_rfl) (by kernel_rfl) (fun _ _ _ h => h) (Or.inl ⟨by rfl, fun w hSw => by (try dsimp only at hSw); go_simp⟩) (by assumption) ?_
    try simp only [Act.put, List.setIfInBounds_toArray, List.set_cons_zero, List.set_cons_succ]
    refine takeH (i := 4) (some 125) (.int .i64 n) rfl rfl (by kernel_rfl) (by kernel_rfl) (by kernel_rfl) (fun _ _ _ h => h) (Or.inl ⟨by rfl, fun w hSw => by (try dsimp only at hSw); go_simp⟩) (by assumption) ?_
    try simp only [Act.put, List.setIfInBounds_toArray, List.set_cons_zero, List.set_cons_succ]
    refine wpAnyH_ready (rs := [5]) (by kernel_rfl) (by simp) ?_
    refine AllReadyH.cons rfl (fun K hK => ?_) AllReadyH.nil
    go_simp
    refine (backS who rv 3 k wv (n : Int) a2 d2 n k2 m l2 WD72 (by omega) (by omega)).mono ?_
    rintro e V74 ⟨rfl, b73⟩
    replace Mb := Mb.on b73 Mb.lt
    replace Cb := Cb.on b73 Cb.lt
    replace R1 := R1.on b73 R1.lt
    replace R2 := R2.on b73 R2.lt
    replace Xb := Xb.on b73 Xb.lt
    replace Db := Db.on b73 Db.lt
    replace Wb := Wb.on b73 Wb.lt
    replace OX := OX.on b73 (Nat.le_refl _)
    replace OD := OD.on b73 (Nat.le_refl _)
    replace bb := bb.trans (b73.mono (by have := bb.size; omega))
    clear b73
    go_simp
    refine hK.out _ _ ⟨⟨Xb.cell 0, Xb.cell 1⟩, ⟨Db.cell 0, Db.cell 1, Db.cell 2, Db.cell 3, Db.cell 4, Db.cell 5, Db.cell 6⟩, ⟨Cb.cell 0, Cb.cell 1, Cb.cell 2, Cb.cell 3, Cb.cell 4, Cb.cell 5, Cb.cell 6⟩⟩ (fun _ => ?_)
    clear hK K
    try simp only [Act.put, List.setIfInBounds_toArray, List.set_cons_zero, List.set_cons_succ]
    have r1 := fun i => R1.cell i; have f1 := fun i => R1.froz i
    refine wpAnyH_ready (rs := [6]) (by kernel_rfl) (by simp) ?_
    refine AllReadyH.cons rfl (fun K hK => ?_) AllReadyH.nil
    go_simp
    have ooOX := wordsOff OX R1 (by decide)
    have ooD := twoOff OD R1 (by decide) (by decide)
    have Mb_ := ((Mb.other (show g ≠ q2 by omega) 0 (.int .i64 mc)).other (show g ≠ q2 by omega) 1 (.slice ax nw kx))
    have Cb_ := ((Cb.other (show q1 ≠ q2 by omega) 0 (.int .i64 mc)).other (show q1 ≠ q2 by omega) 1 (.slice ax nw kx))
    have R1_ := ((R1.set 0 (.int .i64 mc)).set 1 (.slice ax nw kx))
    simp only [List.setIfInBounds_toArray, List.set_cons_zero, List.set_cons_succ] at R1_
    have R2_ := ((R2.other (show q3 ≠ q2 by omega) 0 (.int .i64 mc)).other (show q3 ≠ q2 by omega) 1 (.slice ax nw kx))
    have Xb_ := ((Xb.other (show q4 ≠ q2 by omega) 0 (.int .i64 mc)).other (show q4 ≠ q2 by omega) 1 (.slice ax nw kx))
    have Db_ := ((Db.other (show q5 ≠ q2 by omega) 0 (.int .i64 mc)).other (show q5 ≠ q2 by omega) 1 (.slice ax nw kx))
    have Wb_ := ((Wb.other (show q8 ≠ q2 by omega) 0 (.int .i64 mc)).other (show q8 ≠ q2 by omega) 1 (.slice ax nw kx))
    replace OX := (Words.Owns.other (Words.Owns.other OX (p := ⟨q2, 0, none⟩) ooOX (.int .i64 mc)) (p := ⟨q2, 1, none⟩) ooOX (.slice ax nw kx))
    replace OD := (ownC_other (i := 1) (u := .slice ax nw kx) (ownC_other (i := 0) (u := .int .i64 mc) OD ooD) ooD)
    replace bb := ((bb.setCell (p := ⟨q2, 0, none⟩) (show g ≤ q2 by omega) (.int .i64 mc)).setCell (p := ⟨q2, 1, none⟩) (show g ≤ q2 by omega) (.slice ax nw kx))
    have Mb := Mb_; have Cb := Cb_; have R1 := R1_; have R2 := R2_; have Xb := Xb_; have Db := Db_; have Wb := Wb_
    clear Mb_ Cb_ R1_ R2_ Xb_ Db_ Wb_ ooOX ooD
    obtain ⟨V75, hWN⟩ : ∃ W, ((V74.setCell ⟨q2, 0, none⟩ (.int .i64 mc)).setCell ⟨q2, 1, none⟩ (.slice ax nw kx)) = W := ⟨_, rfl⟩
    rw [hWN] at Mb Cb R1 R2 Xb Db Wb OX OD bb ⊢
    clear hWN r1 f1
    refine hK.out _ _ ⟨⟨Xb.cell 0, Xb.cell 1⟩, ⟨Db.cell 0, Db.cell 1, Db.cell 2, Db.cell 3, Db.cell 4, Db.cell 5, Db.cell 6⟩, ⟨Cb.cell 0, Cb.cell 1, Cb.cell 2, Cb.cell 3, Cb.cell 4, Cb.cell 5, Cb.cell 6⟩⟩ (fun _ => ?_)
    clear hK K
    try simp only [Act.put, List.setIfInBounds_toArray, List.set_cons_zero, List.set_cons_succ]
    have r1 := fun i => R2.cell i; have f1 := fun i => R2.froz i
    refine wpAnyH_ready (rs := [7]) (by kernel_rfl) (by simp) ?_
    refine AllReadyH.cons rfl (fun K hK => ?_) AllReadyH.nil
    go_simp
    have ooOX := wordsOff OX R2 (by decide)
    have ooD := twoOff OD R2 (by decide) (by decide)
    have Mb_ := (((((((Mb.other (show g ≠ q3 by omega) 0 (.int .i64 who)).other (show g ≠ q3 by omega) 1 (.int .i64 rv)).other (show g ≠ q3 by omega) 2 (.int .i64 (phB (n : Int)))).other (show g ≠ q3 by omega) 3 (.int .i64 (atB (n : Int)))).other (show g ≠ q3 by omega) 4 (.int .i64 wv)).other (show g ≠ q3 by omega) 5 (.slice a2 n k2)).other (show g ≠ q3 by omega) 6 (.slice d2 m l2))
    have Cb_ := (((((((Cb.other (show q1 ≠ q3 by omega) 0 (.int .i64 who)).other (show q1 ≠ q3 by omega) 1 (.int .i64 rv)).other (show q1 ≠ q3 by omega) 2 (.int .i64 (phB (n : Int)))).other (show q1 ≠ q3 by omega) 3 (.int .i64 (atB (n : Int)))).other (show q1 ≠ q3 by omega) 4 (.int .i64 wv)).other (show q1 ≠ q3 by omega) 5 (.slice a2 n k2)).other (show q1 ≠ q3 by omega) 6 (.slice d2 m l2))
    have R1_ := (((((((R1.other (show q2 ≠ q3 by omega) 0 (.int .i64 who)).other (show q2 ≠ q3 by omega) 1 (.int .i64 rv)).other (show q2 ≠ q3 by omega) 2 (.int .i64 (phB (n : Int)))).other (show q2 ≠ q3 by omega) 3 (.int .i64 (atB (n : Int)))).other (show q2 ≠ q3 by omega) 4 (.int .i64 wv)).other (show q2 ≠ q3 by omega) 5 (.slice a2 n k2)).other (show q2 ≠ q3 by omega) 6 (.slice d2 m l2))
    have R2_ := (((((((R2.set 0 (.int .i64 who)).set 1 (.int .i64 rv)).set 2 (.int .i64 (phB (n : Int)))).set 3 (.int .i64 (atB (n : Int)))).set 4 (.int .i64 wv)).set 5 (.slice a2 n k2)).set 6 (.slice d2 m l2))
    simp only [List.setIfInBounds_toArray, List.set_cons_zero, List.set_cons_succ] at R2_
    have Xb_ := (((((((Xb.other (show q4 ≠ q3 by omega) 0 (.int .i64 who)).other (show q4 ≠ q3 by omega) 1 (.int .i64 rv)).other (show q4 ≠ q3 by omega) 2 (.int .i64 (phB (n : Int)))).other (show q4 ≠ q3 by omega) 3 (.int .i64 (atB (n : Int)))).other (show q4 ≠ q3 by omega) 4 (.int .i64 wv)).other (show q4 ≠ q3 by omega) 5 (.slice a2 n k2)).other (show q4 ≠ q3 by omega) 6 (.slice d2 m l2))
    have Db_ := (((((((Db.other (show q5 ≠ q3 by omega) 0 (.int .i64 who)).other (show q5 ≠ q3 by omega) 1 (.int .i64 rv)).other (show q5 ≠ q3 by omega) 2 (.int .i64 (phB (n : Int)))).other (show q5 ≠ q3 by omega) 3 (.int .i64 (atB (n : Int)))).other (show q5 ≠ q3 by omega) 4 (.int .i64 wv)).other (show q5 ≠ q3 by omega) 5 (.slice a2 n k2)).other (show q5 ≠ q3 by omega) 6 (.slice d2 m l2))
    have Wb_ := (((((((Wb.other (show q8 ≠ q3 by omega) 0 (.int .i64 who)).other (show q8 ≠ q3 by omega) 1 (.int .i64 rv)).other (show q8 ≠ q3 by omega) 2 (.int .i64 (phB (n : Int)))).other (show q8 ≠ q3 by omega) 3 (.int .i64 (atB (n : Int)))).other (show q8 ≠ q3 by omega) 4 (.int .i64 wv)).other (show q8 ≠ q3 by omega) 5 (.slice a2 n k2)).other (show q8 ≠ q3 by omega) 6 (.slice d2 m l2))
    replace OX := (Words.Owns.other (Words.Owns.other (Words.Owns.other (Words.Owns.other (Words.Owns.other (Words.Owns.other (Words.Owns.other OX (p := ⟨q3, 0, none⟩) ooOX (.int .i64 who)) (p := ⟨q3, 1, none⟩) ooOX (.int .i64 rv)) (p := ⟨q3, 2, none⟩) ooOX (.int .i64 (phB (n : Int)))) (p := ⟨q3, 3, none⟩) ooOX (.int .i64 (atB (n : Int)))) (p := ⟨q3, 4, none⟩) ooOX (.int .i64 wv)) (p := ⟨q3, 5, none⟩) ooOX (.slice a2 n k2)) (p := ⟨q3, 6, none⟩) ooOX (.slice d2 m l2))
    replace OD := (ownC_other (i := 6) (u := .slice d2 m l2) (ownC_other (i := 5) (u := .slice a2 n k2) (ownC_other (i := 4) (u := .int .i64 wv) (ownC_other (i := 3) (u := .int .i64 (atB (n : Int))) (ownC_other (i := 2) (u := .int .i64 (phB (n : Int))) (ownC_other (i := 1) (u := .int .i64 rv) (ownC_other (i := 0) (u := .int .i64 who) OD ooD) ooD) ooD) ooD) ooD) ooD) ooD)
    replace bb := (((((((bb.setCell (p := ⟨q3, 0, none⟩) (show g ≤ q3 by omega) (.int .i64 who)).setCell (p := ⟨q3, 1, none⟩) (show g ≤ q3 by omega) (.int .i64 rv)).setCell (p := ⟨q3, 2, none⟩) (show g ≤ q3 by omega) (.int .i64 (phB (n : Int)))).setCell (p := ⟨q3, 3, none⟩) (show g ≤ q3 by omega) (.int .i64 (atB (n : Int)))).setCell (p := ⟨q3, 4, none⟩) (show g ≤ q3 by omega) (.int .i64 wv)).setCell (p := ⟨q3, 5, none⟩) (show g ≤ q3 by omega) (.slice a2 n k2)).setCell (p := ⟨q3, 6, none⟩) (show g ≤ q3 by omega) (.slice d2 m l2))
    have Mb := Mb_; have Cb := Cb_; have R1 := R1_; have R2 := R2_; have Xb := Xb_; have Db := Db_; have Wb := Wb_
    clear Mb_ Cb_ R1_ R2_ Xb_ Db_ Wb_ ooOX ooD
    obtain ⟨V76, hWN⟩ : ∃ W, (((((((V75.setCell ⟨q3, 0, none⟩ (.int .i64 who)).setCell ⟨q3, 1, none⟩ (.int .i64 rv)).setCell ⟨q3, 2, none⟩ (.int .i64 (phB (n : Int)))).setCell ⟨q3, 3, none⟩ (.int .i64 (atB (n : Int)))).setCell ⟨q3, 4, none⟩ (.int .i64 wv)).setCell ⟨q3, 5, none⟩ (.slice a2 n k2)).setCell ⟨q3, 6, none⟩ (.slice d2 m l2)) = W := ⟨_, rfl⟩
    rw [hWN] at Mb Cb R1 R2 Xb Db Wb OX OD bb ⊢
    clear hWN r1 f1
    refine hK.out _ _ ⟨⟨Xb.cell 0, Xb.cell 1⟩, ⟨Db.cell 0, Db.cell 1, Db.cell 2, Db.cell 3, Db.cell 4, Db.cell 5, Db.cell 6⟩, ⟨Cb.cell 0, Cb.cell 1, Cb.cell 2, Cb.cell 3, Cb.cell 4, Cb.cell 5, Cb.cell 6⟩⟩ (fun _ => ?_)
    clear hK K
    try simp only [Act.put, List.setIfInBounds_toArray, List.set_cons_zero, List.set_cons_succ]
    refine wpAnyH_done (by kernel_rfl) ?_ _
    have r1 := fun i => R1.cell i; have r2 := fun i => R2.cell i
    clear hHeld
    go_wp2
    refine bodyPost_ret (v := .tuple #[.agg #[.int .i64 mc, .slice ax nw kx], .agg #[.int .i64 who, .int .i64 rv, .int .i64 (phB (n : Int)), .int .i64 (atB (n : Int)), .int .i64 wv, .slice a2 n k2, .slice d2 m l2]]) (by simp [results, Tryd.results6, go_sem, r1, r2]) rfl ?_
    have OM := OX
    exact told_mk HZ.out HW.out HN.out HM2.out hg OM OD bb
  have hg3 : ((xo != 0) = false) ∨ ((xo != 0) = true ∧ (xo != who) = false) := by
    by_cases h0 : xo = 0
    · left; simp [h0]
    · right
      refine ⟨by simp [h0], ?_⟩
      by_cases h2 : xo = who
      · simp [h2]
      · exact absurd ⟨h0, h2⟩ h1
  by_cases h3 : rv < xw
  · have hbad : bad ⟨xv, xw, xo⟩ who rv = true := by unfold bad; simp [h3]
    have hvr : ¬ xw ≤ rv := by omega
    clear h1
    rcases hg3 with f1 | ⟨f1, f2⟩
    · have HZ : Hid (Z = ⟨mc, ws, (phB (n : Int)), (atB (n : Int)), wv⟩) := by show _ = _; rw [HY.out, if_pos hbad, if_pos hbad]
      clear hbad HY
      go_wp2_with fail
      clear x0 x1 x2 d0 d1
      have cCM : (VS.cell? ⟨q4, 0, none⟩ = some (.int .i64 mc) ∧ VS.cell? ⟨q4, 1, none⟩ = some (.slice ax nw kx)) ∧ (VS.cell? ⟨q5, 0, none⟩ = some (.int .i64 who) ∧ VS.cell? ⟨q5, 1, none⟩ = some (.int .i64 rv) ∧ VS.cell? ⟨q5, 2, none⟩ = some (.int .i64 3) ∧ VS.cell? ⟨q5, 3, none⟩ = some (.int .i64 (k : Int)) ∧ VS.cell? ⟨q5, 4, none⟩ = some (.int .i64 wv) ∧ VS.cell? ⟨q5, 5, none⟩ = some (.slice a2 n k2) ∧ VS.cell? ⟨q5, 6, none⟩ = some (.slice d2 m l2)) ∧ (VS.cell? ⟨q1, 0, none⟩ = some (.int .i64 who) ∧ VS.cell? ⟨q1, 1, none⟩ = some (.int .i64 rv) ∧ VS.cell? ⟨q1, 2, none⟩ = some (.int .i64 3) ∧ VS.cell? ⟨q1, 3, none⟩ = some (.int .i64 (k : Int)) ∧ VS.cell? ⟨q1, 4, none⟩ = some (.int .i64 wv) ∧ VS.cell? ⟨q1, 5, none⟩ = some (.slice ap n kp) ∧ VS.cell? ⟨q1, 6, none⟩ = some (.slice (some ⟨br, or', none⟩) m kr)) := ⟨⟨Xb.cell 0, Xb.cell 1⟩, ⟨Db.cell 0, Db.cell 1, Db.cell 2, Db.cell 3, Db.cell 4, Db.cell 5, Db.cell 6⟩, ⟨Cb.cell 0, Cb.cell 1, Cb.cell 2, Cb.cell 3, Cb.cell 4, Cb.cell 5, Cb.cell 6⟩⟩
      replace Mb := Mb.drew
      replace Cb := Cb.drew
      replace R1 := R1.drew
      replace R2 := R2.drew
      replace Xb := Xb.drew
      replace Db := Db.drew
      replace Wb := Wb.drew
      replace OX := OX.drew
      replace OD : OwnC _ _ _ _ _ _ := OD.on (drew_lowC VS) (Nat.le_refl _); replace bb := bb.drew
      obtain ⟨WD77, hWD⟩ : ∃ W, VS.drew = W := ⟨_, rfl⟩
      refine wp_region_held_drew (S := fun W => (W.cell? ⟨q4, 0, none⟩ = some (.int .i64 mc) ∧ W.cell? ⟨q4, 1, none⟩ = some (.slice ax nw kx)) ∧ (W.cell? ⟨q5, 0, none⟩ = some (.int .i64 who) ∧ W.cell? ⟨q5, 1, none⟩ = some (.int .i64 rv) ∧ W.cell? ⟨q5, 2, none⟩ = some (.int .i64 3) ∧ W.cell? ⟨q5, 3, none⟩ = some (.int .i64 (k : Int)) ∧ W.cell? ⟨q5, 4, none⟩ = some (.int .i64 wv) ∧ W.cell? ⟨q5, 5, none⟩ = some (.slice a2 n k2) ∧ W.cell? ⟨q5, 6, none⟩ = some (.slice d2 m l2)) ∧ (W.cell? ⟨q1, 0, none⟩ = some (.int .i64 who) ∧ W.cell? ⟨q1, 1, none⟩ = some (.int .i64 rv) ∧ W.cell? ⟨q1, 2, none⟩ = some (.int .i64 3) ∧ W.cell? ⟨q1, 3, none⟩ = some (.int .i64 (k : Int)) ∧ W.cell? ⟨q1, 4, none⟩ = some (.int .i64 wv) ∧ W.cell? ⟨q1, 5, none⟩ = some (.slice ap n kp) ∧ W.cell? ⟨q1, 6, none⟩ = some (.slice (some ⟨br, or', none⟩) m kr))) (by kernel_rfl) cCM (fun hHeld => ?_)
      rw [hWD] at Mb Cb R1 R2 Xb Db Wb OX OD bb hHeld ⊢
      clear hWD cCM
      refine takeH (i := 0) (some 121) (.agg #[.int .i64 mc, .slice ax nw kx]) rfl rfl (by kernel_rfl) (by kernel_rfl) (by kernel_rfl) (fun _ _ _ h => h) (Or.inl ⟨by rfl, fun w hSw => by (try dsimp only at hSw); go_simp⟩) (by assumption) ?_
      try simp only [Act.put, List.setIfInBounds_toArray, List.set_cons_zero, List.set_cons_succ]
      refine takeH (i := 1) (some 122) (.agg #[.int .i64 who, .int .i64 rv, .int .i64 3, .int .i64 (k : Int), .int .i64 wv, .slice a2 n k2, .slice d2 m l2]) rfl rfl (by kernel_rfl) (by kernel_rfl) (by kernel_rfl) (fun _ _ _ h => h) (Or.inl ⟨by rfl, fun w hSw => by (try dsimp only at hSw); go_simp⟩) (by assumption) ?_
      try simp only [Act.put, List.setIfInBounds_toArray, List.set_cons_zero, List.set_cons_succ]
      refine takeH (i := 2) (some 123) (.pointer (some ⟨q1, 5, none⟩)) rfl rfl (by kernel_rfl) (by kernel_rfl) (by kernel_rfl) (fun _ _ _ h => h) (Or.inl ⟨by rfl, fun w hSw => by (try dsimp only at hSw); go_simp⟩) (by assumption) ?_
      try simp only [Act.put, List.setIfInBounds_toArray, List.set_cons_zero, List.set_cons_succ]
      refine takeH (i := 3) (some 124) (.slice ap n kp) rfl rfl (by kernel_rfl) (by kernel_rfl) (by kernel_rfl) (fun _ _ _ h => h) (Or.inl ⟨by rfl, fun w hSw => by (try dsimp only at hSw); go_simp⟩) (by assumption) ?_
      try simp only [Act.put, List.setIfInBounds_toArray, List.set_cons_zero, List.set_cons_succ]
      refine takeH (i := 4) (some 125) (.int .i64 n) rfl rfl (by kernel_rfl) (by kernel_rfl) (by kernel_rfl) (fun _ _ _ h => h) (Or.inl ⟨by rfl, fun w hSw => by (try dsimp only at hSw); go_simp⟩) (by assumption) ?_
      try simp only [Act.put, List.setIfInBounds_toArray, List.set_cons_zero, List.set_cons_succ]
      refine wpAnyH_ready (rs := [5]) (by kernel_rfl) (by simp) ?_
      refine AllReadyH.cons rfl (fun K hK => ?_) AllReadyH.nil
      go_simp
      refine (backS who rv 3 k wv (n : Int) a2 d2 n k2 m l2 WD77 (by omega) (by omega)).mono ?_
      rintro e V79 ⟨rfl, b78⟩
      replace Mb := Mb.on b78 Mb.lt
      replace Cb := Cb.on b78 Cb.lt
      replace R1 := R1.on b78 R1.lt
      replace R2 := R2.on b78 R2.lt
      replace Xb := Xb.on b78 Xb.lt
      replace Db := Db.on b78 Db.lt
      replace Wb := Wb.on b78 Wb.lt
      replace OX := OX.on b78 (Nat.le_refl _)
      replace OD := OD.on b78 (Nat.le_refl _)
      replace bb := bb.trans (b78.mono (by have := bb.size; omega))
      clear b78
      go_simp
      refine hK.out _ _ ⟨⟨Xb.cell 0, Xb.cell 1⟩, ⟨Db.cell 0, Db.cell 1, Db.cell 2, Db.cell 3, Db.cell 4, Db.cell 5, Db.cell 6⟩, ⟨Cb.cell 0, Cb.cell 1, Cb.cell 2, Cb.cell 3, Cb.cell 4, Cb.cell 5, Cb.cell 6⟩⟩ (fun _ => ?_)
      clear hK K
      try simp only [Act.put, List.setIfInBounds_toArray, List.set_cons_zero, List.set_cons_succ]
      have r1 := fun i => R1.cell i; have f1 := fun i => R1.froz i
      refine wpAnyH_ready (rs := [6]) (by kernel_rfl) (by simp) ?_
      refine AllReadyH.cons rfl (fun K hK => ?_) AllReadyH.nil
      go_simp
      have ooOX := wordsOff OX R1 (by decide)
      have ooD := twoOff OD R1 (by decide) (by decide)
      have Mb_ := ((Mb.other (show g ≠ q2 by omega) 0 (.int .i64 mc)).other (show g ≠ q2 by omega) 1 (.slice ax nw kx))
      have Cb_ := ((Cb.other (show q1 ≠ q2 by omega) 0 (.int .i64 mc)).other (show q1 ≠ q2 by omega) 1 (.slice ax nw kx))
      have R1_ := ((R1.set 0 (.int .i64 mc)).set 1 (.slice ax nw kx))
      simp only [List.setIfInBounds_toArray, List.set_cons_zero, List.set_cons_succ] at R1_
      have R2_ := ((R2.other (show q3 ≠ q2 by omega) 0 (.int .i64 mc)).other (show q3 ≠ q2 by omega) 1 (.slice ax nw kx))
      have Xb_ := ((Xb.other (show q4 ≠ q2 by omega) 0 (.int .i64 mc)).other (show q4 ≠ q2 by omega) 1 (.slice ax nw kx))
      have Db_ := ((Db.other (show q5 ≠ q2 by omega) 0 (.int .i64 mc)).other (show q5 ≠ q2 by omega) 1 (.slice ax nw kx))
      have Wb_ := ((Wb.other (show q8 ≠ q2 by omega) 0 (.int .i64 mc)).other (show q8 ≠ q2 by omega) 1 (.slice ax nw kx))
      replace OX := (Words.Owns.other (Words.Owns.other OX (p := ⟨q2, 0, none⟩) ooOX (.int .i64 mc)) (p := ⟨q2, 1, none⟩) ooOX (.slice ax nw kx))
      replace OD := (ownC_other (i := 1) (u := .slice ax nw kx) (ownC_other (i := 0) (u := .int .i64 mc) OD ooD) ooD)
      replace bb := ((bb.setCell (p := ⟨q2, 0, none⟩) (show g ≤ q2 by omega) (.int .i64 mc)).setCell (p := ⟨q2, 1, none⟩) (show g ≤ q2 by omega) (.slice ax nw kx))
      have Mb := Mb_; have Cb := Cb_; have R1 := R1_; have R2 := R2_; have Xb := Xb_; have Db := Db_; have Wb := Wb_
      clear Mb_ Cb_ R1_ R2_ Xb_ Db_ Wb_ ooOX ooD
      obtain ⟨V80, hWN⟩ : ∃ W, ((V79.setCell ⟨q2, 0, none⟩ (.int .i64 mc)).setCell ⟨q2, 1, none⟩ (.slice ax nw kx)) = W := ⟨_, rfl⟩
      rw [hWN] at Mb Cb R1 R2 Xb Db Wb OX OD bb ⊢
      clear hWN r1 f1
      refine hK.out _ _ ⟨⟨Xb.cell 0, Xb.cell 1⟩, ⟨Db.cell 0, Db.cell 1, Db.cell 2, Db.cell 3, Db.cell 4, Db.cell 5, Db.cell 6⟩, ⟨Cb.cell 0, Cb.cell 1, Cb.cell 2, Cb.cell 3, Cb.cell 4, Cb.cell 5, Cb.cell 6⟩⟩ (fun _ => ?_)
      clear hK K
      try simp only [Act.put, List.setIfInBounds_toArray, List.set_cons_zero, List.set_cons_succ]
      have r1 := fun i => R2.cell i; have f1 := fun i => R2.froz i
      refine wpAnyH_ready (rs := [7]) (by kernel_rfl) (by simp) ?_
      refine AllReadyH.cons rfl (fun K hK => ?_) AllReadyH.nil
      go_simp
      have ooOX := wordsOff OX R2 (by decide)
      have ooD := twoOff OD R2 (by decide) (by decide)
      have Mb_ := (((((((Mb.other (show g ≠ q3 by omega) 0 (.int .i64 who)).other (show g ≠ q3 by omega) 1 (.int .i64 rv)).other (show g ≠ q3 by omega) 2 (.int .i64 (phB (n : Int)))).other (show g ≠ q3 by omega) 3 (.int .i64 (atB (n : Int)))).other (show g ≠ q3 by omega) 4 (.int .i64 wv)).other (show g ≠ q3 by omega) 5 (.slice a2 n k2)).other (show g ≠ q3 by omega) 6 (.slice d2 m l2))
      have Cb_ := (((((((Cb.other (show q1 ≠ q3 by omega) 0 (.int .i64 who)).other (show q1 ≠ q3 by omega) 1 (.int .i64 rv)).other (show q1 ≠ q3 by omega) 2 (.int .i64 (phB (n : Int)))).other (show q1 ≠ q3 by omega) 3 (.int .i64 (atB (n : Int)))).other (show q1 ≠ q3 by omega) 4 (.int .i64 wv)).other (show q1 ≠ q3 by omega) 5 (.slice a2 n k2)).other (show q1 ≠ q3 by omega) 6 (.slice d2 m l2))
      have R1_ := (((((((R1.other (show q2 ≠ q3 by omega) 0 (.int .i64 who)).other (show q2 ≠ q3 by omega) 1 (.int .i64 rv)).other (show q2 ≠ q3 by omega) 2 (.int .i64 (phB (n : Int)))).other (show q2 ≠ q3 by omega) 3 (.int .i64 (atB (n : Int)))).other (show q2 ≠ q3 by omega) 4 (.int .i64 wv)).other (show q2 ≠ q3 by omega) 5 (.slice a2 n k2)).other (show q2 ≠ q3 by omega) 6 (.slice d2 m l2))
      have R2_ := (((((((R2.set 0 (.int .i64 who)).set 1 (.int .i64 rv)).set 2 (.int .i64 (phB (n : Int)))).set 3 (.int .i64 (atB (n : Int)))).set 4 (.int .i64 wv)).set 5 (.slice a2 n k2)).set 6 (.slice d2 m l2))
      simp only [List.setIfInBounds_toArray, List.set_cons_zero, List.set_cons_succ] at R2_
      have Xb_ := (((((((Xb.other (show q4 ≠ q3 by omega) 0 (.int .i64 who)).other (show q4 ≠ q3 by omega) 1 (.int .i64 rv)).other (show q4 ≠ q3 by omega) 2 (.int .i64 (phB (n : Int)))).other (show q4 ≠ q3 by omega) 3 (.int .i64 (atB (n : Int)))).other (show q4 ≠ q3 by omega) 4 (.int .i64 wv)).other (show q4 ≠ q3 by omega) 5 (.slice a2 n k2)).other (show q4 ≠ q3 by omega) 6 (.slice d2 m l2))
      have Db_ := (((((((Db.other (show q5 ≠ q3 by omega) 0 (.int .i64 who)).other (show q5 ≠ q3 by omega) 1 (.int .i64 rv)).other (show q5 ≠ q3 by omega) 2 (.int .i64 (phB (n : Int)))).other (show q5 ≠ q3 by omega) 3 (.int .i64 (atB (n : Int)))).other (show q5 ≠ q3 by omega) 4 (.int .i64 wv)).other (show q5 ≠ q3 by omega) 5 (.slice a2 n k2)).other (show q5 ≠ q3 by omega) 6 (.slice d2 m l2))
      have Wb_ := (((((((Wb.other (show q8 ≠ q3 by omega) 0 (.int .i64 who)).other (show q8 ≠ q3 by omega) 1 (.int .i64 rv)).other (show q8 ≠ q3 by omega) 2 (.int .i64 (phB (n : Int)))).other (show q8 ≠ q3 by omega) 3 (.int .i64 (atB (n : Int)))).other (show q8 ≠ q3 by omega) 4 (.int .i64 wv)).other (show q8 ≠ q3 by omega) 5 (.slice a2 n k2)).other (show q8 ≠ q3 by omega) 6 (.slice d2 m l2))
      replace OX := (Words.Owns.other (Words.Owns.other (Words.Owns.other (Words.Owns.other (Words.Owns.other (Words.Owns.other (Words.Owns.other OX (p := ⟨q3, 0, none⟩) ooOX (.int .i64 who)) (p := ⟨q3, 1, none⟩) ooOX (.int .i64 rv)) (p := ⟨q3, 2, none⟩) ooOX (.int .i64 (phB (n : Int)))) (p := ⟨q3, 3, none⟩) ooOX (.int .i64 (atB (n : Int)))) (p := ⟨q3, 4, none⟩) ooOX (.int .i64 wv)) (p := ⟨q3, 5, none⟩) ooOX (.slice a2 n k2)) (p := ⟨q3, 6, none⟩) ooOX (.slice d2 m l2))
      replace OD := (ownC_other (i := 6) (u := .slice d2 m l2) (ownC_other (i := 5) (u := .slice a2 n k2) (ownC_other (i := 4) (u := .int .i64 wv) (ownC_other (i := 3) (u := .int .i64 (atB (n : Int))) (ownC_other (i := 2) (u := .int .i64 (phB (n : Int))) (ownC_other (i := 1) (u := .int .i64 rv) (ownC_other (i := 0) (u := .int .i64 who) OD ooD) ooD) ooD) ooD) ooD) ooD) ooD)
      replace bb := (((((((bb.setCell (p := ⟨q3, 0, none⟩) (show g ≤ q3 by omega) (.int .i64 who)).setCell (p := ⟨q3, 1, none⟩) (show g ≤ q3 by omega) (.int .i64 rv)).setCell (p := ⟨q3, 2, none⟩) (show g ≤ q3 by omega) (.int .i64 (phB (n : Int)))).setCell (p := ⟨q3, 3, none⟩) (show g ≤ q3 by omega) (.int .i64 (atB (n : Int)))).setCell (p := ⟨q3, 4, none⟩) (show g ≤ q3 by omega) (.int .i64 wv)).setCell (p := ⟨q3, 5, none⟩) (show g ≤ q3 by omega) (.slice a2 n k2)).setCell (p := ⟨q3, 6, none⟩) (show g ≤ q3 by omega) (.slice d2 m l2))
      have Mb := Mb_; have Cb := Cb_; have R1 := R1_; have R2 := R2_; have Xb := Xb_; have Db := Db_; have Wb := Wb_
      clear Mb_ Cb_ R1_ R2_ Xb_ Db_ Wb_ ooOX ooD
      obtain ⟨V81, hWN⟩ : ∃ W, (((((((V80.setCell ⟨q3, 0, none⟩ (.int .i64 who)).setCell ⟨q3, 1, none⟩ (.int .i64 rv)).setCell ⟨q3, 2, none⟩ (.int .i64 (phB (n : Int)))).setCell ⟨q3, 3, none⟩ (.int .i64 (atB (n : Int)))).setCell ⟨q3, 4, none⟩ (.int .i64 wv)).setCell ⟨q3, 5, none⟩ (.slice a2 n k2)).setCell ⟨q3, 6, none⟩ (.slice d2 m l2)) = W := ⟨_, rfl⟩
      rw [hWN] at Mb Cb R1 R2 Xb Db Wb OX OD bb ⊢
      clear hWN r1 f1
      refine hK.out _ _ ⟨⟨Xb.cell 0, Xb.cell 1⟩, ⟨Db.cell 0, Db.cell 1, Db.cell 2, Db.cell 3, Db.cell 4, Db.cell 5, Db.cell 6⟩, ⟨Cb.cell 0, Cb.cell 1, Cb.cell 2, Cb.cell 3, Cb.cell 4, Cb.cell 5, Cb.cell 6⟩⟩ (fun _ => ?_)
      clear hK K
      try simp only [Act.put, List.setIfInBounds_toArray, List.set_cons_zero, List.set_cons_succ]
      refine wpAnyH_done (by kernel_rfl) ?_ _
      have r1 := fun i => R1.cell i; have r2 := fun i => R2.cell i
      clear hHeld
      go_wp2
      refine bodyPost_ret (v := .tuple #[.agg #[.int .i64 mc, .slice ax nw kx], .agg #[.int .i64 who, .int .i64 rv, .int .i64 (phB (n : Int)), .int .i64 (atB (n : Int)), .int .i64 wv, .slice a2 n k2, .slice d2 m l2]]) (by simp [results, Tryd.results6, go_sem, r1, r2]) rfl ?_
      have OM := OX
      exact told_mk HZ.out HW.out HN.out HM2.out hg OM OD bb
    · have HZ : Hid (Z = ⟨mc, ws, (phB (n : Int)), (atB (n : Int)), wv⟩) := by show _ = _; rw [HY.out, if_pos hbad, if_pos hbad]
      clear hbad HY
      go_wp2_with fail
      clear x0 x1 x2 d0 d1
      have cCM : (VS.cell? ⟨q4, 0, none⟩ = some (.int .i64 mc) ∧ VS.cell? ⟨q4, 1, none⟩ = some (.slice ax nw kx)) ∧ (VS.cell? ⟨q5, 0, none⟩ = some (.int .i64 who) ∧ VS.cell? ⟨q5, 1, none⟩ = some (.int .i64 rv) ∧ VS.cell? ⟨q5, 2, none⟩ = some (.int .i64 3) ∧ VS.cell? ⟨q5, 3, none⟩ = some (.int .i64 (k : Int)) ∧ VS.cell? ⟨q5, 4, none⟩ = some (.int .i64 wv) ∧ VS.cell? ⟨q5, 5, none⟩ = some (.slice a2 n k2) ∧ VS.cell? ⟨q5, 6, none⟩ = some (.slice d2 m l2)) ∧ (VS.cell? ⟨q1, 0, none⟩ = some (.int .i64 who) ∧ VS.cell? ⟨q1, 1, none⟩ = some (.int .i64 rv) ∧ VS.cell? ⟨q1, 2, none⟩ = some (.int .i64 3) ∧ VS.cell? ⟨q1, 3, none⟩ = some (.int .i64 (k : Int)) ∧ VS.cell? ⟨q1, 4, none⟩ = some (.int .i64 wv) ∧ VS.cell? ⟨q1, 5, none⟩ = some (.slice ap n kp) ∧ VS.cell? ⟨q1, 6, none⟩ = some (.slice (some ⟨br, or', none⟩) m kr)) := ⟨⟨Xb.cell 0, Xb.cell 1⟩, ⟨Db.cell 0, Db.cell 1, Db.cell 2, Db.cell 3, Db.cell 4, Db.cell 5, Db.cell 6⟩, ⟨Cb.cell 0, Cb.cell 1, Cb.cell 2, Cb.cell 3, Cb.cell 4, Cb.cell 5, Cb.cell 6⟩⟩
      replace Mb := Mb.drew
      replace Cb := Cb.drew
      replace R1 := R1.drew
      replace R2 := R2.drew
      replace Xb := Xb.drew
      replace Db := Db.drew
      replace Wb := Wb.drew
      replace OX := OX.drew
      replace OD : OwnC _ _ _ _ _ _ := OD.on (drew_lowC VS) (Nat.le_refl _); replace bb := bb.drew
      obtain ⟨WD82, hWD⟩ : ∃ W, VS.drew = W := ⟨_, rfl⟩
      refine wp_region_held_drew (S := fun W => (W.cell? ⟨q4, 0, none⟩ = some (.int .i64 mc) ∧ W.cell? ⟨q4, 1, none⟩ = some (.slice ax nw kx)) ∧ (W.cell? ⟨q5, 0, none⟩ = some (.int .i64 who) ∧ W.cell? ⟨q5, 1, none⟩ = some (.int .i64 rv) ∧ W.cell? ⟨q5, 2, none⟩ = some (.int .i64 3) ∧ W.cell? ⟨q5, 3, none⟩ = some (.int .i64 (k : Int)) ∧ W.cell? ⟨q5, 4, none⟩ = some (.int .i64 wv) ∧ W.cell? ⟨q5, 5, none⟩ = some (.slice a2 n k2) ∧ W.cell? ⟨q5, 6, none⟩ = some (.slice d2 m l2)) ∧ (W.cell? ⟨q1, 0, none⟩ = some (.int .i64 who) ∧ W.cell? ⟨q1, 1, none⟩ = some (.int .i64 rv) ∧ W.cell? ⟨q1, 2, none⟩ = some (.int .i64 3) ∧ W.cell? ⟨q1, 3, none⟩ = some (.int .i64 (k : Int)) ∧ W.cell? ⟨q1, 4, none⟩ = some (.int .i64 wv) ∧ W.cell? ⟨q1, 5, none⟩ = some (.slice ap n kp) ∧ W.cell? ⟨q1, 6, none⟩ = some (.slice (some ⟨br, or', none⟩) m kr))) (by kernel_rfl) cCM (fun hHeld => ?_)
      rw [hWD] at Mb Cb R1 R2 Xb Db Wb OX OD bb hHeld ⊢
      clear hWD cCM
      refine takeH (i := 0) (some 121) (.agg #[.int .i64 mc, .slice ax nw kx]) rfl rfl (by kernel_rfl) (by kernel_rfl) (by kernel_rfl) (fun _ _ _ h => h) (Or.inl ⟨by rfl, fun w hSw => by (try dsimp only at hSw); go_simp⟩) (by assumption) ?_
      try simp only [Act.put, List.setIfInBounds_toArray, List.set_cons_zero, List.set_cons_succ]
      refine takeH (i := 1) (some 122) (.agg #[.int .i64 who, .int .i64 rv, .int .i64 3, .int .i64 (k : Int), .int .i64 wv, .slice a2 n k2, .slice d2 m l2]) rfl rfl (by kernel_rfl) (by kernel_rfl) (by kernel_rfl) (fun _ _ _ h => h) (Or.inl ⟨by rfl, fun w hSw => by (try dsimp only at hSw); go_simp⟩) (by assumption) ?_
      try simp only [Act.put, List.setIfInBounds_toArray, List.set_cons_zero, List.set_cons_succ]
      refine takeH (i := 2) (some 123) (.pointer (some ⟨q1, 5, none⟩)) rfl rfl (by kernel_rfl) (by kernel_rfl) (by kernel_rfl) (fun _ _ _ h => h) (Or.inl ⟨by rfl, fun w hSw => by (try dsimp only at hSw); go_simp⟩) (by assumption) ?_
      try simp only [Act.put, List.setIfInBounds_toArray, List.set_cons_zero, List.set_cons_succ]
      refine takeH (i := 3) (some 124) (.slice ap n kp) rfl rfl (by kernel_rfl) (by kernel_rfl) (by kernel_rfl) (fun _ _ _ h => h) (Or.inl ⟨by rfl, fun w hSw => by (try dsimp only at hSw); go_simp⟩) (by assumption) ?_
      try simp only [Act.put, List.setIfInBounds_toArray, List.set_cons_zero, List.set_cons_succ]
      refine takeH (i := 4) (some 125) (.int .i64 n) rfl rfl (by kernel_rfl) (by kernel_rfl) (by kernel_rfl) (fun _ _ _ h => h) (Or.inl ⟨by rfl, fun w hSw => by (try dsimp only at hSw); go_simp⟩) (by assumption) ?_
      try simp only [Act.put, List.setIfInBounds_toArray, List.set_cons_zero, List.set_cons_succ]
      refine wpAnyH_ready (rs := [5]) (by kernel_rfl) (by simp) ?_
      refine AllReadyH.cons rfl (fun K hK => ?_) AllReadyH.nil
      go_simp
      refine (backS who rv 3 k wv (n : Int) a2 d2 n k2 m l2 WD82 (by omega) (by omega)).mono ?_
      rintro e V84 ⟨rfl, b83⟩
      replace Mb := Mb.on b83 Mb.lt
      replace Cb := Cb.on b83 Cb.lt
      replace R1 := R1.on b83 R1.lt
      replace R2 := R2.on b83 R2.lt
      replace Xb := Xb.on b83 Xb.lt
      replace Db := Db.on b83 Db.lt
      replace Wb := Wb.on b83 Wb.lt
      replace OX := OX.on b83 (Nat.le_refl _)
      replace OD := OD.on b83 (Nat.le_refl _)
      replace bb := bb.trans (b83.mono (by have := bb.size; omega))
      clear b83
      go_simp
      refine hK.out _ _ ⟨⟨Xb.cell 0, Xb.cell 1⟩, ⟨Db.cell 0, Db.cell 1, Db.cell 2, Db.cell 3, Db.cell 4, Db.cell 5, Db.cell 6⟩, ⟨Cb.cell 0, Cb.cell 1, Cb.cell 2, Cb.cell 3, Cb.cell 4, Cb.cell 5, Cb.cell 6⟩⟩ (fun _ => ?_)
      clear hK K
      try simp only [Act.put, List.setIfInBounds_toArray, List.set_cons_zero, List.set_cons_succ]
      have r1 := fun i => R1.cell i; have f1 := fun i => R1.froz i
      refine wpAnyH_ready (rs := [6]) (by kernel_rfl) (by simp) ?_
      refine AllReadyH.cons rfl (fun K hK => ?_) AllReadyH.nil
      go_simp
      have ooOX := wordsOff OX R1 (by decide)
      have ooD := twoOff OD R1 (by decide) (by decide)
      have Mb_ := ((Mb.other (show g ≠ q2 by omega) 0 (.int .i64 mc)).other (show g ≠ q2 by omega) 1 (.slice ax nw kx))
      have Cb_ := ((Cb.other (show q1 ≠ q2 by omega) 0 (.int .i64 mc)).other (show q1 ≠ q2 by omega) 1 (.slice ax nw kx))
      have R1_ := ((R1.set 0 (.int .i64 mc)).set 1 (.slice ax nw kx))
      simp only [List.setIfInBounds_toArray, List.set_cons_zero, List.set_cons_succ] at R1_
      have R2_ := ((R2.other (show q3 ≠ q2 by omega) 0 (.int .i64 mc)).other (show q3 ≠ q2 by omega) 1 (.slice ax nw kx))
      have Xb_ := ((Xb.other (show q4 ≠ q2 by omega) 0 (.int .i64 mc)).other (show q4 ≠ q2 by omega) 1 (.slice ax nw kx))
      have Db_ := ((Db.other (show q5 ≠ q2 by omega) 0 (.int .i64 mc)).other (show q5 ≠ q2 by omega) 1 (.slice ax nw kx))
      have Wb_ := ((Wb.other (show q8 ≠ q2 by omega) 0 (.int .i64 mc)).other (show q8 ≠ q2 by omega) 1 (.slice ax nw kx))
      replace OX := (Words.Owns.other (Words.Owns.other OX (p := ⟨q2, 0, none⟩) ooOX (.int .i64 mc)) (p := ⟨q2, 1, none⟩) ooOX (.slice ax nw kx))
      replace OD := (ownC_other (i := 1) (u := .slice ax nw kx) (ownC_other (i := 0) (u := .int .i64 mc) OD ooD) ooD)
      replace bb := ((bb.setCell (p := ⟨q2, 0, none⟩) (show g ≤ q2 by omega) (.int .i64 mc)).setCell (p := ⟨q2, 1, none⟩) (show g ≤ q2 by omega) (.slice ax nw kx))
      have Mb := Mb_; have Cb := Cb_; have R1 := R1_; have R2 := R2_; have Xb := Xb_; have Db := Db_; have Wb := Wb_
      clear Mb_ Cb_ R1_ R2_ Xb_ Db_ Wb_ ooOX ooD
      obtain ⟨V85, hWN⟩ : ∃ W, ((V84.setCell ⟨q2, 0, none⟩ (.int .i64 mc)).setCell ⟨q2, 1, none⟩ (.slice ax nw kx)) = W := ⟨_, rfl⟩
      rw [hWN] at Mb Cb R1 R2 Xb Db Wb OX OD bb ⊢
      clear hWN r1 f1
      refine hK.out _ _ ⟨⟨Xb.cell 0, Xb.cell 1⟩, ⟨Db.cell 0, Db.cell 1, Db.cell 2, Db.cell 3, Db.cell 4, Db.cell 5, Db.cell 6⟩, ⟨Cb.cell 0, Cb.cell 1, Cb.cell 2, Cb.cell 3, Cb.cell 4, Cb.cell 5, Cb.cell 6⟩⟩ (fun _ => ?_)
      clear hK K
      try simp only [Act.put, List.setIfInBounds_toArray, List.set_cons_zero, List.set_cons_succ]
      have r1 := fun i => R2.cell i; have f1 := fun i => R2.froz i
      refine wpAnyH_ready (rs := [7]) (by kernel_rfl) (by simp) ?_
      refine AllReadyH.cons rfl (fun K hK => ?_) AllReadyH.nil
      go_simp
      have ooOX := wordsOff OX R2 (by decide)
      have ooD := twoOff OD R2 (by decide) (by decide)
      have Mb_ := (((((((Mb.other (show g ≠ q3 by omega) 0 (.int .i64 who)).other (show g ≠ q3 by omega) 1 (.int .i64 rv)).other (show g ≠ q3 by omega) 2 (.int .i64 (phB (n : Int)))).other (show g ≠ q3 by omega) 3 (.int .i64 (atB (n : Int)))).other (show g ≠ q3 by omega) 4 (.int .i64 wv)).other (show g ≠ q3 by omega) 5 (.slice a2 n k2)).other (show g ≠ q3 by omega) 6 (.slice d2 m l2))
      have Cb_ := (((((((Cb.other (show q1 ≠ q3 by omega) 0 (.int .i64 who)).other (show q1 ≠ q3 by omega) 1 (.int .i64 rv)).other (show q1 ≠ q3 by omega) 2 (.int .i64 (phB (n : Int)))).other (show q1 ≠ q3 by omega) 3 (.int .i64 (atB (n : Int)))).other (show q1 ≠ q3 by omega) 4 (.int .i64 wv)).other (show q1 ≠ q3 by omega) 5 (.slice a2 n k2)).other (show q1 ≠ q3 by omega) 6 (.slice d2 m l2))
      have R1_ := (((((((R1.other (show q2 ≠ q3 by omega) 0 (.int .i64 who)).other (show q2 ≠ q3 by omega) 1 (.int .i64 rv)).other (show q2 ≠ q3 by omega) 2 (.int .i64 (phB (n : Int)))).other (show q2 ≠ q3 by omega) 3 (.int .i64 (atB (n : Int)))).other (show q2 ≠ q3 by omega) 4 (.int .i64 wv)).other (show q2 ≠ q3 by omega) 5 (.slice a2 n k2)).other (show q2 ≠ q3 by omega) 6 (.slice d2 m l2))
      have R2_ := (((((((R2.set 0 (.int .i64 who)).set 1 (.int .i64 rv)).set 2 (.int .i64 (phB (n : Int)))).set 3 (.int .i64 (atB (n : Int)))).set 4 (.int .i64 wv)).set 5 (.slice a2 n k2)).set 6 (.slice d2 m l2))
      simp only [List.setIfInBounds_toArray, List.set_cons_zero, List.set_cons_succ] at R2_
      have Xb_ := (((((((Xb.other (show q4 ≠ q3 by omega) 0 (.int .i64 who)).other (show q4 ≠ q3 by omega) 1 (.int .i64 rv)).other (show q4 ≠ q3 by omega) 2 (.int .i64 (phB (n : Int)))).other (show q4 ≠ q3 by omega) 3 (.int .i64 (atB (n : Int)))).other (show q4 ≠ q3 by omega) 4 (.int .i64 wv)).other (show q4 ≠ q3 by omega) 5 (.slice a2 n k2)).other (show q4 ≠ q3 by omega) 6 (.slice d2 m l2))
      have Db_ := (((((((Db.other (show q5 ≠ q3 by omega) 0 (.int .i64 who)).other (show q5 ≠ q3 by omega) 1 (.int .i64 rv)).other (show q5 ≠ q3 by omega) 2 (.int .i64 (phB (n : Int)))).other (show q5 ≠ q3 by omega) 3 (.int .i64 (atB (n : Int)))).other (show q5 ≠ q3 by omega) 4 (.int .i64 wv)).other (show q5 ≠ q3 by omega) 5 (.slice a2 n k2)).other (show q5 ≠ q3 by omega) 6 (.slice d2 m l2))
      have Wb_ := (((((((Wb.other (show q8 ≠ q3 by omega) 0 (.int .i64 who)).other (show q8 ≠ q3 by omega) 1 (.int .i64 rv)).other (show q8 ≠ q3 by omega) 2 (.int .i64 (phB (n : Int)))).other (show q8 ≠ q3 by omega) 3 (.int .i64 (atB (n : Int)))).other (show q8 ≠ q3 by omega) 4 (.int .i64 wv)).other (show q8 ≠ q3 by omega) 5 (.slice a2 n k2)).other (show q8 ≠ q3 by omega) 6 (.slice d2 m l2))
      replace OX := (Words.Owns.other (Words.Owns.other (Words.Owns.other (Words.Owns.other (Words.Owns.other (Words.Owns.other (Words.Owns.other OX (p := ⟨q3, 0, none⟩) ooOX (.int .i64 who)) (p := ⟨q3, 1, none⟩) ooOX (.int .i64 rv)) (p := ⟨q3, 2, none⟩) ooOX (.int .i64 (phB (n : Int)))) (p := ⟨q3, 3, none⟩) ooOX (.int .i64 (atB (n : Int)))) (p := ⟨q3, 4, none⟩) ooOX (.int .i64 wv)) (p := ⟨q3, 5, none⟩) ooOX (.slice a2 n k2)) (p := ⟨q3, 6, none⟩) ooOX (.slice d2 m l2))
      replace OD := (ownC_other (i := 6) (u := .slice d2 m l2) (ownC_other (i := 5) (u := .slice a2 n k2) (ownC_other (i := 4) (u := .int .i64 wv) (ownC_other (i := 3) (u := .int .i64 (atB (n : Int))) (ownC_other (i := 2) (u := .int .i64 (phB (n : Int))) (ownC_other (i := 1) (u := .int .i64 rv) (ownC_other (i := 0) (u := .int .i64 who) OD ooD) ooD) ooD) ooD) ooD) ooD) ooD)
      replace bb := (((((((bb.setCell (p := ⟨q3, 0, none⟩) (show g ≤ q3 by omega) (.int .i64 who)).setCell (p := ⟨q3, 1, none⟩) (show g ≤ q3 by omega) (.int .i64 rv)).setCell (p := ⟨q3, 2, none⟩) (show g ≤ q3 by omega) (.int .i64 (phB (n : Int)))).setCell (p := ⟨q3, 3, none⟩) (show g ≤ q3 by omega) (.int .i64 (atB (n : Int)))).setCell (p := ⟨q3, 4, none⟩) (show g ≤ q3 by omega) (.int .i64 wv)).setCell (p := ⟨q3, 5, none⟩) (show g ≤ q3 by omega) (.slice a2 n k2)).setCell (p := ⟨q3, 6, none⟩) (show g ≤ q3 by omega) (.slice d2 m l2))
      have Mb := Mb_; have Cb := Cb_; have R1 := R1_; have R2 := R2_; have Xb := Xb_; have Db := Db_; have Wb := Wb_
      clear Mb_ Cb_ R1_ R2_ Xb_ Db_ Wb_ ooOX ooD
      obtain ⟨V86, hWN⟩ : ∃ W, (((((((V85.setCell ⟨q3, 0, none⟩ (.int .i64 who)).setCell ⟨q3, 1, none⟩ (.int .i64 rv)).setCell ⟨q3, 2, none⟩ (.int .i64 (phB (n : Int)))).setCell ⟨q3, 3, none⟩ (.int .i64 (atB (n : Int)))).setCell ⟨q3, 4, none⟩ (.int .i64 wv)).setCell ⟨q3, 5, none⟩ (.slice a2 n k2)).setCell ⟨q3, 6, none⟩ (.slice d2 m l2)) = W := ⟨_, rfl⟩
      rw [hWN] at Mb Cb R1 R2 Xb Db Wb OX OD bb ⊢
      clear hWN r1 f1
      refine hK.out _ _ ⟨⟨Xb.cell 0, Xb.cell 1⟩, ⟨Db.cell 0, Db.cell 1, Db.cell 2, Db.cell 3, Db.cell 4, Db.cell 5, Db.cell 6⟩, ⟨Cb.cell 0, Cb.cell 1, Cb.cell 2, Cb.cell 3, Cb.cell 4, Cb.cell 5, Cb.cell 6⟩⟩ (fun _ => ?_)
      clear hK K
      try simp only [Act.put, List.setIfInBounds_toArray, List.set_cons_zero, List.set_cons_succ]
      refine wpAnyH_done (by kernel_rfl) ?_ _
      have r1 := fun i => R1.cell i; have r2 := fun i => R2.cell i
      clear hHeld
      go_wp2
      refine bodyPost_ret (v := .tuple #[.agg #[.int .i64 mc, .slice ax nw kx], .agg #[.int .i64 who, .int .i64 rv, .int .i64 (phB (n : Int)), .int .i64 (atB (n : Int)), .int .i64 wv, .slice a2 n k2, .slice d2 m l2]]) (by simp [results, Tryd.results6, go_sem, r1, r2]) rfl ?_
      have OM := OX
      exact told_mk HZ.out HW.out HN.out HM2.out hg OM OD bb
  · have hbad : ¬ bad ⟨xv, xw, xo⟩ who rv = true := by intro hb; unfold bad at hb; simp at hb; omega
    have hvr : ¬ rv < xw := h3
    have hvd : decide (rv < xw) = false := decide_eq_false h3
    replace HY : Hid (Z = ⟨mc, ws, onPh 3 k n m 4, onAt 3 k n m, wv⟩) := by show _ = _; rw [HY.out, if_neg hbad, if_neg hbad]
    clear h1 h3 hbad
    rcases hg3 with f1 | ⟨f1, f2⟩
    · have dA := fun i => Db.cell i; have dB := fun i => Db.froz i; have cc3 := Cb.cell 3
      have hwr : IntKind.i64.wrap ((k : Int) + 1) = (k : Int) + 1 := by rw [IntKind.wrap_i64]; omega
      have ooOX := wordsOff OX Db (by decide)
      have ooD := twoOff OD Db (by decide) (by decide)
      have Mb_ := (Mb.other (show g ≠ q5 by omega) 3 (.int .i64 ((k : Int) + 1)))
      have Cb_ := (Cb.other (show q1 ≠ q5 by omega) 3 (.int .i64 ((k : Int) + 1)))
      have R1_ := (R1.other (show q2 ≠ q5 by omega) 3 (.int .i64 ((k : Int) + 1)))
      have R2_ := (R2.other (show q3 ≠ q5 by omega) 3 (.int .i64 ((k : Int) + 1)))
      have Xb_ := (Xb.other (show q4 ≠ q5 by omega) 3 (.int .i64 ((k : Int) + 1)))
      have Db_ := (Db.set 3 (.int .i64 ((k : Int) + 1)))
      simp only [List.setIfInBounds_toArray, List.set_cons_zero, List.set_cons_succ] at Db_
      have Wb_ := (Wb.other (show q8 ≠ q5 by omega) 3 (.int .i64 ((k : Int) + 1)))
      replace OX := (Words.Owns.other OX (p := ⟨q5, 3, none⟩) ooOX (.int .i64 ((k : Int) + 1)))
      replace OD := (ownC_other (i := 3) (u := .int .i64 ((k : Int) + 1)) OD ooD)
      replace bb := (bb.setCell (p := ⟨q5, 3, none⟩) (show g ≤ q5 by omega) (.int .i64 ((k : Int) + 1)))
      have Mb := Mb_; have Cb := Cb_; have R1 := R1_; have R2 := R2_; have Xb := Xb_; have Db := Db_; have Wb := Wb_
      clear Mb_ Cb_ R1_ R2_ Xb_ Db_ Wb_ ooOX ooD
      obtain ⟨WT, hWT⟩ : ∃ W, (VS.setCell ⟨q5, 3, none⟩ (.int .i64 ((k : Int) + 1))) = W := ⟨_, rfl⟩
      rw [hWT] at Mb Cb R1 R2 Xb Db Wb OX OD bb
      have dC := Db.cell 3; have cc5 := Cb.cell 6
      by_cases he : (k : Int) + 1 = m
      · have hed : ((k : Int) + 1 == (m : Int)) = true := by simp [he]
        have HZ : Hid (Z = ⟨mc, ws, (goPh n m 4), 0, wv⟩) := by show _ = _; rw [HY.out]; unfold onPh onAt stepsN; simp [he]
        clear he
        have n0 := Db.cell 0
        have n1 := Db.cell 1
        have n2 := Db.cell 2
        have n3 := Db.cell 3
        have n4 := Db.cell 4
        have n5 := Db.cell 5
        have n6 := Db.cell 6
        go_wp2_with fail
        try rw [hWT]
        clear n0
        clear n1
        clear n2
        clear n3
        clear n4
        clear n5
        clear n6
        refine (onS who rv 3 ((k : Int) + 1) wv 4 a2 d2 n k2 m l2 WT).mono ?_
        rintro e WO ⟨rfl, b10⟩
        replace Mb := Mb.on b10 Mb.lt
        replace Cb := Cb.on b10 Cb.lt
        replace R1 := R1.on b10 R1.lt
        replace R2 := R2.on b10 R2.lt
        replace Xb := Xb.on b10 Xb.lt
        replace Db := Db.on b10 Db.lt
        replace Wb := Wb.on b10 Wb.lt
        replace OX := OX.on b10 (Nat.le_refl _)
        replace OD := OD.on b10 (Nat.le_refl _)
        replace bb := bb.trans (b10.mono (by have := bb.size; omega))
        clear b10
        have g1 := fun i => Db.cell i; have g2 := fun i => Db.froz i
        go_wp2_with fail
        have ooOX := wordsOff OX Db (by decide)
        have ooD := twoOff OD Db (by decide) (by decide)
        have Mb_ := (((((((Mb.other (show g ≠ q5 by omega) 0 (.int .i64 who)).other (show g ≠ q5 by omega) 1 (.int .i64 rv)).other (show g ≠ q5 by omega) 2 (.int .i64 (goPh n m 4))).other (show g ≠ q5 by omega) 3 (.int .i64 0)).other (show g ≠ q5 by omega) 4 (.int .i64 wv)).other (show g ≠ q5 by omega) 5 (.slice a2 n k2)).other (show g ≠ q5 by omega) 6 (.slice d2 m l2))
        have Cb_ := (((((((Cb.other (show q1 ≠ q5 by omega) 0 (.int .i64 who)).other (show q1 ≠ q5 by omega) 1 (.int .i64 rv)).other (show q1 ≠ q5 by omega) 2 (.int .i64 (goPh n m 4))).other (show q1 ≠ q5 by omega) 3 (.int .i64 0)).other (show q1 ≠ q5 by omega) 4 (.int .i64 wv)).other (show q1 ≠ q5 by omega) 5 (.slice a2 n k2)).other (show q1 ≠ q5 by omega) 6 (.slice d2 m l2))
        have R1_ := (((((((R1.other (show q2 ≠ q5 by omega) 0 (.int .i64 who)).other (show q2 ≠ q5 by omega) 1 (.int .i64 rv)).other (show q2 ≠ q5 by omega) 2 (.int .i64 (goPh n m 4))).other (show q2 ≠ q5 by omega) 3 (.int .i64 0)).other (show q2 ≠ q5 by omega) 4 (.int .i64 wv)).other (show q2 ≠ q5 by omega) 5 (.slice a2 n k2)).other (show q2 ≠ q5 by omega) 6 (.slice d2 m l2))
        have R2_ := (((((((R2.other (show q3 ≠ q5 by omega) 0 (.int .i64 who)).other (show q3 ≠ q5 by omega) 1 (.int .i64 rv)).other (show q3 ≠ q5 by omega) 2 (.int .i64 (goPh n m 4))).other (show q3 ≠ q5 by omega) 3 (.int .i64 0)).other (show q3 ≠ q5 by omega) 4 (.int .i64 wv)).other (show q3 ≠ q5 by omega) 5 (.slice a2 n k2)).other (show q3 ≠ q5 by omega) 6 (.slice d2 m l2))
        have Xb_ := (((((((Xb.other (show q4 ≠ q5 by omega) 0 (.int .i64 who)).other (show q4 ≠ q5 by omega) 1 (.int .i64 rv)).other (show q4 ≠ q5 by omega) 2 (.int .i64 (goPh n m 4))).other (show q4 ≠ q5 by omega) 3 (.int .i64 0)).other (show q4 ≠ q5 by omega) 4 (.int .i64 wv)).other (show q4 ≠ q5 by omega) 5 (.slice a2 n k2)).other (show q4 ≠ q5 by omega) 6 (.slice d2 m l2))
        have Db_ := (((((((Db.set 0 (.int .i64 who)).set 1 (.int .i64 rv)).set 2 (.int .i64 (goPh n m 4))).set 3 (.int .i64 0)).set 4 (.int .i64 wv)).set 5 (.slice a2 n k2)).set 6 (.slice d2 m l2))
        simp only [List.setIfInBounds_toArray, List.set_cons_zero, List.set_cons_succ] at Db_
        have Wb_ := (((((((Wb.other (show q8 ≠ q5 by omega) 0 (.int .i64 who)).other (show q8 ≠ q5 by omega) 1 (.int .i64 rv)).other (show q8 ≠ q5 by omega) 2 (.int .i64 (goPh n m 4))).other (show q8 ≠ q5 by omega) 3 (.int .i64 0)).other (show q8 ≠ q5 by omega) 4 (.int .i64 wv)).other (show q8 ≠ q5 by omega) 5 (.slice a2 n k2)).other (show q8 ≠ q5 by omega) 6 (.slice d2 m l2))
        replace OX := (Words.Owns.other (Words.Owns.other (Words.Owns.other (Words.Owns.other (Words.Owns.other (Words.Owns.other (Words.Owns.other OX (p := ⟨q5, 0, none⟩) ooOX (.int .i64 who)) (p := ⟨q5, 1, none⟩) ooOX (.int .i64 rv)) (p := ⟨q5, 2, none⟩) ooOX (.int .i64 (goPh n m 4))) (p := ⟨q5, 3, none⟩) ooOX (.int .i64 0)) (p := ⟨q5, 4, none⟩) ooOX (.int .i64 wv)) (p := ⟨q5, 5, none⟩) ooOX (.slice a2 n k2)) (p := ⟨q5, 6, none⟩) ooOX (.slice d2 m l2))
        replace OD := (ownC_other (i := 6) (u := .slice d2 m l2) (ownC_other (i := 5) (u := .slice a2 n k2) (ownC_other (i := 4) (u := .int .i64 wv) (ownC_other (i := 3) (u := .int .i64 0) (ownC_other (i := 2) (u := .int .i64 (goPh n m 4)) (ownC_other (i := 1) (u := .int .i64 rv) (ownC_other (i := 0) (u := .int .i64 who) OD ooD) ooD) ooD) ooD) ooD) ooD) ooD)
        replace bb := (((((((bb.setCell (p := ⟨q5, 0, none⟩) (show g ≤ q5 by omega) (.int .i64 who)).setCell (p := ⟨q5, 1, none⟩) (show g ≤ q5 by omega) (.int .i64 rv)).setCell (p := ⟨q5, 2, none⟩) (show g ≤ q5 by omega) (.int .i64 (goPh n m 4))).setCell (p := ⟨q5, 3, none⟩) (show g ≤ q5 by omega) (.int .i64 0)).setCell (p := ⟨q5, 4, none⟩) (show g ≤ q5 by omega) (.int .i64 wv)).setCell (p := ⟨q5, 5, none⟩) (show g ≤ q5 by omega) (.slice a2 n k2)).setCell (p := ⟨q5, 6, none⟩) (show g ≤ q5 by omega) (.slice d2 m l2))
        have Mb := Mb_; have Cb := Cb_; have R1 := R1_; have R2 := R2_; have Xb := Xb_; have Db := Db_; have Wb := Wb_
        clear Mb_ Cb_ R1_ R2_ Xb_ Db_ Wb_ ooOX ooD
        obtain ⟨WQ, hWN⟩ : ∃ W, (((((((WO.setCell ⟨q5, 0, none⟩ (.int .i64 who)).setCell ⟨q5, 1, none⟩ (.int .i64 rv)).setCell ⟨q5, 2, none⟩ (.int .i64 (goPh n m 4))).setCell ⟨q5, 3, none⟩ (.int .i64 0)).setCell ⟨q5, 4, none⟩ (.int .i64 wv)).setCell ⟨q5, 5, none⟩ (.slice a2 n k2)).setCell ⟨q5, 6, none⟩ (.slice d2 m l2)) = W := ⟨_, rfl⟩
        rw [hWN] at Mb Cb R1 R2 Xb Db Wb OX OD bb ⊢
        clear g1 g2 hWN
        clear hWT x0 x1 x2 d0 d1 dA dB dC cc3 cc5
        have cCM : (WQ.cell? ⟨q4, 0, none⟩ = some (.int .i64 mc) ∧ WQ.cell? ⟨q4, 1, none⟩ = some (.slice ax nw kx)) ∧ (WQ.cell? ⟨q5, 0, none⟩ = some (.int .i64 who) ∧ WQ.cell? ⟨q5, 1, none⟩ = some (.int .i64 rv) ∧ WQ.cell? ⟨q5, 2, none⟩ = some (.int .i64 (goPh n m 4)) ∧ WQ.cell? ⟨q5, 3, none⟩ = some (.int .i64 0) ∧ WQ.cell? ⟨q5, 4, none⟩ = some (.int .i64 wv) ∧ WQ.cell? ⟨q5, 5, none⟩ = some (.slice a2 n k2) ∧ WQ.cell? ⟨q5, 6, none⟩ = some (.slice d2 m l2)) ∧ (WQ.cell? ⟨q1, 0, none⟩ = some (.int .i64 who) ∧ WQ.cell? ⟨q1, 1, none⟩ = some (.int .i64 rv) ∧ WQ.cell? ⟨q1, 2, none⟩ = some (.int .i64 3) ∧ WQ.cell? ⟨q1, 3, none⟩ = some (.int .i64 (k : Int)) ∧ WQ.cell? ⟨q1, 4, none⟩ = some (.int .i64 wv) ∧ WQ.cell? ⟨q1, 5, none⟩ = some (.slice ap n kp) ∧ WQ.cell? ⟨q1, 6, none⟩ = some (.slice (some ⟨br, or', none⟩) m kr)) := ⟨⟨Xb.cell 0, Xb.cell 1⟩, ⟨Db.cell 0, Db.cell 1, Db.cell 2, Db.cell 3, Db.cell 4, Db.cell 5, Db.cell 6⟩, ⟨Cb.cell 0, Cb.cell 1, Cb.cell 2, Cb.cell 3, Cb.cell 4, Cb.cell 5, Cb.cell 6⟩⟩
        replace Mb := Mb.drew
        replace Cb := Cb.drew
        replace R1 := R1.drew
        replace R2 := R2.drew
        replace Xb := Xb.drew
        replace Db := Db.drew
        replace Wb := Wb.drew
        replace OX := OX.drew
        replace OD : OwnC _ _ _ _ _ _ := OD.on (drew_lowC WQ) (Nat.le_refl _); replace bb := bb.drew
        obtain ⟨WD87, hWD⟩ : ∃ W, WQ.drew = W := ⟨_, rfl⟩
        refine wp_region_held_drew (S := fun W => (W.cell? ⟨q4, 0, none⟩ = some (.int .i64 mc) ∧ W.cell? ⟨q4, 1, none⟩ = some (.slice ax nw kx)) ∧ (W.cell? ⟨q5, 0, none⟩ = some (.int .i64 who) ∧ W.cell? ⟨q5, 1, none⟩ = some (.int .i64 rv) ∧ W.cell? ⟨q5, 2, none⟩ = some (.int .i64 (goPh n m 4)) ∧ W.cell? ⟨q5, 3, none⟩ = some (.int .i64 0) ∧ W.cell? ⟨q5, 4, none⟩ = some (.int .i64 wv) ∧ W.cell? ⟨q5, 5, none⟩ = some (.slice a2 n k2) ∧ W.cell? ⟨q5, 6, none⟩ = some (.slice d2 m l2)) ∧ (W.cell? ⟨q1, 0, none⟩ = some (.int .i64 who) ∧ W.cell? ⟨q1, 1, none⟩ = some (.int .i64 rv) ∧ W.cell? ⟨q1, 2, none⟩ = some (.int .i64 3) ∧ W.cell? ⟨q1, 3, none⟩ = some (.int .i64 (k : Int)) ∧ W.cell? ⟨q1, 4, none⟩ = some (.int .i64 wv) ∧ W.cell? ⟨q1, 5, none⟩ = some (.slice ap n kp) ∧ W.cell? ⟨q1, 6, none⟩ = some (.slice (some ⟨br, or', none⟩) m kr))) (by kernel_rfl) cCM (fun hHeld => ?_)
        rw [hWD] at Mb Cb R1 R2 Xb Db Wb OX OD bb hHeld ⊢
        clear hWD cCM
        refine takeH (i := 0) (some 234) (.agg #[.int .i64 mc, .slice ax nw kx]) rfl rfl (by kernel_rfl) (by kernel_rfl) (by kernel_rfl) (fun _ _ _ h => h) (Or.inl ⟨by rfl, fun w hSw => by (try dsimp only at hSw); go_simp⟩) (by assumption) ?_
        try simp only [Act.put, List.setIfInBounds_toArray, List.set_cons_zero, List.set_cons_succ]
        refine takeH (i := 1) (some 235) (.agg #[.int .i64 who, .int .i64 rv, .int .i64 (goPh n m 4), .int .i64 0, .int .i64 wv, .slice a2 n k2, .slice d2 m l2]) rfl rfl (by kernel_rfl) (by kernel_rfl) (by kernel_rfl) (fun _ _ _ h => h) (Or.inl ⟨by rfl, fun w hSw => by (try dsimp only at hSw); go_simp⟩) (by assumption) ?_
        try simp only [Act.put, List.setIfInBounds_toArray, List.set_cons_zero, List.set_cons_succ]
        have r1 := fun i => R1.cell i; have f1 := fun i => R1.froz i
        refine wpAnyH_ready (rs := [2]) (by kernel_rfl) (by simp) ?_
        refine AllReadyH.cons rfl (fun K hK => ?_) AllReadyH.nil
        go_simp
        have ooOX := wordsOff OX R1 (by decide)
        have ooD := twoOff OD R1 (by decide) (by decide)
        have Mb_ := ((Mb.other (show g ≠ q2 by omega) 0 (.int .i64 mc)).other (show g ≠ q2 by omega) 1 (.slice ax nw kx))
        have Cb_ := ((Cb.other (show q1 ≠ q2 by omega) 0 (.int .i64 mc)).other (show q1 ≠ q2 by omega) 1 (.slice ax nw kx))
        have R1_ := ((R1.set 0 (.int .i64 mc)).set 1 (.slice ax nw kx))
        simp only [List.setIfInBounds_toArray, List.set_cons_zero, List.set_cons_succ] at R1_
        have R2_ := ((R2.other (show q3 ≠ q2 by omega) 0 (.int .i64 mc)).other (show q3 ≠ q2 by omega) 1 (.slice ax nw kx))
        have Xb_ := ((Xb.other (show q4 ≠ q2 by omega) 0 (.int .i64 mc)).other (show q4 ≠ q2 by omega) 1 (.slice ax nw kx))
        have Db_ := ((Db.other (show q5 ≠ q2 by omega) 0 (.int .i64 mc)).other (show q5 ≠ q2 by omega) 1 (.slice ax nw kx))
        have Wb_ := ((Wb.other (show q8 ≠ q2 by omega) 0 (.int .i64 mc)).other (show q8 ≠ q2 by omega) 1 (.slice ax nw kx))
        replace OX := (Words.Owns.other (Words.Owns.other OX (p := ⟨q2, 0, none⟩) ooOX (.int .i64 mc)) (p := ⟨q2, 1, none⟩) ooOX (.slice ax nw kx))
        replace OD := (ownC_other (i := 1) (u := .slice ax nw kx) (ownC_other (i := 0) (u := .int .i64 mc) OD ooD) ooD)
        replace bb := ((bb.setCell (p := ⟨q2, 0, none⟩) (show g ≤ q2 by omega) (.int .i64 mc)).setCell (p := ⟨q2, 1, none⟩) (show g ≤ q2 by omega) (.slice ax nw kx))
        have Mb := Mb_; have Cb := Cb_; have R1 := R1_; have R2 := R2_; have Xb := Xb_; have Db := Db_; have Wb := Wb_
        clear Mb_ Cb_ R1_ R2_ Xb_ Db_ Wb_ ooOX ooD
        obtain ⟨V88, hWN⟩ : ∃ W, ((WD87.setCell ⟨q2, 0, none⟩ (.int .i64 mc)).setCell ⟨q2, 1, none⟩ (.slice ax nw kx)) = W := ⟨_, rfl⟩
        rw [hWN] at Mb Cb R1 R2 Xb Db Wb OX OD bb ⊢
        clear hWN r1 f1
        refine hK.out _ _ ⟨⟨Xb.cell 0, Xb.cell 1⟩, ⟨Db.cell 0, Db.cell 1, Db.cell 2, Db.cell 3, Db.cell 4, Db.cell 5, Db.cell 6⟩, ⟨Cb.cell 0, Cb.cell 1, Cb.cell 2, Cb.cell 3, Cb.cell 4, Cb.cell 5, Cb.cell 6⟩⟩ (fun _ => ?_)
        clear hK K
        try simp only [Act.put, List.setIfInBounds_toArray, List.set_cons_zero, List.set_cons_succ]
        have r1 := fun i => R2.cell i; have f1 := fun i => R2.froz i
        refine wpAnyH_ready (rs := [3]) (by kernel_rfl) (by simp) ?_
        refine AllReadyH.cons rfl (fun K hK => ?_) AllReadyH.nil
        go_simp
        have ooOX := wordsOff OX R2 (by decide)
        have ooD := twoOff OD R2 (by decide) (by decide)
        have Mb_ := (((((((Mb.other (show g ≠ q3 by omega) 0 (.int .i64 who)).other (show g ≠ q3 by omega) 1 (.int .i64 rv)).other (show g ≠ q3 by omega) 2 (.int .i64 (goPh n m 4))).other (show g ≠ q3 by omega) 3 (.int .i64 0)).other (show g ≠ q3 by omega) 4 (.int .i64 wv)).other (show g ≠ q3 by omega) 5 (.slice a2 n k2)).other (show g ≠ q3 by omega) 6 (.slice d2 m l2))
        have Cb_ := (((((((Cb.other (show q1 ≠ q3 by omega) 0 (.int .i64 who)).other (show q1 ≠ q3 by omega) 1 (.int .i64 rv)).other (show q1 ≠ q3 by omega) 2 (.int .i64 (goPh n m 4))).other (show q1 ≠ q3 by omega) 3 (.int .i64 0)).other (show q1 ≠ q3 by omega) 4 (.int .i64 wv)).other (show q1 ≠ q3 by omega) 5 (.slice a2 n k2)).other (show q1 ≠ q3 by omega) 6 (.slice d2 m l2))
        have R1_ := (((((((R1.other (show q2 ≠ q3 by omega) 0 (.int .i64 who)).other (show q2 ≠ q3 by omega) 1 (.int .i64 rv)).other (show q2 ≠ q3 by omega) 2 (.int .i64 (goPh n m 4))).other (show q2 ≠ q3 by omega) 3 (.int .i64 0)).other (show q2 ≠ q3 by omega) 4 (.int .i64 wv)).other (show q2 ≠ q3 by omega) 5 (.slice a2 n k2)).other (show q2 ≠ q3 by omega) 6 (.slice d2 m l2))
        have R2_ := (((((((R2.set 0 (.int .i64 who)).set 1 (.int .i64 rv)).set 2 (.int .i64 (goPh n m 4))).set 3 (.int .i64 0)).set 4 (.int .i64 wv)).set 5 (.slice a2 n k2)).set 6 (.slice d2 m l2))
        simp only [List.setIfInBounds_toArray, List.set_cons_zero, List.set_cons_succ] at R2_
        have Xb_ := (((((((Xb.other (show q4 ≠ q3 by omega) 0 (.int .i64 who)).other (show q4 ≠ q3 by omega) 1 (.int .i64 rv)).other (show q4 ≠ q3 by omega) 2 (.int .i64 (goPh n m 4))).other (show q4 ≠ q3 by omega) 3 (.int .i64 0)).other (show q4 ≠ q3 by omega) 4 (.int .i64 wv)).other (show q4 ≠ q3 by omega) 5 (.slice a2 n k2)).other (show q4 ≠ q3 by omega) 6 (.slice d2 m l2))
        have Db_ := (((((((Db.other (show q5 ≠ q3 by omega) 0 (.int .i64 who)).other (show q5 ≠ q3 by omega) 1 (.int .i64 rv)).other (show q5 ≠ q3 by omega) 2 (.int .i64 (goPh n m 4))).other (show q5 ≠ q3 by omega) 3 (.int .i64 0)).other (show q5 ≠ q3 by omega) 4 (.int .i64 wv)).other (show q5 ≠ q3 by omega) 5 (.slice a2 n k2)).other (show q5 ≠ q3 by omega) 6 (.slice d2 m l2))
        have Wb_ := (((((((Wb.other (show q8 ≠ q3 by omega) 0 (.int .i64 who)).other (show q8 ≠ q3 by omega) 1 (.int .i64 rv)).other (show q8 ≠ q3 by omega) 2 (.int .i64 (goPh n m 4))).other (show q8 ≠ q3 by omega) 3 (.int .i64 0)).other (show q8 ≠ q3 by omega) 4 (.int .i64 wv)).other (show q8 ≠ q3 by omega) 5 (.slice a2 n k2)).other (show q8 ≠ q3 by omega) 6 (.slice d2 m l2))
        replace OX := (Words.Owns.other (Words.Owns.other (Words.Owns.other (Words.Owns.other (Words.Owns.other (Words.Owns.other (Words.Owns.other OX (p := ⟨q3, 0, none⟩) ooOX (.int .i64 who)) (p := ⟨q3, 1, none⟩) ooOX (.int .i64 rv)) (p := ⟨q3, 2, none⟩) ooOX (.int .i64 (goPh n m 4))) (p := ⟨q3, 3, none⟩) ooOX (.int .i64 0)) (p := ⟨q3, 4, none⟩) ooOX (.int .i64 wv)) (p := ⟨q3, 5, none⟩) ooOX (.slice a2 n k2)) (p := ⟨q3, 6, none⟩) ooOX (.slice d2 m l2))
        replace OD := (ownC_other (i := 6) (u := .slice d2 m l2) (ownC_other (i := 5) (u := .slice a2 n k2) (ownC_other (i := 4) (u := .int .i64 wv) (ownC_other (i := 3) (u := .int .i64 0) (ownC_other (i := 2) (u := .int .i64 (goPh n m 4)) (ownC_other (i := 1) (u := .int .i64 rv) (ownC_other (i := 0) (u := .int .i64 who) OD ooD) ooD) ooD) ooD) ooD) ooD) ooD)
        replace bb := (((((((bb.setCell (p := ⟨q3, 0, none⟩) (show g ≤ q3 by omega) (.int .i64 who)).setCell (p := ⟨q3, 1, none⟩) (show g ≤ q3 by omega) (.int .i64 rv)).setCell (p := ⟨q3, 2, none⟩) (show g ≤ q3 by omega) (.int .i64 (goPh n m 4))).setCell (p := ⟨q3, 3, none⟩) (show g ≤ q3 by omega) (.int .i64 0)).setCell (p := ⟨q3, 4, none⟩) (show g ≤ q3 by omega) (.int .i64 wv)).setCell (p := ⟨q3, 5, none⟩) (show g ≤ q3 by omega) (.slice a2 n k2)).setCell (p := ⟨q3, 6, none⟩) (show g ≤ q3 by omega) (.slice d2 m l2))
        have Mb := Mb_; have Cb := Cb_; have R1 := R1_; have R2 := R2_; have Xb := Xb_; have Db := Db_; have Wb := Wb_
        clear Mb_ Cb_ R1_ R2_ Xb_ Db_ Wb_ ooOX ooD
        obtain ⟨V89, hWN⟩ : ∃ W, (((((((V88.setCell ⟨q3, 0, none⟩ (.int .i64 who)).setCell ⟨q3, 1, none⟩ (.int .i64 rv)).setCell ⟨q3, 2, none⟩ (.int .i64 (goPh n m 4))).setCell ⟨q3, 3, none⟩ (.int .i64 0)).setCell ⟨q3, 4, none⟩ (.int .i64 wv)).setCell ⟨q3, 5, none⟩ (.slice a2 n k2)).setCell ⟨q3, 6, none⟩ (.slice d2 m l2)) = W := ⟨_, rfl⟩
        rw [hWN] at Mb Cb R1 R2 Xb Db Wb OX OD bb ⊢
        clear hWN r1 f1
        refine hK.out _ _ ⟨⟨Xb.cell 0, Xb.cell 1⟩, ⟨Db.cell 0, Db.cell 1, Db.cell 2, Db.cell 3, Db.cell 4, Db.cell 5, Db.cell 6⟩, ⟨Cb.cell 0, Cb.cell 1, Cb.cell 2, Cb.cell 3, Cb.cell 4, Cb.cell 5, Cb.cell 6⟩⟩ (fun _ => ?_)
        clear hK K
        try simp only [Act.put, List.setIfInBounds_toArray, List.set_cons_zero, List.set_cons_succ]
        refine wpAnyH_done (by kernel_rfl) ?_ _
        have r1 := fun i => R1.cell i; have r2 := fun i => R2.cell i
        clear hHeld
        go_wp2
        refine bodyPost_ret (v := .tuple #[.agg #[.int .i64 mc, .slice ax nw kx], .agg #[.int .i64 who, .int .i64 rv, .int .i64 (goPh n m 4), .int .i64 0, .int .i64 wv, .slice a2 n k2, .slice d2 m l2]]) (by simp [results, Tryd.results6, go_sem, r1, r2]) rfl ?_
        have OM := OX
        exact told_mk HZ.out HW.out HN.out HM2.out hg OM OD bb
      · have hed : ((k : Int) + 1 == (m : Int)) = false := by simp [he]
        have HZ : Hid (Z = ⟨mc, ws, 3, (k : Int) + 1, wv⟩) := by show _ = _; rw [HY.out, on_mid3 (show (k : Int) + 1 < stepsN 3 n m from by show (k : Int) + 1 < (m : Int); omega), at_mid3 (show (k : Int) + 1 < stepsN 3 n m from by show (k : Int) + 1 < (m : Int); omega)]
        go_wp2_with fail
        try rw [hWT]
        clear hWT x0 x1 x2 d0 d1 dA dB dC cc3 cc5
        have cCM : (WT.cell? ⟨q4, 0, none⟩ = some (.int .i64 mc) ∧ WT.cell? ⟨q4, 1, none⟩ = some (.slice ax nw kx)) ∧ (WT.cell? ⟨q5, 0, none⟩ = some (.int .i64 who) ∧ WT.cell? ⟨q5, 1, none⟩ = some (.int .i64 rv) ∧ WT.cell? ⟨q5, 2, none⟩ = some (.int .i64 3) ∧ WT.cell? ⟨q5, 3, none⟩ = some (.int .i64 ((k : Int) + 1)) ∧ WT.cell? ⟨q5, 4, none⟩ = some (.int .i64 wv) ∧ WT.cell? ⟨q5, 5, none⟩ = some (.slice a2 n k2) ∧ WT.cell? ⟨q5, 6, none⟩ = some (.slice d2 m l2)) ∧ (WT.cell? ⟨q1, 0, none⟩ = some (.int .i64 who) ∧ WT.cell? ⟨q1, 1, none⟩ = some (.int .i64 rv) ∧ WT.cell? ⟨q1, 2, none⟩ = some (.int .i64 3) ∧ WT.cell? ⟨q1, 3, none⟩ = some (.int .i64 (k : Int)) ∧ WT.cell? ⟨q1, 4, none⟩ = some (.int .i64 wv) ∧ WT.cell? ⟨q1, 5, none⟩ = some (.slice ap n kp) ∧ WT.cell? ⟨q1, 6, none⟩ = some (.slice (some ⟨br, or', none⟩) m kr)) := ⟨⟨Xb.cell 0, Xb.cell 1⟩, ⟨Db.cell 0, Db.cell 1, Db.cell 2, Db.cell 3, Db.cell 4, Db.cell 5, Db.cell 6⟩, ⟨Cb.cell 0, Cb.cell 1, Cb.cell 2, Cb.cell 3, Cb.cell 4, Cb.cell 5, Cb.cell 6⟩⟩
        replace Mb := Mb.drew
        replace Cb := Cb.drew
        replace R1 := R1.drew
        replace R2 := R2.drew
        replace Xb := Xb.drew
        replace Db := Db.drew
        replace Wb := Wb.drew
        replace OX := OX.drew
        replace OD : OwnC _ _ _ _ _ _ := OD.on (drew_lowC WT) (Nat.le_refl _); replace bb := bb.drew
        obtain ⟨WD90, hWD⟩ : ∃ W, WT.drew = W := ⟨_, rfl⟩
        refine wp_region_held_drew (S := fun W => (W.cell? ⟨q4, 0, none⟩ = some (.int .i64 mc) ∧ W.cell? ⟨q4, 1, none⟩ = some (.slice ax nw kx)) ∧ (W.cell? ⟨q5, 0, none⟩ = some (.int .i64 who) ∧ W.cell? ⟨q5, 1, none⟩ = some (.int .i64 rv) ∧ W.cell? ⟨q5, 2, none⟩ = some (.int .i64 3) ∧ W.cell? ⟨q5, 3, none⟩ = some (.int .i64 ((k : Int) + 1)) ∧ W.cell? ⟨q5, 4, none⟩ = some (.int .i64 wv) ∧ W.cell? ⟨q5, 5, none⟩ = some (.slice a2 n k2) ∧ W.cell? ⟨q5, 6, none⟩ = some (.slice d2 m l2)) ∧ (W.cell? ⟨q1, 0, none⟩ = some (.int .i64 who) ∧ W.cell? ⟨q1, 1, none⟩ = some (.int .i64 rv) ∧ W.cell? ⟨q1, 2, none⟩ = some (.int .i64 3) ∧ W.cell? ⟨q1, 3, none⟩ = some (.int .i64 (k : Int)) ∧ W.cell? ⟨q1, 4, none⟩ = some (.int .i64 wv) ∧ W.cell? ⟨q1, 5, none⟩ = some (.slice ap n kp) ∧ W.cell? ⟨q1, 6, none⟩ = some (.slice (some ⟨br, or', none⟩) m kr))) (by kernel_rfl) cCM (fun hHeld => ?_)
        rw [hWD] at Mb Cb R1 R2 Xb Db Wb OX OD bb hHeld ⊢
        clear hWD cCM
        refine takeH (i := 0) (some 234) (.agg #[.int .i64 mc, .slice ax nw kx]) rfl rfl (by kernel_rfl) (by kernel_rfl) (by kernel_rfl) (fun _ _ _ h => h) (Or.inl ⟨by rfl, fun w hSw => by (try dsimp only at hSw); go_simp⟩) (by assumption) ?_
        try simp only [Act.put, List.setIfInBounds_toArray, List.set_cons_zero, List.set_cons_succ]
        refine takeH (i := 1) (some 235) (.agg #[.int .i64 who, .int .i64 rv, .int .i64 3, .int .i64 ((k : Int) + 1), .int .i64 wv, .slice a2 n k2, .slice d2 m l2]) rfl rfl (by kernel_rfl) (by kernel_rfl) (by kernel_rfl) (fun _ _ _ h => h) (Or.inl ⟨by rfl, fun w hSw => by (try dsimp only at hSw); go_simp⟩) (by assumption) ?_
        try simp only [Act.put, List.setIfInBounds_toArray, List.set_cons_zero, List.set_cons_succ]
        have r1 := fun i => R1.cell i; have f1 := fun i => R1.froz i
        refine wpAnyH_ready (rs := [2]) (by kernel_rfl) (by simp) ?_
        refine AllReadyH.cons rfl (fun K hK => ?_) AllReadyH.nil
        go_simp
        have ooOX := wordsOff OX R1 (by decide)
        have ooD := twoOff OD R1 (by decide) (by decide)
        have Mb_ := ((Mb.other (show g ≠ q2 by omega) 0 (.int .i64 mc)).other (show g ≠ q2 by omega) 1 (.slice ax nw kx))
        have Cb_ := ((Cb.other (show q1 ≠ q2 by omega) 0 (.int .i64 mc)).other (show q1 ≠ q2 by omega) 1 (.slice ax nw kx))
        have R1_ := ((R1.set 0 (.int .i64 mc)).set 1 (.slice ax nw kx))
        simp only [List.setIfInBounds_toArray, List.set_cons_zero, List.set_cons_succ] at R1_
        have R2_ := ((R2.other (show q3 ≠ q2 by omega) 0 (.int .i64 mc)).other (show q3 ≠ q2 by omega) 1 (.slice ax nw kx))
        have Xb_ := ((Xb.other (show q4 ≠ q2 by omega) 0 (.int .i64 mc)).other (show q4 ≠ q2 by omega) 1 (.slice ax nw kx))
        have Db_ := ((Db.other (show q5 ≠ q2 by omega) 0 (.int .i64 mc)).other (show q5 ≠ q2 by omega) 1 (.slice ax nw kx))
        have Wb_ := ((Wb.other (show q8 ≠ q2 by omega) 0 (.int .i64 mc)).other (show q8 ≠ q2 by omega) 1 (.slice ax nw kx))
        replace OX := (Words.Owns.other (Words.Owns.other OX (p := ⟨q2, 0, none⟩) ooOX (.int .i64 mc)) (p := ⟨q2, 1, none⟩) ooOX (.slice ax nw kx))
        replace OD := (ownC_other (i := 1) (u := .slice ax nw kx) (ownC_other (i := 0) (u := .int .i64 mc) OD ooD) ooD)
        replace bb := ((bb.setCell (p := ⟨q2, 0, none⟩) (show g ≤ q2 by omega) (.int .i64 mc)).setCell (p := ⟨q2, 1, none⟩) (show g ≤ q2 by omega) (.slice ax nw kx))
        have Mb := Mb_; have Cb := Cb_; have R1 := R1_; have R2 := R2_; have Xb := Xb_; have Db := Db_; have Wb := Wb_
        clear Mb_ Cb_ R1_ R2_ Xb_ Db_ Wb_ ooOX ooD
        obtain ⟨V91, hWN⟩ : ∃ W, ((WD90.setCell ⟨q2, 0, none⟩ (.int .i64 mc)).setCell ⟨q2, 1, none⟩ (.slice ax nw kx)) = W := ⟨_, rfl⟩
        rw [hWN] at Mb Cb R1 R2 Xb Db Wb OX OD bb ⊢
        clear hWN r1 f1
        refine hK.out _ _ ⟨⟨Xb.cell 0, Xb.cell 1⟩, ⟨Db.cell 0, Db.cell 1, Db.cell 2, Db.cell 3, Db.cell 4, Db.cell 5, Db.cell 6⟩, ⟨Cb.cell 0, Cb.cell 1, Cb.cell 2, Cb.cell 3, Cb.cell 4, Cb.cell 5, Cb.cell 6⟩⟩ (fun _ => ?_)
        clear hK K
        try simp only [Act.put, List.setIfInBounds_toArray, List.set_cons_zero, List.set_cons_succ]
        have r1 := fun i => R2.cell i; have f1 := fun i => R2.froz i
        refine wpAnyH_ready (rs := [3]) (by kernel_rfl) (by simp) ?_
        refine AllReadyH.cons rfl (fun K hK => ?_) AllReadyH.nil
        go_simp
        have ooOX := wordsOff OX R2 (by decide)
        have ooD := twoOff OD R2 (by decide) (by decide)
        have Mb_ := (((((((Mb.other (show g ≠ q3 by omega) 0 (.int .i64 who)).other (show g ≠ q3 by omega) 1 (.int .i64 rv)).other (show g ≠ q3 by omega) 2 (.int .i64 3)).other (show g ≠ q3 by omega) 3 (.int .i64 ((k : Int) + 1))).other (show g ≠ q3 by omega) 4 (.int .i64 wv)).other (show g ≠ q3 by omega) 5 (.slice a2 n k2)).other (show g ≠ q3 by omega) 6 (.slice d2 m l2))
        have Cb_ := (((((((Cb.other (show q1 ≠ q3 by omega) 0 (.int .i64 who)).other (show q1 ≠ q3 by omega) 1 (.int .i64 rv)).other (show q1 ≠ q3 by omega) 2 (.int .i64 3)).other (show q1 ≠ q3 by omega) 3 (.int .i64 ((k : Int) + 1))).other (show q1 ≠ q3 by omega) 4 (.int .i64 wv)).other (show q1 ≠ q3 by omega) 5 (.slice a2 n k2)).other (show q1 ≠ q3 by omega) 6 (.slice d2 m l2))
        have R1_ := (((((((R1.other (show q2 ≠ q3 by omega) 0 (.int .i64 who)).other (show q2 ≠ q3 by omega) 1 (.int .i64 rv)).other (show q2 ≠ q3 by omega) 2 (.int .i64 3)).other (show q2 ≠ q3 by omega) 3 (.int .i64 ((k : Int) + 1))).other (show q2 ≠ q3 by omega) 4 (.int .i64 wv)).other (show q2 ≠ q3 by omega) 5 (.slice a2 n k2)).other (show q2 ≠ q3 by omega) 6 (.slice d2 m l2))
        have R2_ := (((((((R2.set 0 (.int .i64 who)).set 1 (.int .i64 rv)).set 2 (.int .i64 3)).set 3 (.int .i64 ((k : Int) + 1))).set 4 (.int .i64 wv)).set 5 (.slice a2 n k2)).set 6 (.slice d2 m l2))
        simp only [List.setIfInBounds_toArray, List.set_cons_zero, List.set_cons_succ] at R2_
        have Xb_ := (((((((Xb.other (show q4 ≠ q3 by omega) 0 (.int .i64 who)).other (show q4 ≠ q3 by omega) 1 (.int .i64 rv)).other (show q4 ≠ q3 by omega) 2 (.int .i64 3)).other (show q4 ≠ q3 by omega) 3 (.int .i64 ((k : Int) + 1))).other (show q4 ≠ q3 by omega) 4 (.int .i64 wv)).other (show q4 ≠ q3 by omega) 5 (.slice a2 n k2)).other (show q4 ≠ q3 by omega) 6 (.slice d2 m l2))
        have Db_ := (((((((Db.other (show q5 ≠ q3 by omega) 0 (.int .i64 who)).other (show q5 ≠ q3 by omega) 1 (.int .i64 rv)).other (show q5 ≠ q3 by omega) 2 (.int .i64 3)).other (show q5 ≠ q3 by omega) 3 (.int .i64 ((k : Int) + 1))).other (show q5 ≠ q3 by omega) 4 (.int .i64 wv)).other (show q5 ≠ q3 by omega) 5 (.slice a2 n k2)).other (show q5 ≠ q3 by omega) 6 (.slice d2 m l2))
        have Wb_ := (((((((Wb.other (show q8 ≠ q3 by omega) 0 (.int .i64 who)).other (show q8 ≠ q3 by omega) 1 (.int .i64 rv)).other (show q8 ≠ q3 by omega) 2 (.int .i64 3)).other (show q8 ≠ q3 by omega) 3 (.int .i64 ((k : Int) + 1))).other (show q8 ≠ q3 by omega) 4 (.int .i64 wv)).other (show q8 ≠ q3 by omega) 5 (.slice a2 n k2)).other (show q8 ≠ q3 by omega) 6 (.slice d2 m l2))
        replace OX := (Words.Owns.other (Words.Owns.other (Words.Owns.other (Words.Owns.other (Words.Owns.other (Words.Owns.other (Words.Owns.other OX (p := ⟨q3, 0, none⟩) ooOX (.int .i64 who)) (p := ⟨q3, 1, none⟩) ooOX (.int .i64 rv)) (p := ⟨q3, 2, none⟩) ooOX (.int .i64 3)) (p := ⟨q3, 3, none⟩) ooOX (.int .i64 ((k : Int) + 1))) (p := ⟨q3, 4, none⟩) ooOX (.int .i64 wv)) (p := ⟨q3, 5, none⟩) ooOX (.slice a2 n k2)) (p := ⟨q3, 6, none⟩) ooOX (.slice d2 m l2))
        replace OD := (ownC_other (i := 6) (u := .slice d2 m l2) (ownC_other (i := 5) (u := .slice a2 n k2) (ownC_other (i := 4) (u := .int .i64 wv) (ownC_other (i := 3) (u := .int .i64 ((k : Int) + 1)) (ownC_other (i := 2) (u := .int .i64 3) (ownC_other (i := 1) (u := .int .i64 rv) (ownC_other (i := 0) (u := .int .i64 who) OD ooD) ooD) ooD) ooD) ooD) ooD) ooD)
        replace bb := (((((((bb.setCell (p := ⟨q3, 0, none⟩) (show g ≤ q3 by omega) (.int .i64 who)).setCell (p := ⟨q3, 1, none⟩) (show g ≤ q3 by omega) (.int .i64 rv)).setCell (p := ⟨q3, 2, none⟩) (show g ≤ q3 by omega) (.int .i64 3)).setCell (p := ⟨q3, 3, none⟩) (show g ≤ q3 by omega) (.int .i64 ((k : Int) + 1))).setCell (p := ⟨q3, 4, none⟩) (show g ≤ q3 by omega) (.int .i64 wv)).setCell (p := ⟨q3, 5, none⟩) (show g ≤ q3 by omega) (.slice a2 n k2)).setCell (p := ⟨q3, 6, none⟩) (show g ≤ q3 by omega) (.slice d2 m l2))
        have Mb := Mb_; have Cb := Cb_; have R1 := R1_; have R2 := R2_; have Xb := Xb_; have Db := Db_; have Wb := Wb_
        clear Mb_ Cb_ R1_ R2_ Xb_ Db_ Wb_ ooOX ooD
        obtain ⟨V92, hWN⟩ : ∃ W, (((((((V91.setCell ⟨q3, 0, none⟩ (.int .i64 who)).setCell ⟨q3, 1, none⟩ (.int .i64 rv)).setCell ⟨q3, 2, none⟩ (.int .i64 3)).setCell ⟨q3, 3, none⟩ (.int .i64 ((k : Int) + 1))).setCell ⟨q3, 4, none⟩ (.int .i64 wv)).setCell ⟨q3, 5, none⟩ (.slice a2 n k2)).setCell ⟨q3, 6, none⟩ (.slice d2 m l2)) = W := ⟨_, rfl⟩
        rw [hWN] at Mb Cb R1 R2 Xb Db Wb OX OD bb ⊢
        clear hWN r1 f1
        refine hK.out _ _ ⟨⟨Xb.cell 0, Xb.cell 1⟩, ⟨Db.cell 0, Db.cell 1, Db.cell 2, Db.cell 3, Db.cell 4, Db.cell 5, Db.cell 6⟩, ⟨Cb.cell 0, Cb.cell 1, Cb.cell 2, Cb.cell 3, Cb.cell 4, Cb.cell 5, Cb.cell 6⟩⟩ (fun _ => ?_)
        clear hK K
        try simp only [Act.put, List.setIfInBounds_toArray, List.set_cons_zero, List.set_cons_succ]
        refine wpAnyH_done (by kernel_rfl) ?_ _
        have r1 := fun i => R1.cell i; have r2 := fun i => R2.cell i
        clear hHeld
        go_wp2
        refine bodyPost_ret (v := .tuple #[.agg #[.int .i64 mc, .slice ax nw kx], .agg #[.int .i64 who, .int .i64 rv, .int .i64 3, .int .i64 ((k : Int) + 1), .int .i64 wv, .slice a2 n k2, .slice d2 m l2]]) (by simp [results, Tryd.results6, go_sem, r1, r2]) rfl ?_
        have OM := OX
        exact told_mk HZ.out HW.out HN.out HM2.out hg OM OD bb
    · have dA := fun i => Db.cell i; have dB := fun i => Db.froz i; have cc3 := Cb.cell 3
      have hwr : IntKind.i64.wrap ((k : Int) + 1) = (k : Int) + 1 := by rw [IntKind.wrap_i64]; omega
      have ooOX := wordsOff OX Db (by decide)
      have ooD := twoOff OD Db (by decide) (by decide)
      have Mb_ := (Mb.other (show g ≠ q5 by omega) 3 (.int .i64 ((k : Int) + 1)))
      have Cb_ := (Cb.other (show q1 ≠ q5 by omega) 3 (.int .i64 ((k : Int) + 1)))
      have R1_ := (R1.other (show q2 ≠ q5 by omega) 3 (.int .i64 ((k : Int) + 1)))
      have R2_ := (R2.other (show q3 ≠ q5 by omega) 3 (.int .i64 ((k : Int) + 1)))
      have Xb_ := (Xb.other (show q4 ≠ q5 by omega) 3 (.int .i64 ((k : Int) + 1)))
      have Db_ := (Db.set 3 (.int .i64 ((k : Int) + 1)))
      simp only [List.setIfInBounds_toArray, List.set_cons_zero, List.set_cons_succ] at Db_
      have Wb_ := (Wb.other (show q8 ≠ q5 by omega) 3 (.int .i64 ((k : Int) + 1)))
      replace OX := (Words.Owns.other OX (p := ⟨q5, 3, none⟩) ooOX (.int .i64 ((k : Int) + 1)))
      replace OD := (ownC_other (i := 3) (u := .int .i64 ((k : Int) + 1)) OD ooD)
      replace bb := (bb.setCell (p := ⟨q5, 3, none⟩) (show g ≤ q5 by omega) (.int .i64 ((k : Int) + 1)))
      have Mb := Mb_; have Cb := Cb_; have R1 := R1_; have R2 := R2_; have Xb := Xb_; have Db := Db_; have Wb := Wb_
      clear Mb_ Cb_ R1_ R2_ Xb_ Db_ Wb_ ooOX ooD
      obtain ⟨WT, hWT⟩ : ∃ W, (VS.setCell ⟨q5, 3, none⟩ (.int .i64 ((k : Int) + 1))) = W := ⟨_, rfl⟩
      rw [hWT] at Mb Cb R1 R2 Xb Db Wb OX OD bb
      have dC := Db.cell 3; have cc5 := Cb.cell 6
      by_cases he : (k : Int) + 1 = m
      · have hed : ((k : Int) + 1 == (m : Int)) = true := by simp [he]
        have HZ : Hid (Z = ⟨mc, ws, (goPh n m 4), 0, wv⟩) := by show _ = _; rw [HY.out]; unfold onPh onAt stepsN; simp [he]
        clear he
        have n0 := Db.cell 0
        have n1 := Db.cell 1
        have n2 := Db.cell 2
        have n3 := Db.cell 3
        have n4 := Db.cell 4
        have n5 := Db.cell 5
        have n6 := Db.cell 6
        go_wp2_with fail
        try rw [hWT]
        clear n0
        clear n1
        clear n2
        clear n3
        clear n4
        clear n5
        clear n6
        refine (onS who rv 3 ((k : Int) + 1) wv 4 a2 d2 n k2 m l2 WT).mono ?_
        rintro e WO ⟨rfl, b10⟩
        replace Mb := Mb.on b10 Mb.lt
        replace Cb := Cb.on b10 Cb.lt
        replace R1 := R1.on b10 R1.lt
        replace R2 := R2.on b10 R2.lt
        replace Xb := Xb.on b10 Xb.lt
        replace Db := Db.on b10 Db.lt
        replace Wb := Wb.on b10 Wb.lt
        replace OX := OX.on b10 (Nat.le_refl _)
        replace OD := OD.on b10 (Nat.le_refl _)
        replace bb := bb.trans (b10.mono (by have := bb.size; omega))
        clear b10
        have g1 := fun i => Db.cell i; have g2 := fun i => Db.froz i
        go_wp2_with fail
        have ooOX := wordsOff OX Db (by decide)
        have ooD := twoOff OD Db (by decide) (by decide)
        have Mb_ := (((((((Mb.other (show g ≠ q5 by omega) 0 (.int .i64 who)).other (show g ≠ q5 by omega) 1 (.int .i64 rv)).other (show g ≠ q5 by omega) 2 (.int .i64 (goPh n m 4))).other (show g ≠ q5 by omega) 3 (.int .i64 0)).other (show g ≠ q5 by omega) 4 (.int .i64 wv)).other (show g ≠ q5 by omega) 5 (.slice a2 n k2)).other (show g ≠ q5 by omega) 6 (.slice d2 m l2))
        have Cb_ := (((((((Cb.other (show q1 ≠ q5 by omega) 0 (.int .i64 who)).other (show q1 ≠ q5 by omega) 1 (.int .i64 rv)).other (show q1 ≠ q5 by omega) 2 (.int .i64 (goPh n m 4))).other (show q1 ≠ q5 by omega) 3 (.int .i64 0)).other (show q1 ≠ q5 by omega) 4 (.int .i64 wv)).other (show q1 ≠ q5 by omega) 5 (.slice a2 n k2)).other (show q1 ≠ q5 by omega) 6 (.slice d2 m l2))
        have R1_ := (((((((R1.other (show q2 ≠ q5 by omega) 0 (.int .i64 who)).other (show q2 ≠ q5 by omega) 1 (.int .i64 rv)).other (show q2 ≠ q5 by omega) 2 (.int .i64 (goPh n m 4))).other (show q2 ≠ q5 by omega) 3 (.int .i64 0)).other (show q2 ≠ q5 by omega) 4 (.int .i64 wv)).other (show q2 ≠ q5 by omega) 5 (.slice a2 n k2)).other (show q2 ≠ q5 by omega) 6 (.slice d2 m l2))
        have R2_ := (((((((R2.other (show q3 ≠ q5 by omega) 0 (.int .i64 who)).other (show q3 ≠ q5 by omega) 1 (.int .i64 rv)).other (show q3 ≠ q5 by omega) 2 (.int .i64 (goPh n m 4))).other (show q3 ≠ q5 by omega) 3 (.int .i64 0)).other (show q3 ≠ q5 by omega) 4 (.int .i64 wv)).other (show q3 ≠ q5 by omega) 5 (.slice a2 n k2)).other (show q3 ≠ q5 by omega) 6 (.slice d2 m l2))
        have Xb_ := (((((((Xb.other (show q4 ≠ q5 by omega) 0 (.int .i64 who)).other (show q4 ≠ q5 by omega) 1 (.int .i64 rv)).other (show q4 ≠ q5 by omega) 2 (.int .i64 (goPh n m 4))).other (show q4 ≠ q5 by omega) 3 (.int .i64 0)).other (show q4 ≠ q5 by omega) 4 (.int .i64 wv)).other (show q4 ≠ q5 by omega) 5 (.slice a2 n k2)).other (show q4 ≠ q5 by omega) 6 (.slice d2 m l2))
        have Db_ := (((((((Db.set 0 (.int .i64 who)).set 1 (.int .i64 rv)).set 2 (.int .i64 (goPh n m 4))).set 3 (.int .i64 0)).set 4 (.int .i64 wv)).set 5 (.slice a2 n k2)).set 6 (.slice d2 m l2))
        simp only [List.setIfInBounds_toArray, List.set_cons_zero, List.set_cons_succ] at Db_
        have Wb_ := (((((((Wb.other (show q8 ≠ q5 by omega) 0 (.int .i64 who)).other (show q8 ≠ q5 by omega) 1 (.int .i64 rv)).other (show q8 ≠ q5 by omega) 2 (.int .i64 (goPh n m 4))).other (show q8 ≠ q5 by omega) 3 (.int .i64 0)).other (show q8 ≠ q5 by omega) 4 (.int .i64 wv)).other (show q8 ≠ q5 by omega) 5 (.slice a2 n k2)).other (show q8 ≠ q5 by omega) 6 (.slice d2 m l2))
        replace OX := (Words.Owns.other (Words.Owns.other (Words.Owns.other (Words.Owns.other (Words.Owns.other (Words.Owns.other (Words.Owns.other OX (p := ⟨q5, 0, none⟩) ooOX (.int .i64 who)) (p := ⟨q5, 1, none⟩) ooOX (.int .i64 rv)) (p := ⟨q5, 2, none⟩) ooOX (.int .i64 (goPh n m 4))) (p := ⟨q5, 3, none⟩) ooOX (.int .i64 0)) (p := ⟨q5, 4, none⟩) ooOX (.int .i64 wv)) (p := ⟨q5, 5, none⟩) ooOX (.slice a2 n k2)) (p := ⟨q5, 6, none⟩) ooOX (.slice d2 m l2))
        replace OD := (ownC_other (i := 6) (u := .slice d2 m l2) (ownC_other (i := 5) (u := .slice a2 n k2) (ownC_other (i := 4) (u := .int .i64 wv) (ownC_other (i := 3) (u := .int .i64 0) (ownC_other (i := 2) (u := .int .i64 (goPh n m 4)) (ownC_other (i := 1) (u := .int .i64 rv) (ownC_other (i := 0) (u := .int .i64 who) OD ooD) ooD) ooD) ooD) ooD) ooD) ooD)
        replace bb := (((((((bb.setCell (p := ⟨q5, 0, none⟩) (show g ≤ q5 by omega) (.int .i64 who)).setCell (p := ⟨q5, 1, none⟩) (show g ≤ q5 by omega) (.int .i64 rv)).setCell (p := ⟨q5, 2, none⟩) (show g ≤ q5 by omega) (.int .i64 (goPh n m 4))).setCell (p := ⟨q5, 3, none⟩) (show g ≤ q5 by omega) (.int .i64 0)).setCell (p := ⟨q5, 4, none⟩) (show g ≤ q5 by omega) (.int .i64 wv)).setCell (p := ⟨q5, 5, none⟩) (show g ≤ q5 by omega) (.slice a2 n k2)).setCell (p := ⟨q5, 6, none⟩) (show g ≤ q5 by omega) (.slice d2 m l2))
        have Mb := Mb_; have Cb := Cb_; have R1 := R1_; have R2 := R2_; have Xb := Xb_; have Db := Db_; have Wb := Wb_
        clear Mb_ Cb_ R1_ R2_ Xb_ Db_ Wb_ ooOX ooD
        obtain ⟨WQ, hWN⟩ : ∃ W, (((((((WO.setCell ⟨q5, 0, none⟩ (.int .i64 who)).setCell ⟨q5, 1, none⟩ (.int .i64 rv)).setCell ⟨q5, 2, none⟩ (.int .i64 (goPh n m 4))).setCell ⟨q5, 3, none⟩ (.int .i64 0)).setCell ⟨q5, 4, none⟩ (.int .i64 wv)).setCell ⟨q5, 5, none⟩ (.slice a2 n k2)).setCell ⟨q5, 6, none⟩ (.slice d2 m l2)) = W := ⟨_, rfl⟩
        rw [hWN] at Mb Cb R1 R2 Xb Db Wb OX OD bb ⊢
        clear g1 g2 hWN
        clear hWT x0 x1 x2 d0 d1 dA dB dC cc3 cc5
        have cCM : (WQ.cell? ⟨q4, 0, none⟩ = some (.int .i64 mc) ∧ WQ.cell? ⟨q4, 1, none⟩ = some (.slice ax nw kx)) ∧ (WQ.cell? ⟨q5, 0, none⟩ = some (.int .i64 who) ∧ WQ.cell? ⟨q5, 1, none⟩ = some (.int .i64 rv) ∧ WQ.cell? ⟨q5, 2, none⟩ = some (.int .i64 (goPh n m 4)) ∧ WQ.cell? ⟨q5, 3, none⟩ = some (.int .i64 0) ∧ WQ.cell? ⟨q5, 4, none⟩ = some (.int .i64 wv) ∧ WQ.cell? ⟨q5, 5, none⟩ = some (.slice a2 n k2) ∧ WQ.cell? ⟨q5, 6, none⟩ = some (.slice d2 m l2)) ∧ (WQ.cell? ⟨q1, 0, none⟩ = some (.int .i64 who) ∧ WQ.cell? ⟨q1, 1, none⟩ = some (.int .i64 rv) ∧ WQ.cell? ⟨q1, 2, none⟩ = some (.int .i64 3) ∧ WQ.cell? ⟨q1, 3, none⟩ = some (.int .i64 (k : Int)) ∧ WQ.cell? ⟨q1, 4, none⟩ = some (.int .i64 wv) ∧ WQ.cell? ⟨q1, 5, none⟩ = some (.slice ap n kp) ∧ WQ.cell? ⟨q1, 6, none⟩ = some (.slice (some ⟨br, or', none⟩) m kr)) := ⟨⟨Xb.cell 0, Xb.cell 1⟩, ⟨Db.cell 0, Db.cell 1, Db.cell 2, Db.cell 3, Db.cell 4, Db.cell 5, Db.cell 6⟩, ⟨Cb.cell 0, Cb.cell 1, Cb.cell 2, Cb.cell 3, Cb.cell 4, Cb.cell 5, Cb.cell 6⟩⟩
        replace Mb := Mb.drew
        replace Cb := Cb.drew
        replace R1 := R1.drew
        replace R2 := R2.drew
        replace Xb := Xb.drew
        replace Db := Db.drew
        replace Wb := Wb.drew
        replace OX := OX.drew
        replace OD : OwnC _ _ _ _ _ _ := OD.on (drew_lowC WQ) (Nat.le_refl _); replace bb := bb.drew
        obtain ⟨WD93, hWD⟩ : ∃ W, WQ.drew = W := ⟨_, rfl⟩
        refine wp_region_held_drew (S := fun W => (W.cell? ⟨q4, 0, none⟩ = some (.int .i64 mc) ∧ W.cell? ⟨q4, 1, none⟩ = some (.slice ax nw kx)) ∧ (W.cell? ⟨q5, 0, none⟩ = some (.int .i64 who) ∧ W.cell? ⟨q5, 1, none⟩ = some (.int .i64 rv) ∧ W.cell? ⟨q5, 2, none⟩ = some (.int .i64 (goPh n m 4)) ∧ W.cell? ⟨q5, 3, none⟩ = some (.int .i64 0) ∧ W.cell? ⟨q5, 4, none⟩ = some (.int .i64 wv) ∧ W.cell? ⟨q5, 5, none⟩ = some (.slice a2 n k2) ∧ W.cell? ⟨q5, 6, none⟩ = some (.slice d2 m l2)) ∧ (W.cell? ⟨q1, 0, none⟩ = some (.int .i64 who) ∧ W.cell? ⟨q1, 1, none⟩ = some (.int .i64 rv) ∧ W.cell? ⟨q1, 2, none⟩ = some (.int .i64 3) ∧ W.cell? ⟨q1, 3, none⟩ = some (.int .i64 (k : Int)) ∧ W.cell? ⟨q1, 4, none⟩ = some (.int .i64 wv) ∧ W.cell? ⟨q1, 5, none⟩ = some (.slice ap n kp) ∧ W.cell? ⟨q1, 6, none⟩ = some (.slice (some ⟨br, or', none⟩) m kr))) (by kernel_rfl) cCM (fun hHeld => ?_)
        rw [hWD] at Mb Cb R1 R2 Xb Db Wb OX OD bb hHeld ⊢
        clear hWD cCM
        refine takeH (i := 0) (some 234) (.agg #[.int .i64 mc, .slice ax nw kx]) rfl rfl (by kernel_rfl) (by kernel_rfl) (by kernel_rfl) (fun _ _ _ h => h) (Or.inl ⟨by rfl, fun w hSw => by (try dsimp only at hSw); go_simp⟩) (by assumption) ?_
        try simp only [Act.put, List.setIfInBounds_toArray, List.set_cons_zero, List.set_cons_succ]
        refine takeH (i := 1) (some 235) (.agg #[.int .i64 who, .int .i64 rv, .int .i64 (goPh n m 4), .int .i64 0, .int .i64 wv, .slice a2 n k2, .slice d2 m l2]) rfl rfl (by kernel_rfl) (by kernel_rfl) (by kernel_rfl) (fun _ _ _ h => h) (Or.inl ⟨by rfl, fun w hSw => by (try dsimp only at hSw); go_simp⟩) (by assumption) ?_
        try simp only [Act.put, List.setIfInBounds_toArray, List.set_cons_zero, List.set_cons_succ]
        have r1 := fun i => R1.cell i; have f1 := fun i => R1.froz i
        refine wpAnyH_ready (rs := [2]) (by kernel_rfl) (by simp) ?_
        refine AllReadyH.cons rfl (fun K hK => ?_) AllReadyH.nil
        go_simp
        have ooOX := wordsOff OX R1 (by decide)
        have ooD := twoOff OD R1 (by decide) (by decide)
        have Mb_ := ((Mb.other (show g ≠ q2 by omega) 0 (.int .i64 mc)).other (show g ≠ q2 by omega) 1 (.slice ax nw kx))
        have Cb_ := ((Cb.other (show q1 ≠ q2 by omega) 0 (.int .i64 mc)).other (show q1 ≠ q2 by omega) 1 (.slice ax nw kx))
        have R1_ := ((R1.set 0 (.int .i64 mc)).set 1 (.slice ax nw kx))
        simp only [List.setIfInBounds_toArray, List.set_cons_zero, List.set_cons_succ] at R1_
        have R2_ := ((R2.other (show q3 ≠ q2 by omega) 0 (.int .i64 mc)).other (show q3 ≠ q2 by omega) 1 (.slice ax nw kx))
        have Xb_ := ((Xb.other (show q4 ≠ q2 by omega) 0 (.int .i64 mc)).other (show q4 ≠ q2 by omega) 1 (.slice ax nw kx))
        have Db_ := ((Db.other (show q5 ≠ q2 by omega) 0 (.int .i64 mc)).other (show q5 ≠ q2 by omega) 1 (.slice ax nw kx))
        have Wb_ := ((Wb.other (show q8 ≠ q2 by omega) 0 (.int .i64 mc)).other (show q8 ≠ q2 by omega) 1 (.slice ax nw kx))
        replace OX := (Words.Owns.other (Words.Owns.other OX (p := ⟨q2, 0, none⟩) ooOX (.int .i64 mc)) (p := ⟨q2, 1, none⟩) ooOX (.slice ax nw kx))
        replace OD := (ownC_other (i := 1) (u := .slice ax nw kx) (ownC_other (i := 0) (u := .int .i64 mc) OD ooD) ooD)
        replace bb := ((bb.setCell (p := ⟨q2, 0, none⟩) (show g ≤ q2 by omega) (.int .i64 mc)).setCell (p := ⟨q2, 1, none⟩) (show g ≤ q2 by omega) (.slice ax nw kx))
        have Mb := Mb_; have Cb := Cb_; have R1 := R1_; have R2 := R2_; have Xb := Xb_; have Db := Db_; have Wb := Wb_
        clear Mb_ Cb_ R1_ R2_ Xb_ Db_ Wb_ ooOX ooD
        obtain ⟨V94, hWN⟩ : ∃ W, ((WD93.setCell ⟨q2, 0, none⟩ (.int .i64 mc)).setCell ⟨q2, 1, none⟩ (.slice ax nw kx)) = W := ⟨_, rfl⟩
        rw [hWN] at Mb Cb R1 R2 Xb Db Wb OX OD bb ⊢
        clear hWN r1 f1
        refine hK.out _ _ ⟨⟨Xb.cell 0, Xb.cell 1⟩, ⟨Db.cell 0, Db.cell 1, Db.cell 2, Db.cell 3, Db.cell 4, Db.cell 5, Db.cell 6⟩, ⟨Cb.cell 0, Cb.cell 1, Cb.cell 2, Cb.cell 3, Cb.cell 4, Cb.cell 5, Cb.cell 6⟩⟩ (fun _ => ?_)
        clear hK K
        try simp only [Act.put, List.setIfInBounds_toArray, List.set_cons_zero, List.set_cons_succ]
        have r1 := fun i => R2.cell i; have f1 := fun i => R2.froz i
        refine wpAnyH_ready (rs := [3]) (by kernel_rfl) (by simp) ?_
        refine AllReadyH.cons rfl (fun K hK => ?_) AllReadyH.nil
        go_simp
        have ooOX := wordsOff OX R2 (by decide)
        have ooD := twoOff OD R2 (by decide) (by decide)
        have Mb_ := (((((((Mb.other (show g ≠ q3 by omega) 0 (.int .i64 who)).other (show g ≠ q3 by omega) 1 (.int .i64 rv)).other (show g ≠ q3 by omega) 2 (.int .i64 (goPh n m 4))).other (show g ≠ q3 by omega) 3 (.int .i64 0)).other (show g ≠ q3 by omega) 4 (.int .i64 wv)).other (show g ≠ q3 by omega) 5 (.slice a2 n k2)).other (show g ≠ q3 by omega) 6 (.slice d2 m l2))
        have Cb_ := (((((((Cb.other (show q1 ≠ q3 by omega) 0 (.int .i64 who)).other (show q1 ≠ q3 by omega) 1 (.int .i64 rv)).other (show q1 ≠ q3 by omega) 2 (.int .i64 (goPh n m 4))).other (show q1 ≠ q3 by omega) 3 (.int .i64 0)).other (show q1 ≠ q3 by omega) 4 (.int .i64 wv)).other (show q1 ≠ q3 by omega) 5 (.slice a2 n k2)).other (show q1 ≠ q3 by omega) 6 (.slice d2 m l2))
        have R1_ := (((((((R1.other (show q2 ≠ q3 by omega) 0 (.int .i64 who)).other (show q2 ≠ q3 by omega) 1 (.int .i64 rv)).other (show q2 ≠ q3 by omega) 2 (.int .i64 (goPh n m 4))).other (show q2 ≠ q3 by omega) 3 (.int .i64 0)).other (show q2 ≠ q3 by omega) 4 (.int .i64 wv)).other (show q2 ≠ q3 by omega) 5 (.slice a2 n k2)).other (show q2 ≠ q3 by omega) 6 (.slice d2 m l2))
        have R2_ := (((((((R2.set 0 (.int .i64 who)).set 1 (.int .i64 rv)).set 2 (.int .i64 (goPh n m 4))).set 3 (.int .i64 0)).set 4 (.int .i64 wv)).set 5 (.slice a2 n k2)).set 6 (.slice d2 m l2))
        simp only [List.setIfInBounds_toArray, List.set_cons_zero, List.set_cons_succ] at R2_
        have Xb_ := (((((((Xb.other (show q4 ≠ q3 by omega) 0 (.int .i64 who)).other (show q4 ≠ q3 by omega) 1 (.int .i64 rv)).other (show q4 ≠ q3 by omega) 2 (.int .i64 (goPh n m 4))).other (show q4 ≠ q3 by omega) 3 (.int .i64 0)).other (show q4 ≠ q3 by omega) 4 (.int .i64 wv)).other (show q4 ≠ q3 by omega) 5 (.slice a2 n k2)).other (show q4 ≠ q3 by omega) 6 (.slice d2 m l2))
        have Db_ := (((((((Db.other (show q5 ≠ q3 by omega) 0 (.int .i64 who)).other (show q5 ≠ q3 by omega) 1 (.int .i64 rv)).other (show q5 ≠ q3 by omega) 2 (.int .i64 (goPh n m 4))).other (show q5 ≠ q3 by omega) 3 (.int .i64 0)).other (show q5 ≠ q3 by omega) 4 (.int .i64 wv)).other (show q5 ≠ q3 by omega) 5 (.slice a2 n k2)).other (show q5 ≠ q3 by omega) 6 (.slice d2 m l2))
        have Wb_ := (((((((Wb.other (show q8 ≠ q3 by omega) 0 (.int .i64 who)).other (show q8 ≠ q3 by omega) 1 (.int .i64 rv)).other (show q8 ≠ q3 by omega) 2 (.int .i64 (goPh n m 4))).other (show q8 ≠ q3 by omega) 3 (.int .i64 0)).other (show q8 ≠ q3 by omega) 4 (.int .i64 wv)).other (show q8 ≠ q3 by omega) 5 (.slice a2 n k2)).other (show q8 ≠ q3 by omega) 6 (.slice d2 m l2))
        replace OX := (Words.Owns.other (Words.Owns.other (Words.Owns.other (Words.Owns.other (Words.Owns.other (Words.Owns.other (Words.Owns.other OX (p := ⟨q3, 0, none⟩) ooOX (.int .i64 who)) (p := ⟨q3, 1, none⟩) ooOX (.int .i64 rv)) (p := ⟨q3, 2, none⟩) ooOX (.int .i64 (goPh n m 4))) (p := ⟨q3, 3, none⟩) ooOX (.int .i64 0)) (p := ⟨q3, 4, none⟩) ooOX (.int .i64 wv)) (p := ⟨q3, 5, none⟩) ooOX (.slice a2 n k2)) (p := ⟨q3, 6, none⟩) ooOX (.slice d2 m l2))
        replace OD := (ownC_other (i := 6) (u := .slice d2 m l2) (ownC_other (i := 5) (u := .slice a2 n k2) (ownC_other (i := 4) (u := .int .i64 wv) (ownC_other (i := 3) (u := .int .i64 0) (ownC_other (i := 2) (u := .int .i64 (goPh n m 4)) (ownC_other (i := 1) (u := .int .i64 rv) (ownC_other (i := 0) (u := .int .i64 who) OD ooD) ooD) ooD) ooD) ooD) ooD) ooD)
        replace bb := (((((((bb.setCell (p := ⟨q3, 0, none⟩) (show g ≤ q3 by omega) (.int .i64 who)).setCell (p := ⟨q3, 1, none⟩) (show g ≤ q3 by omega) (.int .i64 rv)).setCell (p := ⟨q3, 2, none⟩) (show g ≤ q3 by omega) (.int .i64 (goPh n m 4))).setCell (p := ⟨q3, 3, none⟩) (show g ≤ q3 by omega) (.int .i64 0)).setCell (p := ⟨q3, 4, none⟩) (show g ≤ q3 by omega) (.int .i64 wv)).setCell (p := ⟨q3, 5, none⟩) (show g ≤ q3 by omega) (.slice a2 n k2)).setCell (p := ⟨q3, 6, none⟩) (show g ≤ q3 by omega) (.slice d2 m l2))
        have Mb := Mb_; have Cb := Cb_; have R1 := R1_; have R2 := R2_; have Xb := Xb_; have Db := Db_; have Wb := Wb_
        clear Mb_ Cb_ R1_ R2_ Xb_ Db_ Wb_ ooOX ooD
        obtain ⟨V95, hWN⟩ : ∃ W, (((((((V94.setCell ⟨q3, 0, none⟩ (.int .i64 who)).setCell ⟨q3, 1, none⟩ (.int .i64 rv)).setCell ⟨q3, 2, none⟩ (.int .i64 (goPh n m 4))).setCell ⟨q3, 3, none⟩ (.int .i64 0)).setCell ⟨q3, 4, none⟩ (.int .i64 wv)).setCell ⟨q3, 5, none⟩ (.slice a2 n k2)).setCell ⟨q3, 6, none⟩ (.slice d2 m l2)) = W := ⟨_, rfl⟩
        rw [hWN] at Mb Cb R1 R2 Xb Db Wb OX OD bb ⊢
        clear hWN r1 f1
        refine hK.out _ _ ⟨⟨Xb.cell 0, Xb.cell 1⟩, ⟨Db.cell 0, Db.cell 1, Db.cell 2, Db.cell 3, Db.cell 4, Db.cell 5, Db.cell 6⟩, ⟨Cb.cell 0, Cb.cell 1, Cb.cell 2, Cb.cell 3, Cb.cell 4, Cb.cell 5, Cb.cell 6⟩⟩ (fun _ => ?_)
        clear hK K
        try simp only [Act.put, List.setIfInBounds_toArray, List.set_cons_zero, List.set_cons_succ]
        refine wpAnyH_done (by kernel_rfl) ?_ _
        have r1 := fun i => R1.cell i; have r2 := fun i => R2.cell i
        clear hHeld
        go_wp2
        refine bodyPost_ret (v := .tuple #[.agg #[.int .i64 mc, .slice ax nw kx], .agg #[.int .i64 who, .int .i64 rv, .int .i64 (goPh n m 4), .int .i64 0, .int .i64 wv, .slice a2 n k2, .slice d2 m l2]]) (by simp [results, Tryd.results6, go_sem, r1, r2]) rfl ?_
        have OM := OX
        exact told_mk HZ.out HW.out HN.out HM2.out hg OM OD bb
      · have hed : ((k : Int) + 1 == (m : Int)) = false := by simp [he]
        have HZ : Hid (Z = ⟨mc, ws, 3, (k : Int) + 1, wv⟩) := by show _ = _; rw [HY.out, on_mid3 (show (k : Int) + 1 < stepsN 3 n m from by show (k : Int) + 1 < (m : Int); omega), at_mid3 (show (k : Int) + 1 < stepsN 3 n m from by show (k : Int) + 1 < (m : Int); omega)]
        go_wp2_with fail
        try rw [hWT]
        clear hWT x0 x1 x2 d0 d1 dA dB dC cc3 cc5
        have cCM : (WT.cell? ⟨q4, 0, none⟩ = some (.int .i64 mc) ∧ WT.cell? ⟨q4, 1, none⟩ = some (.slice ax nw kx)) ∧ (WT.cell? ⟨q5, 0, none⟩ = some (.int .i64 who) ∧ WT.cell? ⟨q5, 1, none⟩ = some (.int .i64 rv) ∧ WT.cell? ⟨q5, 2, none⟩ = some (.int .i64 3) ∧ WT.cell? ⟨q5, 3, none⟩ = some (.int .i64 ((k : Int) + 1)) ∧ WT.cell? ⟨q5, 4, none⟩ = some (.int .i64 wv) ∧ WT.cell? ⟨q5, 5, none⟩ = some (.slice a2 n k2) ∧ WT.cell? ⟨q5, 6, none⟩ = some (.slice d2 m l2)) ∧ (WT.cell? ⟨q1, 0, none⟩ = some (.int .i64 who) ∧ WT.cell? ⟨q1, 1, none⟩ = some (.int .i64 rv) ∧ WT.cell? ⟨q1, 2, none⟩ = some (.int .i64 3) ∧ WT.cell? ⟨q1, 3, none⟩ = some (.int .i64 (k : Int)) ∧ WT.cell? ⟨q1, 4, none⟩ = some (.int .i64 wv) ∧ WT.cell? ⟨q1, 5, none⟩ = some (.slice ap n kp) ∧ WT.cell? ⟨q1, 6, none⟩ = some (.slice (some ⟨br, or', none⟩) m kr)) := ⟨⟨Xb.cell 0, Xb.cell 1⟩, ⟨Db.cell 0, Db.cell 1, Db.cell 2, Db.cell 3, Db.cell 4, Db.cell 5, Db.cell 6⟩, ⟨Cb.cell 0, Cb.cell 1, Cb.cell 2, Cb.cell 3, Cb.cell 4, Cb.cell 5, Cb.cell 6⟩⟩
        replace Mb := Mb.drew
        replace Cb := Cb.drew
        replace R1 := R1.drew
        replace R2 := R2.drew
        replace Xb := Xb.drew
        replace Db := Db.drew
        replace Wb := Wb.drew
        replace OX := OX.drew
        replace OD : OwnC _ _ _ _ _ _ := OD.on (drew_lowC WT) (Nat.le_refl _); replace bb := bb.drew
        obtain ⟨WD96, hWD⟩ : ∃ W, WT.drew = W := ⟨_, rfl⟩
        refine wp_region_held_drew (S := fun W => (W.cell? ⟨q4, 0, none⟩ = some (.int .i64 mc) ∧ W.cell? ⟨q4, 1, none⟩ = some (.slice ax nw kx)) ∧ (W.cell? ⟨q5, 0, none⟩ = some (.int .i64 who) ∧ W.cell? ⟨q5, 1, none⟩ = some (.int .i64 rv) ∧ W.cell? ⟨q5, 2, none⟩ = some (.int .i64 3) ∧ W.cell? ⟨q5, 3, none⟩ = some (.int .i64 ((k : Int) + 1)) ∧ W.cell? ⟨q5, 4, none⟩ = some (.int .i64 wv) ∧ W.cell? ⟨q5, 5, none⟩ = some (.slice a2 n k2) ∧ W.cell? ⟨q5, 6, none⟩ = some (.slice d2 m l2)) ∧ (W.cell? ⟨q1, 0, none⟩ = some (.int .i64 who) ∧ W.cell? ⟨q1, 1, none⟩ = some (.int .i64 rv) ∧ W.cell? ⟨q1, 2, none⟩ = some (.int .i64 3) ∧ W.cell? ⟨q1, 3, none⟩ = some (.int .i64 (k : Int)) ∧ W.cell? ⟨q1, 4, none⟩ = some (.int .i64 wv) ∧ W.cell? ⟨q1, 5, none⟩ = some (.slice ap n kp) ∧ W.cell? ⟨q1, 6, none⟩ = some (.slice (some ⟨br, or', none⟩) m kr))) (by kernel_rfl) cCM (fun hHeld => ?_)
        rw [hWD] at Mb Cb R1 R2 Xb Db Wb OX OD bb hHeld ⊢
        clear hWD cCM
        refine takeH (i := 0) (some 234) (.agg #[.int .i64 mc, .slice ax nw kx]) rfl rfl (by kernel_rfl) (by kernel_rfl) (by kernel_rfl) (fun _ _ _ h => h) (Or.inl ⟨by rfl, fun w hSw => by (try dsimp only at hSw); go_simp⟩) (by assumption) ?_
        try simp only [Act.put, List.setIfInBounds_toArray, List.set_cons_zero, List.set_cons_succ]
        refine takeH (i := 1) (some 235) (.agg #[.int .i64 who, .int .i64 rv, .int .i64 3, .int .i64 ((k : Int) + 1), .int .i64 wv, .slice a2 n k2, .slice d2 m l2]) rfl rfl (by kernel_rfl) (by kernel_rfl) (by kernel_rfl) (fun _ _ _ h => h) (Or.inl ⟨by rfl, fun w hSw => by (try dsimp only at hSw); go_simp⟩) (by assumption) ?_
        try simp only [Act.put, List.setIfInBounds_toArray, List.set_cons_zero, List.set_cons_succ]
        have r1 := fun i => R1.cell i; have f1 := fun i => R1.froz i
        refine wpAnyH_ready (rs := [2]) (by kernel_rfl) (by simp) ?_
        refine AllReadyH.cons rfl (fun K hK => ?_) AllReadyH.nil
        go_simp
        have ooOX := wordsOff OX R1 (by decide)
        have ooD := twoOff OD R1 (by decide) (by decide)
        have Mb_ := ((Mb.other (show g ≠ q2 by omega) 0 (.int .i64 mc)).other (show g ≠ q2 by omega) 1 (.slice ax nw kx))
        have Cb_ := ((Cb.other (show q1 ≠ q2 by omega) 0 (.int .i64 mc)).other (show q1 ≠ q2 by omega) 1 (.slice ax nw kx))
        have R1_ := ((R1.set 0 (.int .i64 mc)).set 1 (.slice ax nw kx))
        simp only [List.setIfInBounds_toArray, List.set_cons_zero, List.set_cons_succ] at R1_
        have R2_ := ((R2.other (show q3 ≠ q2 by omega) 0 (.int .i64 mc)).other (show q3 ≠ q2 by omega) 1 (.slice ax nw kx))
        have Xb_ := ((Xb.other (show q4 ≠ q2 by omega) 0 (.int .i64 mc)).other (show q4 ≠ q2 by omega) 1 (.slice ax nw kx))
        have Db_ := ((Db.other (show q5 ≠ q2 by omega) 0 (.int .i64 mc)).other (show q5 ≠ q2 by omega) 1 (.slice ax nw kx))
        have Wb_ := ((Wb.other (show q8 ≠ q2 by omega) 0 (.int .i64 mc)).other (show q8 ≠ q2 by omega) 1 (.slice ax nw kx))
        replace OX := (Words.Owns.other (Words.Owns.other OX (p := ⟨q2, 0, none⟩) ooOX (.int .i64 mc)) (p := ⟨q2, 1, none⟩) ooOX (.slice ax nw kx))
        replace OD := (ownC_other (i := 1) (u := .slice ax nw kx) (ownC_other (i := 0) (u := .int .i64 mc) OD ooD) ooD)
        replace bb := ((bb.setCell (p := ⟨q2, 0, none⟩) (show g ≤ q2 by omega) (.int .i64 mc)).setCell (p := ⟨q2, 1, none⟩) (show g ≤ q2 by omega) (.slice ax nw kx))
        have Mb := Mb_; have Cb := Cb_; have R1 := R1_; have R2 := R2_; have Xb := Xb_; have Db := Db_; have Wb := Wb_
        clear Mb_ Cb_ R1_ R2_ Xb_ Db_ Wb_ ooOX ooD
        obtain ⟨V97, hWN⟩ : ∃ W, ((WD96.setCell ⟨q2, 0, none⟩ (.int .i64 mc)).setCell ⟨q2, 1, none⟩ (.slice ax nw kx)) = W := ⟨_, rfl⟩
        rw [hWN] at Mb Cb R1 R2 Xb Db Wb OX OD bb ⊢
        clear hWN r1 f1
        refine hK.out _ _ ⟨⟨Xb.cell 0, Xb.cell 1⟩, ⟨Db.cell 0, Db.cell 1, Db.cell 2, Db.cell 3, Db.cell 4, Db.cell 5, Db.cell 6⟩, ⟨Cb.cell 0, Cb.cell 1, Cb.cell 2, Cb.cell 3, Cb.cell 4, Cb.cell 5, Cb.cell 6⟩⟩ (fun _ => ?_)
        clear hK K
        try simp only [Act.put, List.setIfInBounds_toArray, List.set_cons_zero, List.set_cons_succ]
        have r1 := fun i => R2.cell i; have f1 := fun i => R2.froz i
        refine wpAnyH_ready (rs := [3]) (by kernel_rfl) (by simp) ?_
        refine AllReadyH.cons rfl (fun K hK => ?_) AllReadyH.nil
        go_simp
        have ooOX := wordsOff OX R2 (by decide)
        have ooD := twoOff OD R2 (by decide) (by decide)
        have Mb_ := (((((((Mb.other (show g ≠ q3 by omega) 0 (.int .i64 who)).other (show g ≠ q3 by omega) 1 (.int .i64 rv)).other (show g ≠ q3 by omega) 2 (.int .i64 3)).other (show g ≠ q3 by omega) 3 (.int .i64 ((k : Int) + 1))).other (show g ≠ q3 by omega) 4 (.int .i64 wv)).other (show g ≠ q3 by omega) 5 (.slice a2 n k2)).other (show g ≠ q3 by omega) 6 (.slice d2 m l2))
        have Cb_ := (((((((Cb.other (show q1 ≠ q3 by omega) 0 (.int .i64 who)).other (show q1 ≠ q3 by omega) 1 (.int .i64 rv)).other (show q1 ≠ q3 by omega) 2 (.int .i64 3)).other (show q1 ≠ q3 by omega) 3 (.int .i64 ((k : Int) + 1))).other (show q1 ≠ q3 by omega) 4 (.int .i64 wv)).other (show q1 ≠ q3 by omega) 5 (.slice a2 n k2)).other (show q1 ≠ q3 by omega) 6 (.slice d2 m l2))
        have R1_ := (((((((R1.other (show q2 ≠ q3 by omega) 0 (.int .i64 who)).other (show q2 ≠ q3 by omega) 1 (.int .i64 rv)).other (show q2 ≠ q3 by omega) 2 (.int .i64 3)).other (show q2 ≠ q3 by omega) 3 (.int .i64 ((k : Int) + 1))).other (show q2 ≠ q3 by omega) 4 (.int .i64 wv)).other (show q2 ≠ q3 by omega) 5 (.slice a2 n k2)).other (show q2 ≠ q3 by omega) 6 (.slice d2 m l2))
        have R2_ := (((((((R2.set 0 (.int .i64 who)).set 1 (.int .i64 rv)).set 2 (.int .i64 3)).set 3 (.int .i64 ((k : Int) + 1))).set 4 (.int .i64 wv)).set 5 (.slice a2 n k2)).set 6 (.slice d2 m l2))
        simp only [List.setIfInBounds_toArray, List.set_cons_zero, List.set_cons_succ] at R2_
        have Xb_ := (((((((Xb.other (show q4 ≠ q3 by omega) 0 (.int .i64 who)).other (show q4 ≠ q3 by omega) 1 (.int .i64 rv)).other (show q4 ≠ q3 by omega) 2 (.int .i64 3)).other (show q4 ≠ q3 by omega) 3 (.int .i64 ((k : Int) + 1))).other (show q4 ≠ q3 by omega) 4 (.int .i64 wv)).other (show q4 ≠ q3 by omega) 5 (.slice a2 n k2)).other (show q4 ≠ q3 by omega) 6 (.slice d2 m l2))
        have Db_ := (((((((Db.other (show q5 ≠ q3 by omega) 0 (.int .i64 who)).other (show q5 ≠ q3 by omega) 1 (.int .i64 rv)).other (show q5 ≠ q3 by omega) 2 (.int .i64 3)).other (show q5 ≠ q3 by omega) 3 (.int .i64 ((k : Int) + 1))).other (show q5 ≠ q3 by omega) 4 (.int .i64 wv)).other (show q5 ≠ q3 by omega) 5 (.slice a2 n k2)).other (show q5 ≠ q3 by omega) 6 (.slice d2 m l2))
        have Wb_ := (((((((Wb.other (show q8 ≠ q3 by omega) 0 (.int .i64 who)).other (show q8 ≠ q3 by omega) 1 (.int .i64 rv)).other (show q8 ≠ q3 by omega) 2 (.int .i64 3)).other (show q8 ≠ q3 by omega) 3 (.int .i64 ((k : Int) + 1))).other (show q8 ≠ q3 by omega) 4 (.int .i64 wv)).other (show q8 ≠ q3 by omega) 5 (.slice a2 n k2)).other (show q8 ≠ q3 by omega) 6 (.slice d2 m l2))
        replace OX := (Words.Owns.other (Words.Owns.other (Words.Owns.other (Words.Owns.other (Words.Owns.other (Words.Owns.other (Words.Owns.other OX (p := ⟨q3, 0, none⟩) ooOX (.int .i64 who)) (p := ⟨q3, 1, none⟩) ooOX (.int .i64 rv)) (p := ⟨q3, 2, none⟩) ooOX (.int .i64 3)) (p := ⟨q3, 3, none⟩) ooOX (.int .i64 ((k : Int) + 1))) (p := ⟨q3, 4, none⟩) ooOX (.int .i64 wv)) (p := ⟨q3, 5, none⟩) ooOX (.slice a2 n k2)) (p := ⟨q3, 6, none⟩) ooOX (.slice d2 m l2))
        replace OD := (ownC_other (i := 6) (u := .slice d2 m l2) (ownC_other (i := 5) (u := .slice a2 n k2) (ownC_other (i := 4) (u := .int .i64 wv) (ownC_other (i := 3) (u := .int .i64 ((k : Int) + 1)) (ownC_other (i := 2) (u := .int .i64 3) (ownC_other (i := 1) (u := .int .i64 rv) (ownC_other (i := 0) (u := .int .i64 who) OD ooD) ooD) ooD) ooD) ooD) ooD) ooD)
        replace bb := (((((((bb.setCell (p := ⟨q3, 0, none⟩) (show g ≤ q3 by omega) (.int .i64 who)).setCell (p := ⟨q3, 1, none⟩) (show g ≤ q3 by omega) (.int .i64 rv)).setCell (p := ⟨q3, 2, none⟩) (show g ≤ q3 by omega) (.int .i64 3)).setCell (p := ⟨q3, 3, none⟩) (show g ≤ q3 by omega) (.int .i64 ((k : Int) + 1))).setCell (p := ⟨q3, 4, none⟩) (show g ≤ q3 by omega) (.int .i64 wv)).setCell (p := ⟨q3, 5, none⟩) (show g ≤ q3 by omega) (.slice a2 n k2)).setCell (p := ⟨q3, 6, none⟩) (show g ≤ q3 by omega) (.slice d2 m l2))
        have Mb := Mb_; have Cb := Cb_; have R1 := R1_; have R2 := R2_; have Xb := Xb_; have Db := Db_; have Wb := Wb_
        clear Mb_ Cb_ R1_ R2_ Xb_ Db_ Wb_ ooOX ooD
        obtain ⟨V98, hWN⟩ : ∃ W, (((((((V97.setCell ⟨q3, 0, none⟩ (.int .i64 who)).setCell ⟨q3, 1, none⟩ (.int .i64 rv)).setCell ⟨q3, 2, none⟩ (.int .i64 3)).setCell ⟨q3, 3, none⟩ (.int .i64 ((k : Int) + 1))).setCell ⟨q3, 4, none⟩ (.int .i64 wv)).setCell ⟨q3, 5, none⟩ (.slice a2 n k2)).setCell ⟨q3, 6, none⟩ (.slice d2 m l2)) = W := ⟨_, rfl⟩
        rw [hWN] at Mb Cb R1 R2 Xb Db Wb OX OD bb ⊢
        clear hWN r1 f1
        refine hK.out _ _ ⟨⟨Xb.cell 0, Xb.cell 1⟩, ⟨Db.cell 0, Db.cell 1, Db.cell 2, Db.cell 3, Db.cell 4, Db.cell 5, Db.cell 6⟩, ⟨Cb.cell 0, Cb.cell 1, Cb.cell 2, Cb.cell 3, Cb.cell 4, Cb.cell 5, Cb.cell 6⟩⟩ (fun _ => ?_)
        clear hK K
        try simp only [Act.put, List.setIfInBounds_toArray, List.set_cons_zero, List.set_cons_succ]
        refine wpAnyH_done (by kernel_rfl) ?_ _
        have r1 := fun i => R1.cell i; have r2 := fun i => R2.cell i
        clear hHeld
        go_wp2
        refine bodyPost_ret (v := .tuple #[.agg #[.int .i64 mc, .slice ax nw kx], .agg #[.int .i64 who, .int .i64 rv, .int .i64 3, .int .i64 ((k : Int) + 1), .int .i64 wv, .slice a2 n k2, .slice d2 m l2]]) (by simp [results, Tryd.results6, go_sem, r1, r2]) rfl ?_
        have OM := OX
        exact told_mk HZ.out HW.out HN.out HM2.out hg OM OD bb
end Commits
end Go.Proofs.YtppikpdphcfomaaDoor
