/- Several texts of one proof, in build order: CommitSpecStep1. -/
import Derived.Test.YtppikpdphcfomaaDoorCB13
import Derived.Test.YtppikpdphcfomaaDoorCB16
import Derived.Test.YtppikpdphcfomaaDoorCB20
import Derived.Test.YtppikpdphcfomaaDoorCB23
import Derived.Test.YtppikpdphcfomaaDoorCB24
import Derived.Test.YtppikpdphcfomaaDoorCB25
/- CommitStep, as specified: phase 1. -/
set_option linter.unusedVariables false
set_option linter.unusedSimpArgs false
namespace Go.Proofs.YtppikpdphcfomaaDoor
open Go.RowKit
namespace Commits
open Bas Flat Logs
open Words (W3 lockMay lockTo storeMay storeTo unlockMay unlockTo tickC tickR Err wAt memOk)
theorem on_mid1 {ph at' : Int} {n m : Nat} {p : Int} (h : at' + 1 < stepsN ph n m) : onPh ph at' n m p = ph := if_pos h
theorem at_mid1 {ph at' : Int} {n m : Nat} (h : at' + 1 < stepsN ph n m) : onAt ph at' n m = at' + 1 := if_pos h

set_option maxRecDepth 100000 in
set_option maxHeartbeats 12800000 in
theorem specStep1 (who rv wv : Int) (k : Nat) (ps : List R2) (rs : List Int) (mc : Int) (ws : List W3) (vM vP vR : Value) (B : Nat) (w : World)
    (hM : Words.Sees B w vM ws) (hC : SeeC B w vP vR ps rs) (hB : B ≤ w.heap.size) (hl : ws.length ≤ 1048576) (hMO : memOk mc ws = true) (hCO : commitOk ⟨who, rv, 1, (k : Int), wv, ps, rs⟩ = true) :
    Calls Tryd.prog 6 #[.agg #[.int .i64 mc, vM], .agg #[.int .i64 who, .int .i64 rv, .int .i64 1, .int .i64 (k : Int), .int .i64 wv, vP, vR]] w fun e w' => StepTold who rv ps rs (stepY mc ws ⟨who, rv, 1, (k : Int), wv, ps, rs⟩) w e w' := by
  obtain ⟨av, kv, rfl⟩ := hM.form
  obtain ⟨ap, kp, rfl⟩ := hC.p.form
  obtain ⟨ar, kr, rfl⟩ := hC.r.form
  obtain ⟨hb1, hb2, hb3, hb4, -⟩ := bounds_of hCO
  have hrow := step_row hCO
  have hrd := step_read hCO
  have hl8 := (Words.memOk_out hMO).1
  have hmc := (Words.memOk_out hMO).2.1
  dsimp only at hb1 hb2 hb3 hb4 hrow hrd
  obtain ⟨g, hg⟩ : ∃ g, w.heap.size = g := ⟨_, rfl⟩
  have hcm := fun v (W : World) (h : Words.Sees B W v ws) (hB : B ≤ W.heap.size) => Words.specCopy mc v ws B W h hB hl
  have hcc := fun vP vR (W : World) (h : SeeC B W vP vR ps rs) (hB : B ≤ W.heap.size) => copyS who rv 1 (k : Int) wv ps rs vP vR B W h hB (by omega) (by omega)
  have hmo := fun v (W : World) (h : Words.Sees B W v ws) (hB : B ≤ W.heap.size) => Words.specOk mc v ws B W h hB
  have hco := fun vP vR (W : World) (h : SeeC B W vP vR ps rs) (hB : B ≤ W.heap.size) => specOkE _ who rv 1 (k : Int) wv ps rs rfl vP vR B W h hB
  rw [hMO] at hmo
  rw [hCO] at hco
  obtain ⟨Z, hZ⟩ : ∃ Z, stepY mc ws ⟨who, rv, 1, (k : Int), wv, ps, rs⟩ = Z := ⟨_, rfl⟩
  rw [hZ]
  obtain ⟨n, hn⟩ : ∃ n, ps.length = n := ⟨_, rfl⟩
  obtain ⟨m, hm⟩ : ∃ n, rs.length = n := ⟨_, rfl⟩
  obtain ⟨nw, hnw⟩ : ∃ n, ws.length = n := ⟨_, rfl⟩
  have HN := (show Hid (ps.length = n) from hn); have HM2 := (show Hid (rs.length = m) from hm); have HW := (show Hid (ws.length = nw) from hnw)
  rw [Int.toNat_natCast] at hrow
  obtain ⟨hk, cn, hcn, hcl⟩ := hrow (by decide)
  obtain ⟨c, hc⟩ : ∃ c, (ps.getD k z2).c = c := ⟨_, rfl⟩
  obtain ⟨y, hy0⟩ : ∃ c, (ps.getD k z2).v = c := ⟨_, rfl⟩
  have hrw := fun W (b : Below w.heap.size w W) => row_at (hC.p.on b hB) rfl k hk
  rw [hc, hy0] at hrw
  clear hcn hcl
  have hlk := fun v W (h : Words.Sees B W v ws) (hB : B ≤ W.heap.size) => Words.specLock mc v ws c who B W h hB hl
  obtain ⟨lm, hlm⟩ : ∃ b, lockMay mc ws c who = b := ⟨_, rfl⟩
  obtain ⟨zs, hzs⟩ : ∃ l, lockTo mc ws c who = l := ⟨_, rfl⟩
  rw [hlm, hzs] at hlk
  have HY : Hid (Z = ⟨mc, zs, if lm = true then onPh 1 k n m 2 else phB k, if lm = true then onAt 1 k n m else atB k, wv⟩) := by
    have hy : stepY mc ws ⟨who, rv, 1, (k : Int), wv, ps, rs⟩ = ⟨mc, lockTo mc ws (ps.getD k z2).c who, if lockMay mc ws (ps.getD k z2).c who = true then onPh 1 k ps.length rs.length 2 else phB k, if lockMay mc ws (ps.getD k z2).c who = true then onAt 1 k ps.length rs.length else atB k, wv⟩ := rfl
    rw [hZ, hc, hlm, hzs, hn, hm] at hy
    exact hy
  clear hZ
  have HLM := (show Hid _ from hlm); have HZS := (show Hid _ from hzs)
  clear hlm hzs hrow hrd
  rw [hn] at hk
  rw [hn] at hC hcc hb1 ⊢
  rw [hm] at hC hcc hb2 ⊢
  rw [hnw] at hM hl hl8 ⊢
  have HL8 := (show Hid (nw = 8) from hl8)
  clear hl8 hn hm hnw hMO hCO
  have Mb := Blk.new w #[.int .i64 mc, .slice av nw kv] 33
  have b0 := alloc_below w (.cells #[.int .i64 mc, .slice av nw kv] 33)
  obtain ⟨w0, hw0⟩ : ∃ w0, w.alloc (.cells #[.int .i64 mc, .slice av nw kv] 33) = w0 := ⟨_, rfl⟩
  have hz0 : w0.heap.size = g + 1 := by rw [← hw0, ← hg]; simp
  rw [hw0] at Mb b0
  rw [hg] at Mb b0 hB
  obtain ⟨q1, hq1⟩ : ∃ q, w0.heap.size = q := ⟨_, rfl⟩
  have l01 : g < q1 := by omega
  clear hz0
  have Cb := Blk.new w0 #[.int .i64 who, .int .i64 rv, .int .i64 1, .int .i64 (k : Int), .int .i64 wv, .slice ap n kp, .slice ar m kr] 36
  have b1 := alloc_below w0 (.cells #[.int .i64 who, .int .i64 rv, .int .i64 1, .int .i64 (k : Int), .int .i64 wv, .slice ap n kp, .slice ar m kr] 36)
  obtain ⟨w1, hw1⟩ : ∃ w1, w0.alloc (.cells #[.int .i64 who, .int .i64 rv, .int .i64 1, .int .i64 (k : Int), .int .i64 wv, .slice ap n kp, .slice ar m kr] 36) = w1 := ⟨_, rfl⟩
  have hz1 : w1.heap.size = q1 + 1 := by rw [← hw1, ← hq1]; simp
  rw [hw1] at Cb b1
  rw [hq1] at Cb b1
  obtain ⟨q2, hq2⟩ : ∃ q, w1.heap.size = q := ⟨_, rfl⟩
  have l12 : q1 < q2 := by omega
  clear hz1
  have R1 := Blk.new w1 #[.int .i64 0, .slice none 0 0] 33
  have b2 := alloc_below w1 (.cells #[.int .i64 0, .slice none 0 0] 33)
  obtain ⟨w2, hw2⟩ : ∃ w2, w1.alloc (.cells #[.int .i64 0, .slice none 0 0] 33) = w2 := ⟨_, rfl⟩
  have hz2 : w2.heap.size = q2 + 1 := by rw [← hw2, ← hq2]; simp
  rw [hw2] at R1 b2
  rw [hq2] at R1 b2
  obtain ⟨q3, hq3⟩ : ∃ q, w2.heap.size = q := ⟨_, rfl⟩
  have l23 : q2 < q3 := by omega
  clear hz2
  have R2 := Blk.new w2 #[.int .i64 0, .int .i64 0, .int .i64 0, .int .i64 0, .int .i64 0, .slice none 0 0, .slice none 0 0] 36
  have b3 := alloc_below w2 (.cells #[.int .i64 0, .int .i64 0, .int .i64 0, .int .i64 0, .int .i64 0, .slice none 0 0, .slice none 0 0] 36)
  obtain ⟨w3, hw3⟩ : ∃ w3, w2.alloc (.cells #[.int .i64 0, .int .i64 0, .int .i64 0, .int .i64 0, .int .i64 0, .slice none 0 0, .slice none 0 0] 36) = w3 := ⟨_, rfl⟩
  rw [hw3] at R2 b3
  rw [hq3] at R2 b3
  replace Mb := ((Mb.on b1 (by omega)).on b2 (by omega)).on b3 (by omega)
  replace Cb := (Cb.on b2 (by omega)).on b3 (by omega)
  replace R1 := R1.on b3 (by omega)
  have bb : Below g w w3 := ((b0.trans (b1.mono (by omega))).trans (b2.mono (by omega))).trans (b3.mono (by omega))
  have l3 : q3 < w3.heap.size := R2.lt
  replace hM := hM.on bb hB; replace hC := hC.on bb hB
  clear b0 b1 b2 b3
  obtain ⟨b, off, rfl, hbB, e0, e1⟩ := hrw w3 (hg ▸ bb)
  have hkI : (k : Int) < n := by omega
  have hk0 : (0 : Int) ≤ k := by omega
  clear hrw
  have m0 := Mb.cell 0; have m1 := Mb.cell 1
  go_enter Tryd.func6, Tryd.ntmps6
  go_wp2_with fail
  clear hw0 hw1 hw2 hw3 m0 m1
  refine (hcm _ w3 hM (by have := bb.size; omega)).mono ?_
  rintro e w4 ⟨vx, rfl, OX, b4⟩
  obtain ⟨ax, kx, rfl⟩ := OX.form
  rw [HW.out] at OX ⊢
  replace OX := OX.mono (show g ≤ w3.heap.size by have := bb.size; omega)
  replace Mb := Mb.on b4 Mb.lt; replace Cb := Cb.on b4 Cb.lt; replace R1 := R1.on b4 R1.lt; replace R2 := R2.on b4 R2.lt
  replace hM := hM.on b4 (by have := bb.size; omega); replace hC := hC.on b4 (by have := bb.size; omega)
  replace e0 := (b4.cell (p := ⟨b, off + k * 2, none⟩) (show b < _ by have := bb.size; omega)).trans e0; replace e1 := (b4.cell (p := ⟨b, off + k * 2 + 1, none⟩) (show b < _ by have := bb.size; omega)).trans e1
  replace bb := bb.trans (b4.mono (by have := bb.size; omega))
  have l4 : q3 < w4.heap.size := R2.lt
  clear b4 l3 hcm
  have Xb := Blk.new w4 #[.int .i64 mc, .slice ax nw kx] 33
  have b5 := alloc_below w4 (.cells #[.int .i64 mc, .slice ax nw kx] 33)
  obtain ⟨q4, hq4⟩ : ∃ q, w4.heap.size = q := ⟨_, rfl⟩
  have l34 : q3 < q4 := by omega
  obtain ⟨w5, hw5⟩ : ∃ W, w4.alloc (.cells #[.int .i64 mc, .slice ax nw kx] 33) = W := ⟨_, rfl⟩
  rw [hw5] at Xb b5
  rw [hq4] at Xb
  replace Mb := Mb.on b5 Mb.lt; replace Cb := Cb.on b5 Cb.lt; replace R1 := R1.on b5 R1.lt; replace R2 := R2.on b5 R2.lt; replace OX := OX.on b5 (Nat.le_refl _)
  replace hM := hM.on b5 (by have := bb.size; omega); replace hC := hC.on b5 (by have := bb.size; omega)
  replace e0 := (b5.cell (p := ⟨b, off + k * 2, none⟩) (show b < _ by have := bb.size; omega)).trans e0; replace e1 := (b5.cell (p := ⟨b, off + k * 2 + 1, none⟩) (show b < _ by have := bb.size; omega)).trans e1
  replace bb := bb.trans (b5.mono (by have := bb.size; omega))
  clear b5
  have c0 := Cb.cell 0; have c1 := Cb.cell 1; have c2 := Cb.cell 2; have c3 := Cb.cell 3; have c4 := Cb.cell 4; have c5 := Cb.cell 5; have c6 := Cb.cell 6
  have xf := fun i => Xb.cell i; have xg := fun i => Xb.froz i
  go_wp2_with fail
  try rw [hw5]
  clear c0 c1 c2 c3 c4 c5 c6 xf xg
  refine (hcc _ _ w5 hC (by have := bb.size; omega)).mono ?_
  rintro e w6 ⟨a2, k2, d2, l2, rfl, OD, b6⟩
  replace OD := OD.mono (show g ≤ w5.heap.size by have := bb.size; omega)
  replace Mb := Mb.on b6 Mb.lt; replace Cb := Cb.on b6 Cb.lt; replace R1 := R1.on b6 R1.lt; replace R2 := R2.on b6 R2.lt; replace Xb := Xb.on b6 Xb.lt; replace OX := OX.on b6 (Nat.le_refl _)
  replace hM := hM.on b6 (by have := bb.size; omega); replace hC := hC.on b6 (by have := bb.size; omega)
  replace e0 := (b6.cell (p := ⟨b, off + k * 2, none⟩) (show b < _ by have := bb.size; omega)).trans e0; replace e1 := (b6.cell (p := ⟨b, off + k * 2 + 1, none⟩) (show b < _ by have := bb.size; omega)).trans e1
  replace bb := bb.trans (b6.mono (by have := bb.size; omega))
  have l6 : q4 < w6.heap.size := Xb.lt
  clear b6 hw5 hq4 hcc l4
  have Db := Blk.new w6 #[.int .i64 who, .int .i64 rv, .int .i64 1, .int .i64 (k : Int), .int .i64 wv, .slice a2 n k2, .slice d2 m l2] 36
  have b7 := alloc_below w6 (.cells #[.int .i64 who, .int .i64 rv, .int .i64 1, .int .i64 (k : Int), .int .i64 wv, .slice a2 n k2, .slice d2 m l2] 36)
  obtain ⟨q5, hq5⟩ : ∃ q, w6.heap.size = q := ⟨_, rfl⟩
  have l45 : q4 < q5 := by omega
  obtain ⟨w7, hw7⟩ : ∃ W, w6.alloc (.cells #[.int .i64 who, .int .i64 rv, .int .i64 1, .int .i64 (k : Int), .int .i64 wv, .slice a2 n k2, .slice d2 m l2] 36) = W := ⟨_, rfl⟩
  rw [hw7] at Db b7
  rw [hq5] at Db
  replace Mb := Mb.on b7 Mb.lt; replace Cb := Cb.on b7 Cb.lt; replace R1 := R1.on b7 R1.lt; replace R2 := R2.on b7 R2.lt; replace Xb := Xb.on b7 Xb.lt; replace OX := OX.on b7 (Nat.le_refl _); replace OD := OD.on b7 (Nat.le_refl _)
  replace hM := hM.on b7 (by have := bb.size; omega); replace hC := hC.on b7 (by have := bb.size; omega)
  replace e0 := (b7.cell (p := ⟨b, off + k * 2, none⟩) (show b < _ by have := bb.size; omega)).trans e0; replace e1 := (b7.cell (p := ⟨b, off + k * 2 + 1, none⟩) (show b < _ by have := bb.size; omega)).trans e1
  replace bb := bb.trans (b7.mono (by have := bb.size; omega))
  clear b7
  have m0 := Mb.cell 0; have m1 := Mb.cell 1
  have df := fun i => Db.cell i; have dg := fun i => Db.froz i
  go_wp2_with fail
  try rw [hw7]
  clear m0 m1 df dg hw7 hq5
  refine (hmo _ w7 hM (by have := bb.size; omega)).mono ?_
  rintro e w8 ⟨rfl, b8⟩
  replace Mb := Mb.on b8 Mb.lt
  replace Cb := Cb.on b8 Cb.lt
  replace R1 := R1.on b8 R1.lt
  replace R2 := R2.on b8 R2.lt
  replace Xb := Xb.on b8 Xb.lt
  replace Db := Db.on b8 Db.lt
  replace OX := OX.on b8 (Nat.le_refl _)
  replace OD := OD.on b8 (Nat.le_refl _)
  replace hM := hM.on b8 (by have := bb.size; omega); replace hC := hC.on b8 (by have := bb.size; omega)
  replace e0 := (b8.cell (p := ⟨b, off + k * 2, none⟩) (show b < _ by have := bb.size; omega)).trans e0; replace e1 := (b8.cell (p := ⟨b, off + k * 2 + 1, none⟩) (show b < _ by have := bb.size; omega)).trans e1
  replace bb := bb.trans (b8.mono (by have := bb.size; omega))
  clear b8
  have c0 := Cb.cell 0; have c1 := Cb.cell 1; have c2 := Cb.cell 2; have c3 := Cb.cell 3; have c4 := Cb.cell 4; have c5 := Cb.cell 5; have c6 := Cb.cell 6
  go_wp2_with fail
  clear c0 c1 c2 c3 c4 c5 c6
  refine (hco _ _ w8 hC (by have := bb.size; omega)).mono ?_
  rintro e w9 ⟨rfl, b9⟩
  replace Mb := Mb.on b9 Mb.lt
  replace Cb := Cb.on b9 Cb.lt
  replace R1 := R1.on b9 R1.lt
  replace R2 := R2.on b9 R2.lt
  replace Xb := Xb.on b9 Xb.lt
  replace Db := Db.on b9 Db.lt
  replace OX := OX.on b9 (Nat.le_refl _)
  replace OD := OD.on b9 (Nat.le_refl _)
  replace hM := hM.on b9 (by have := bb.size; omega); replace hC := hC.on b9 (by have := bb.size; omega)
  replace e0 := (b9.cell (p := ⟨b, off + k * 2, none⟩) (show b < _ by have := bb.size; omega)).trans e0; replace e1 := (b9.cell (p := ⟨b, off + k * 2 + 1, none⟩) (show b < _ by have := bb.size; omega)).trans e1
  replace bb := bb.trans (b9.mono (by have := bb.size; omega))
  clear b9 hmo hco
  have c2 := Cb.cell 2
  go_wp2_with fail
  clear c2
  have cCM : (w9.cell? ⟨q1, 0, none⟩ = some (.int .i64 who) ∧ w9.cell? ⟨q1, 1, none⟩ = some (.int .i64 rv) ∧ w9.cell? ⟨q1, 2, none⟩ = some (.int .i64 1) ∧ w9.cell? ⟨q1, 3, none⟩ = some (.int .i64 (k : Int)) ∧ w9.cell? ⟨q1, 4, none⟩ = some (.int .i64 wv) ∧ w9.cell? ⟨q1, 5, none⟩ = some (.slice (some ⟨b, off, none⟩) n kp) ∧ w9.cell? ⟨q1, 6, none⟩ = some (.slice ar m kr)) ∧ (w9.cell? ⟨g, 0, none⟩ = some (.int .i64 mc) ∧ w9.cell? ⟨g, 1, none⟩ = some (.slice av nw kv)) ∧ w9.cell? ⟨b, off + k * 2, none⟩ = some (.int .i64 c) ∧ w9.cell? ⟨b, off + k * 2 + 1, none⟩ = some (.int .i64 y) := ⟨⟨Cb.cell 0, Cb.cell 1, Cb.cell 2, Cb.cell 3, Cb.cell 4, Cb.cell 5, Cb.cell 6⟩, ⟨Mb.cell 0, Mb.cell 1⟩, e0, e1⟩
  replace Mb := Mb.drew
  replace Cb := Cb.drew
  replace R1 := R1.drew
  replace R2 := R2.drew
  replace Xb := Xb.drew
  replace Db := Db.drew
  replace OX := OX.drew
  replace hM := hM.on (drew_lowC w9) (show B ≤ w9.heap.size by have := bb.size; omega); replace hC := hC.on (drew_lowC w9) (show B ≤ w9.heap.size by have := bb.size; omega)
  replace OD : OwnC _ _ _ _ _ _ := OD.on (drew_lowC w9) (Nat.le_refl _); replace bb := bb.drew
  replace e0 : w9.drew.cell? ⟨b, off + k * 2, none⟩ = _ := e0
  replace e1 : w9.drew.cell? ⟨b, off + k * 2 + 1, none⟩ = _ := e1
  obtain ⟨WD7, hWD⟩ : ∃ W, w9.drew = W := ⟨_, rfl⟩
  refine wp_region_held_drew (S := fun W => (W.cell? ⟨q1, 0, none⟩ = some (.int .i64 who) ∧ W.cell? ⟨q1, 1, none⟩ = some (.int .i64 rv) ∧ W.cell? ⟨q1, 2, none⟩ = some (.int .i64 1) ∧ W.cell? ⟨q1, 3, none⟩ = some (.int .i64 (k : Int)) ∧ W.cell? ⟨q1, 4, none⟩ = some (.int .i64 wv) ∧ W.cell? ⟨q1, 5, none⟩ = some (.slice (some ⟨b, off, none⟩) n kp) ∧ W.cell? ⟨q1, 6, none⟩ = some (.slice ar m kr)) ∧ (W.cell? ⟨g, 0, none⟩ = some (.int .i64 mc) ∧ W.cell? ⟨g, 1, none⟩ = some (.slice av nw kv)) ∧ W.cell? ⟨b, off + k * 2, none⟩ = some (.int .i64 c) ∧ W.cell? ⟨b, off + k * 2 + 1, none⟩ = some (.int .i64 y)) (by kernel_rfl) cCM (fun hHeld => ?_)
  rw [hWD] at Mb Cb R1 R2 Xb Db OX OD bb hM hC e0 e1 hHeld ⊢
  clear hWD cCM
  refine takeH (i := 0) (some 39) (.agg #[.int .i64 mc, .slice av nw kv]) rfl rfl (by kernel_rfl) (by kernel_rfl) (by kernel_rfl) (fun _ _ _ h => h) (Or.inl ⟨by rfl, fun w hSw => by (try dsimp only at hSw); go_simp⟩) (by assumption) ?_
  try simp only [Act.put, List.setIfInBounds_toArray, List.set_cons_zero, List.set_cons_succ]
  refine takeH (i := 1) (some 40) (.pointer (some ⟨q1, 5, none⟩)) rfl rfl (by kernel_rfl) (by kernel_rfl) (by kernel_rfl) (fun _ _ _ h => h) (Or.inl ⟨by rfl, fun w hSw => by (try dsimp only at hSw); go_simp⟩) (by assumption) ?_
  try simp only [Act.put, List.setIfInBounds_toArray, List.set_cons_zero, List.set_cons_succ]
  refine takeH (i := 2) (some 41) (.slice (some ⟨b, off, none⟩) n kp) rfl rfl (by kernel_rfl) (by kernel_rfl) (by kernel_rfl) (fun _ _ _ h => h) (Or.inl ⟨by rfl, fun w hSw => by (try dsimp only at hSw); go_simp⟩) (by assumption) ?_
  try simp only [Act.put, List.setIfInBounds_toArray, List.set_cons_zero, List.set_cons_succ]
  refine takeH (i := 3) (some 42) (.pointer (some ⟨q1, 3, none⟩)) rfl rfl (by kernel_rfl) (by kernel_rfl) (by kernel_rfl) (fun _ _ _ h => h) (Or.inl ⟨by rfl, fun w hSw => by (try dsimp only at hSw); go_simp⟩) (by assumption) ?_
  try simp only [Act.put, List.setIfInBounds_toArray, List.set_cons_zero, List.set_cons_succ]
  refine takeH (i := 4) (some 43) (.int .i64 k) rfl rfl (by kernel_rfl) (by kernel_rfl) (by kernel_rfl) (fun _ _ _ h => h) (Or.inl ⟨by rfl, fun w hSw => by (try dsimp only at hSw); go_simp⟩) (by assumption) ?_
  try simp only [Act.put, List.setIfInBounds_toArray, List.set_cons_zero, List.set_cons_succ]
  refine takeH (i := 5) (some 44) (.pointer (some ⟨b, off + k * 2, none⟩)) rfl rfl (by kernel_rfl) (by kernel_rfl) (by kernel_rfl) (fun _ _ _ h => h) (Or.inl ⟨by rfl, fun w hSw => by (try dsimp only at hSw); go_simp⟩) (by assumption) ?_
  try simp only [Act.put, List.setIfInBounds_toArray, List.set_cons_zero, List.set_cons_succ]
  refine takeH (i := 6) (some 45) (.pointer (some ⟨b, off + k * 2, none⟩)) rfl rfl (by kernel_rfl) (by kernel_rfl) (by kernel_rfl) (fun _ _ _ h => h) (Or.inl ⟨by rfl, fun w hSw => by (try dsimp only at hSw); go_simp⟩) (by assumption) ?_
  try simp only [Act.put, List.setIfInBounds_toArray, List.set_cons_zero, List.set_cons_succ]
  refine takeH (i := 7) (some 46) (.int .i64 c) rfl rfl (by kernel_rfl) (by kernel_rfl) (by kernel_rfl) (fun _ _ _ h => h) (Or.inl ⟨by rfl, fun w hSw => by (try dsimp only at hSw); go_simp⟩) (by assumption) ?_
  try simp only [Act.put, List.setIfInBounds_toArray, List.set_cons_zero, List.set_cons_succ]
  refine takeH (i := 8) (some 47) (.pointer (some ⟨q1, 0, none⟩)) rfl rfl (by kernel_rfl) (by kernel_rfl) (by kernel_rfl) (fun _ _ _ h => h) (Or.inl ⟨by rfl, fun w hSw => by (try dsimp only at hSw); go_simp⟩) (by assumption) ?_
  try simp only [Act.put, List.setIfInBounds_toArray, List.set_cons_zero, List.set_cons_succ]
  refine takeH (i := 9) (some 48) (.int .i64 who) rfl rfl (by kernel_rfl) (by kernel_rfl) (by kernel_rfl) (fun _ _ _ h => h) (Or.inl ⟨by rfl, fun w hSw => by (try dsimp only at hSw); go_simp⟩) (by assumption) ?_
  try simp only [Act.put, List.setIfInBounds_toArray, List.set_cons_zero, List.set_cons_succ]
  refine wpAnyH_ready (rs := [10, 14]) (by kernel_rfl) (by simp) ?_
  refine AllReadyH.cons rfl (fun K hK => ?_) (AllReadyH.cons rfl (fun K hK => ?_) AllReadyH.nil)
  · go_simp
    refine (hlk _ WD7 hM (by have := bb.size; omega)).mono ?_
    rintro e V1 ⟨v8, rfl, OM8, b8⟩
    obtain ⟨a8, k8, rfl⟩ := OM8.form
    obtain ⟨n8, hn8⟩ : ∃ n, zs.length = n := ⟨_, rfl⟩
    rw [hn8] at OM8 ⊢
    have HN8 := (show Hid (zs.length = n8) from hn8)
    clear hn8
    replace OM8 := OM8.mono (show g ≤ WD7.heap.size by have := bb.size; omega)
    replace e0 := (b8.cell (p := ⟨b, off + k * 2, none⟩) (show b < _ by have := bb.size; omega)).trans e0
    replace e1 := (b8.cell (p := ⟨b, off + k * 2 + 1, none⟩) (show b < _ by have := bb.size; omega)).trans e1
    replace Mb := Mb.on b8 Mb.lt
    replace Cb := Cb.on b8 Cb.lt
    replace R1 := R1.on b8 R1.lt
    replace R2 := R2.on b8 R2.lt
    replace Xb := Xb.on b8 Xb.lt
    replace Db := Db.on b8 Db.lt
    replace OX := OX.on b8 (Nat.le_refl _)
    replace OD := OD.on b8 (Nat.le_refl _)
    replace hM := hM.on b8 (by have := bb.size; omega); replace hC := hC.on b8 (by have := bb.size; omega)
    replace bb := bb.trans (b8.mono (by have := bb.size; omega))
    clear b8
    go_simp
    refine hK.out _ _ ⟨⟨Cb.cell 0, Cb.cell 1, Cb.cell 2, Cb.cell 3, Cb.cell 4, Cb.cell 5, Cb.cell 6⟩, ⟨Mb.cell 0, Mb.cell 1⟩, e0, e1⟩ (fun _ => ?_)
    clear hK K
    try simp only [Act.put, List.setIfInBounds_toArray, List.set_cons_zero, List.set_cons_succ]
    refine takeH (i := 11) (some 38) (.tuple #[.agg #[.int .i64 mc, .slice a8 n8 k8], .bool lm]) rfl rfl (by kernel_rfl) (by kernel_rfl) (by kernel_rfl) (fun _ _ _ h => h) (Or.inl ⟨by rfl, fun w hSw => by (try dsimp only at hSw); go_simp⟩) (by assumption) ?_
    try simp only [Act.put, List.setIfInBounds_toArray, List.set_cons_zero, List.set_cons_succ]
    refine takeH (i := 12) (some 50) (.agg #[.int .i64 mc, .slice a8 n8 k8]) rfl rfl (by kernel_rfl) (by kernel_rfl) (by kernel_rfl) (fun _ _ _ h => h) (Or.inl ⟨by rfl, fun w hSw => by (try dsimp only at hSw); go_simp⟩) (by assumption) ?_
    try simp only [Act.put, List.setIfInBounds_toArray, List.set_cons_zero, List.set_cons_succ]
    refine takeH (i := 13) (some 51) (.bool lm) rfl rfl (by kernel_rfl) (by kernel_rfl) (by kernel_rfl) (fun _ _ _ h => h) (Or.inl ⟨by rfl, fun w hSw => by (try dsimp only at hSw); go_simp⟩) (by assumption) ?_
    try simp only [Act.put, List.setIfInBounds_toArray, List.set_cons_zero, List.set_cons_succ]
    refine wpAnyH_ready (rs := [14]) (by kernel_rfl) (by simp) ?_
    refine AllReadyH.cons rfl (fun K hK => ?_) AllReadyH.nil
    go_simp
    have bA := alloc_below V1 (.cells #[.int .i64 0, .slice none 0 0] 33)
    have Yb := Blk.new V1 #[.int .i64 0, .slice none 0 0] 33
    have hl5 : q5 < V1.heap.size := Db.lt
    replace e0 := (bA.cell (p := ⟨b, off + k * 2, none⟩) (show b < _ by have := bb.size; omega)).trans e0
    replace e1 := (bA.cell (p := ⟨b, off + k * 2 + 1, none⟩) (show b < _ by have := bb.size; omega)).trans e1
    replace Mb := Mb.on bA Mb.lt
    replace Cb := Cb.on bA Cb.lt
    replace R1 := R1.on bA R1.lt
    replace R2 := R2.on bA R2.lt
    replace Xb := Xb.on bA Xb.lt
    replace Db := Db.on bA Db.lt
    replace OX := OX.on bA (Nat.le_refl _)
    replace OM8 := OM8.on bA (Nat.le_refl _)
    replace OD := OD.on bA (Nat.le_refl _)
    replace hM := hM.on bA (by have := bb.size; omega); replace hC := hC.on bA (by have := bb.size; omega)
    replace bb := bb.trans (bA.mono (by have := bb.size; omega))
    refine hK.out _ _ ⟨⟨Cb.cell 0, Cb.cell 1, Cb.cell 2, Cb.cell 3, Cb.cell 4, Cb.cell 5, Cb.cell 6⟩, ⟨Mb.cell 0, Mb.cell 1⟩, e0, e1⟩ (fun _ => ?_)
    clear hK K bA
    try simp only [Act.put, List.setIfInBounds_toArray, List.set_cons_zero, List.set_cons_succ]
    obtain ⟨q8, hq8⟩ : ∃ q, V1.heap.size = q := ⟨_, rfl⟩
    have l58 : q5 < q8 := by omega
    obtain ⟨VA, hVA⟩ : ∃ W, V1.alloc (.cells #[.int .i64 0, .slice none 0 0] 33) = W := ⟨_, rfl⟩
    rw [hVA] at Mb Cb R1 R2 Xb Db Yb OX OM8 OD bb hM hC e0 e1 ⊢
    rw [hq8] at Yb ⊢
    clear hVA hq8 hl5
    have y1 := fun i => Yb.cell i; have y2 := fun i => Yb.froz i
    refine wpAnyH_ready (rs := [15]) (by kernel_rfl) (by simp) ?_
    refine AllReadyH.cons rfl (fun K hK => ?_) AllReadyH.nil
    go_simp
    have ooOX := wordsOff OX Yb (by decide)
    have ooOM8 := wordsOff OM8 Yb (by decide)
    have ooD := twoOff OD Yb (by decide) (by decide)
    have Mb_ := ((Mb.other (show g ≠ q8 by omega) 0 (.int .i64 mc)).other (show g ≠ q8 by omega) 1 (.slice a8 n8 k8))
    have Cb_ := ((Cb.other (show q1 ≠ q8 by omega) 0 (.int .i64 mc)).other (show q1 ≠ q8 by omega) 1 (.slice a8 n8 k8))
    have R1_ := ((R1.other (show q2 ≠ q8 by omega) 0 (.int .i64 mc)).other (show q2 ≠ q8 by omega) 1 (.slice a8 n8 k8))
    have R2_ := ((R2.other (show q3 ≠ q8 by omega) 0 (.int .i64 mc)).other (show q3 ≠ q8 by omega) 1 (.slice a8 n8 k8))
    have Xb_ := ((Xb.other (show q4 ≠ q8 by omega) 0 (.int .i64 mc)).other (show q4 ≠ q8 by omega) 1 (.slice a8 n8 k8))
    have Db_ := ((Db.other (show q5 ≠ q8 by omega) 0 (.int .i64 mc)).other (show q5 ≠ q8 by omega) 1 (.slice a8 n8 k8))
    have Yb_ := ((Yb.set 0 (.int .i64 mc)).set 1 (.slice a8 n8 k8))
    simp only [List.setIfInBounds_toArray, List.set_cons_zero, List.set_cons_succ] at Yb_
    replace OX := (Words.Owns.other (Words.Owns.other OX (p := ⟨q8, 0, none⟩) ooOX (.int .i64 mc)) (p := ⟨q8, 1, none⟩) ooOX (.slice a8 n8 k8))
    replace OM8 := (Words.Owns.other (Words.Owns.other OM8 (p := ⟨q8, 0, none⟩) ooOM8 (.int .i64 mc)) (p := ⟨q8, 1, none⟩) ooOM8 (.slice a8 n8 k8))
    replace OD := (ownC_other (i := 1) (u := .slice a8 n8 k8) (ownC_other (i := 0) (u := .int .i64 mc) OD ooD) ooD)
    replace bb := ((bb.setCell (p := ⟨q8, 0, none⟩) (show g ≤ q8 by omega) (.int .i64 mc)).setCell (p := ⟨q8, 1, none⟩) (show g ≤ q8 by omega) (.slice a8 n8 k8))
    replace e0 : ((VA.setCell ⟨q8, 0, none⟩ (.int .i64 mc)).setCell ⟨q8, 1, none⟩ (.slice a8 n8 k8)).cell? ⟨b, off + k * 2, none⟩ = _ := ((cell_ne (show b ≠ q8 by omega)).trans ((cell_ne (show b ≠ q8 by omega)).trans e0))
    replace e1 : ((VA.setCell ⟨q8, 0, none⟩ (.int .i64 mc)).setCell ⟨q8, 1, none⟩ (.slice a8 n8 k8)).cell? ⟨b, off + k * 2 + 1, none⟩ = _ := ((cell_ne (show b ≠ q8 by omega)).trans ((cell_ne (show b ≠ q8 by omega)).trans e1))
    have Mb := Mb_; have Cb := Cb_; have R1 := R1_; have R2 := R2_; have Xb := Xb_; have Db := Db_; have Yb := Yb_
    clear Mb_ Cb_ R1_ R2_ Xb_ Db_ Yb_ ooOX ooOM8 ooD
    obtain ⟨VS, hWN⟩ : ∃ W, ((VA.setCell ⟨q8, 0, none⟩ (.int .i64 mc)).setCell ⟨q8, 1, none⟩ (.slice a8 n8 k8)) = W := ⟨_, rfl⟩
    rw [hWN] at Mb Cb R1 R2 Xb Db Yb OX OM8 OD bb e0 e1 ⊢
    clear hWN y1 y2
    refine hK.out _ _ ⟨⟨Cb.cell 0, Cb.cell 1, Cb.cell 2, Cb.cell 3, Cb.cell 4, Cb.cell 5, Cb.cell 6⟩, ⟨Mb.cell 0, Mb.cell 1⟩, e0, e1⟩ (fun _ => ?_)
    clear hK K
    try simp only [Act.put, List.setIfInBounds_toArray, List.set_cons_zero, List.set_cons_succ]
    refine takeH (i := 16) (some 9) (.bool lm) rfl rfl (by kernel_rfl) (by kernel_rfl) (by kernel_rfl) (fun _ _ _ h => h) (Or.inl ⟨by rfl, fun w hSw => by (try dsimp only at hSw); go_simp⟩) (by assumption) ?_
    try simp only [Act.put, List.setIfInBounds_toArray, List.set_cons_zero, List.set_cons_succ]
    refine wpAnyH_done (by kernel_rfl) ?_ _
    clear hHeld
    cases lm
    · have HZ : Hid (Z = ⟨mc, ws, (phB k), (atB k), wv⟩) := by show _ = _; rw [HY.out, ← HZS.out, lock_same HLM.out]; rfl
      go_wp2_with fail
      have cCM : (VS.cell? ⟨q4, 0, none⟩ = some (.int .i64 mc) ∧ VS.cell? ⟨q4, 1, none⟩ = some (.slice ax nw kx)) ∧ (VS.cell? ⟨q5, 0, none⟩ = some (.int .i64 who) ∧ VS.cell? ⟨q5, 1, none⟩ = some (.int .i64 rv) ∧ VS.cell? ⟨q5, 2, none⟩ = some (.int .i64 1) ∧ VS.cell? ⟨q5, 3, none⟩ = some (.int .i64 (k : Int)) ∧ VS.cell? ⟨q5, 4, none⟩ = some (.int .i64 wv) ∧ VS.cell? ⟨q5, 5, none⟩ = some (.slice a2 n k2) ∧ VS.cell? ⟨q5, 6, none⟩ = some (.slice d2 m l2)) ∧ (VS.cell? ⟨q1, 0, none⟩ = some (.int .i64 who) ∧ VS.cell? ⟨q1, 1, none⟩ = some (.int .i64 rv) ∧ VS.cell? ⟨q1, 2, none⟩ = some (.int .i64 1) ∧ VS.cell? ⟨q1, 3, none⟩ = some (.int .i64 (k : Int)) ∧ VS.cell? ⟨q1, 4, none⟩ = some (.int .i64 wv) ∧ VS.cell? ⟨q1, 5, none⟩ = some (.slice (some ⟨b, off, none⟩) n kp) ∧ VS.cell? ⟨q1, 6, none⟩ = some (.slice ar m kr)) := ⟨⟨Xb.cell 0, Xb.cell 1⟩, ⟨Db.cell 0, Db.cell 1, Db.cell 2, Db.cell 3, Db.cell 4, Db.cell 5, Db.cell 6⟩, ⟨Cb.cell 0, Cb.cell 1, Cb.cell 2, Cb.cell 3, Cb.cell 4, Cb.cell 5, Cb.cell 6⟩⟩
      replace Mb := Mb.drew
      replace Cb := Cb.drew
      replace R1 := R1.drew
      replace R2 := R2.drew
      replace Xb := Xb.drew
      replace Db := Db.drew
      replace Yb := Yb.drew
      replace OX := OX.drew
      replace OM8 := OM8.drew
      replace OD : OwnC _ _ _ _ _ _ := OD.on (drew_lowC VS) (Nat.le_refl _); replace bb := bb.drew
      obtain ⟨WD8, hWD⟩ : ∃ W, VS.drew = W := ⟨_, rfl⟩
      refine wp_region_held_drew (S := fun W => (W.cell? ⟨q4, 0, none⟩ = some (.int .i64 mc) ∧ W.cell? ⟨q4, 1, none⟩ = some (.slice ax nw kx)) ∧ (W.cell? ⟨q5, 0, none⟩ = some (.int .i64 who) ∧ W.cell? ⟨q5, 1, none⟩ = some (.int .i64 rv) ∧ W.cell? ⟨q5, 2, none⟩ = some (.int .i64 1) ∧ W.cell? ⟨q5, 3, none⟩ = some (.int .i64 (k : Int)) ∧ W.cell? ⟨q5, 4, none⟩ = some (.int .i64 wv) ∧ W.cell? ⟨q5, 5, none⟩ = some (.slice a2 n k2) ∧ W.cell? ⟨q5, 6, none⟩ = some (.slice d2 m l2)) ∧ (W.cell? ⟨q1, 0, none⟩ = some (.int .i64 who) ∧ W.cell? ⟨q1, 1, none⟩ = some (.int .i64 rv) ∧ W.cell? ⟨q1, 2, none⟩ = some (.int .i64 1) ∧ W.cell? ⟨q1, 3, none⟩ = some (.int .i64 (k : Int)) ∧ W.cell? ⟨q1, 4, none⟩ = some (.int .i64 wv) ∧ W.cell? ⟨q1, 5, none⟩ = some (.slice (some ⟨b, off, none⟩) n kp) ∧ W.cell? ⟨q1, 6, none⟩ = some (.slice ar m kr))) (by kernel_rfl) cCM (fun hHeld => ?_)
      rw [hWD] at Mb Cb R1 R2 Xb Db Yb OX OM8 OD bb hHeld ⊢
      clear hWD cCM
      refine takeH (i := 0) (some 54) (.agg #[.int .i64 mc, .slice ax nw kx]) rfl rfl (by kernel_rfl) (by kernel_rfl) (by kernel_rfl) (fun _ _ _ h => h) (Or.inl ⟨by rfl, fun w hSw => by (try dsimp only at hSw); go_simp⟩) (by assumption) ?_
      try simp only [Act.put, List.setIfInBounds_toArray, List.set_cons_zero, List.set_cons_succ]
      refine takeH (i := 1) (some 55) (.agg #[.int .i64 who, .int .i64 rv, .int .i64 1, .int .i64 (k : Int), .int .i64 wv, .slice a2 n k2, .slice d2 m l2]) rfl rfl (by kernel_rfl) (by kernel_rfl) (by kernel_rfl) (fun _ _ _ h => h) (Or.inl ⟨by rfl, fun w hSw => by (try dsimp only at hSw); go_simp⟩) (by assumption) ?_
      try simp only [Act.put, List.setIfInBounds_toArray, List.set_cons_zero, List.set_cons_succ]
      refine takeH (i := 2) (some 56) (.pointer (some ⟨q1, 3, none⟩)) rfl rfl (by kernel_rfl) (by kernel_rfl) (by kernel_rfl) (fun _ _ _ h => h) (Or.inl ⟨by rfl, fun w hSw => by (try dsimp only at hSw); go_simp⟩) (by assumption) ?_
      try simp only [Act.put, List.setIfInBounds_toArray, List.set_cons_zero, List.set_cons_succ]
      refine takeH (i := 3) (some 57) (.int .i64 k) rfl rfl (by kernel_rfl) (by kernel_rfl) (by kernel_rfl) (fun _ _ _ h => h) (Or.inl ⟨by rfl, fun w hSw => by (try dsimp only at hSw); go_simp⟩) (by assumption) ?_
      try simp only [Act.put, List.setIfInBounds_toArray, List.set_cons_zero, List.set_cons_succ]
      refine wpAnyH_ready (rs := [4]) (by kernel_rfl) (by simp) ?_
      refine AllReadyH.cons rfl (fun K hK => ?_) AllReadyH.nil
      go_simp
      refine (backS who rv 1 k wv k a2 d2 n k2 m l2 WD8 (by omega) (by omega)).mono ?_
      rintro e V10 ⟨rfl, b9⟩
      replace Mb := Mb.on b9 Mb.lt
      replace Cb := Cb.on b9 Cb.lt
      replace R1 := R1.on b9 R1.lt
      replace R2 := R2.on b9 R2.lt
      replace Xb := Xb.on b9 Xb.lt
      replace Db := Db.on b9 Db.lt
      replace Yb := Yb.on b9 Yb.lt
      replace OX := OX.on b9 (Nat.le_refl _)
      replace OM8 := OM8.on b9 (Nat.le_refl _)
      replace OD := OD.on b9 (Nat.le_refl _)
      replace bb := bb.trans (b9.mono (by have := bb.size; omega))
      clear b9
      go_simp
      refine hK.out _ _ ⟨⟨Xb.cell 0, Xb.cell 1⟩, ⟨Db.cell 0, Db.cell 1, Db.cell 2, Db.cell 3, Db.cell 4, Db.cell 5, Db.cell 6⟩, ⟨Cb.cell 0, Cb.cell 1, Cb.cell 2, Cb.cell 3, Cb.cell 4, Cb.cell 5, Cb.cell 6⟩⟩ (fun _ => ?_)
      clear hK K
      try simp only [Act.put, List.setIfInBounds_toArray, List.set_cons_zero, List.set_cons_succ]
      have r1 := fun i => R1.cell i; have f1 := fun i => R1.froz i
      refine wpAnyH_ready (rs := [5]) (by kernel_rfl) (by simp) ?_
      refine AllReadyH.cons rfl (fun K hK => ?_) AllReadyH.nil
      go_simp
      have ooOX := wordsOff OX R1 (by decide)
      have ooOM8 := wordsOff OM8 R1 (by decide)
      have ooD := twoOff OD R1 (by decide) (by decide)
      have Mb_ := ((Mb.other (show g ≠ q2 by omega) 0 (.int .i64 mc)).other (show g ≠ q2 by omega) 1 (.slice ax nw kx))
      have Cb_ := ((Cb.other (show q1 ≠ q2 by omega) 0 (.int .i64 mc)).other (show q1 ≠ q2 by omega) 1 (.slice ax nw kx))
      have R1_ := ((R1.set 0 (.int .i64 mc)).set 1 (.slice ax nw kx))
      simp only [List.setIfInBounds_toArray, List.set_cons_zero, List.set_cons_succ] at R1_
      have R2_ := ((R2.other (show q3 ≠ q2 by omega) 0 (.int .i64 mc)).other (show q3 ≠ q2 by omega) 1 (.slice ax nw kx))
      have Xb_ := ((Xb.other (show q4 ≠ q2 by omega) 0 (.int .i64 mc)).other (show q4 ≠ q2 by omega) 1 (.slice ax nw kx))
      have Db_ := ((Db.other (show q5 ≠ q2 by omega) 0 (.int .i64 mc)).other (show q5 ≠ q2 by omega) 1 (.slice ax nw kx))
      have Yb_ := ((Yb.other (show q8 ≠ q2 by omega) 0 (.int .i64 mc)).other (show q8 ≠ q2 by omega) 1 (.slice ax nw kx))
      replace OX := (Words.Owns.other (Words.Owns.other OX (p := ⟨q2, 0, none⟩) ooOX (.int .i64 mc)) (p := ⟨q2, 1, none⟩) ooOX (.slice ax nw kx))
      replace OM8 := (Words.Owns.other (Words.Owns.other OM8 (p := ⟨q2, 0, none⟩) ooOM8 (.int .i64 mc)) (p := ⟨q2, 1, none⟩) ooOM8 (.slice ax nw kx))
      replace OD := (ownC_other (i := 1) (u := .slice ax nw kx) (ownC_other (i := 0) (u := .int .i64 mc) OD ooD) ooD)
      replace bb := ((bb.setCell (p := ⟨q2, 0, none⟩) (show g ≤ q2 by omega) (.int .i64 mc)).setCell (p := ⟨q2, 1, none⟩) (show g ≤ q2 by omega) (.slice ax nw kx))
      have Mb := Mb_; have Cb := Cb_; have R1 := R1_; have R2 := R2_; have Xb := Xb_; have Db := Db_; have Yb := Yb_
      clear Mb_ Cb_ R1_ R2_ Xb_ Db_ Yb_ ooOX ooOM8 ooD
      obtain ⟨V11, hWN⟩ : ∃ W, ((V10.setCell ⟨q2, 0, none⟩ (.int .i64 mc)).setCell ⟨q2, 1, none⟩ (.slice ax nw kx)) = W := ⟨_, rfl⟩
      rw [hWN] at Mb Cb R1 R2 Xb Db Yb OX OM8 OD bb ⊢
      clear hWN r1 f1
      refine hK.out _ _ ⟨⟨Xb.cell 0, Xb.cell 1⟩, ⟨Db.cell 0, Db.cell 1, Db.cell 2, Db.cell 3, Db.cell 4, Db.cell 5, Db.cell 6⟩, ⟨Cb.cell 0, Cb.cell 1, Cb.cell 2, Cb.cell 3, Cb.cell 4, Cb.cell 5, Cb.cell 6⟩⟩ (fun _ => ?_)
      clear hK K
      try simp only [Act.put, List.setIfInBounds_toArray, List.set_cons_zero, List.set_cons_succ]
      have r1 := fun i => R2.cell i; have f1 := fun i => R2.froz i
      refine wpAnyH_ready (rs := [6]) (by kernel_rfl) (by simp) ?_
      refine AllReadyH.cons rfl (fun K hK => ?_) AllReadyH.nil
      go_simp
      have ooOX := wordsOff OX R2 (by decide)
      have ooOM8 := wordsOff OM8 R2 (by decide)
      have ooD := twoOff OD R2 (by decide) (by decide)
      have Mb_ := (((((((Mb.other (show g ≠ q3 by omega) 0 (.int .i64 who)).other (show g ≠ q3 by omega) 1 (.int .i64 rv)).other (show g ≠ q3 by omega) 2 (.int .i64 (phB k))).other (show g ≠ q3 by omega) 3 (.int .i64 (atB k))).other (show g ≠ q3 by omega) 4 (.int .i64 wv)).other (show g ≠ q3 by omega) 5 (.slice a2 n k2)).other (show g ≠ q3 by omega) 6 (.slice d2 m l2))
      have Cb_ := (((((((Cb.other (show q1 ≠ q3 by omega) 0 (.int .i64 who)).other (show q1 ≠ q3 by omega) 1 (.int .i64 rv)).other (show q1 ≠ q3 by omega) 2 (.int .i64 (phB k))).other (show q1 ≠ q3 by omega) 3 (.int .i64 (atB k))).other (show q1 ≠ q3 by omega) 4 (.int .i64 wv)).other (show q1 ≠ q3 by omega) 5 (.slice a2 n k2)).other (show q1 ≠ q3 by omega) 6 (.slice d2 m l2))
      have R1_ := (((((((R1.other (show q2 ≠ q3 by omega) 0 (.int .i64 who)).other (show q2 ≠ q3 by omega) 1 (.int .i64 rv)).other (show q2 ≠ q3 by omega) 2 (.int .i64 (phB k))).other (show q2 ≠ q3 by omega) 3 (.int .i64 (atB k))).other (show q2 ≠ q3 by omega) 4 (.int .i64 wv)).other (show q2 ≠ q3 by omega) 5 (.slice a2 n k2)).other (show q2 ≠ q3 by omega) 6 (.slice d2 m l2))
      have R2_ := (((((((R2.set 0 (.int .i64 who)).set 1 (.int .i64 rv)).set 2 (.int .i64 (phB k))).set 3 (.int .i64 (atB k))).set 4 (.int .i64 wv)).set 5 (.slice a2 n k2)).set 6 (.slice d2 m l2))
      simp only [List.setIfInBounds_toArray, List.set_cons_zero, List.set_cons_succ] at R2_
      have Xb_ := (((((((Xb.other (show q4 ≠ q3 by omega) 0 (.int .i64 who)).other (show q4 ≠ q3 by omega) 1 (.int .i64 rv)).other (show q4 ≠ q3 by omega) 2 (.int .i64 (phB k))).other (show q4 ≠ q3 by omega) 3 (.int .i64 (atB k))).other (show q4 ≠ q3 by omega) 4 (.int .i64 wv)).other (show q4 ≠ q3 by omega) 5 (.slice a2 n k2)).other (show q4 ≠ q3 by omega) 6 (.slice d2 m l2))
      have Db_ := (((((((Db.other (show q5 ≠ q3 by omega) 0 (.int .i64 who)).other (show q5 ≠ q3 by omega) 1 (.int .i64 rv)).other (show q5 ≠ q3 by omega) 2 (.int .i64 (phB k))).other (show q5 ≠ q3 by omega) 3 (.int .i64 (atB k))).other (show q5 ≠ q3 by omega) 4 (.int .i64 wv)).other (show q5 ≠ q3 by omega) 5 (.slice a2 n k2)).other (show q5 ≠ q3 by omega) 6 (.slice d2 m l2))
      have Yb_ := (((((((Yb.other (show q8 ≠ q3 by omega) 0 (.int .i64 who)).other (show q8 ≠ q3 by omega) 1 (.int .i64 rv)).other (show q8 ≠ q3 by omega) 2 (.int .i64 (phB k))).other (show q8 ≠ q3 by omega) 3 (.int .i64 (atB k))).other (show q8 ≠ q3 by omega) 4 (.int .i64 wv)).other (show q8 ≠ q3 by omega) 5 (.slice a2 n k2)).other (show q8 ≠ q3 by omega) 6 (.slice d2 m l2))
      replace OX := (Words.Owns.other (Words.Owns.other (Words.Owns.other (Words.Owns.other (Words.Owns.other (Words.Owns.other (Words.Owns.other OX (p := ⟨q3, 0, none⟩) ooOX (.int .i64 who)) (p := ⟨q3, 1, none⟩) ooOX (.int .i64 rv)) (p := ⟨q3, 2, none⟩) ooOX (.int .i64 (phB k))) (p := ⟨q3, 3, none⟩) ooOX (.int .i64 (atB k))) (p := ⟨q3, 4, none⟩) ooOX (.int .i64 wv)) (p := ⟨q3, 5, none⟩) ooOX (.slice a2 n k2)) (p := ⟨q3, 6, none⟩) ooOX (.slice d2 m l2))
      replace OM8 := (Words.Owns.other (Words.Owns.other (Words.Owns.other (Words.Owns.other (Words.Owns.other (Words.Owns.other (Words.Owns.other OM8 (p := ⟨q3, 0, none⟩) ooOM8 (.int .i64 who)) (p := ⟨q3, 1, none⟩) ooOM8 (.int .i64 rv)) (p := ⟨q3, 2, none⟩) ooOM8 (.int .i64 (phB k))) (p := ⟨q3, 3, none⟩) ooOM8 (.int .i64 (atB k))) (p := ⟨q3, 4, none⟩) ooOM8 (.int .i64 wv)) (p := ⟨q3, 5, none⟩) ooOM8 (.slice a2 n k2)) (p := ⟨q3, 6, none⟩) ooOM8 (.slice d2 m l2))
      replace OD := (ownC_other (i := 6) (u := .slice d2 m l2) (ownC_other (i := 5) (u := .slice a2 n k2) (ownC_other (i := 4) (u := .int .i64 wv) (ownC_other (i := 3) (u := .int .i64 (atB k)) (ownC_other (i := 2) (u := .int .i64 (phB k)) (ownC_other (i := 1) (u := .int .i64 rv) (ownC_other (i := 0) (u := .int .i64 who) OD ooD) ooD) ooD) ooD) ooD) ooD) ooD)
      replace bb := (((((((bb.setCell (p := ⟨q3, 0, none⟩) (show g ≤ q3 by omega) (.int .i64 who)).setCell (p := ⟨q3, 1, none⟩) (show g ≤ q3 by omega) (.int .i64 rv)).setCell (p := ⟨q3, 2, none⟩) (show g ≤ q3 by omega) (.int .i64 (phB k))).setCell (p := ⟨q3, 3, none⟩) (show g ≤ q3 by omega) (.int .i64 (atB k))).setCell (p := ⟨q3, 4, none⟩) (show g ≤ q3 by omega) (.int .i64 wv)).setCell (p := ⟨q3, 5, none⟩) (show g ≤ q3 by omega) (.slice a2 n k2)).setCell (p := ⟨q3, 6, none⟩) (show g ≤ q3 by omega) (.slice d2 m l2))
      have Mb := Mb_; have Cb := Cb_; have R1 := R1_; have R2 := R2_; have Xb := Xb_; have Db := Db_; have Yb := Yb_
      clear Mb_ Cb_ R1_ R2_ Xb_ Db_ Yb_ ooOX ooOM8 ooD
      obtain ⟨V12, hWN⟩ : ∃ W, (((((((V11.setCell ⟨q3, 0, none⟩ (.int .i64 who)).setCell ⟨q3, 1, none⟩ (.int .i64 rv)).setCell ⟨q3, 2, none⟩ (.int .i64 (phB k))).setCell ⟨q3, 3, none⟩ (.int .i64 (atB k))).setCell ⟨q3, 4, none⟩ (.int .i64 wv)).setCell ⟨q3, 5, none⟩ (.slice a2 n k2)).setCell ⟨q3, 6, none⟩ (.slice d2 m l2)) = W := ⟨_, rfl⟩
      rw [hWN] at Mb Cb R1 R2 Xb Db Yb OX OM8 OD bb ⊢
      clear hWN r1 f1
      refine hK.out _ _ ⟨⟨Xb.cell 0, Xb.cell 1⟩, ⟨Db.cell 0, Db.cell 1, Db.cell 2, Db.cell 3, Db.cell 4, Db.cell 5, Db.cell 6⟩, ⟨Cb.cell 0, Cb.cell 1, Cb.cell 2, Cb.cell 3, Cb.cell 4, Cb.cell 5, Cb.cell 6⟩⟩ (fun _ => ?_)
      clear hK K
      try simp only [Act.put, List.setIfInBounds_toArray, List.set_cons_zero, List.set_cons_succ]
      refine wpAnyH_done (by kernel_rfl) ?_ _
      have r1 := fun i => R1.cell i; have r2 := fun i => R2.cell i
      clear hHeld
      go_wp2
      refine bodyPost_ret (v := .tuple #[.agg #[.int .i64 mc, .slice ax nw kx], .agg #[.int .i64 who, .int .i64 rv, .int .i64 (phB k), .int .i64 (atB k), .int .i64 wv, .slice a2 n k2, .slice d2 m l2]]) (by simp [results, Tryd.results6, go_sem, r1, r2]) rfl ?_
      have OM := OX
      exact told_mk HZ.out HW.out HN.out HM2.out hg OM OD bb
    · replace HY : Hid (Z = ⟨mc, zs, onPh 1 k n m 2, onAt 1 k n m, wv⟩) := by show _ = _; rw [HY.out]; rfl
      have y1 := fun i => Yb.cell i; have x1 := fun i => Xb.cell i; have x2 := fun i => Xb.froz i
      have ooOX := wordsOff OX Xb (by decide)
      have ooOM8 := wordsOff OM8 Xb (by decide)
      have ooD := twoOff OD Xb (by decide) (by decide)
      have Mb_ := ((Mb.other (show g ≠ q4 by omega) 0 (.int .i64 mc)).other (show g ≠ q4 by omega) 1 (.slice a8 n8 k8))
      have Cb_ := ((Cb.other (show q1 ≠ q4 by omega) 0 (.int .i64 mc)).other (show q1 ≠ q4 by omega) 1 (.slice a8 n8 k8))
      have R1_ := ((R1.other (show q2 ≠ q4 by omega) 0 (.int .i64 mc)).other (show q2 ≠ q4 by omega) 1 (.slice a8 n8 k8))
      have R2_ := ((R2.other (show q3 ≠ q4 by omega) 0 (.int .i64 mc)).other (show q3 ≠ q4 by omega) 1 (.slice a8 n8 k8))
      have Xb_ := ((Xb.set 0 (.int .i64 mc)).set 1 (.slice a8 n8 k8))
      simp only [List.setIfInBounds_toArray, List.set_cons_zero, List.set_cons_succ] at Xb_
      have Db_ := ((Db.other (show q5 ≠ q4 by omega) 0 (.int .i64 mc)).other (show q5 ≠ q4 by omega) 1 (.slice a8 n8 k8))
      have Yb_ := ((Yb.other (show q8 ≠ q4 by omega) 0 (.int .i64 mc)).other (show q8 ≠ q4 by omega) 1 (.slice a8 n8 k8))
      replace OX := (Words.Owns.other (Words.Owns.other OX (p := ⟨q4, 0, none⟩) ooOX (.int .i64 mc)) (p := ⟨q4, 1, none⟩) ooOX (.slice a8 n8 k8))
      replace OM8 := (Words.Owns.other (Words.Owns.other OM8 (p := ⟨q4, 0, none⟩) ooOM8 (.int .i64 mc)) (p := ⟨q4, 1, none⟩) ooOM8 (.slice a8 n8 k8))
      replace OD := (ownC_other (i := 1) (u := .slice a8 n8 k8) (ownC_other (i := 0) (u := .int .i64 mc) OD ooD) ooD)
      replace bb := ((bb.setCell (p := ⟨q4, 0, none⟩) (show g ≤ q4 by omega) (.int .i64 mc)).setCell (p := ⟨q4, 1, none⟩) (show g ≤ q4 by omega) (.slice a8 n8 k8))
      have Mb := Mb_; have Cb := Cb_; have R1 := R1_; have R2 := R2_; have Xb := Xb_; have Db := Db_; have Yb := Yb_
      clear Mb_ Cb_ R1_ R2_ Xb_ Db_ Yb_ ooOX ooOM8 ooD
      obtain ⟨WX, hWX⟩ : ∃ W, ((VS.setCell ⟨q4, 0, none⟩ (.int .i64 mc)).setCell ⟨q4, 1, none⟩ (.slice a8 n8 k8)) = W := ⟨_, rfl⟩
      rw [hWX] at Mb Cb R1 R2 Xb Db Yb OX OM8 OD bb
      have dA := fun i => Db.cell i; have dB := fun i => Db.froz i; have cc3 := Cb.cell 3
      have hwr : IntKind.i64.wrap ((k : Int) + 1) = (k : Int) + 1 := by rw [IntKind.wrap_i64]; omega
      have ooOX := wordsOff OX Db (by decide)
      have ooOM8 := wordsOff OM8 Db (by decide)
      have ooD := twoOff OD Db (by decide) (by decide)
      have Mb_ := (Mb.other (show g ≠ q5 by omega) 3 (.int .i64 ((k : Int) + 1)))
      have Cb_ := (Cb.other (show q1 ≠ q5 by omega) 3 (.int .i64 ((k : Int) + 1)))
      have R1_ := (R1.other (show q2 ≠ q5 by omega) 3 (.int .i64 ((k : Int) + 1)))
      have R2_ := (R2.other (show q3 ≠ q5 by omega) 3 (.int .i64 ((k : Int) + 1)))
      have Xb_ := (Xb.other (show q4 ≠ q5 by omega) 3 (.int .i64 ((k : Int) + 1)))
      have Db_ := (Db.set 3 (.int .i64 ((k : Int) + 1)))
      simp only [List.setIfInBounds_toArray, List.set_cons_zero, List.set_cons_succ] at Db_
      have Yb_ := (Yb.other (show q8 ≠ q5 by omega) 3 (.int .i64 ((k : Int) + 1)))
      replace OX := (Words.Owns.other OX (p := ⟨q5, 3, none⟩) ooOX (.int .i64 ((k : Int) + 1)))
      replace OM8 := (Words.Owns.other OM8 (p := ⟨q5, 3, none⟩) ooOM8 (.int .i64 ((k : Int) + 1)))
      replace OD := (ownC_other (i := 3) (u := .int .i64 ((k : Int) + 1)) OD ooD)
      replace bb := (bb.setCell (p := ⟨q5, 3, none⟩) (show g ≤ q5 by omega) (.int .i64 ((k : Int) + 1)))
      have Mb := Mb_; have Cb := Cb_; have R1 := R1_; have R2 := R2_; have Xb := Xb_; have Db := Db_; have Yb := Yb_
      clear Mb_ Cb_ R1_ R2_ Xb_ Db_ Yb_ ooOX ooOM8 ooD
      obtain ⟨WT, hWT⟩ : ∃ W, (WX.setCell ⟨q5, 3, none⟩ (.int .i64 ((k : Int) + 1))) = W := ⟨_, rfl⟩
      rw [hWT] at Mb Cb R1 R2 Xb Db Yb OX OM8 OD bb
      have dC := Db.cell 3; have cc5 := Cb.cell 5
      by_cases he : (k : Int) + 1 = n
      · have hed : ((k : Int) + 1 == (n : Int)) = true := by simp [he]
        have HZ : Hid (Z = ⟨mc, zs, (goPh n m 2), 0, wv⟩) := by show _ = _; rw [HY.out]; unfold onPh onAt stepsN; simp [he]
        clear he
        have n0 := Db.cell 0
        have n1 := Db.cell 1
        have n2 := Db.cell 2
        have n3 := Db.cell 3
        have n4 := Db.cell 4
        have n5 := Db.cell 5
        have n6 := Db.cell 6
        go_wp2_with fail
        try rw [hWT]
        clear n0
        clear n1
        clear n2
        clear n3
        clear n4
        clear n5
        clear n6
        refine (onS who rv 1 ((k : Int) + 1) wv 2 a2 d2 n k2 m l2 WT).mono ?_
        rintro e WO ⟨rfl, b10⟩
        replace Mb := Mb.on b10 Mb.lt
        replace Cb := Cb.on b10 Cb.lt
        replace R1 := R1.on b10 R1.lt
        replace R2 := R2.on b10 R2.lt
        replace Xb := Xb.on b10 Xb.lt
        replace Db := Db.on b10 Db.lt
        replace Yb := Yb.on b10 Yb.lt
        replace OX := OX.on b10 (Nat.le_refl _)
        replace OM8 := OM8.on b10 (Nat.le_refl _)
        replace OD := OD.on b10 (Nat.le_refl _)
        replace bb := bb.trans (b10.mono (by have := bb.size; omega))
        clear b10
        have g1 := fun i => Db.cell i; have g2 := fun i => Db.froz i
        go_wp2_with fail
        have ooOX := wordsOff OX Db (by decide)
        have ooOM8 := wordsOff OM8 Db (by decide)
        have ooD := twoOff OD Db (by decide) (by decide)
        have Mb_ := (((((((Mb.other (show g ≠ q5 by omega) 0 (.int .i64 who)).other (show g ≠ q5 by omega) 1 (.int .i64 rv)).other (show g ≠ q5 by omega) 2 (.int .i64 (goPh n m 2))).other (show g ≠ q5 by omega) 3 (.int .i64 0)).other (show g ≠ q5 by omega) 4 (.int .i64 wv)).other (show g ≠ q5 by omega) 5 (.slice a2 n k2)).other (show g ≠ q5 by omega) 6 (.slice d2 m l2))
        have Cb_ := (((((((Cb.other (show q1 ≠ q5 by omega) 0 (.int .i64 who)).other (show q1 ≠ q5 by omega) 1 (.int .i64 rv)).other (show q1 ≠ q5 by omega) 2 (.int .i64 (goPh n m 2))).other (show q1 ≠ q5 by omega) 3 (.int .i64 0)).other (show q1 ≠ q5 by omega) 4 (.int .i64 wv)).other (show q1 ≠ q5 by omega) 5 (.slice a2 n k2)).other (show q1 ≠ q5 by omega) 6 (.slice d2 m l2))
        have R1_ := (((((((R1.other (show q2 ≠ q5 by omega) 0 (.int .i64 who)).other (show q2 ≠ q5 by omega) 1 (.int .i64 rv)).other (show q2 ≠ q5 by omega) 2 (.int .i64 (goPh n m 2))).other (show q2 ≠ q5 by omega) 3 (.int .i64 0)).other (show q2 ≠ q5 by omega) 4 (.int .i64 wv)).other (show q2 ≠ q5 by omega) 5 (.slice a2 n k2)).other (show q2 ≠ q5 by omega) 6 (.slice d2 m l2))
        have R2_ := (((((((R2.other (show q3 ≠ q5 by omega) 0 (.int .i64 who)).other (show q3 ≠ q5 by omega) 1 (.int .i64 rv)).other (show q3 ≠ q5 by omega) 2 (.int .i64 (goPh n m 2))).other (show q3 ≠ q5 by omega) 3 (.int .i64 0)).other (show q3 ≠ q5 by omega) 4 (.int .i64 wv)).other (show q3 ≠ q5 by omega) 5 (.slice a2 n k2)).other (show q3 ≠ q5 by omega) 6 (.slice d2 m l2))
        have Xb_ := (((((((Xb.other (show q4 ≠ q5 by omega) 0 (.int .i64 who)).other (show q4 ≠ q5 by omega) 1 (.int .i64 rv)).other (show q4 ≠ q5 by omega) 2 (.int .i64 (goPh n m 2))).other (show q4 ≠ q5 by omega) 3 (.int .i64 0)).other (show q4 ≠ q5 by omega) 4 (.int .i64 wv)).other (show q4 ≠ q5 by omega) 5 (.slice a2 n k2)).other (show q4 ≠ q5 by omega) 6 (.slice d2 m l2))
        have Db_ := (((((((Db.set 0 (.int .i64 who)).set 1 (.int .i64 rv)).set 2 (.int .i64 (goPh n m 2))).set 3 (.int .i64 0)).set 4 (.int .i64 wv)).set 5 (.slice a2 n k2)).set 6 (.slice d2 m l2))
        simp only [List.setIfInBounds_toArray, List.set_cons_zero, List.set_cons_succ] at Db_
        have Yb_ := (((((((Yb.other (show q8 ≠ q5 by omega) 0 (.int .i64 who)).other (show q8 ≠ q5 by omega) 1 (.int .i64 rv)).other (show q8 ≠ q5 by omega) 2 (.int .i64 (goPh n m 2))).other (show q8 ≠ q5 by omega) 3 (.int .i64 0)).other (show q8 ≠ q5 by omega) 4 (.int .i64 wv)).other (show q8 ≠ q5 by omega) 5 (.slice a2 n k2)).other (show q8 ≠ q5 by omega) 6 (.slice d2 m l2))
        replace OX := (Words.Owns.other (Words.Owns.other (Words.Owns.other (Words.Owns.other (Words.Owns.other (Words.Owns.other (Words.Owns.other OX (p := ⟨q5, 0, none⟩) ooOX (.int .i64 who)) (p := ⟨q5, 1, none⟩) ooOX (.int .i64 rv)) (p := ⟨q5, 2, none⟩) ooOX (.int .i64 (goPh n m 2))) (p := ⟨q5, 3, none⟩) ooOX (.int .i64 0)) (p := ⟨q5, 4, none⟩) ooOX (.int .i64 wv)) (p := ⟨q5, 5, none⟩) ooOX (.slice a2 n k2)) (p := ⟨q5, 6, none⟩) ooOX (.slice d2 m l2))
        replace OM8 := (Words.Owns.other (Words.Owns.other (Words.Owns.other (Words.Owns.other (Words.Owns.other (Words.Owns.other (Words.Owns.other OM8 (p := ⟨q5, 0, none⟩) ooOM8 (.int .i64 who)) (p := ⟨q5, 1, none⟩) ooOM8 (.int .i64 rv)) (p := ⟨q5, 2, none⟩) ooOM8 (.int .i64 (goPh n m 2))) (p := ⟨q5, 3, none⟩) ooOM8 (.int .i64 0)) (p := ⟨q5, 4, none⟩) ooOM8 (.int .i64 wv)) (p := ⟨q5, 5, none⟩) ooOM8 (.slice a2 n k2)) (p := ⟨q5, 6, none⟩) ooOM8 (.slice d2 m l2))
        replace OD := (ownC_other (i := 6) (u := .slice d2 m l2) (ownC_other (i := 5) (u := .slice a2 n k2) (ownC_other (i := 4) (u := .int .i64 wv) (ownC_other (i := 3) (u := .int .i64 0) (ownC_other (i := 2) (u := .int .i64 (goPh n m 2)) (ownC_other (i := 1) (u := .int .i64 rv) (ownC_other (i := 0) (u := .int .i64 who) OD ooD) ooD) ooD) ooD) ooD) ooD) ooD)
        replace bb := (((((((bb.setCell (p := ⟨q5, 0, none⟩) (show g ≤ q5 by omega) (.int .i64 who)).setCell (p := ⟨q5, 1, none⟩) (show g ≤ q5 by omega) (.int .i64 rv)).setCell (p := ⟨q5, 2, none⟩) (show g ≤ q5 by omega) (.int .i64 (goPh n m 2))).setCell (p := ⟨q5, 3, none⟩) (show g ≤ q5 by omega) (.int .i64 0)).setCell (p := ⟨q5, 4, none⟩) (show g ≤ q5 by omega) (.int .i64 wv)).setCell (p := ⟨q5, 5, none⟩) (show g ≤ q5 by omega) (.slice a2 n k2)).setCell (p := ⟨q5, 6, none⟩) (show g ≤ q5 by omega) (.slice d2 m l2))
        have Mb := Mb_; have Cb := Cb_; have R1 := R1_; have R2 := R2_; have Xb := Xb_; have Db := Db_; have Yb := Yb_
        clear Mb_ Cb_ R1_ R2_ Xb_ Db_ Yb_ ooOX ooOM8 ooD
        obtain ⟨WQ, hWN⟩ : ∃ W, (((((((WO.setCell ⟨q5, 0, none⟩ (.int .i64 who)).setCell ⟨q5, 1, none⟩ (.int .i64 rv)).setCell ⟨q5, 2, none⟩ (.int .i64 (goPh n m 2))).setCell ⟨q5, 3, none⟩ (.int .i64 0)).setCell ⟨q5, 4, none⟩ (.int .i64 wv)).setCell ⟨q5, 5, none⟩ (.slice a2 n k2)).setCell ⟨q5, 6, none⟩ (.slice d2 m l2)) = W := ⟨_, rfl⟩
        rw [hWN] at Mb Cb R1 R2 Xb Db Yb OX OM8 OD bb ⊢
        clear g1 g2 hWN
        clear hWT hWX y1 x1 x2 dA dB dC cc3 cc5
        have cCM : (WQ.cell? ⟨q4, 0, none⟩ = some (.int .i64 mc) ∧ WQ.cell? ⟨q4, 1, none⟩ = some (.slice a8 n8 k8)) ∧ (WQ.cell? ⟨q5, 0, none⟩ = some (.int .i64 who) ∧ WQ.cell? ⟨q5, 1, none⟩ = some (.int .i64 rv) ∧ WQ.cell? ⟨q5, 2, none⟩ = some (.int .i64 (goPh n m 2)) ∧ WQ.cell? ⟨q5, 3, none⟩ = some (.int .i64 0) ∧ WQ.cell? ⟨q5, 4, none⟩ = some (.int .i64 wv) ∧ WQ.cell? ⟨q5, 5, none⟩ = some (.slice a2 n k2) ∧ WQ.cell? ⟨q5, 6, none⟩ = some (.slice d2 m l2)) ∧ (WQ.cell? ⟨q1, 0, none⟩ = some (.int .i64 who) ∧ WQ.cell? ⟨q1, 1, none⟩ = some (.int .i64 rv) ∧ WQ.cell? ⟨q1, 2, none⟩ = some (.int .i64 1) ∧ WQ.cell? ⟨q1, 3, none⟩ = some (.int .i64 (k : Int)) ∧ WQ.cell? ⟨q1, 4, none⟩ = some (.int .i64 wv) ∧ WQ.cell? ⟨q1, 5, none⟩ = some (.slice (some ⟨b, off, none⟩) n kp) ∧ WQ.cell? ⟨q1, 6, none⟩ = some (.slice ar m kr)) := ⟨⟨Xb.cell 0, Xb.cell 1⟩, ⟨Db.cell 0, Db.cell 1, Db.cell 2, Db.cell 3, Db.cell 4, Db.cell 5, Db.cell 6⟩, ⟨Cb.cell 0, Cb.cell 1, Cb.cell 2, Cb.cell 3, Cb.cell 4, Cb.cell 5, Cb.cell 6⟩⟩
        replace Mb := Mb.drew
        replace Cb := Cb.drew
        replace R1 := R1.drew
        replace R2 := R2.drew
        replace Xb := Xb.drew
        replace Db := Db.drew
        replace Yb := Yb.drew
        replace OX := OX.drew
        replace OM8 := OM8.drew
        replace OD : OwnC _ _ _ _ _ _ := OD.on (drew_lowC WQ) (Nat.le_refl _); replace bb := bb.drew
        obtain ⟨WD13, hWD⟩ : ∃ W, WQ.drew = W := ⟨_, rfl⟩
        refine wp_region_held_drew (S := fun W => (W.cell? ⟨q4, 0, none⟩ = some (.int .i64 mc) ∧ W.cell? ⟨q4, 1, none⟩ = some (.slice a8 n8 k8)) ∧ (W.cell? ⟨q5, 0, none⟩ = some (.int .i64 who) ∧ W.cell? ⟨q5, 1, none⟩ = some (.int .i64 rv) ∧ W.cell? ⟨q5, 2, none⟩ = some (.int .i64 (goPh n m 2)) ∧ W.cell? ⟨q5, 3, none⟩ = some (.int .i64 0) ∧ W.cell? ⟨q5, 4, none⟩ = some (.int .i64 wv) ∧ W.cell? ⟨q5, 5, none⟩ = some (.slice a2 n k2) ∧ W.cell? ⟨q5, 6, none⟩ = some (.slice d2 m l2)) ∧ (W.cell? ⟨q1, 0, none⟩ = some (.int .i64 who) ∧ W.cell? ⟨q1, 1, none⟩ = some (.int .i64 rv) ∧ W.cell? ⟨q1, 2, none⟩ = some (.int .i64 1) ∧ W.cell? ⟨q1, 3, none⟩ = some (.int .i64 (k : Int)) ∧ W.cell? ⟨q1, 4, none⟩ = some (.int .i64 wv) ∧ W.cell? ⟨q1, 5, none⟩ = some (.slice (some ⟨b, off, none⟩) n kp) ∧ W.cell? ⟨q1, 6, none⟩ = some (.slice ar m kr))) (by kernel_rfl) cCM (fun hHeld => ?_)
        rw [hWD] at Mb Cb R1 R2 Xb Db Yb OX OM8 OD bb hHeld ⊢
        clear hWD cCM
        refine takeH (i := 0) (some 234) (.agg #[.int .i64 mc, .slice a8 n8 k8]) rfl rfl (by kernel_rfl) (by kernel_rfl) (by kernel_rfl) (fun _ _ _ h => h) (Or.inl ⟨by rfl, fun w hSw => by (try dsimp only at hSw); go_simp⟩) (by assumption) ?_
        try simp only [Act.put, List.setIfInBounds_toArray, List.set_cons_zero, List.set_cons_succ]
        refine takeH (i := 1) (some 235) (.agg #[.int .i64 who, .int .i64 rv, .int .i64 (goPh n m 2), .int .i64 0, .int .i64 wv, .slice a2 n k2, .slice d2 m l2]) rfl rfl (by kernel_rfl) (by kernel_rfl) (by kernel_rfl) (fun _ _ _ h => h) (Or.inl ⟨by rfl, fun w hSw => by (try dsimp only at hSw); go_simp⟩) (by assumption) ?_
        try simp only [Act.put, List.setIfInBounds_toArray, List.set_cons_zero, List.set_cons_succ]
        have r1 := fun i => R1.cell i; have f1 := fun i => R1.froz i
        refine wpAnyH_ready (rs := [2]) (by kernel_rfl) (by simp) ?_
        refine AllReadyH.cons rfl (fun K hK => ?_) AllReadyH.nil
        go_simp
        have ooOX := wordsOff OX R1 (by decide)
        have ooOM8 := wordsOff OM8 R1 (by decide)
        have ooD := twoOff OD R1 (by decide) (by decide)
        have Mb_ := ((Mb.other (show g ≠ q2 by omega) 0 (.int .i64 mc)).other (show g ≠ q2 by omega) 1 (.slice a8 n8 k8))
        have Cb_ := ((Cb.other (show q1 ≠ q2 by omega) 0 (.int .i64 mc)).other (show q1 ≠ q2 by omega) 1 (.slice a8 n8 k8))
        have R1_ := ((R1.set 0 (.int .i64 mc)).set 1 (.slice a8 n8 k8))
        simp only [List.setIfInBounds_toArray, List.set_cons_zero, List.set_cons_succ] at R1_
        have R2_ := ((R2.other (show q3 ≠ q2 by omega) 0 (.int .i64 mc)).other (show q3 ≠ q2 by omega) 1 (.slice a8 n8 k8))
        have Xb_ := ((Xb.other (show q4 ≠ q2 by omega) 0 (.int .i64 mc)).other (show q4 ≠ q2 by omega) 1 (.slice a8 n8 k8))
        have Db_ := ((Db.other (show q5 ≠ q2 by omega) 0 (.int .i64 mc)).other (show q5 ≠ q2 by omega) 1 (.slice a8 n8 k8))
        have Yb_ := ((Yb.other (show q8 ≠ q2 by omega) 0 (.int .i64 mc)).other (show q8 ≠ q2 by omega) 1 (.slice a8 n8 k8))
        replace OX := (Words.Owns.other (Words.Owns.other OX (p := ⟨q2, 0, none⟩) ooOX (.int .i64 mc)) (p := ⟨q2, 1, none⟩) ooOX (.slice a8 n8 k8))
        replace OM8 := (Words.Owns.other (Words.Owns.other OM8 (p := ⟨q2, 0, none⟩) ooOM8 (.int .i64 mc)) (p := ⟨q2, 1, none⟩) ooOM8 (.slice a8 n8 k8))
        replace OD := (ownC_other (i := 1) (u := .slice a8 n8 k8) (ownC_other (i := 0) (u := .int .i64 mc) OD ooD) ooD)
        replace bb := ((bb.setCell (p := ⟨q2, 0, none⟩) (show g ≤ q2 by omega) (.int .i64 mc)).setCell (p := ⟨q2, 1, none⟩) (show g ≤ q2 by omega) (.slice a8 n8 k8))
        have Mb := Mb_; have Cb := Cb_; have R1 := R1_; have R2 := R2_; have Xb := Xb_; have Db := Db_; have Yb := Yb_
        clear Mb_ Cb_ R1_ R2_ Xb_ Db_ Yb_ ooOX ooOM8 ooD
        obtain ⟨V14, hWN⟩ : ∃ W, ((WD13.setCell ⟨q2, 0, none⟩ (.int .i64 mc)).setCell ⟨q2, 1, none⟩ (.slice a8 n8 k8)) = W := ⟨_, rfl⟩
        rw [hWN] at Mb Cb R1 R2 Xb Db Yb OX OM8 OD bb ⊢
        clear hWN r1 f1
        refine hK.out _ _ ⟨⟨Xb.cell 0, Xb.cell 1⟩, ⟨Db.cell 0, Db.cell 1, Db.cell 2, Db.cell 3, Db.cell 4, Db.cell 5, Db.cell 6⟩, ⟨Cb.cell 0, Cb.cell 1, Cb.cell 2, Cb.cell 3, Cb.cell 4, Cb.cell 5, Cb.cell 6⟩⟩ (fun _ => ?_)
        clear hK K
        try simp only [Act.put, List.setIfInBounds_toArray, List.set_cons_zero, List.set_cons_succ]
        have r1 := fun i => R2.cell i; have f1 := fun i => R2.froz i
        refine wpAnyH_ready (rs := [3]) (by kernel_rfl) (by simp) ?_
        refine AllReadyH.cons rfl (fun K hK => ?_) AllReadyH.nil
        go_simp
        have ooOX := wordsOff OX R2 (by decide)
        have ooOM8 := wordsOff OM8 R2 (by decide)
        have ooD := twoOff OD R2 (by decide) (by decide)
        have Mb_ := (((((((Mb.other (show g ≠ q3 by omega) 0 (.int .i64 who)).other (show g ≠ q3 by omega) 1 (.int .i64 rv)).other (show g ≠ q3 by omega) 2 (.int .i64 (goPh n m 2))).other (show g ≠ q3 by omega) 3 (.int .i64 0)).other (show g ≠ q3 by omega) 4 (.int .i64 wv)).other (show g ≠ q3 by omega) 5 (.slice a2 n k2)).other (show g ≠ q3 by omega) 6 (.slice d2 m l2))
        have Cb_ := (((((((Cb.other (show q1 ≠ q3 by omega) 0 (.int .i64 who)).other (show q1 ≠ q3 by omega) 1 (.int .i64 rv)).other (show q1 ≠ q3 by omega) 2 (.int .i64 (goPh n m 2))).other (show q1 ≠ q3 by omega) 3 (.int .i64 0)).other (show q1 ≠ q3 by omega) 4 (.int .i64 wv)).other (show q1 ≠ q3 by omega) 5 (.slice a2 n k2)).other (show q1 ≠ q3 by omega) 6 (.slice d2 m l2))
        have R1_ := (((((((R1.other (show q2 ≠ q3 by omega) 0 (.int .i64 who)).other (show q2 ≠ q3 by omega) 1 (.int .i64 rv)).other (show q2 ≠ q3 by omega) 2 (.int .i64 (goPh n m 2))).other (show q2 ≠ q3 by omega) 3 (.int .i64 0)).other (show q2 ≠ q3 by omega) 4 (.int .i64 wv)).other (show q2 ≠ q3 by omega) 5 (.slice a2 n k2)).other (show q2 ≠ q3 by omega) 6 (.slice d2 m l2))
        have R2_ := (((((((R2.set 0 (.int .i64 who)).set 1 (.int .i64 rv)).set 2 (.int .i64 (goPh n m 2))).set 3 (.int .i64 0)).set 4 (.int .i64 wv)).set 5 (.slice a2 n k2)).set 6 (.slice d2 m l2))
        simp only [List.setIfInBounds_toArray, List.set_cons_zero, List.set_cons_succ] at R2_
        have Xb_ := (((((((Xb.other (show q4 ≠ q3 by omega) 0 (.int .i64 who)).other (show q4 ≠ q3 by omega) 1 (.int .i64 rv)).other (show q4 ≠ q3 by omega) 2 (.int .i64 (goPh n m 2))).other (show q4 ≠ q3 by omega) 3 (.int .i64 0)).other (show q4 ≠ q3 by omega) 4 (.int .i64 wv)).other (show q4 ≠ q3 by omega) 5 (.slice a2 n k2)).other (show q4 ≠ q3 by omega) 6 (.slice d2 m l2))
        have Db_ := (((((((Db.other (show q5 ≠ q3 by omega) 0 (.int .i64 who)).other (show q5 ≠ q3 by omega) 1 (.int .i64 rv)).other (show q5 ≠ q3 by omega) 2 (.int .i64 (goPh n m 2))).other (show q5 ≠ q3 by omega) 3 (.int .i64 0)).other (show q5 ≠ q3 by omega) 4 (.int .i64 wv)).other (show q5 ≠ q3 by omega) 5 (.slice a2 n k2)).other (show q5 ≠ q3 by omega) 6 (.slice d2 m l2))
        have Yb_ := (((((((Yb.other (show q8 ≠ q3 by omega) 0 (.int .i64 who)).other (show q8 ≠ q3 by omega) 1 (.int .i64 rv)).other (show q8 ≠ q3 by omega) 2 (.int .i64 (goPh n m 2))).other (show q8 ≠ q3 by omega) 3 (.int .i64 0)).other (show q8 ≠ q3 by omega) 4 (.int .i64 wv)).other (show q8 ≠ q3 by omega) 5 (.slice a2 n k2)).other (show q8 ≠ q3 by omega) 6 (.slice d2 m l2))
        replace OX := (Words.Owns.other (Words.Owns.other (Words.Owns.other (Words.Owns.other (Words.Owns.other (Words.Owns.other (Words.Owns.other OX (p := ⟨q3, 0, none⟩) ooOX (.int .i64 who)) (p := ⟨q3, 1, none⟩) ooOX (.int .i64 rv)) (p := ⟨q3, 2, none⟩) ooOX (.int .i64 (goPh n m 2))) (p := ⟨q3, 3, none⟩) ooOX (.int .i64 0)) (p := ⟨q3, 4, none⟩) ooOX (.int .i64 wv)) (p := ⟨q3, 5, none⟩) ooOX (.slice a2 n k2)) (p := ⟨q3, 6, none⟩) ooOX (.slice d2 m l2))
        replace OM8 := (Words.Owns.other (Words.Owns.other (Words.Owns.other (Words.Owns.other (Words.Owns.other (Words.Owns.other (Words.Owns.other OM8 (p := ⟨q3, 0, none⟩) ooOM8 (.int .i64 who)) (p := ⟨q3, 1, none⟩) ooOM8 (.int .i64 rv)) (p := ⟨q3, 2, none⟩) ooOM8 (.int .i64 (goPh n m 2))) (p := ⟨q3, 3, none⟩) ooOM8 (.int .i64 0)) (p := ⟨q3, 4, none⟩) ooOM8 (.int .i64 wv)) (p := ⟨q3, 5, none⟩) ooOM8 (.slice a2 n k2)) (p := ⟨q3, 6, none⟩) ooOM8 (.slice d2 m l2))
        replace OD := (ownC_other (i := 6) (u := .slice d2 m l2) (ownC_other (i := 5) (u := .slice a2 n k2) (ownC_other (i := 4) (u := .int .i64 wv) (ownC_other (i := 3) (u := .int .i64 0) (ownC_other (i := 2) (u := .int .i64 (goPh n m 2)) (ownC_other (i := 1) (u := .int .i64 rv) (ownC_other (i := 0) (u := .int .i64 who) OD ooD) ooD) ooD) ooD) ooD) ooD) ooD)
        replace bb := (((((((bb.setCell (p := ⟨q3, 0, none⟩) (show g ≤ q3 by omega) (.int .i64 who)).setCell (p := ⟨q3, 1, none⟩) (show g ≤ q3 by omega) (.int .i64 rv)).setCell (p := ⟨q3, 2, none⟩) (show g ≤ q3 by omega) (.int .i64 (goPh n m 2))).setCell (p := ⟨q3, 3, none⟩) (show g ≤ q3 by omega) (.int .i64 0)).setCell (p := ⟨q3, 4, none⟩) (show g ≤ q3 by omega) (.int .i64 wv)).setCell (p := ⟨q3, 5, none⟩) (show g ≤ q3 by omega) (.slice a2 n k2)).setCell (p := ⟨q3, 6, none⟩) (show g ≤ q3 by omega) (.slice d2 m l2))
        have Mb := Mb_; have Cb := Cb_; have R1 := R1_; have R2 := R2_; have Xb := Xb_; have Db := Db_; have Yb := Yb_
        clear Mb_ Cb_ R1_ R2_ Xb_ Db_ Yb_ ooOX ooOM8 ooD
        obtain ⟨V15, hWN⟩ : ∃ W, (((((((V14.setCell ⟨q3, 0, none⟩ (.int .i64 who)).setCell ⟨q3, 1, none⟩ (.int .i64 rv)).setCell ⟨q3, 2, none⟩ (.int .i64 (goPh n m 2))).setCell ⟨q3, 3, none⟩ (.int .i64 0)).setCell ⟨q3, 4, none⟩ (.int .i64 wv)).setCell ⟨q3, 5, none⟩ (.slice a2 n k2)).setCell ⟨q3, 6, none⟩ (.slice d2 m l2)) = W := ⟨_, rfl⟩
        rw [hWN] at Mb Cb R1 R2 Xb Db Yb OX OM8 OD bb ⊢
        clear hWN r1 f1
        refine hK.out _ _ ⟨⟨Xb.cell 0, Xb.cell 1⟩, ⟨Db.cell 0, Db.cell 1, Db.cell 2, Db.cell 3, Db.cell 4, Db.cell 5, Db.cell 6⟩, ⟨Cb.cell 0, Cb.cell 1, Cb.cell 2, Cb.cell 3, Cb.cell 4, Cb.cell 5, Cb.cell 6⟩⟩ (fun _ => ?_)
        clear hK K
        try simp only [Act.put, List.setIfInBounds_toArray, List.set_cons_zero, List.set_cons_succ]
        refine wpAnyH_done (by kernel_rfl) ?_ _
        have r1 := fun i => R1.cell i; have r2 := fun i => R2.cell i
        clear hHeld
        go_wp2
        refine bodyPost_ret (v := .tuple #[.agg #[.int .i64 mc, .slice a8 n8 k8], .agg #[.int .i64 who, .int .i64 rv, .int .i64 (goPh n m 2), .int .i64 0, .int .i64 wv, .slice a2 n k2, .slice d2 m l2]]) (by simp [results, Tryd.results6, go_sem, r1, r2]) rfl ?_
        have OM := OM8
        exact told_mk HZ.out HN8.out HN.out HM2.out hg OM OD bb
      · have hed : ((k : Int) + 1 == (n : Int)) = false := by simp [he]
        have HZ : Hid (Z = ⟨mc, zs, 1, (k : Int) + 1, wv⟩) := by show _ = _; rw [HY.out, on_mid1 (show (k : Int) + 1 < stepsN 1 n m from by show (k : Int) + 1 < (n : Int); omega), at_mid1 (show (k : Int) + 1 < stepsN 1 n m from by show (k : Int) + 1 < (n : Int); omega)]
        go_wp2_with fail
        try rw [hWT]
        clear hWT hWX y1 x1 x2 dA dB dC cc3 cc5
        have cCM : (WT.cell? ⟨q4, 0, none⟩ = some (.int .i64 mc) ∧ WT.cell? ⟨q4, 1, none⟩ = some (.slice a8 n8 k8)) ∧ (WT.cell? ⟨q5, 0, none⟩ = some (.int .i64 who) ∧ WT.cell? ⟨q5, 1, none⟩ = some (.int .i64 rv) ∧ WT.cell? ⟨q5, 2, none⟩ = some (.int .i64 1) ∧ WT.cell? ⟨q5, 3, none⟩ = some (.int .i64 ((k : Int) + 1)) ∧ WT.cell? ⟨q5, 4, none⟩ = some (.int .i64 wv) ∧ WT.cell? ⟨q5, 5, none⟩ = some (.slice a2 n k2) ∧ WT.cell? ⟨q5, 6, none⟩ = some (.slice d2 m l2)) ∧ (WT.cell? ⟨q1, 0, none⟩ = some (.int .i64 who) ∧ WT.cell? ⟨q1, 1, none⟩ = some (.int .i64 rv) ∧ WT.cell? ⟨q1, 2, none⟩ = some (.int .i64 1) ∧ WT.cell? ⟨q1, 3, none⟩ = some (.int .i64 (k : Int)) ∧ WT.cell? ⟨q1, 4, none⟩ = some (.int .i64 wv) ∧ WT.cell? ⟨q1, 5, none⟩ = some (.slice (some ⟨b, off, none⟩) n kp) ∧ WT.cell? ⟨q1, 6, none⟩ = some (.slice ar m kr)) := ⟨⟨Xb.cell 0, Xb.cell 1⟩, ⟨Db.cell 0, Db.cell 1, Db.cell 2, Db.cell 3, Db.cell 4, Db.cell 5, Db.cell 6⟩, ⟨Cb.cell 0, Cb.cell 1, Cb.cell 2, Cb.cell 3, Cb.cell 4, Cb.cell 5, Cb.cell 6⟩⟩
        replace Mb := Mb.drew
        replace Cb := Cb.drew
        replace R1 := R1.drew
        replace R2 := R2.drew
        replace Xb := Xb.drew
        replace Db := Db.drew
        replace Yb := Yb.drew
        replace OX := OX.drew
        replace OM8 := OM8.drew
        replace OD : OwnC _ _ _ _ _ _ := OD.on (drew_lowC WT) (Nat.le_refl _); replace bb := bb.drew
        obtain ⟨WD16, hWD⟩ : ∃ W, WT.drew = W := ⟨_, rfl⟩
        refine wp_region_held_drew (S := fun W => (W.cell? ⟨q4, 0, none⟩ = some (.int .i64 mc) ∧ W.cell? ⟨q4, 1, none⟩ = some (.slice a8 n8 k8)) ∧ (W.cell? ⟨q5, 0, none⟩ = some (.int .i64 who) ∧ W.cell? ⟨q5, 1, none⟩ = some (.int .i64 rv) ∧ W.cell? ⟨q5, 2, none⟩ = some (.int .i64 1) ∧ W.cell? ⟨q5, 3, none⟩ = some (.int .i64 ((k : Int) + 1)) ∧ W.cell? ⟨q5, 4, none⟩ = some (.int .i64 wv) ∧ W.cell? ⟨q5, 5, none⟩ = some (.slice a2 n k2) ∧ W.cell? ⟨q5, 6, none⟩ = some (.slice d2 m l2)) ∧ (W.cell? ⟨q1, 0, none⟩ = some (.int .i64 who) ∧ W.cell? ⟨q1, 1, none⟩ = some (.int .i64 rv) ∧ W.cell? ⟨q1, 2, none⟩ = some (.int .i64 1) ∧ W.cell? ⟨q1, 3, none⟩ = some (.int .i64 (k : Int)) ∧ W.cell? ⟨q1, 4, none⟩ = some (.int .i64 wv) ∧ W.cell? ⟨q1, 5, none⟩ = some (.slice (some ⟨b, off, none⟩) n kp) ∧ W.cell? ⟨q1, 6, none⟩ = some (.slice ar m kr))) (by kernel_rfl) cCM (fun hHeld => ?_)
        rw [hWD] at Mb Cb R1 R2 Xb Db Yb OX OM8 OD bb hHeld ⊢
        clear hWD cCM
        refine takeH (i := 0) (some 234) (.agg #[.int .i64 mc, .slice a8 n8 k8]) rfl rfl (by kernel_rfl) (by kernel_rfl) (by kernel_rfl) (fun _ _ _ h => h) (Or.inl ⟨by rfl, fun w hSw => by (try dsimp only at hSw); go_simp⟩) (by assumption) ?_
        try simp only [Act.put, List.setIfInBounds_toArray, List.set_cons_zero, List.set_cons_succ]
        refine takeH (i := 1) (some 235) (.agg #[.int .i64 who, .int .i64 rv, .int .i64 1, .int .i64 ((k : Int) + 1), .int .i64 wv, .slice a2 n k2, .slice d2 m l2]) rfl rfl (by kernel_rfl) (by kernel_rfl) (by kernel_rfl) (fun _ _ _ h => h) (Or.inl ⟨by rfl, fun w hSw => by (try dsimp only at hSw); go_simp⟩) (by assumption) ?_
        try simp only [Act.put, List.setIfInBounds_toArray, List.set_cons_zero, List.set_cons_succ]
        have r1 := fun i => R1.cell i; have f1 := fun i => R1.froz i
        refine wpAnyH_ready (rs := [2]) (by kernel_rfl) (by simp) ?_
        refine AllReadyH.cons rfl (fun K hK => ?_) AllReadyH.nil
        go_simp
        have ooOX := wordsOff OX R1 (by decide)
        have ooOM8 := wordsOff OM8 R1 (by decide)
        have ooD := twoOff OD R1 (by decide) (by decide)
        have Mb_ := ((Mb.other (show g ≠ q2 by omega) 0 (.int .i64 mc)).other (show g ≠ q2 by omega) 1 (.slice a8 n8 k8))
        have Cb_ := ((Cb.other (show q1 ≠ q2 by omega) 0 (.int .i64 mc)).other (show q1 ≠ q2 by omega) 1 (.slice a8 n8 k8))
        have R1_ := ((R1.set 0 (.int .i64 mc)).set 1 (.slice a8 n8 k8))
        simp only [List.setIfInBounds_toArray, List.set_cons_zero, List.set_cons_succ] at R1_
        have R2_ := ((R2.other (show q3 ≠ q2 by omega) 0 (.int .i64 mc)).other (show q3 ≠ q2 by omega) 1 (.slice a8 n8 k8))
        have Xb_ := ((Xb.other (show q4 ≠ q2 by omega) 0 (.int .i64 mc)).other (show q4 ≠ q2 by omega) 1 (.slice a8 n8 k8))
        have Db_ := ((Db.other (show q5 ≠ q2 by omega) 0 (.int .i64 mc)).other (show q5 ≠ q2 by omega) 1 (.slice a8 n8 k8))
        have Yb_ := ((Yb.other (show q8 ≠ q2 by omega) 0 (.int .i64 mc)).other (show q8 ≠ q2 by omega) 1 (.slice a8 n8 k8))
        replace OX := (Words.Owns.other (Words.Owns.other OX (p := ⟨q2, 0, none⟩) ooOX (.int .i64 mc)) (p := ⟨q2, 1, none⟩) ooOX (.slice a8 n8 k8))
        replace OM8 := (Words.Owns.other (Words.Owns.other OM8 (p := ⟨q2, 0, none⟩) ooOM8 (.int .i64 mc)) (p := ⟨q2, 1, none⟩) ooOM8 (.slice a8 n8 k8))
        replace OD := (ownC_other (i := 1) (u := .slice a8 n8 k8) (ownC_other (i := 0) (u := .int .i64 mc) OD ooD) ooD)
        replace bb := ((bb.setCell (p := ⟨q2, 0, none⟩) (show g ≤ q2 by omega) (.int .i64 mc)).setCell (p := ⟨q2, 1, none⟩) (show g ≤ q2 by omega) (.slice a8 n8 k8))
        have Mb := Mb_; have Cb := Cb_; have R1 := R1_; have R2 := R2_; have Xb := Xb_; have Db := Db_; have Yb := Yb_
        clear Mb_ Cb_ R1_ R2_ Xb_ Db_ Yb_ ooOX ooOM8 ooD
        obtain ⟨V17, hWN⟩ : ∃ W, ((WD16.setCell ⟨q2, 0, none⟩ (.int .i64 mc)).setCell ⟨q2, 1, none⟩ (.slice a8 n8 k8)) = W := ⟨_, rfl⟩
        rw [hWN] at Mb Cb R1 R2 Xb Db Yb OX OM8 OD bb ⊢
        clear hWN r1 f1
        refine hK.out _ _ ⟨⟨Xb.cell 0, Xb.cell 1⟩, ⟨Db.cell 0, Db.cell 1, Db.cell 2, Db.cell 3, Db.cell 4, Db.cell 5, Db.cell 6⟩, ⟨Cb.cell 0, Cb.cell 1, Cb.cell 2, Cb.cell 3, Cb.cell 4, Cb.cell 5, Cb.cell 6⟩⟩ (fun _ => ?_)
        clear hK K
        try simp only [Act.put, List.setIfInBounds_toArray, List.set_cons_zero, List.set_cons_succ]
        have r1 := fun i => R2.cell i; have f1 := fun i => R2.froz i
        refine wpAnyH_ready (rs := [3]) (by kernel_rfl) (by simp) ?_
        refine AllReadyH.cons rfl (fun K hK => ?_) AllReadyH.nil
        go_simp
        have ooOX := wordsOff OX R2 (by decide)
        have ooOM8 := wordsOff OM8 R2 (by decide)
        have ooD := twoOff OD R2 (by decide) (by decide)
        have Mb_ := (((((((Mb.other (show g ≠ q3 by omega) 0 (.int .i64 who)).other (show g ≠ q3 by omega) 1 (.int .i64 rv)).other (show g ≠ q3 by omega) 2 (.int .i64 1)).other (show g ≠ q3 by omega) 3 (.int .i64 ((k : Int) + 1))).other (show g ≠ q3 by omega) 4 (.int .i64 wv)).other (show g ≠ q3 by omega) 5 (.slice a2 n k2)).other (show g ≠ q3 by omega) 6 (.slice d2 m l2))
        have Cb_ := (((((((Cb.other (show q1 ≠ q3 by omega) 0 (.int .i64 who)).other (show q1 ≠ q3 by omega) 1 (.int .i64 rv)).other (show q1 ≠ q3 by omega) 2 (.int .i64 1)).other (show q1 ≠ q3 by omega) 3 (.int .i64 ((k : Int) + 1))).other (show q1 ≠ q3 by omega) 4 (.int .i64 wv)).other (show q1 ≠ q3 by omega) 5 (.slice a2 n k2)).other (show q1 ≠ q3 by omega) 6 (.slice d2 m l2))
        have R1_ := (((((((R1.other (show q2 ≠ q3 by omega) 0 (.int .i64 who)).other (show q2 ≠ q3 by omega) 1 (.int .i64 rv)).other (show q2 ≠ q3 by omega) 2 (.int .i64 1)).other (show q2 ≠ q3 by omega) 3 (.int .i64 ((k : Int) + 1))).other (show q2 ≠ q3 by omega) 4 (.int .i64 wv)).other (show q2 ≠ q3 by omega) 5 (.slice a2 n k2)).other (show q2 ≠ q3 by omega) 6 (.slice d2 m l2))
        have R2_ := (((((((R2.set 0 (.int .i64 who)).set 1 (.int .i64 rv)).set 2 (.int .i64 1)).set 3 (.int .i64 ((k : Int) + 1))).set 4 (.int .i64 wv)).set 5 (.slice a2 n k2)).set 6 (.slice d2 m l2))
        simp only [List.setIfInBounds_toArray, List.set_cons_zero, List.set_cons_succ] at R2_
        have Xb_ := (((((((Xb.other (show q4 ≠ q3 by omega) 0 (.int .i64 who)).other (show q4 ≠ q3 by omega) 1 (.int .i64 rv)).other (show q4 ≠ q3 by omega) 2 (.int .i64 1)).other (show q4 ≠ q3 by omega) 3 (.int .i64 ((k : Int) + 1))).other (show q4 ≠ q3 by omega) 4 (.int .i64 wv)).other (show q4 ≠ q3 by omega) 5 (.slice a2 n k2)).other (show q4 ≠ q3 by omega) 6 (.slice d2 m l2))
        have Db_ := (((((((Db.other (show q5 ≠ q3 by omega) 0 (.int .i64 who)).other (show q5 ≠ q3 by omega) 1 (.int .i64 rv)).other (show q5 ≠ q3 by omega) 2 (.int .i64 1)).other (show q5 ≠ q3 by omega) 3 (.int .i64 ((k : Int) + 1))).other (show q5 ≠ q3 by omega) 4 (.int .i64 wv)).other (show q5 ≠ q3 by omega) 5 (.slice a2 n k2)).other (show q5 ≠ q3 by omega) 6 (.slice d2 m l2))
        have Yb_ := (((((((Yb.other (show q8 ≠ q3 by omega) 0 (.int .i64 who)).other (show q8 ≠ q3 by omega) 1 (.int .i64 rv)).other (show q8 ≠ q3 by omega) 2 (.int .i64 1)).other (show q8 ≠ q3 by omega) 3 (.int .i64 ((k : Int) + 1))).other (show q8 ≠ q3 by omega) 4 (.int .i64 wv)).other (show q8 ≠ q3 by omega) 5 (.slice a2 n k2)).other (show q8 ≠ q3 by omega) 6 (.slice d2 m l2))
        replace OX := (Words.Owns.other (Words.Owns.other (Words.Owns.other (Words.Owns.other (Words.Owns.other (Words.Owns.other (Words.Owns.other OX (p := ⟨q3, 0, none⟩) ooOX (.int .i64 who)) (p := ⟨q3, 1, none⟩) ooOX (.int .i64 rv)) (p := ⟨q3, 2, none⟩) ooOX (.int .i64 1)) (p := ⟨q3, 3, none⟩) ooOX (.int .i64 ((k : Int) + 1))) (p := ⟨q3, 4, none⟩) ooOX (.int .i64 wv)) (p := ⟨q3, 5, none⟩) ooOX (.slice a2 n k2)) (p := ⟨q3, 6, none⟩) ooOX (.slice d2 m l2))
        replace OM8 := (Words.Owns.other (Words.Owns.other (Words.Owns.other (Words.Owns.other (Words.Owns.other (Words.Owns.other (Words.Owns.other OM8 (p := ⟨q3, 0, none⟩) ooOM8 (.int .i64 who)) (p := ⟨q3, 1, none⟩) ooOM8 (.int .i64 rv)) (p := ⟨q3, 2, none⟩) ooOM8 (.int .i64 1)) (p := ⟨q3, 3, none⟩) ooOM8 (.int .i64 ((k : Int) + 1))) (p := ⟨q3, 4, none⟩) ooOM8 (.int .i64 wv)) (p := ⟨q3, 5, none⟩) ooOM8 (.slice a2 n k2)) (p := ⟨q3, 6, none⟩) ooOM8 (.slice d2 m l2))
        replace OD := (ownC_other (i := 6) (u := .slice d2 m l2) (ownC_other (i := 5) (u := .slice a2 n k2) (ownC_other (i := 4) (u := .int .i64 wv) (ownC_other (i := 3) (u := .int .i64 ((k : Int) + 1)) (ownC_other (i := 2) (u := .int .i64 1) (ownC_other (i := 1) (u := .int .i64 rv) (ownC_other (i := 0) (u := .int .i64 who) OD ooD) ooD) ooD) ooD) ooD) ooD) ooD)
        replace bb := (((((((bb.setCell (p := ⟨q3, 0, none⟩) (show g ≤ q3 by omega) (.int .i64 who)).setCell (p := ⟨q3, 1, none⟩) (show g ≤ q3 by omega) (.int .i64 rv)).setCell (p := ⟨q3, 2, none⟩) (show g ≤ q3 by omega) (.int .i64 1)).setCell (p := ⟨q3, 3, none⟩) (show g ≤ q3 by omega) (.int .i64 ((k : Int) + 1))).setCell (p := ⟨q3, 4, none⟩) (show g ≤ q3 by omega) (.int .i64 wv)).setCell (p := ⟨q3, 5, none⟩) (show g ≤ q3 by omega) (.slice a2 n k2)).setCell (p := ⟨q3, 6, none⟩) (show g ≤ q3 by omega) (.slice d2 m l2))
        have Mb := Mb_; have Cb := Cb_; have R1 := R1_; have R2 := R2_; have Xb := Xb_; have Db := Db_; have Yb := Yb_
        clear Mb_ Cb_ R1_ R2_ Xb_ Db_ Yb_ ooOX ooOM8 ooD
        obtain ⟨V18, hWN⟩ : ∃ W, (((((((V17.setCell ⟨q3, 0, none⟩ (.int .i64 who)).setCell ⟨q3, 1, none⟩ (.int .i64 rv)).setCell ⟨q3, 2, none⟩ (.int .i64 1)).setCell ⟨q3, 3, none⟩ (.int .i64 ((k : Int) + 1))).setCell ⟨q3, 4, none⟩ (.int .i64 wv)).setCell ⟨q3, 5, none⟩ (.slice a2 n k2)).setCell ⟨q3, 6, none⟩ (.slice d2 m l2)) = W := ⟨_, rfl⟩
        rw [hWN] at Mb Cb R1 R2 Xb Db Yb OX OM8 OD bb ⊢
        clear hWN r1 f1
        refine hK.out _ _ ⟨⟨Xb.cell 0, Xb.cell 1⟩, ⟨Db.cell 0, Db.cell 1, Db.cell 2, Db.cell 3, Db.cell 4, Db.cell 5, Db.cell 6⟩, ⟨Cb.cell 0, Cb.cell 1, Cb.cell 2, Cb.cell 3, Cb.cell 4, Cb.cell 5, Cb.cell 6⟩⟩ (fun _ => ?_)
        clear hK K
        try simp only [Act.put, List.setIfInBounds_toArray, List.set_cons_zero, List.set_cons_succ]
        refine wpAnyH_done (by kernel_rfl) ?_ _
        have r1 := fun i => R1.cell i; have r2 := fun i => R2.cell i
        clear hHeld
        go_wp2
        refine bodyPost_ret (v := .tuple #[.agg #[.int .i64 mc, .slice a8 n8 k8], .agg #[.int .i64 who, .int .i64 rv, .int .i64 1, .int .i64 ((k : Int) + 1), .int .i64 wv, .slice a2 n k2, .slice d2 m l2]]) (by simp [results, Tryd.results6, go_sem, r1, r2]) rfl ?_
        have OM := OM8
        exact told_mk HZ.out HN8.out HN.out HM2.out hg OM OD bb
  · go_simp
    have bA := alloc_below WD7 (.cells #[.int .i64 0, .slice none 0 0] 33)
    have Yb := Blk.new WD7 #[.int .i64 0, .slice none 0 0] 33
    have hl5 : q5 < WD7.heap.size := Db.lt
    replace e0 := (bA.cell (p := ⟨b, off + k * 2, none⟩) (show b < _ by have := bb.size; omega)).trans e0
    replace e1 := (bA.cell (p := ⟨b, off + k * 2 + 1, none⟩) (show b < _ by have := bb.size; omega)).trans e1
    replace Mb := Mb.on bA Mb.lt
    replace Cb := Cb.on bA Cb.lt
    replace R1 := R1.on bA R1.lt
    replace R2 := R2.on bA R2.lt
    replace Xb := Xb.on bA Xb.lt
    replace Db := Db.on bA Db.lt
    replace OX := OX.on bA (Nat.le_refl _)
    replace OD := OD.on bA (Nat.le_refl _)
    replace hM := hM.on bA (by have := bb.size; omega); replace hC := hC.on bA (by have := bb.size; omega)
    replace bb := bb.trans (bA.mono (by have := bb.size; omega))
    refine hK.out _ _ ⟨⟨Cb.cell 0, Cb.cell 1, Cb.cell 2, Cb.cell 3, Cb.cell 4, Cb.cell 5, Cb.cell 6⟩, ⟨Mb.cell 0, Mb.cell 1⟩, e0, e1⟩ (fun _ => ?_)
    clear hK K bA
    try simp only [Act.put, List.setIfInBounds_toArray, List.set_cons_zero, List.set_cons_succ]
    obtain ⟨q8, hq8⟩ : ∃ q, WD7.heap.size = q := ⟨_, rfl⟩
    have l58 : q5 < q8 := by omega
    obtain ⟨VA, hVA⟩ : ∃ W, WD7.alloc (.cells #[.int .i64 0, .slice none 0 0] 33) = W := ⟨_, rfl⟩
    rw [hVA] at Mb Cb R1 R2 Xb Db Yb OX OD bb hM hC e0 e1 ⊢
    rw [hq8] at Yb ⊢
    clear hVA hq8 hl5
    refine wpAnyH_ready (rs := [10]) (by kernel_rfl) (by simp) ?_
    refine AllReadyH.cons rfl (fun K hK => ?_) AllReadyH.nil
    go_simp
    refine (hlk _ VA hM (by have := bb.size; omega)).mono ?_
    rintro e V1 ⟨v8, rfl, OM8, b8⟩
    obtain ⟨a8, k8, rfl⟩ := OM8.form
    obtain ⟨n8, hn8⟩ : ∃ n, zs.length = n := ⟨_, rfl⟩
    rw [hn8] at OM8 ⊢
    have HN8 := (show Hid (zs.length = n8) from hn8)
    clear hn8
    replace OM8 := OM8.mono (show g ≤ VA.heap.size by have := bb.size; omega)
    replace e0 := (b8.cell (p := ⟨b, off + k * 2, none⟩) (show b < _ by have := bb.size; omega)).trans e0
    replace e1 := (b8.cell (p := ⟨b, off + k * 2 + 1, none⟩) (show b < _ by have := bb.size; omega)).trans e1
    replace Mb := Mb.on b8 Mb.lt
    replace Cb := Cb.on b8 Cb.lt
    replace R1 := R1.on b8 R1.lt
    replace R2 := R2.on b8 R2.lt
    replace Xb := Xb.on b8 Xb.lt
    replace Db := Db.on b8 Db.lt
    replace Yb := Yb.on b8 Yb.lt
    replace OX := OX.on b8 (Nat.le_refl _)
    replace OD := OD.on b8 (Nat.le_refl _)
    replace hM := hM.on b8 (by have := bb.size; omega); replace hC := hC.on b8 (by have := bb.size; omega)
    replace bb := bb.trans (b8.mono (by have := bb.size; omega))
    clear b8
    go_simp
    refine hK.out _ _ ⟨⟨Cb.cell 0, Cb.cell 1, Cb.cell 2, Cb.cell 3, Cb.cell 4, Cb.cell 5, Cb.cell 6⟩, ⟨Mb.cell 0, Mb.cell 1⟩, e0, e1⟩ (fun _ => ?_)
    clear hK K
    try simp only [Act.put, List.setIfInBounds_toArray, List.set_cons_zero, List.set_cons_succ]
    refine takeH (i := 11) (some 38) (.tuple #[.agg #[.int .i64 mc, .slice a8 n8 k8], .bool lm]) rfl rfl (by kernel_rfl) (by kernel_rfl) (by kernel_rfl) (fun _ _ _ h => h) (Or.inl ⟨by rfl, fun w hSw => by (try dsimp only at hSw); go_simp⟩) (by assumption) ?_
    try simp only [Act.put, List.setIfInBounds_toArray, List.set_cons_zero, List.set_cons_succ]
    refine takeH (i := 12) (some 50) (.agg #[.int .i64 mc, .slice a8 n8 k8]) rfl rfl (by kernel_rfl) (by kernel_rfl) (by kernel_rfl) (fun _ _ _ h => h) (Or.inl ⟨by rfl, fun w hSw => by (try dsimp only at hSw); go_simp⟩) (by assumption) ?_
    try simp only [Act.put, List.setIfInBounds_toArray, List.set_cons_zero, List.set_cons_succ]
    refine takeH (i := 13) (some 51) (.bool lm) rfl rfl (by kernel_rfl) (by kernel_rfl) (by kernel_rfl) (fun _ _ _ h => h) (Or.inl ⟨by rfl, fun w hSw => by (try dsimp only at hSw); go_simp⟩) (by assumption) ?_
    try simp only [Act.put, List.setIfInBounds_toArray, List.set_cons_zero, List.set_cons_succ]
    have y1 := fun i => Yb.cell i; have y2 := fun i => Yb.froz i
    refine wpAnyH_ready (rs := [15]) (by kernel_rfl) (by simp) ?_
    refine AllReadyH.cons rfl (fun K hK => ?_) AllReadyH.nil
    go_simp
    have ooOX := wordsOff OX Yb (by decide)
    have ooOM8 := wordsOff OM8 Yb (by decide)
    have ooD := twoOff OD Yb (by decide) (by decide)
    have Mb_ := ((Mb.other (show g ≠ q8 by omega) 0 (.int .i64 mc)).other (show g ≠ q8 by omega) 1 (.slice a8 n8 k8))
    have Cb_ := ((Cb.other (show q1 ≠ q8 by omega) 0 (.int .i64 mc)).other (show q1 ≠ q8 by omega) 1 (.slice a8 n8 k8))
    have R1_ := ((R1.other (show q2 ≠ q8 by omega) 0 (.int .i64 mc)).other (show q2 ≠ q8 by omega) 1 (.slice a8 n8 k8))
    have R2_ := ((R2.other (show q3 ≠ q8 by omega) 0 (.int .i64 mc)).other (show q3 ≠ q8 by omega) 1 (.slice a8 n8 k8))
    have Xb_ := ((Xb.other (show q4 ≠ q8 by omega) 0 (.int .i64 mc)).other (show q4 ≠ q8 by omega) 1 (.slice a8 n8 k8))
    have Db_ := ((Db.other (show q5 ≠ q8 by omega) 0 (.int .i64 mc)).other (show q5 ≠ q8 by omega) 1 (.slice a8 n8 k8))
    have Yb_ := ((Yb.set 0 (.int .i64 mc)).set 1 (.slice a8 n8 k8))
    simp only [List.setIfInBounds_toArray, List.set_cons_zero, List.set_cons_succ] at Yb_
    replace OX := (Words.Owns.other (Words.Owns.other OX (p := ⟨q8, 0, none⟩) ooOX (.int .i64 mc)) (p := ⟨q8, 1, none⟩) ooOX (.slice a8 n8 k8))
    replace OM8 := (Words.Owns.other (Words.Owns.other OM8 (p := ⟨q8, 0, none⟩) ooOM8 (.int .i64 mc)) (p := ⟨q8, 1, none⟩) ooOM8 (.slice a8 n8 k8))
    replace OD := (ownC_other (i := 1) (u := .slice a8 n8 k8) (ownC_other (i := 0) (u := .int .i64 mc) OD ooD) ooD)
    replace bb := ((bb.setCell (p := ⟨q8, 0, none⟩) (show g ≤ q8 by omega) (.int .i64 mc)).setCell (p := ⟨q8, 1, none⟩) (show g ≤ q8 by omega) (.slice a8 n8 k8))
    replace e0 : ((V1.setCell ⟨q8, 0, none⟩ (.int .i64 mc)).setCell ⟨q8, 1, none⟩ (.slice a8 n8 k8)).cell? ⟨b, off + k * 2, none⟩ = _ := ((cell_ne (show b ≠ q8 by omega)).trans ((cell_ne (show b ≠ q8 by omega)).trans e0))
    replace e1 : ((V1.setCell ⟨q8, 0, none⟩ (.int .i64 mc)).setCell ⟨q8, 1, none⟩ (.slice a8 n8 k8)).cell? ⟨b, off + k * 2 + 1, none⟩ = _ := ((cell_ne (show b ≠ q8 by omega)).trans ((cell_ne (show b ≠ q8 by omega)).trans e1))
    have Mb := Mb_; have Cb := Cb_; have R1 := R1_; have R2 := R2_; have Xb := Xb_; have Db := Db_; have Yb := Yb_
    clear Mb_ Cb_ R1_ R2_ Xb_ Db_ Yb_ ooOX ooOM8 ooD
    obtain ⟨VS, hWN⟩ : ∃ W, ((V1.setCell ⟨q8, 0, none⟩ (.int .i64 mc)).setCell ⟨q8, 1, none⟩ (.slice a8 n8 k8)) = W := ⟨_, rfl⟩
    rw [hWN] at Mb Cb R1 R2 Xb Db Yb OX OM8 OD bb e0 e1 ⊢
    clear hWN y1 y2
    refine hK.out _ _ ⟨⟨Cb.cell 0, Cb.cell 1, Cb.cell 2, Cb.cell 3, Cb.cell 4, Cb.cell 5, Cb.cell 6⟩, ⟨Mb.cell 0, Mb.cell 1⟩, e0, e1⟩ (fun _ => ?_)
    clear hK K
    try simp only [Act.put, List.setIfInBounds_toArray, List.set_cons_zero, List.set_cons_succ]
    refine takeH (i := 16) (some 9) (.bool lm) rfl rfl (by kernel_rfl) (by kernel_rfl) (by kernel_rfl) (fun _ _ _ h => h) (Or.inl ⟨by rfl, fun w hSw => by (try dsimp only at hSw); go_simp⟩) (by assumption) ?_
    try simp only [Act.put, List.setIfInBounds_toArray, List.set_cons_zero, List.set_cons_succ]
    refine wpAnyH_done (by kernel_rfl) ?_ _
    clear hHeld
    cases lm
    · have HZ : Hid (Z = ⟨mc, ws, (phB k), (atB k), wv⟩) := by show _ = _; rw [HY.out, ← HZS.out, lock_same HLM.out]; rfl
      go_wp2_with fail
      have cCM : (VS.cell? ⟨q4, 0, none⟩ = some (.int .i64 mc) ∧ VS.cell? ⟨q4, 1, none⟩ = some (.slice ax nw kx)) ∧ (VS.cell? ⟨q5, 0, none⟩ = some (.int .i64 who) ∧ VS.cell? ⟨q5, 1, none⟩ = some (.int .i64 rv) ∧ VS.cell? ⟨q5, 2, none⟩ = some (.int .i64 1) ∧ VS.cell? ⟨q5, 3, none⟩ = some (.int .i64 (k : Int)) ∧ VS.cell? ⟨q5, 4, none⟩ = some (.int .i64 wv) ∧ VS.cell? ⟨q5, 5, none⟩ = some (.slice a2 n k2) ∧ VS.cell? ⟨q5, 6, none⟩ = some (.slice d2 m l2)) ∧ (VS.cell? ⟨q1, 0, none⟩ = some (.int .i64 who) ∧ VS.cell? ⟨q1, 1, none⟩ = some (.int .i64 rv) ∧ VS.cell? ⟨q1, 2, none⟩ = some (.int .i64 1) ∧ VS.cell? ⟨q1, 3, none⟩ = some (.int .i64 (k : Int)) ∧ VS.cell? ⟨q1, 4, none⟩ = some (.int .i64 wv) ∧ VS.cell? ⟨q1, 5, none⟩ = some (.slice (some ⟨b, off, none⟩) n kp) ∧ VS.cell? ⟨q1, 6, none⟩ = some (.slice ar m kr)) := ⟨⟨Xb.cell 0, Xb.cell 1⟩, ⟨Db.cell 0, Db.cell 1, Db.cell 2, Db.cell 3, Db.cell 4, Db.cell 5, Db.cell 6⟩, ⟨Cb.cell 0, Cb.cell 1, Cb.cell 2, Cb.cell 3, Cb.cell 4, Cb.cell 5, Cb.cell 6⟩⟩
      replace Mb := Mb.drew
      replace Cb := Cb.drew
      replace R1 := R1.drew
      replace R2 := R2.drew
      replace Xb := Xb.drew
      replace Db := Db.drew
      replace Yb := Yb.drew
      replace OX := OX.drew
      replace OM8 := OM8.drew
      replace OD : OwnC _ _ _ _ _ _ := OD.on (drew_lowC VS) (Nat.le_refl _); replace bb := bb.drew
      obtain ⟨WD19, hWD⟩ : ∃ W, VS.drew = W := ⟨_, rfl⟩
      refine wp_region_held_drew (S := fun W => (W.cell? ⟨q4, 0, none⟩ = some (.int .i64 mc) ∧ W.cell? ⟨q4, 1, none⟩ = some (.slice ax nw kx)) ∧ (W.cell? ⟨q5, 0, none⟩ = some (.int .i64 who) ∧ W.cell? ⟨q5, 1, none⟩ = some (.int .i64 rv) ∧ W.cell? ⟨q5, 2, none⟩ = some (.int .i64 1) ∧ W.cell? ⟨q5, 3, none⟩ = some (.int .i64 (k : Int)) ∧ W.cell? ⟨q5, 4, none⟩ = some (.int .i64 wv) ∧ W.cell? ⟨q5, 5, none⟩ = some (.slice a2 n k2) ∧ W.cell? ⟨q5, 6, none⟩ = some (.slice d2 m l2)) ∧ (W.cell? ⟨q1, 0, none⟩ = some (.int .i64 who) ∧ W.cell? ⟨q1, 1, none⟩ = some (.int .i64 rv) ∧ W.cell? ⟨q1, 2, none⟩ = some (.int .i64 1) ∧ W.cell? ⟨q1, 3, none⟩ = some (.int .i64 (k : Int)) ∧ W.cell? ⟨q1, 4, none⟩ = some (.int .i64 wv) ∧ W.cell? ⟨q1, 5, none⟩ = some (.slice (some ⟨b, off, none⟩) n kp) ∧ W.cell? ⟨q1, 6, none⟩ = some (.slice ar m kr))) (by kernel_rfl) cCM (fun hHeld => ?_)
      rw [hWD] at Mb Cb R1 R2 Xb Db Yb OX OM8 OD bb hHeld ⊢
      clear hWD cCM
      refine takeH (i := 0) (some 54) (.agg #[.int .i64 mc, .slice ax nw kx]) rfl rfl (by kernel_rfl) (by kernel_rfl) (by kernel_rfl) (fun _ _ _ h => h) (Or.inl ⟨by rfl, fun w hSw => by (try dsimp only at hSw); go_simp⟩) (by assumption) ?_
      try simp only [Act.put, List.setIfInBounds_toArray, List.set_cons_zero, List.set_cons_succ]
      refine takeH (i := 1) (some 55) (.agg #[.int .i64 who, .int .i64 rv, .int .i64 1, .int .i64 (k : Int), .int .i64 wv, .slice a2 n k2, .slice d2 m l2]) rfl rfl (by kernel_rfl) (by kernel_rfl) (by kernel_rfl) (fun _ _ _ h => h) (Or.inl ⟨by rfl, fun w hSw => by (try dsimp only at hSw); go_simp⟩) (by assumption) ?_
      try simp only [Act.put, List.setIfInBounds_toArray, List.set_cons_zero, List.set_cons_succ]
      refine takeH (i := 2) (some 56) (.pointer (some ⟨q1, 3, none⟩)) rfl rfl (by kernel_rfl) (by kernel_rfl) (by kernel_rfl) (fun _ _ _ h => h) (Or.inl ⟨by rfl, fun w hSw => by (try dsimp only at hSw); go_simp⟩) (by assumption) ?_
      try simp only [Act.put, List.setIfInBounds_toArray, List.set_cons_zero, List.set_cons_succ]
      refine takeH (i := 3) (some 57) (.int .i64 k) rfl rfl (by kernel_rfl) (by kernel_rfl) (by kernel_rfl) (fun _ _ _ h => h) (Or.inl ⟨by rfl, fun w hSw => by (try dsimp only at hSw); go_simp⟩) (by assumption) ?_
      try simp only [Act.put, List.setIfInBounds_toArray, List.set_cons_zero, List.set_cons_succ]
      refine wpAnyH_ready (rs := [4]) (by kernel_rfl) (by simp) ?_
      refine AllReadyH.cons rfl (fun K hK => ?_) AllReadyH.nil
      go_simp
      refine (backS who rv 1 k wv k a2 d2 n k2 m l2 WD19 (by omega) (by omega)).mono ?_
      rintro e V21 ⟨rfl, b20⟩
      replace Mb := Mb.on b20 Mb.lt
      replace Cb := Cb.on b20 Cb.lt
      replace R1 := R1.on b20 R1.lt
      replace R2 := R2.on b20 R2.lt
      replace Xb := Xb.on b20 Xb.lt
      replace Db := Db.on b20 Db.lt
      replace Yb := Yb.on b20 Yb.lt
      replace OX := OX.on b20 (Nat.le_refl _)
      replace OM8 := OM8.on b20 (Nat.le_refl _)
      replace OD := OD.on b20 (Nat.le_refl _)
      replace bb := bb.trans (b20.mono (by have := bb.size; omega))
      clear b20
      go_simp
      refine hK.out _ _ ⟨⟨Xb.cell 0, Xb.cell 1⟩, ⟨Db.cell 0, Db.cell 1, Db.cell 2, Db.cell 3, Db.cell 4, Db.cell 5, Db.cell 6⟩, ⟨Cb.cell 0, Cb.cell 1, Cb.cell 2, Cb.cell 3, Cb.cell 4, Cb.cell 5, Cb.cell 6⟩⟩ (fun _ => ?_)
      clear hK K
      try simp only [Act.put, List.setIfInBounds_toArray, List.set_cons_zero, List.set_cons_succ]
      have r1 := fun i => R1.cell i; have f1 := fun i => R1.froz i
      refine wpAnyH_ready (rs := [5]) (by kernel_rfl) (by simp) ?_
      refine AllReadyH.cons rfl (fun K hK => ?_) AllReadyH.nil
      go_simp
      have ooOX := wordsOff OX R1 (by decide)
      have ooOM8 := wordsOff OM8 R1 (by decide)
      have ooD := twoOff OD R1 (by decide) (by decide)
      have Mb_ := ((Mb.other (show g ≠ q2 by omega) 0 (.int .i64 mc)).other (show g ≠ q2 by omega) 1 (.slice ax nw kx))
      have Cb_ := ((Cb.other (show q1 ≠ q2 by omega) 0 (.int .i64 mc)).other (show q1 ≠ q2 by omega) 1 (.slice ax nw kx))
      have R1_ := ((R1.set 0 (.int .i64 mc)).set 1 (.slice ax nw kx))
      simp only [List.setIfInBounds_toArray, List.set_cons_zero, List.set_cons_succ] at R1_
      have R2_ := ((R2.other (show q3 ≠ q2 by omega) 0 (.int .i64 mc)).other (show q3 ≠ q2 by omega) 1 (.slice ax nw kx))
      have Xb_ := ((Xb.other (show q4 ≠ q2 by omega) 0 (.int .i64 mc)).other (show q4 ≠ q2 by omega) 1 (.slice ax nw kx))
      have Db_ := ((Db.other (show q5 ≠ q2 by omega) 0 (.int .i64 mc)).other (show q5 ≠ q2 by omega) 1 (.slice ax nw kx))
      have Yb_ := ((Yb.other (show q8 ≠ q2 by omega) 0 (.int .i64 mc)).other (show q8 ≠ q2 by omega) 1 (.slice ax nw kx))
      replace OX := (Words.Owns.other (Words.Owns.other OX (p := ⟨q2, 0, none⟩) ooOX (.int .i64 mc)) (p := ⟨q2, 1, none⟩) ooOX (.slice ax nw kx))
      replace OM8 := (Words.Owns.other (Words.Owns.other OM8 (p := ⟨q2, 0, none⟩) ooOM8 (.int .i64 mc)) (p := ⟨q2, 1, none⟩) ooOM8 (.slice ax nw kx))
      replace OD := (ownC_other (i := 1) (u := .slice ax nw kx) (ownC_other (i := 0) (u := .int .i64 mc) OD ooD) ooD)
      replace bb := ((bb.setCell (p := ⟨q2, 0, none⟩) (show g ≤ q2 by omega) (.int .i64 mc)).setCell (p := ⟨q2, 1, none⟩) (show g ≤ q2 by omega) (.slice ax nw kx))
      have Mb := Mb_; have Cb := Cb_; have R1 := R1_; have R2 := R2_; have Xb := Xb_; have Db := Db_; have Yb := Yb_
      clear Mb_ Cb_ R1_ R2_ Xb_ Db_ Yb_ ooOX ooOM8 ooD
      obtain ⟨V22, hWN⟩ : ∃ W, ((V21.setCell ⟨q2, 0, none⟩ (.int .i64 mc)).setCell ⟨q2, 1, none⟩ (.slice ax nw kx)) = W := ⟨_, rfl⟩
      rw [hWN] at Mb Cb R1 R2 Xb Db Yb OX OM8 OD bb ⊢
      clear hWN r1 f1
      refine hK.out _ _ ⟨⟨Xb.cell 0, Xb.cell 1⟩, ⟨Db.cell 0, Db.cell 1, Db.cell 2, Db.cell 3, Db.cell 4, Db.cell 5, Db.cell 6⟩, ⟨Cb.cell 0, Cb.cell 1, Cb.cell 2, Cb.cell 3, Cb.cell 4, Cb.cell 5, Cb.cell 6⟩⟩ (fun _ => ?_)
      clear hK K
      try simp only [Act.put, List.setIfInBounds_toArray, List.set_cons_zero, List.set_cons_succ]
      have r1 := fun i => R2.cell i; have f1 := fun i => R2.froz i
      refine wpAnyH_ready (rs := [6]) (by kernel_rfl) (by simp) ?_
      refine AllReadyH.cons rfl (fun K hK => ?_) AllReadyH.nil
      go_simp
      have ooOX := wordsOff OX R2 (by decide)
      have ooOM8 := wordsOff OM8 R2 (by decide)
      have ooD := twoOff OD R2 (by decide) (by decide)
      have Mb_ := (((((((Mb.other (show g ≠ q3 by omega) 0 (.int .i64 who)).other (show g ≠ q3 by omega) 1 (.int .i64 rv)).other (show g ≠ q3 by omega) 2 (.int .i64 (phB k))).other (show g ≠ q3 by omega) 3 (.int .i64 (atB k))).other (show g ≠ q3 by omega) 4 (.int .i64 wv)).other (show g ≠ q3 by omega) 5 (.slice a2 n k2)).other (show g ≠ q3 by omega) 6 (.slice d2 m l2))
      have Cb_ := (((((((Cb.other (show q1 ≠ q3 by omega) 0 (.int .i64 who)).other (show q1 ≠ q3 by omega) 1 (.int .i64 rv)).other (show q1 ≠ q3 by omega) 2 (.int .i64 (phB k))).other (show q1 ≠ q3 by omega) 3 (.int .i64 (atB k))).other (show q1 ≠ q3 by omega) 4 (.int .i64 wv)).other (show q1 ≠ q3 by omega) 5 (.slice a2 n k2)).other (show q1 ≠ q3 by omega) 6 (.slice d2 m l2))
      have R1_ := (((((((R1.other (show q2 ≠ q3 by omega) 0 (.int .i64 who)).other (show q2 ≠ q3 by omega) 1 (.int .i64 rv)).other (show q2 ≠ q3 by omega) 2 (.int .i64 (phB k))).other (show q2 ≠ q3 by omega) 3 (.int .i64 (atB k))).other (show q2 ≠ q3 by omega) 4 (.int .i64 wv)).other (show q2 ≠ q3 by omega) 5 (.slice a2 n k2)).other (show q2 ≠ q3 by omega) 6 (.slice d2 m l2))
      have R2_ := (((((((R2.set 0 (.int .i64 who)).set 1 (.int .i64 rv)).set 2 (.int .i64 (phB k))).set 3 (.int .i64 (atB k))).set 4 (.int .i64 wv)).set 5 (.slice a2 n k2)).set 6 (.slice d2 m l2))
      simp only [List.setIfInBounds_toArray, List.set_cons_zero, List.set_cons_succ] at R2_
      have Xb_ := (((((((Xb.other (show q4 ≠ q3 by omega) 0 (.int .i64 who)).other (show q4 ≠ q3 by omega) 1 (.int .i64 rv)).other (show q4 ≠ q3 by omega) 2 (.int .i64 (phB k))).other (show q4 ≠ q3 by omega) 3 (.int .i64 (atB k))).other (show q4 ≠ q3 by omega) 4 (.int .i64 wv)).other (show q4 ≠ q3 by omega) 5 (.slice a2 n k2)).other (show q4 ≠ q3 by omega) 6 (.slice d2 m l2))
      have Db_ := (((((((Db.other (show q5 ≠ q3 by omega) 0 (.int .i64 who)).other (show q5 ≠ q3 by omega) 1 (.int .i64 rv)).other (show q5 ≠ q3 by omega) 2 (.int .i64 (phB k))).other (show q5 ≠ q3 by omega) 3 (.int .i64 (atB k))).other (show q5 ≠ q3 by omega) 4 (.int .i64 wv)).other (show q5 ≠ q3 by omega) 5 (.slice a2 n k2)).other (show q5 ≠ q3 by omega) 6 (.slice d2 m l2))
      have Yb_ := (((((((Yb.other (show q8 ≠ q3 by omega) 0 (.int .i64 who)).other (show q8 ≠ q3 by omega) 1 (.int .i64 rv)).other (show q8 ≠ q3 by omega) 2 (.int .i64 (phB k))).other (show q8 ≠ q3 by omega) 3 (.int .i64 (atB k))).other (show q8 ≠ q3 by omega) 4 (.int .i64 wv)).other (show q8 ≠ q3 by omega) 5 (.slice a2 n k2)).other (show q8 ≠ q3 by omega) 6 (.slice d2 m l2))
      replace OX := (Words.Owns.other (Words.Owns.other (Words.Owns.other (Words.Owns.other (Words.Owns.other (Words.Owns.other (Words.Owns.other OX (p := ⟨q3, 0, none⟩) ooOX (.int .i64 who)) (p := ⟨q3, 1, none⟩) ooOX (.int .i64 rv)) (p := ⟨q3, 2, none⟩) ooOX (.int .i64 (phB k))) (p := ⟨q3, 3, none⟩) ooOX (.int .i64 (atB k))) (p := ⟨q3, 4, none⟩) ooOX (.int .i64 wv)) (p := ⟨q3, 5, none⟩) ooOX (.slice a2 n k2)) (p := ⟨q3, 6, none⟩) ooOX (.slice d2 m l2))
      replace OM8 := (Words.Owns.other (Words.Owns.other (Words.Owns.other (Words.Owns.other (Words.Owns.other (Words.Owns.other (Words.Owns.other OM8 (p := ⟨q3, 0, none⟩) ooOM8 (.int .i64 who)) (p := ⟨q3, 1, none⟩) ooOM8 (.int .i64 rv)) (p := ⟨q3, 2, none⟩) ooOM8 (.int .i64 (phB k))) (p := ⟨q3, 3, none⟩) ooOM8 (.int .i64 (atB k))) (p := ⟨q3, 4, none⟩) ooOM8 (.int .i64 wv)) (p := ⟨q3, 5, none⟩) ooOM8 (.slice a2 n k2)) (p := ⟨q3, 6, none⟩) ooOM8 (.slice d2 m l2))
      replace OD := (ownC_other (i := 6) (u := .slice d2 m l2) (ownC_other (i := 5) (u := .slice a2 n k2) (ownC_other (i := 4) (u := .int .i64 wv) (ownC_other (i := 3) (u := .int .i64 (atB k)) (ownC_other (i := 2) (u := .int .i64 (phB k)) (ownC_other (i := 1) (u := .int .i64 rv) (ownC_other (i := 0) (u := .int .i64 who) OD ooD) ooD) ooD) ooD) ooD) ooD) ooD)
      replace bb := (((((((bb.setCell (p := ⟨q3, 0, none⟩) (show g ≤ q3 by omega) (.int .i64 who)).setCell (p := ⟨q3, 1, none⟩) (show g ≤ q3 by omega) (.int .i64 rv)).setCell (p := ⟨q3, 2, none⟩) (show g ≤ q3 by omega) (.int .i64 (phB k))).setCell (p := ⟨q3, 3, none⟩) (show g ≤ q3 by omega) (.int .i64 (atB k))).setCell (p := ⟨q3, 4, none⟩) (show g ≤ q3 by omega) (.int .i64 wv)).setCell (p := ⟨q3, 5, none⟩) (show g ≤ q3 by omega) (.slice a2 n k2)).setCell (p := ⟨q3, 6, none⟩) (show g ≤ q3 by omega) (.slice d2 m l2))
      have Mb := Mb_; have Cb := Cb_; have R1 := R1_; have R2 := R2_; have Xb := Xb_; have Db := Db_; have Yb := Yb_
      clear Mb_ Cb_ R1_ R2_ Xb_ Db_ Yb_ ooOX ooOM8 ooD
      obtain ⟨V23, hWN⟩ : ∃ W, (((((((V22.setCell ⟨q3, 0, none⟩ (.int .i64 who)).setCell ⟨q3, 1, none⟩ (.int .i64 rv)).setCell ⟨q3, 2, none⟩ (.int .i64 (phB k))).setCell ⟨q3, 3, none⟩ (.int .i64 (atB k))).setCell ⟨q3, 4, none⟩ (.int .i64 wv)).setCell ⟨q3, 5, none⟩ (.slice a2 n k2)).setCell ⟨q3, 6, none⟩ (.slice d2 m l2)) = W := ⟨_, rfl⟩
      rw [hWN] at Mb Cb R1 R2 Xb Db Yb OX OM8 OD bb ⊢
      clear hWN r1 f1
      refine hK.out _ _ ⟨⟨Xb.cell 0, Xb.cell 1⟩, ⟨Db.cell 0, Db.cell 1, Db.cell 2, Db.cell 3, Db.cell 4, Db.cell 5, Db.cell 6⟩, ⟨Cb.cell 0, Cb.cell 1, Cb.cell 2, Cb.cell 3, Cb.cell 4, Cb.cell 5, Cb.cell 6⟩⟩ (fun _ => ?_)
      clear hK K
      try simp only [Act.put, List.setIfInBounds_toArray, List.set_cons_zero, List.set_cons_succ]
      refine wpAnyH_done (by kernel_rfl) ?_ _
      have r1 := fun i => R1.cell i; have r2 := fun i => R2.cell i
      clear hHeld
      go_wp2
      refine bodyPost_ret (v := .tuple #[.agg #[.int .i64 mc, .slice ax nw kx], .agg #[.int .i64 who, .int .i64 rv, .int .i64 (phB k), .int .i64 (atB k), .int .i64 wv, .slice a2 n k2, .slice d2 m l2]]) (by simp [results, Tryd.results6, go_sem, r1, r2]) rfl ?_
      have OM := OX
      exact told_mk HZ.out HW.out HN.out HM2.out hg OM OD bb
    · replace HY : Hid (Z = ⟨mc, zs, onPh 1 k n m 2, onAt 1 k n m, wv⟩) := by show _ = _; rw [HY.out]; rfl
      have y1 := fun i => Yb.cell i; have x1 := fun i => Xb.cell i; have x2 := fun i => Xb.froz i
      have ooOX := wordsOff OX Xb (by decide)
      have ooOM8 := wordsOff OM8 Xb (by decide)
      have ooD := twoOff OD Xb (by decide) (by decide)
      have Mb_ := ((Mb.other (show g ≠ q4 by omega) 0 (.int .i64 mc)).other (show g ≠ q4 by omega) 1 (.slice a8 n8 k8))
      have Cb_ := ((Cb.other (show q1 ≠ q4 by omega) 0 (.int .i64 mc)).other (show q1 ≠ q4 by omega) 1 (.slice a8 n8 k8))
      have R1_ := ((R1.other (show q2 ≠ q4 by omega) 0 (.int .i64 mc)).other (show q2 ≠ q4 by omega) 1 (.slice a8 n8 k8))
      have R2_ := ((R2.other (show q3 ≠ q4 by omega) 0 (.int .i64 mc)).other (show q3 ≠ q4 by omega) 1 (.slice a8 n8 k8))
      have Xb_ := ((Xb.set 0 (.int .i64 mc)).set 1 (.slice a8 n8 k8))
      simp only [List.setIfInBounds_toArray, List.set_cons_zero, List.set_cons_succ] at Xb_
      have Db_ := ((Db.other (show q5 ≠ q4 by omega) 0 (.int .i64 mc)).other (show q5 ≠ q4 by omega) 1 (.slice a8 n8 k8))
      have Yb_ := ((Yb.other (show q8 ≠ q4 by omega) 0 (.int .i64 mc)).other (show q8 ≠ q4 by omega) 1 (.slice a8 n8 k8))
      replace OX := (Words.Owns.other (Words.Owns.other OX (p := ⟨q4, 0, none⟩) ooOX (.int .i64 mc)) (p := ⟨q4, 1, none⟩) ooOX (.slice a8 n8 k8))
      replace OM8 := (Words.Owns.other (Words.Owns.other OM8 (p := ⟨q4, 0, none⟩) ooOM8 (.int .i64 mc)) (p := ⟨q4, 1, none⟩) ooOM8 (.slice a8 n8 k8))
      replace OD := (ownC_other (i := 1) (u := .slice a8 n8 k8) (ownC_other (i := 0) (u := .int .i64 mc) OD ooD) ooD)
      replace bb := ((bb.setCell (p := ⟨q4, 0, none⟩) (show g ≤ q4 by omega) (.int .i64 mc)).setCell (p := ⟨q4, 1, none⟩) (show g ≤ q4 by omega) (.slice a8 n8 k8))
      have Mb := Mb_; have Cb := Cb_; have R1 := R1_; have R2 := R2_; have Xb := Xb_; have Db := Db_; have Yb := Yb_
      clear Mb_ Cb_ R1_ R2_ Xb_ Db_ Yb_ ooOX ooOM8 ooD
      obtain ⟨WX, hWX⟩ : ∃ W, ((VS.setCell ⟨q4, 0, none⟩ (.int .i64 mc)).setCell ⟨q4, 1, none⟩ (.slice a8 n8 k8)) = W := ⟨_, rfl⟩
      rw [hWX] at Mb Cb R1 R2 Xb Db Yb OX OM8 OD bb
      have dA := fun i => Db.cell i; have dB := fun i => Db.froz i; have cc3 := Cb.cell 3
      have hwr : IntKind.i64.wrap ((k : Int) + 1) = (k : Int) + 1 := by rw [IntKind.wrap_i64]; omega
      have ooOX := wordsOff OX Db (by decide)
      have ooOM8 := wordsOff OM8 Db (by decide)
      have ooD := twoOff OD Db (by decide) (by decide)
      have Mb_ := (Mb.other (show g ≠ q5 by omega) 3 (.int .i64 ((k : Int) + 1)))
      have Cb_ := (Cb.other (show q1 ≠ q5 by omega) 3 (.int .i64 ((k : Int) + 1)))
      have R1_ := (R1.other (show q2 ≠ q5 by omega) 3 (.int .i64 ((k : Int) + 1)))
      have R2_ := (R2.other (show q3 ≠ q5 by omega) 3 (.int .i64 ((k : Int) + 1)))
      have Xb_ := (Xb.other (show q4 ≠ q5 by omega) 3 (.int .i64 ((k : Int) + 1)))
      have Db_ := (Db.set 3 (.int .i64 ((k : Int) + 1)))
      simp only [List.setIfInBounds_toArray, List.set_cons_zero, List.set_cons_succ] at Db_
      have Yb_ := (Yb.other (show q8 ≠ q5 by omega) 3 (.int .i64 ((k : Int) + 1)))
      replace OX := (Words.Owns.other OX (p := ⟨q5, 3, none⟩) ooOX (.int .i64 ((k : Int) + 1)))
      replace OM8 := (Words.Owns.other OM8 (p := ⟨q5, 3, none⟩) ooOM8 (.int .i64 ((k : Int) + 1)))
      replace OD := (ownC_other (i := 3) (u := .int .i64 ((k : Int) + 1)) OD ooD)
      replace bb := (bb.setCell (p := ⟨q5, 3, none⟩) (show g ≤ q5 by omega) (.int .i64 ((k : Int) + 1)))
      have Mb := Mb_; have Cb := Cb_; have R1 := R1_; have R2 := R2_; have Xb := Xb_; have Db := Db_; have Yb := Yb_
      clear Mb_ Cb_ R1_ R2_ Xb_ Db_ Yb_ ooOX ooOM8 ooD
      obtain ⟨WT, hWT⟩ : ∃ W, (WX.setCell ⟨q5, 3, none⟩ (.int .i64 ((k : Int) + 1))) = W := ⟨_, rfl⟩
      rw [hWT] at Mb Cb R1 R2 Xb Db Yb OX OM8 OD bb
      have dC := Db.cell 3; have cc5 := Cb.cell 5
      by_cases he : (k : Int) + 1 = n
      · have hed : ((k : Int) + 1 == (n : Int)) = true := by simp [he]
        have HZ : Hid (Z = ⟨mc, zs, (goPh n m 2), 0, wv⟩) := by show _ = _; rw [HY.out]; unfold onPh onAt stepsN; simp [he]
        clear he
        have n0 := Db.cell 0
        have n1 := Db.cell 1
        have n2 := Db.cell 2
        have n3 := Db.cell 3
        have n4 := Db.cell 4
        have n5 := Db.cell 5
        have n6 := Db.cell 6
        go_wp2_with fail
        try rw [hWT]
        clear n0
        clear n1
        clear n2
        clear n3
        clear n4
        clear n5
        clear n6
        refine (onS who rv 1 ((k : Int) + 1) wv 2 a2 d2 n k2 m l2 WT).mono ?_
        rintro e WO ⟨rfl, b10⟩
        replace Mb := Mb.on b10 Mb.lt
        replace Cb := Cb.on b10 Cb.lt
        replace R1 := R1.on b10 R1.lt
        replace R2 := R2.on b10 R2.lt
        replace Xb := Xb.on b10 Xb.lt
        replace Db := Db.on b10 Db.lt
        replace Yb := Yb.on b10 Yb.lt
        replace OX := OX.on b10 (Nat.le_refl _)
        replace OM8 := OM8.on b10 (Nat.le_refl _)
        replace OD := OD.on b10 (Nat.le_refl _)
        replace bb := bb.trans (b10.mono (by have := bb.size; omega))
        clear b10
        have g1 := fun i => Db.cell i; have g2 := fun i => Db.froz i
        go_wp2_with fail
        have ooOX := wordsOff OX Db (by decide)
        have ooOM8 := wordsOff OM8 Db (by decide)
        have ooD := twoOff OD Db (by decide) (by decide)
        have Mb_ := (((((((Mb.other (show g ≠ q5 by omega) 0 (.int .i64 who)).other (show g ≠ q5 by omega) 1 (.int .i64 rv)).other (show g ≠ q5 by omega) 2 (.int .i64 (goPh n m 2))).other (show g ≠ q5 by omega) 3 (.int .i64 0)).other (show g ≠ q5 by omega) 4 (.int .i64 wv)).other (show g ≠ q5 by omega) 5 (.slice a2 n k2)).other (show g ≠ q5 by omega) 6 (.slice d2 m l2))
        have Cb_ := (((((((Cb.other (show q1 ≠ q5 by omega) 0 (.int .i64 who)).other (show q1 ≠ q5 by omega) 1 (.int .i64 rv)).other (show q1 ≠ q5 by omega) 2 (.int .i64 (goPh n m 2))).other (show q1 ≠ q5 by omega) 3 (.int .i64 0)).other (show q1 ≠ q5 by omega) 4 (.int .i64 wv)).other (show q1 ≠ q5 by omega) 5 (.slice a2 n k2)).other (show q1 ≠ q5 by omega) 6 (.slice d2 m l2))
        have R1_ := (((((((R1.other (show q2 ≠ q5 by omega) 0 (.int .i64 who)).other (show q2 ≠ q5 by omega) 1 (.int .i64 rv)).other (show q2 ≠ q5 by omega) 2 (.int .i64 (goPh n m 2))).other (show q2 ≠ q5 by omega) 3 (.int .i64 0)).other (show q2 ≠ q5 by omega) 4 (.int .i64 wv)).other (show q2 ≠ q5 by omega) 5 (.slice a2 n k2)).other (show q2 ≠ q5 by omega) 6 (.slice d2 m l2))
        have R2_ := (((((((R2.other (show q3 ≠ q5 by omega) 0 (.int .i64 who)).other (show q3 ≠ q5 by omega) 1 (.int .i64 rv)).other (show q3 ≠ q5 by omega) 2 (.int .i64 (goPh n m 2))).other (show q3 ≠ q5 by omega) 3 (.int .i64 0)).other (show q3 ≠ q5 by omega) 4 (.int .i64 wv)).other (show q3 ≠ q5 by omega) 5 (.slice a2 n k2)).other (show q3 ≠ q5 by omega) 6 (.slice d2 m l2))
        have Xb_ := (((((((Xb.other (show q4 ≠ q5 by omega) 0 (.int .i64 who)).other (show q4 ≠ q5 by omega) 1 (.int .i64 rv)).other (show q4 ≠ q5 by omega) 2 (.int .i64 (goPh n m 2))).other (show q4 ≠ q5 by omega) 3 (.int .i64 0)).other (show q4 ≠ q5 by omega) 4 (.int .i64 wv)).other (show q4 ≠ q5 by omega) 5 (.slice a2 n k2)).other (show q4 ≠ q5 by omega) 6 (.slice d2 m l2))
        have Db_ := (((((((Db.set 0 (.int .i64 who)).set 1 (.int .i64 rv)).set 2 (.int .i64 (goPh n m 2))).set 3 (.int .i64 0)).set 4 (.int .i64 wv)).set 5 (.slice a2 n k2)).set 6 (.slice d2 m l2))
        simp only [List.setIfInBounds_toArray, List.set_cons_zero, List.set_cons_succ] at Db_
        have Yb_ := (((((((Yb.other (show q8 ≠ q5 by omega) 0 (.int .i64 who)).other (show q8 ≠ q5 by omega) 1 (.int .i64 rv)).other (show q8 ≠ q5 by omega) 2 (.int .i64 (goPh n m 2))).other (show q8 ≠ q5 by omega) 3 (.int .i64 0)).other (show q8 ≠ q5 by omega) 4 (.int .i64 wv)).other (show q8 ≠ q5 by omega) 5 (.slice a2 n k2)).other (show q8 ≠ q5 by omega) 6 (.slice d2 m l2))
        replace OX := (Words.Owns.other (Words.Owns.other (Words.Owns.other (Words.Owns.other (Words.Owns.other (Words.Owns.other (Words.Owns.other OX (p := ⟨q5, 0, none⟩) ooOX (.int .i64 who)) (p := ⟨q5, 1, none⟩) ooOX (.int .i64 rv)) (p := ⟨q5, 2, none⟩) ooOX (.int .i64 (goPh n m 2))) (p := ⟨q5, 3, none⟩) ooOX (.int .i64 0)) (p := ⟨q5, 4, none⟩) ooOX (.int .i64 wv)) (p := ⟨q5, 5, none⟩) ooOX (.slice a2 n k2)) (p := ⟨q5, 6, none⟩) ooOX (.slice d2 m l2))
        replace OM8 := (Words.Owns.other (Words.Owns.other (Words.Owns.other (Words.Owns.other (Words.Owns.other (Words.Owns.other (Words.Owns.other OM8 (p := ⟨q5, 0, none⟩) ooOM8 (.int .i64 who)) (p := ⟨q5, 1, none⟩) ooOM8 (.int .i64 rv)) (p := ⟨q5, 2, none⟩) ooOM8 (.int .i64 (goPh n m 2))) (p := ⟨q5, 3, none⟩) ooOM8 (.int .i64 0)) (p := ⟨q5, 4, none⟩) ooOM8 (.int .i64 wv)) (p := ⟨q5, 5, none⟩) ooOM8 (.slice a2 n k2)) (p := ⟨q5, 6, none⟩) ooOM8 (.slice d2 m l2))
        replace OD := (ownC_other (i := 6) (u := .slice d2 m l2) (ownC_other (i := 5) (u := .slice a2 n k2) (ownC_other (i := 4) (u := .int .i64 wv) (ownC_other (i := 3) (u := .int .i64 0) (ownC_other (i := 2) (u := .int .i64 (goPh n m 2)) (ownC_other (i := 1) (u := .int .i64 rv) (ownC_other (i := 0) (u := .int .i64 who) OD ooD) ooD) ooD) ooD) ooD) ooD) ooD)
        replace bb := (((((((bb.setCell (p := ⟨q5, 0, none⟩) (show g ≤ q5 by omega) (.int .i64 who)).setCell (p := ⟨q5, 1, none⟩) (show g ≤ q5 by omega) (.int .i64 rv)).setCell (p := ⟨q5, 2, none⟩) (show g ≤ q5 by omega) (.int .i64 (goPh n m 2))).setCell (p := ⟨q5, 3, none⟩) (show g ≤ q5 by omega) (.int .i64 0)).setCell (p := ⟨q5, 4, none⟩) (show g ≤ q5 by omega) (.int .i64 wv)).setCell (p := ⟨q5, 5, none⟩) (show g ≤ q5 by omega) (.slice a2 n k2)).setCell (p := ⟨q5, 6, none⟩) (show g ≤ q5 by omega) (.slice d2 m l2))
        have Mb := Mb_; have Cb := Cb_; have R1 := R1_; have R2 := R2_; have Xb := Xb_; have Db := Db_; have Yb := Yb_
        clear Mb_ Cb_ R1_ R2_ Xb_ Db_ Yb_ ooOX ooOM8 ooD
        obtain ⟨WQ, hWN⟩ : ∃ W, (((((((WO.setCell ⟨q5, 0, none⟩ (.int .i64 who)).setCell ⟨q5, 1, none⟩ (.int .i64 rv)).setCell ⟨q5, 2, none⟩ (.int .i64 (goPh n m 2))).setCell ⟨q5, 3, none⟩ (.int .i64 0)).setCell ⟨q5, 4, none⟩ (.int .i64 wv)).setCell ⟨q5, 5, none⟩ (.slice a2 n k2)).setCell ⟨q5, 6, none⟩ (.slice d2 m l2)) = W := ⟨_, rfl⟩
        rw [hWN] at Mb Cb R1 R2 Xb Db Yb OX OM8 OD bb ⊢
        clear g1 g2 hWN
        clear hWT hWX y1 x1 x2 dA dB dC cc3 cc5
        have cCM : (WQ.cell? ⟨q4, 0, none⟩ = some (.int .i64 mc) ∧ WQ.cell? ⟨q4, 1, none⟩ = some (.slice a8 n8 k8)) ∧ (WQ.cell? ⟨q5, 0, none⟩ = some (.int .i64 who) ∧ WQ.cell? ⟨q5, 1, none⟩ = some (.int .i64 rv) ∧ WQ.cell? ⟨q5, 2, none⟩ = some (.int .i64 (goPh n m 2)) ∧ WQ.cell? ⟨q5, 3, none⟩ = some (.int .i64 0) ∧ WQ.cell? ⟨q5, 4, none⟩ = some (.int .i64 wv) ∧ WQ.cell? ⟨q5, 5, none⟩ = some (.slice a2 n k2) ∧ WQ.cell? ⟨q5, 6, none⟩ = some (.slice d2 m l2)) ∧ (WQ.cell? ⟨q1, 0, none⟩ = some (.int .i64 who) ∧ WQ.cell? ⟨q1, 1, none⟩ = some (.int .i64 rv) ∧ WQ.cell? ⟨q1, 2, none⟩ = some (.int .i64 1) ∧ WQ.cell? ⟨q1, 3, none⟩ = some (.int .i64 (k : Int)) ∧ WQ.cell? ⟨q1, 4, none⟩ = some (.int .i64 wv) ∧ WQ.cell? ⟨q1, 5, none⟩ = some (.slice (some ⟨b, off, none⟩) n kp) ∧ WQ.cell? ⟨q1, 6, none⟩ = some (.slice ar m kr)) := ⟨⟨Xb.cell 0, Xb.cell 1⟩, ⟨Db.cell 0, Db.cell 1, Db.cell 2, Db.cell 3, Db.cell 4, Db.cell 5, Db.cell 6⟩, ⟨Cb.cell 0, Cb.cell 1, Cb.cell 2, Cb.cell 3, Cb.cell 4, Cb.cell 5, Cb.cell 6⟩⟩
        replace Mb := Mb.drew
        replace Cb := Cb.drew
        replace R1 := R1.drew
        replace R2 := R2.drew
        replace Xb := Xb.drew
        replace Db := Db.drew
        replace Yb := Yb.drew
        replace OX := OX.drew
        replace OM8 := OM8.drew
        replace OD : OwnC _ _ _ _ _ _ := OD.on (drew_lowC WQ) (Nat.le_refl _); replace bb := bb.drew
        obtain ⟨WD24, hWD⟩ : ∃ W, WQ.drew = W := ⟨_, rfl⟩
        refine wp_region_held_drew (S := fun W => (W.cell? ⟨q4, 0, none⟩ = some (.int .i64 mc) ∧ W.cell? ⟨q4, 1, none⟩ = some (.slice a8 n8 k8)) ∧ (W.cell? ⟨q5, 0, none⟩ = some (.int .i64 who) ∧ W.cell? ⟨q5, 1, none⟩ = some (.int .i64 rv) ∧ W.cell? ⟨q5, 2, none⟩ = some (.int .i64 (goPh n m 2)) ∧ W.cell? ⟨q5, 3, none⟩ = some (.int .i64 0) ∧ W.cell? ⟨q5, 4, none⟩ = some (.int .i64 wv) ∧ W.cell? ⟨q5, 5, none⟩ = some (.slice a2 n k2) ∧ W.cell? ⟨q5, 6, none⟩ = some (.slice d2 m l2)) ∧ (W.cell? ⟨q1, 0, none⟩ = some (.int .i64 who) ∧ W.cell? ⟨q1, 1, none⟩ = some (.int .i64 rv) ∧ W.cell? ⟨q1, 2, none⟩ = some (.int .i64 1) ∧ W.cell? ⟨q1, 3, none⟩ = some (.int .i64 (k : Int)) ∧ W.cell? ⟨q1, 4, none⟩ = some (.int .i64 wv) ∧ W.cell? ⟨q1, 5, none⟩ = some (.slice (some ⟨b, off, none⟩) n kp) ∧ W.cell? ⟨q1, 6, none⟩ = some (.slice ar m kr))) (by kernel_rfl) cCM (fun hHeld => ?_)
        rw [hWD] at Mb Cb R1 R2 Xb Db Yb OX OM8 OD bb hHeld ⊢
        clear hWD cCM
        refine takeH (i := 0) (some 234) (.agg #[.int .i64 mc, .slice a8 n8 k8]) rfl rfl (by kernel_rfl) (by kernel_rfl) (by kernel_rfl) (fun _ _ _ h => h) (Or.inl ⟨by rfl, fun w hSw => by (try dsimp only at hSw); go_simp⟩) (by assumption) ?_
        try simp only [Act.put, List.setIfInBounds_toArray, List.set_cons_zero, List.set_cons_succ]
        refine takeH (i := 1) (some 235) (.agg #[.int .i64 who, .int .i64 rv, .int .i64 (goPh n m 2), .int .i64 0, .int .i64 wv, .slice a2 n k2, .slice d2 m l2]) rfl rfl (by kernel_rfl) (by kernel_rfl) (by kernel_rfl) (fun _ _ _ h => h) (Or.inl ⟨by rfl, fun w hSw => by (try dsimp only at hSw); go_simp⟩) (by assumption) ?_
        try simp only [Act.put, List.setIfInBounds_toArray, List.set_cons_zero, List.set_cons_succ]
        have r1 := fun i => R1.cell i; have f1 := fun i => R1.froz i
        refine wpAnyH_ready (rs := [2]) (by kernel_rfl) (by simp) ?_
        refine AllReadyH.cons rfl (fun K hK => ?_) AllReadyH.nil
        go_simp
        have ooOX := wordsOff OX R1 (by decide)
        have ooOM8 := wordsOff OM8 R1 (by decide)
        have ooD := twoOff OD R1 (by decide) (by decide)
        have Mb_ := ((Mb.other (show g ≠ q2 by omega) 0 (.int .i64 mc)).other (show g ≠ q2 by omega) 1 (.slice a8 n8 k8))
        have Cb_ := ((Cb.other (show q1 ≠ q2 by omega) 0 (.int .i64 mc)).other (show q1 ≠ q2 by omega) 1 (.slice a8 n8 k8))
        have R1_ := ((R1.set 0 (.int .i64 mc)).set 1 (.slice a8 n8 k8))
        simp only [List.setIfInBounds_toArray, List.set_cons_zero, List.set_cons_succ] at R1_
        have R2_ := ((R2.other (show q3 ≠ q2 by omega) 0 (.int .i64 mc)).other (show q3 ≠ q2 by omega) 1 (.slice a8 n8 k8))
        have Xb_ := ((Xb.other (show q4 ≠ q2 by omega) 0 (.int .i64 mc)).other (show q4 ≠ q2 by omega) 1 (.slice a8 n8 k8))
        have Db_ := ((Db.other (show q5 ≠ q2 by omega) 0 (.int .i64 mc)).other (show q5 ≠ q2 by omega) 1 (.slice a8 n8 k8))
        have Yb_ := ((Yb.other (show q8 ≠ q2 by omega) 0 (.int .i64 mc)).other (show q8 ≠ q2 by omega) 1 (.slice a8 n8 k8))
        replace OX := (Words.Owns.other (Words.Owns.other OX (p := ⟨q2, 0, none⟩) ooOX (.int .i64 mc)) (p := ⟨q2, 1, none⟩) ooOX (.slice a8 n8 k8))
        replace OM8 := (Words.Owns.other (Words.Owns.other OM8 (p := ⟨q2, 0, none⟩) ooOM8 (.int .i64 mc)) (p := ⟨q2, 1, none⟩) ooOM8 (.slice a8 n8 k8))
        replace OD := (ownC_other (i := 1) (u := .slice a8 n8 k8) (ownC_other (i := 0) (u := .int .i64 mc) OD ooD) ooD)
        replace bb := ((bb.setCell (p := ⟨q2, 0, none⟩) (show g ≤ q2 by omega) (.int .i64 mc)).setCell (p := ⟨q2, 1, none⟩) (show g ≤ q2 by omega) (.slice a8 n8 k8))
        have Mb := Mb_; have Cb := Cb_; have R1 := R1_; have R2 := R2_; have Xb := Xb_; have Db := Db_; have Yb := Yb_
        clear Mb_ Cb_ R1_ R2_ Xb_ Db_ Yb_ ooOX ooOM8 ooD
        obtain ⟨V25, hWN⟩ : ∃ W, ((WD24.setCell ⟨q2, 0, none⟩ (.int .i64 mc)).setCell ⟨q2, 1, none⟩ (.slice a8 n8 k8)) = W := ⟨_, rfl⟩
        rw [hWN] at Mb Cb R1 R2 Xb Db Yb OX OM8 OD bb ⊢
        clear hWN r1 f1
        refine hK.out _ _ ⟨⟨Xb.cell 0, Xb.cell 1⟩, ⟨Db.cell 0, Db.cell 1, Db.cell 2, Db.cell 3, Db.cell 4, Db.cell 5, Db.cell 6⟩, ⟨Cb.cell 0, Cb.cell 1, Cb.cell 2, Cb.cell 3, Cb.cell 4, Cb.cell 5, Cb.cell 6⟩⟩ (fun _ => ?_)
        clear hK K
        try simp only [Act.put, List.setIfInBounds_toArray, List.set_cons_zero, List.set_cons_succ]
        have r1 := fun i => R2.cell i; have f1 := fun i => R2.froz i
        refine wpAnyH_ready (rs := [3]) (by kernel_rfl) (by simp) ?_
        refine AllReadyH.cons rfl (fun K hK => ?_) AllReadyH.nil
        go_simp
        have ooOX := wordsOff OX R2 (by decide)
        have ooOM8 := wordsOff OM8 R2 (by decide)
        have ooD := twoOff OD R2 (by decide) (by decide)
        have Mb_ := (((((((Mb.other (show g ≠ q3 by omega) 0 (.int .i64 who)).other (show g ≠ q3 by omega) 1 (.int .i64 rv)).other (show g ≠ q3 by omega) 2 (.int .i64 (goPh n m 2))).other (show g ≠ q3 by omega) 3 (.int .i64 0)).other (show g ≠ q3 by omega) 4 (.int .i64 wv)).other (show g ≠ q3 by omega) 5 (.slice a2 n k2)).other (show g ≠ q3 by omega) 6 (.slice d2 m l2))
        have Cb_ := (((((((Cb.other (show q1 ≠ q3 by omega) 0 (.int .i64 who)).other (show q1 ≠ q3 by omega) 1 (.int .i64 rv)).other (show q1 ≠ q3 by omega) 2 (.int .i64 (goPh n m 2))).other (show q1 ≠ q3 by omega) 3 (.int .i64 0)).other (show q1 ≠ q3 by omega) 4 (.int .i64 wv)).other (show q1 ≠ q3 by omega) 5 (.slice a2 n k2)).other (show q1 ≠ q3 by omega) 6 (.slice d2 m l2))
        have R1_ := (((((((R1.other (show q2 ≠ q3 by omega) 0 (.int .i64 who)).other (show q2 ≠ q3 by omega) 1 (.int .i64 rv)).other (show q2 ≠ q3 by omega) 2 (.int .i64 (goPh n m 2))).other (show q2 ≠ q3 by omega) 3 (.int .i64 0)).other (show q2 ≠ q3 by omega) 4 (.int .i64 wv)).other (show q2 ≠ q3 by omega) 5 (.slice a2 n k2)).other (show q2 ≠ q3 by omega) 6 (.slice d2 m l2))
        have R2_ := (((((((R2.set 0 (.int .i64 who)).set 1 (.int .i64 rv)).set 2 (.int .i64 (goPh n m 2))).set 3 (.int .i64 0)).set 4 (.int .i64 wv)).set 5 (.slice a2 n k2)).set 6 (.slice d2 m l2))
        simp only [List.setIfInBounds_toArray, List.set_cons_zero, List.set_cons_succ] at R2_
        have Xb_ := (((((((Xb.other (show q4 ≠ q3 by omega) 0 (.int .i64 who)).other (show q4 ≠ q3 by omega) 1 (.int .i64 rv)).other (show q4 ≠ q3 by omega) 2 (.int .i64 (goPh n m 2))).other (show q4 ≠ q3 by omega) 3 (.int .i64 0)).other (show q4 ≠ q3 by omega) 4 (.int .i64 wv)).other (show q4 ≠ q3 by omega) 5 (.slice a2 n k2)).other (show q4 ≠ q3 by omega) 6 (.slice d2 m l2))
        have Db_ := (((((((Db.other (show q5 ≠ q3 by omega) 0 (.int .i64 who)).other (show q5 ≠ q3 by omega) 1 (.int .i64 rv)).other (show q5 ≠ q3 by omega) 2 (.int .i64 (goPh n m 2))).other (show q5 ≠ q3 by omega) 3 (.int .i64 0)).other (show q5 ≠ q3 by omega) 4 (.int .i64 wv)).other (show q5 ≠ q3 by omega) 5 (.slice a2 n k2)).other (show q5 ≠ q3 by omega) 6 (.slice d2 m l2))
        have Yb_ := (((((((Yb.other (show q8 ≠ q3 by omega) 0 (.int .i64 who)).other (show q8 ≠ q3 by omega) 1 (.int .i64 rv)).other (show q8 ≠ q3 by omega) 2 (.int .i64 (goPh n m 2))).other (show q8 ≠ q3 by omega) 3 (.int .i64 0)).other (show q8 ≠ q3 by omega) 4 (.int .i64 wv)).other (show q8 ≠ q3 by omega) 5 (.slice a2 n k2)).other (show q8 ≠ q3 by omega) 6 (.slice d2 m l2))
        replace OX := (Words.Owns.other (Words.Owns.other (Words.Owns.other (Words.Owns.other (Words.Owns.other (Words.Owns.other (Words.Owns.other OX (p := ⟨q3, 0, none⟩) ooOX (.int .i64 who)) (p := ⟨q3, 1, none⟩) ooOX (.int .i64 rv)) (p := ⟨q3, 2, none⟩) ooOX (.int .i64 (goPh n m 2))) (p := ⟨q3, 3, none⟩) ooOX (.int .i64 0)) (p := ⟨q3, 4, none⟩) ooOX (.int .i64 wv)) (p := ⟨q3, 5, none⟩) ooOX (.slice a2 n k2)) (p := ⟨q3, 6, none⟩) ooOX (.slice d2 m l2))
        replace OM8 := (Words.Owns.other (Words.Owns.other (Words.Owns.other (Words.Owns.other (Words.Owns.other (Words.Owns.other (Words.Owns.other OM8 (p := ⟨q3, 0, none⟩) ooOM8 (.int .i64 who)) (p := ⟨q3, 1, none⟩) ooOM8 (.int .i64 rv)) (p := ⟨q3, 2, none⟩) ooOM8 (.int .i64 (goPh n m 2))) (p := ⟨q3, 3, none⟩) ooOM8 (.int .i64 0)) (p := ⟨q3, 4, none⟩) ooOM8 (.int .i64 wv)) (p := ⟨q3, 5, none⟩) ooOM8 (.slice a2 n k2)) (p := ⟨q3, 6, none⟩) ooOM8 (.slice d2 m l2))
        replace OD := (ownC_other (i := 6) (u := .slice d2 m l2) (ownC_other (i := 5) (u := .slice a2 n k2) (ownC_other (i := 4) (u := .int .i64 wv) (ownC_other (i := 3) (u := .int .i64 0) (ownC_other (i := 2) (u := .int .i64 (goPh n m 2)) (ownC_other (i := 1) (u := .int .i64 rv) (ownC_other (i := 0) (u := .int .i64 who) OD ooD) ooD) ooD) ooD) ooD) ooD) ooD)
        replace bb := (((((((bb.setCell (p := ⟨q3, 0, none⟩) (show g ≤ q3 by omega) (.int .i64 who)).setCell (p := ⟨q3, 1, none⟩) (show g ≤ q3 by omega) (.int .i64 rv)).setCell (p := ⟨q3, 2, none⟩) (show g ≤ q3 by omega) (.int .i64 (goPh n m 2))).setCell (p := ⟨q3, 3, none⟩) (show g ≤ q3 by omega) (.int .i64 0)).setCell (p := ⟨q3, 4, none⟩) (show g ≤ q3 by omega) (.int .i64 wv)).setCell (p := ⟨q3, 5, none⟩) (show g ≤ q3 by omega) (.slice a2 n k2)).setCell (p := ⟨q3, 6, none⟩) (show g ≤ q3 by omega) (.slice d2 m l2))
        have Mb := Mb_; have Cb := Cb_; have R1 := R1_; have R2 := R2_; have Xb := Xb_; have Db := Db_; have Yb := Yb_
        clear Mb_ Cb_ R1_ R2_ Xb_ Db_ Yb_ ooOX ooOM8 ooD
        obtain ⟨V26, hWN⟩ : ∃ W, (((((((V25.setCell ⟨q3, 0, none⟩ (.int .i64 who)).setCell ⟨q3, 1, none⟩ (.int .i64 rv)).setCell ⟨q3, 2, none⟩ (.int .i64 (goPh n m 2))).setCell ⟨q3, 3, none⟩ (.int .i64 0)).setCell ⟨q3, 4, none⟩ (.int .i64 wv)).setCell ⟨q3, 5, none⟩ (.slice a2 n k2)).setCell ⟨q3, 6, none⟩ (.slice d2 m l2)) = W := ⟨_, rfl⟩
        rw [hWN] at Mb Cb R1 R2 Xb Db Yb OX OM8 OD bb ⊢
        clear hWN r1 f1
        refine hK.out _ _ ⟨⟨Xb.cell 0, Xb.cell 1⟩, ⟨Db.cell 0, Db.cell 1, Db.cell 2, Db.cell 3, Db.cell 4, Db.cell 5, Db.cell 6⟩, ⟨Cb.cell 0, Cb.cell 1, Cb.cell 2, Cb.cell 3, Cb.cell 4, Cb.cell 5, Cb.cell 6⟩⟩ (fun _ => ?_)
        clear hK K
        try simp only [Act.put, List.setIfInBounds_toArray, List.set_cons_zero, List.set_cons_succ]
        refine wpAnyH_done (by kernel_rfl) ?_ _
        have r1 := fun i => R1.cell i; have r2 := fun i => R2.cell i
        clear hHeld
        go_wp2
        refine bodyPost_ret (v := .tuple #[.agg #[.int .i64 mc, .slice a8 n8 k8], .agg #[.int .i64 who, .int .i64 rv, .int .i64 (goPh n m 2), .int .i64 0, .int .i64 wv, .slice a2 n k2, .slice d2 m l2]]) (by simp [results, Tryd.results6, go_sem, r1, r2]) rfl ?_
        have OM := OM8
        exact told_mk HZ.out HN8.out HN.out HM2.out hg OM OD bb
      · have hed : ((k : Int) + 1 == (n : Int)) = false := by simp [he]
        have HZ : Hid (Z = ⟨mc, zs, 1, (k : Int) + 1, wv⟩) := by show _ = _; rw [HY.out, on_mid1 (show (k : Int) + 1 < stepsN 1 n m from by show (k : Int) + 1 < (n : Int); omega), at_mid1 (show (k : Int) + 1 < stepsN 1 n m from by show (k : Int) + 1 < (n : Int); omega)]
        go_wp2_with fail
        try rw [hWT]
        clear hWT hWX y1 x1 x2 dA dB dC cc3 cc5
        have cCM : (WT.cell? ⟨q4, 0, none⟩ = some (.int .i64 mc) ∧ WT.cell? ⟨q4, 1, none⟩ = some (.slice a8 n8 k8)) ∧ (WT.cell? ⟨q5, 0, none⟩ = some (.int .i64 who) ∧ WT.cell? ⟨q5, 1, none⟩ = some (.int .i64 rv) ∧ WT.cell? ⟨q5, 2, none⟩ = some (.int .i64 1) ∧ WT.cell? ⟨q5, 3, none⟩ = some (.int .i64 ((k : Int) + 1)) ∧ WT.cell? ⟨q5, 4, none⟩ = some (.int .i64 wv) ∧ WT.cell? ⟨q5, 5, none⟩ = some (.slice a2 n k2) ∧ WT.cell? ⟨q5, 6, none⟩ = some (.slice d2 m l2)) ∧ (WT.cell? ⟨q1, 0, none⟩ = some (.int .i64 who) ∧ WT.cell? ⟨q1, 1, none⟩ = some (.int .i64 rv) ∧ WT.cell? ⟨q1, 2, none⟩ = some (.int .i64 1) ∧ WT.cell? ⟨q1, 3, none⟩ = some (.int .i64 (k : Int)) ∧ WT.cell? ⟨q1, 4, none⟩ = some (.int .i64 wv) ∧ WT.cell? ⟨q1, 5, none⟩ = some (.slice (some ⟨b, off, none⟩) n kp) ∧ WT.cell? ⟨q1, 6, none⟩ = some (.slice ar m kr)) := ⟨⟨Xb.cell 0, Xb.cell 1⟩, ⟨Db.cell 0, Db.cell 1, Db.cell 2, Db.cell 3, Db.cell 4, Db.cell 5, Db.cell 6⟩, ⟨Cb.cell 0, Cb.cell 1, Cb.cell 2, Cb.cell 3, Cb.cell 4, Cb.cell 5, Cb.cell 6⟩⟩
        replace Mb := Mb.drew
        replace Cb := Cb.drew
        replace R1 := R1.drew
        replace R2 := R2.drew
        replace Xb := Xb.drew
        replace Db := Db.drew
        replace Yb := Yb.drew
        replace OX := OX.drew
        replace OM8 := OM8.drew
        replace OD : OwnC _ _ _ _ _ _ := OD.on (drew_lowC WT) (Nat.le_refl _); replace bb := bb.drew
        obtain ⟨WD27, hWD⟩ : ∃ W, WT.drew = W := ⟨_, rfl⟩
        refine wp_region_held_drew (S := fun W => (W.cell? ⟨q4, 0, none⟩ = some (.int .i64 mc) ∧ W.cell? ⟨q4, 1, none⟩ = some (.slice a8 n8 k8)) ∧ (W.cell? ⟨q5, 0, none⟩ = some (.int .i64 who) ∧ W.cell? ⟨q5, 1, none⟩ = some (.int .i64 rv) ∧ W.cell? ⟨q5, 2, none⟩ = some (.int .i64 1) ∧ W.cell? ⟨q5, 3, none⟩ = some (.int .i64 ((k : Int) + 1)) ∧ W.cell? ⟨q5, 4, none⟩ = some (.int .i64 wv) ∧ W.cell? ⟨q5, 5, none⟩ = some (.slice a2 n k2) ∧ W.cell? ⟨q5, 6, none⟩ = some (.slice d2 m l2)) ∧ (W.cell? ⟨q1, 0, none⟩ = some (.int .i64 who) ∧ W.cell? ⟨q1, 1, none⟩ = some (.int .i64 rv) ∧ W.cell? ⟨q1, 2, none⟩ = some (.int .i64 1) ∧ W.cell? ⟨q1, 3, none⟩ = some (.int .i64 (k : Int)) ∧ W.cell? ⟨q1, 4, none⟩ = some (.int .i64 wv) ∧ W.cell? ⟨q1, 5, none⟩ = some (.slice (some ⟨b, off, none⟩) n kp) ∧ W.cell? ⟨q1, 6, none⟩ = some (.slice ar m kr))) (by kernel_rfl) cCM (fun hHeld => ?_)
        rw [hWD] at Mb Cb R1 R2 Xb Db Yb OX OM8 OD bb hHeld ⊢
        clear hWD cCM
        refine takeH (i := 0) (some 234) (.agg #[.int .i64 mc, .slice a8 n8 k8]) rfl rfl (by kernel_rfl) (by kernel_rfl) (by kernel_rfl) (fun _ _ _ h => h) (Or.inl ⟨by rfl, fun w hSw => by (try dsimp only at hSw); go_simp⟩) (by assumption) ?_
        try simp only [Act.put, List.setIfInBounds_toArray, List.set_cons_zero, List.set_cons_succ]
        refine takeH (i := 1) (some 235) (.agg #[.int .i64 who, .int .i64 rv, .int .i64 1, .int .i64 ((k : Int) + 1), .int .i64 wv, .slice a2 n k2, .slice d2 m l2]) rfl rfl (by kernel_rfl) (by kernel_rfl) (by kernel_rfl) (fun _ _ _ h => h) (Or.inl ⟨by rfl, fun w hSw => by (try dsimp only at hSw); go_simp⟩) (by assumption) ?_
        try simp only [Act.put, List.setIfInBounds_toArray, List.set_cons_zero, List.set_cons_succ]
        have r1 := fun i => R1.cell i; have f1 := fun i => R1.froz i
        refine wpAnyH_ready (rs := [2]) (by kernel_rfl) (by simp) ?_
        refine AllReadyH.cons rfl (fun K hK => ?_) AllReadyH.nil
        go_simp
        have ooOX := wordsOff OX R1 (by decide)
        have ooOM8 := wordsOff OM8 R1 (by decide)
        have ooD := twoOff OD R1 (by decide) (by decide)
        have Mb_ := ((Mb.other (show g ≠ q2 by omega) 0 (.int .i64 mc)).other (show g ≠ q2 by omega) 1 (.slice a8 n8 k8))
        have Cb_ := ((Cb.other (show q1 ≠ q2 by omega) 0 (.int .i64 mc)).other (show q1 ≠ q2 by omega) 1 (.slice a8 n8 k8))
        have R1_ := ((R1.set 0 (.int .i64 mc)).set 1 (.slice a8 n8 k8))
        simp only [List.setIfInBounds_toArray, List.set_cons_zero, List.set_cons_succ] at R1_
        have R2_ := ((R2.other (show q3 ≠ q2 by omega) 0 (.int .i64 mc)).other (show q3 ≠ q2 by omega) 1 (.slice a8 n8 k8))
        have Xb_ := ((Xb.other (show q4 ≠ q2 by omega) 0 (.int .i64 mc)).other (show q4 ≠ q2 by omega) 1 (.slice a8 n8 k8))
        have Db_ := ((Db.other (show q5 ≠ q2 by omega) 0 (.int .i64 mc)).other (show q5 ≠ q2 by omega) 1 (.slice a8 n8 k8))
        have Yb_ := ((Yb.other (show q8 ≠ q2 by omega) 0 (.int .i64 mc)).other (show q8 ≠ q2 by omega) 1 (.slice a8 n8 k8))
        replace OX := (Words.Owns.other (Words.Owns.other OX (p := ⟨q2, 0, none⟩) ooOX (.int .i64 mc)) (p := ⟨q2, 1, none⟩) ooOX (.slice a8 n8 k8))
        replace OM8 := (Words.Owns.other (Words.Owns.other OM8 (p := ⟨q2, 0, none⟩) ooOM8 (.int .i64 mc)) (p := ⟨q2, 1, none⟩) ooOM8 (.slice a8 n8 k8))
        replace OD := (ownC_other (i := 1) (u := .slice a8 n8 k8) (ownC_other (i := 0) (u := .int .i64 mc) OD ooD) ooD)
        replace bb := ((bb.setCell (p := ⟨q2, 0, none⟩) (show g ≤ q2 by omega) (.int .i64 mc)).setCell (p := ⟨q2, 1, none⟩) (show g ≤ q2 by omega) (.slice a8 n8 k8))
        have Mb := Mb_; have Cb := Cb_; have R1 := R1_; have R2 := R2_; have Xb := Xb_; have Db := Db_; have Yb := Yb_
        clear Mb_ Cb_ R1_ R2_ Xb_ Db_ Yb_ ooOX ooOM8 ooD
        obtain ⟨V28, hWN⟩ : ∃ W, ((WD27.setCell ⟨q2, 0, none⟩ (.int .i64 mc)).setCell ⟨q2, 1, none⟩ (.slice a8 n8 k8)) = W := ⟨_, rfl⟩
        rw [hWN] at Mb Cb R1 R2 Xb Db Yb OX OM8 OD bb ⊢
        clear hWN r1 f1
        refine hK.out _ _ ⟨⟨Xb.cell 0, Xb.cell 1⟩, ⟨Db.cell 0, Db.cell 1, Db.cell 2, Db.cell 3, Db.cell 4, Db.cell 5, Db.cell 6⟩, ⟨Cb.cell 0, Cb.cell 1, Cb.cell 2, Cb.cell 3, Cb.cell 4, Cb.cell 5, Cb.cell 6⟩⟩ (fun _ => ?_)
        clear hK K
        try simp only [Act.put, List.setIfInBounds_toArray, List.set_cons_zero, List.set_cons_succ]
        have r1 := fun i => R2.cell i; have f1 := fun i => R2.froz i
        refine wpAnyH_ready (rs := [3]) (by kernel_rfl) (by simp) ?_
        refine AllReadyH.cons rfl (fun K hK => ?_) AllReadyH.nil
        go_simp
        have ooOX := wordsOff OX R2 (by decide)
        have ooOM8 := wordsOff OM8 R2 (by decide)
        have ooD := twoOff OD R2 (by decide) (by decide)
        have Mb_ := (((((((Mb.other (show g ≠ q3 by omega) 0 (.int .i64 who)).other (show g ≠ q3 by omega) 1 (.int .i64 rv)).other (show g ≠ q3 by omega) 2 (.int .i64 1)).other (show g ≠ q3 by omega) 3 (.int .i64 ((k : Int) + 1))).other (show g ≠ q3 by omega) 4 (.int .i64 wv)).other (show g ≠ q3 by omega) 5 (.slice a2 n k2)).other (show g ≠ q3 by omega) 6 (.slice d2 m l2))
        have Cb_ := (((((((Cb.other (show q1 ≠ q3 by omega) 0 (.int .i64 who)).other (show q1 ≠ q3 by omega) 1 (.int .i64 rv)).other (show q1 ≠ q3 by omega) 2 (.int .i64 1)).other (show q1 ≠ q3 by omega) 3 (.int .i64 ((k : Int) + 1))).other (show q1 ≠ q3 by omega) 4 (.int .i64 wv)).other (show q1 ≠ q3 by omega) 5 (.slice a2 n k2)).other (show q1 ≠ q3 by omega) 6 (.slice d2 m l2))
        have R1_ := (((((((R1.other (show q2 ≠ q3 by omega) 0 (.int .i64 who)).other (show q2 ≠ q3 by omega) 1 (.int .i64 rv)).other (show q2 ≠ q3 by omega) 2 (.int .i64 1)).other (show q2 ≠ q3 by omega) 3 (.int .i64 ((k : Int) + 1))).other (show q2 ≠ q3 by omega) 4 (.int .i64 wv)).other (show q2 ≠ q3 by omega) 5 (.slice a2 n k2)).other (show q2 ≠ q3 by omega) 6 (.slice d2 m l2))
        have R2_ := (((((((R2.set 0 (.int .i64 who)).set 1 (.int .i64 rv)).set 2 (.int .i64 1)).set 3 (.int .i64 ((k : Int) + 1))).set 4 (.int .i64 wv)).set 5 (.slice a2 n k2)).set 6 (.slice d2 m l2))
        simp only [List.setIfInBounds_toArray, List.set_cons_zero, List.set_cons_succ] at R2_
        have Xb_ := (((((((Xb.other (show q4 ≠ q3 by omega) 0 (.int .i64 who)).other (show q4 ≠ q3 by omega) 1 (.int .i64 rv)).other (show q4 ≠ q3 by omega) 2 (.int .i64 1)).other (show q4 ≠ q3 by omega) 3 (.int .i64 ((k : Int) + 1))).other (show q4 ≠ q3 by omega) 4 (.int .i64 wv)).other (show q4 ≠ q3 by omega) 5 (.slice a2 n k2)).other (show q4 ≠ q3 by omega) 6 (.slice d2 m l2))
        have Db_ := (((((((Db.other (show q5 ≠ q3 by omega) 0 (.int .i64 who)).other (show q5 ≠ q3 by omega) 1 (.int .i64 rv)).other (show q5 ≠ q3 by omega) 2 (.int .i64 1)).other (show q5 ≠ q3 by omega) 3 (.int .i64 ((k : Int) + 1))).other (show q5 ≠ q3 by omega) 4 (.int .i64 wv)).other (show q5 ≠ q3 by omega) 5 (.slice a2 n k2)).other (show q5 ≠ q3 by omega) 6 (.slice d2 m l2))
        have Yb_ := (((((((Yb.other (show q8 ≠ q3 by omega) 0 (.int .i64 who)).other (show q8 ≠ q3 by omega) 1 (.int .i64 rv)).other (show q8 ≠ q3 by omega) 2 (.int .i64 1)).other (show q8 ≠ q3 by omega) 3 (.int .i64 ((k : Int) + 1))).other (show q8 ≠ q3 by omega) 4 (.int .i64 wv)).other (show q8 ≠ q3 by omega) 5 (.slice a2 n k2)).other (show q8 ≠ q3 by omega) 6 (.slice d2 m l2))
        replace OX := (Words.Owns.other (Words.Owns.other (Words.Owns.other (Words.Owns.other (Words.Owns.other (Words.Owns.other (Words.Owns.other OX (p := ⟨q3, 0, none⟩) ooOX (.int .i64 who)) (p := ⟨q3, 1, none⟩) ooOX (.int .i64 rv)) (p := ⟨q3, 2, none⟩) ooOX (.int .i64 1)) (p := ⟨q3, 3, none⟩) ooOX (.int .i64 ((k : Int) + 1))) (p := ⟨q3, 4, none⟩) ooOX (.int .i64 wv)) (p := ⟨q3, 5, none⟩) ooOX (.slice a2 n k2)) (p := ⟨q3, 6, none⟩) ooOX (.slice d2 m l2))
        replace OM8 := (Words.Owns.other (Words.Owns.other (Words.Owns.other (Words.Owns.other (Words.Owns.other (Words.Owns.other (Words.Owns.other OM8 (p := ⟨q3, 0, none⟩) ooOM8 (.int .i64 who)) (p := ⟨q3, 1, none⟩) ooOM8 (.int .i64 rv)) (p := ⟨q3, 2, none⟩) ooOM8 (.int .i64 1)) (p := ⟨q3, 3, none⟩) ooOM8 (.int .i64 ((k : Int) + 1))) (p := ⟨q3, 4, none⟩) ooOM8 (.int .i64 wv)) (p := ⟨q3, 5, none⟩) ooOM8 (.slice a2 n k2)) (p := ⟨q3, 6, none⟩) ooOM8 (.slice d2 m l2))
        replace OD := (ownC_other (i := 6) (u := .slice d2 m l2) (ownC_other (i := 5) (u := .slice a2 n k2) (ownC_other (i := 4) (u := .int .i64 wv) (ownC_other (i := 3) (u := .int .i64 ((k : Int) + 1)) (ownC_other (i := 2) (u := .int .i64 1) (ownC_other (i := 1) (u := .int .i64 rv) (ownC_other (i := 0) (u := .int .i64 who) OD ooD) ooD) ooD) ooD) ooD) ooD) ooD)
        replace bb := (((((((bb.setCell (p := ⟨q3, 0, none⟩) (show g ≤ q3 by omega) (.int .i64 who)).setCell (p := ⟨q3, 1, none⟩) (show g ≤ q3 by omega) (.int .i64 rv)).setCell (p := ⟨q3, 2, none⟩) (show g ≤ q3 by omega) (.int .i64 1)).setCell (p := ⟨q3, 3, none⟩) (show g ≤ q3 by omega) (.int .i64 ((k : Int) + 1))).setCell (p := ⟨q3, 4, none⟩) (show g ≤ q3 by omega) (.int .i64 wv)).setCell (p := ⟨q3, 5, none⟩) (show g ≤ q3 by omega) (.slice a2 n k2)).setCell (p := ⟨q3, 6, none⟩) (show g ≤ q3 by omega) (.slice d2 m l2))
        have Mb := Mb_; have Cb := Cb_; have R1 := R1_; have R2 := R2_; have Xb := Xb_; have Db := Db_; have Yb := Yb_
        clear Mb_ Cb_ R1_ R2_ Xb_ Db_ Yb_ ooOX ooOM8 ooD
        obtain ⟨V29, hWN⟩ : ∃ W, (((((((V28.setCell ⟨q3, 0, none⟩ (.int .i64 who)).setCell ⟨q3, 1, none⟩ (.int .i64 rv)).setCell ⟨q3, 2, none⟩ (.int .i64 1)).setCell ⟨q3, 3, none⟩ (.int .i64 ((k : Int) + 1))).setCell ⟨q3, 4, none⟩ (.int .i64 wv)).setCell ⟨q3, 5, none⟩ (.slice a2 n k2)).setCell ⟨q3, 6, none⟩ (.slice d2 m l2)) = W := ⟨_, rfl⟩
        rw [hWN] at Mb Cb R1 R2 Xb Db Yb OX OM8 OD bb ⊢
        clear hWN r1 f1
        refine hK.out _ _ ⟨⟨Xb.cell 0, Xb.cell 1⟩, ⟨Db.cell 0, Db.cell 1, Db.cell 2, Db.cell 3, Db.cell 4, Db.cell 5, Db.cell 6⟩, ⟨Cb.cell 0, Cb.cell 1, Cb.cell 2, Cb.cell 3, Cb.cell 4, Cb.cell 5, Cb.cell 6⟩⟩ (fun _ => ?_)
        clear hK K
        try simp only [Act.put, List.setIfInBounds_toArray, List.set_cons_zero, List.set_cons_succ]
        refine wpAnyH_done (by kernel_rfl) ?_ _
        have r1 := fun i => R1.cell i; have r2 := fun i => R2.cell i
        clear hHeld
        go_wp2
        refine bodyPost_ret (v := .tuple #[.agg #[.int .i64 mc, .slice a8 n8 k8], .agg #[.int .i64 who, .int .i64 rv, .int .i64 1, .int .i64 ((k : Int) + 1), .int .i64 wv, .slice a2 n k2, .slice d2 m l2]]) (by simp [results, Tryd.results6, go_sem, r1, r2]) rfl ?_
        have OM := OM8
        exact told_mk HZ.out HN8.out HN.out HM2.out hg OM OD bb
end Commits
end Go.Proofs.YtppikpdphcfomaaDoor
