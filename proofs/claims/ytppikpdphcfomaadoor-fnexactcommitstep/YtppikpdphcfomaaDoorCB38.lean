/- Several texts of one proof, in build order: CommitImplStep. -/
import Derived.Laws.EntriesVeiled
import Derived.Test.YtppikpdphcfomaaDoorCB12
import Derived.Test.YtppikpdphcfomaaDoorCB13
import Derived.Test.YtppikpdphcfomaaDoorCB20
import Derived.Test.YtppikpdphcfomaaDoorCB23
import Derived.Test.YtppikpdphcfomaaDoorCB35
import Derived.Test.YtppikpdphcfomaaDoorCB36
import Derived.Test.YtppikpdphcfomaaDoorCB37
/- CommitStep, as written. -/
set_option linter.unusedVariables false
set_option linter.unusedSimpArgs false
namespace Go.Proofs.YtppikpdphcfomaaDoor
open Go.RowKit
namespace Commits
open Bas Flat Logs
open Words (W3 lockMay lockTo storeMay storeTo unlockMay unlockTo tickC tickR Err wAt memOk)

set_option maxRecDepth 100000 in
set_option maxHeartbeats 12800000 in
theorem implStep (C : Cm) (who rv ph at' wv : Int) (ps : List R2) (rs : List Int) (hC0 : C = ⟨who, rv, ph, at', wv, ps, rs⟩) (mc : Int) (ws : List W3) (vM vP vR : Value) (B : Nat) (w : World) (bE : Addr)
    (hM : Words.Sees B w vM ws) (hC : SeeC B w vP vR ps rs) (hE : Err w bE) (hB : B ≤ w.heap.size) (hl : ws.length ≤ 1048576) (hf1 : ps.length ≤ 1048576) (hf2 : rs.length ≤ 1048576) :
    Calls Tryd.prog 9 #[.agg #[.int .i64 mc, vM], .agg #[.int .i64 who, .int .i64 rv, .int .i64 ph, .int .i64 at', .int .i64 wv, vP, vR]] w fun e w' => StepTold who rv ps rs (stepO mc ws C) w e w' := by
  obtain ⟨av, kv, rfl⟩ := hM.form
  obtain ⟨ap, kp, rfl⟩ := hC.p.form
  obtain ⟨ar, kr, rfl⟩ := hC.r.form
  obtain ⟨g, hg⟩ : ∃ g, w.heap.size = g := ⟨_, rfl⟩
  have hcm := fun v (W : World) (h : Words.Sees B W v ws) (hB : B ≤ W.heap.size) => Words.implCopy mc v ws B W h hB hl
  have hcc := fun vP vR (W : World) (h : SeeC B W vP vR ps rs) (hB : B ≤ W.heap.size) => copyI who rv ph at' wv ps rs vP vR B W h hB hf1 hf2
  have hmo := fun B v (W : World) (h : Words.Sees B W v ws) (hB : B ≤ W.heap.size) => Words.implOk mc v ws B W h hB
  have hco := fun B vP vR (W : World) (h : SeeC B W vP vR ps rs) (hB : B ≤ W.heap.size) => implOkE C who rv ph at' wv ps rs hC0 vP vR B W h hB
  have hno := fun (h : (memOk mc ws && commitOk C) = false) => stepO_no (mc := mc) (ws := ws) (C := C) h
  obtain ⟨Z, hZ⟩ : ∃ Z, stepO mc ws C = Z := ⟨_, rfl⟩
  obtain ⟨n, hn⟩ : ∃ n, ps.length = n := ⟨_, rfl⟩
  obtain ⟨m, hm⟩ : ∃ n, rs.length = n := ⟨_, rfl⟩
  obtain ⟨nw, hnw⟩ : ∃ n, ws.length = n := ⟨_, rfl⟩
  rw [hZ] at hno ⊢
  obtain ⟨mo, hmo1⟩ : ∃ b, memOk mc ws = b := ⟨_, rfl⟩
  obtain ⟨co, hco1⟩ : ∃ b, commitOk C = b := ⟨_, rfl⟩
  rw [hmo1] at hmo
  rw [hco1] at hco
  have HMO := (show Hid _ from hmo1); have HCO := (show Hid _ from hco1); have HN := (show Hid (ps.length = n) from hn); have HM2 := (show Hid (rs.length = m) from hm); have HW := (show Hid (ws.length = nw) from hnw); have HZ := (show Hid _ from hZ)
  rw [hmo1, hco1] at hno
  rw [hn] at hC hcc hf1 ⊢
  rw [hm] at hC hcc hf2 ⊢
  rw [hnw] at hM hl ⊢
  have HC0 := (show Hid _ from hC0)
  clear hC0 hZ hmo1 hco1 hn hm hnw
  have Mb := Blk.new w #[.int .i64 mc, .slice av nw kv] 33
  have b0 := alloc_below w (.cells #[.int .i64 mc, .slice av nw kv] 33)
  obtain ⟨w0, hw0⟩ : ∃ w0, w.alloc (.cells #[.int .i64 mc, .slice av nw kv] 33) = w0 := ⟨_, rfl⟩
  have hz0 : w0.heap.size = g + 1 := by rw [← hw0, ← hg]; simp
  rw [hw0] at Mb b0
  rw [hg] at Mb b0 hB
  obtain ⟨q1, hq1⟩ : ∃ q, w0.heap.size = q := ⟨_, rfl⟩
  have l01 : g < q1 := by omega
  clear hz0
  have Cb := Blk.new w0 #[.int .i64 who, .int .i64 rv, .int .i64 ph, .int .i64 at', .int .i64 wv, .slice ap n kp, .slice ar m kr] 36
  have b1 := alloc_below w0 (.cells #[.int .i64 who, .int .i64 rv, .int .i64 ph, .int .i64 at', .int .i64 wv, .slice ap n kp, .slice ar m kr] 36)
  obtain ⟨w1, hw1⟩ : ∃ w1, w0.alloc (.cells #[.int .i64 who, .int .i64 rv, .int .i64 ph, .int .i64 at', .int .i64 wv, .slice ap n kp, .slice ar m kr] 36) = w1 := ⟨_, rfl⟩
  have hz1 : w1.heap.size = q1 + 1 := by rw [← hw1, ← hq1]; simp
  rw [hw1] at Cb b1
  rw [hq1] at Cb b1
  obtain ⟨q2, hq2⟩ : ∃ q, w1.heap.size = q := ⟨_, rfl⟩
  have l12 : q1 < q2 := by omega
  clear hz1
  have R1 := Blk.new w1 #[.int .i64 0, .slice none 0 0] 33
  have b2 := alloc_below w1 (.cells #[.int .i64 0, .slice none 0 0] 33)
  obtain ⟨w2, hw2⟩ : ∃ w2, w1.alloc (.cells #[.int .i64 0, .slice none 0 0] 33) = w2 := ⟨_, rfl⟩
  have hz2 : w2.heap.size = q2 + 1 := by rw [← hw2, ← hq2]; simp
  rw [hw2] at R1 b2
  rw [hq2] at R1 b2
  obtain ⟨q3, hq3⟩ : ∃ q, w2.heap.size = q := ⟨_, rfl⟩
  have l23 : q2 < q3 := by omega
  clear hz2
  have R2 := Blk.new w2 #[.int .i64 0, .int .i64 0, .int .i64 0, .int .i64 0, .int .i64 0, .slice none 0 0, .slice none 0 0] 36
  have b3 := alloc_below w2 (.cells #[.int .i64 0, .int .i64 0, .int .i64 0, .int .i64 0, .int .i64 0, .slice none 0 0, .slice none 0 0] 36)
  obtain ⟨w3, hw3⟩ : ∃ w3, w2.alloc (.cells #[.int .i64 0, .int .i64 0, .int .i64 0, .int .i64 0, .int .i64 0, .slice none 0 0, .slice none 0 0] 36) = w3 := ⟨_, rfl⟩
  rw [hw3] at R2 b3
  rw [hq3] at R2 b3
  replace Mb := ((Mb.on b1 (by omega)).on b2 (by omega)).on b3 (by omega)
  replace Cb := (Cb.on b2 (by omega)).on b3 (by omega)
  replace R1 := R1.on b3 (by omega)
  have bb : Below g w w3 := ((b0.trans (b1.mono (by omega))).trans (b2.mono (by omega))).trans (b3.mono (by omega))
  have l3 : q3 < w3.heap.size := R2.lt
  replace hM := hM.on bb hB; replace hC := hC.on bb hB
  have hEl : 0 < g := hg ▸ hE.lt
  replace hE := hE.on bb (by omega)
  clear b0 b1 b2 b3
  go_enter Tryd.func9, Tryd.ntmps9
  go_wp2_with fail
  clear hw0 hw1 hw2 hw3
  refine Code.wp_mono (Q := fun e a' W' => e = .normal ∧ ∃ av2 kv2 a2 k2 d2 l2, a' = ⟨#[.agg #[.int .i64 mc, .slice av nw kv], .agg #[.int .i64 who, .int .i64 rv, .int .i64 ph, .int .i64 at', .int .i64 wv, .slice ap n kp, .slice ar m kr], .pointer (some ⟨g, 0, none⟩), .pointer (some ⟨q1, 0, none⟩), .pointer (some ⟨q2, 0, none⟩), .pointer (some ⟨q3, 0, none⟩), undef, .agg #[.int .i64 mc, .slice av nw kv], .agg #[.int .i64 mc, .slice av2 nw kv2], .agg #[.int .i64 who, .int .i64 rv, .int .i64 ph, .int .i64 at', .int .i64 wv, .slice ap n kp, .slice ar m kr], .agg #[.int .i64 who, .int .i64 rv, .int .i64 ph, .int .i64 at', .int .i64 wv, .slice a2 n k2, .slice d2 m l2], undef, undef, undef, undef, undef, undef, undef, undef, undef, undef, undef, undef, undef, undef, undef, undef, undef, undef, undef, undef], []⟩ ∧ Blk W' g #[.int .i64 mc, .slice av2 nw kv2] 33 ∧ Blk W' q1 #[.int .i64 who, .int .i64 rv, .int .i64 ph, .int .i64 at', .int .i64 wv, .slice a2 n k2, .slice d2 m l2] 36 ∧ Blk W' q2 #[.int .i64 0, .slice none 0 0] 33 ∧ Blk W' q3 #[.int .i64 0, .int .i64 0, .int .i64 0, .int .i64 0, .int .i64 0, .slice none 0 0, .slice none 0 0] 36 ∧ (Words.Owns g W' (.slice av2 nw kv2) ws ∧ ∀ k, (Value.slice av2 nw kv2).ownBlock = some k → q3 < k) ∧ (OwnC g W' (.slice a2 n k2) (.slice d2 m l2) ps rs ∧ ∀ k, Two (.slice a2 n k2) (.slice d2 m l2) k → q3 < k) ∧ Below g w W' ∧ Err W' bE) ?_ ?_
  rotate_left
  · replace Mb := Mb.drew; replace Cb := Cb.drew; replace R1 := R1.drew; replace R2 := R2.drew; replace hC := hC.drew; replace bb := bb.drew
    replace hE : Err _ _ := hE.on (drew_lowC w3) (Nat.le_refl _); replace hM := hM.on (drew_lowC w3) (show B ≤ w3.heap.size by have := bb.size; omega)
    have hlt : q3 < w3.drew.heap.size := R2.lt
    obtain ⟨WD, hWD⟩ : ∃ WD, w3.drew = WD := ⟨_, rfl⟩
    refine wp_region_held_drew (S := fun _ => True) (by kernel_rfl) trivial (fun hHeld => ?_)
    rw [hWD] at Mb Cb R1 R2 hC hE hM bb hlt ⊢
    clear hWD l3
    have m0 := Mb.cell 0; have m1 := Mb.cell 1
    have c0 := Cb.cell 0; have c1 := Cb.cell 1; have c2 := Cb.cell 2; have c3 := Cb.cell 3; have c4 := Cb.cell 4; have c5 := Cb.cell 5; have c6 := Cb.cell 6
    refine wpAnyH_ready (rs := [0, 2]) (by kernel_rfl) (by simp) ?_
    refine AllReadyH.cons rfl (fun K hK => ?_) (AllReadyH.cons rfl (fun K hK => ?_) AllReadyH.nil)
    · go_simp
      refine hK.out _ _ trivial (fun _ => ?_)
      clear hK K
      try simp only [Act.put, List.setIfInBounds_toArray, List.set_cons_zero, List.set_cons_succ]
      refine wpAnyH_ready (rs := [1, 2]) (by kernel_rfl) (by simp) ?_
      refine AllReadyH.cons rfl (fun K hK => ?_) (AllReadyH.cons rfl (fun K hK => ?_) AllReadyH.nil)
      · go_simp
        refine (hcm _ WD hM (by have := bb.size; omega)).mono ?_
        rintro e V1 ⟨v2, rfl, OM, b7⟩
        obtain ⟨av2, kv2, rfl⟩ := OM.form
        rw [HW.out] at OM ⊢
        have oM : ∀ k, (Value.slice av2 nw kv2).ownBlock = some k → q3 < k := fun k hk => by have := (OM.at k hk).1; omega
        replace OM := OM.mono (show g ≤ WD.heap.size by have := bb.size; omega)
        replace Mb := Mb.on b7 Mb.lt
        replace Cb := Cb.on b7 Cb.lt
        replace R1 := R1.on b7 R1.lt
        replace R2 := R2.on b7 R2.lt
        replace hC := hC.on b7 (by have := bb.size; omega)
        replace hE := hE.on b7 (Nat.le_refl _)
        replace bb := bb.trans (b7.mono (by have := bb.size; omega))
        replace hlt := Nat.lt_of_lt_of_le hlt b7.size
        clear b7 c0 c1 c2 c3 c4 c5 c6
        have c0 := Cb.cell 0; have c1 := Cb.cell 1; have c2 := Cb.cell 2; have c3 := Cb.cell 3; have c4 := Cb.cell 4; have c5 := Cb.cell 5; have c6 := Cb.cell 6
        go_simp
        refine hK.out _ _ trivial (fun _ => ?_)
        clear hK K
        try simp only [Act.put, List.setIfInBounds_toArray, List.set_cons_zero, List.set_cons_succ]
        refine wpAnyH_ready (rs := [2]) (by kernel_rfl) (by simp) ?_
        refine AllReadyH.cons rfl (fun K hK => ?_) (AllReadyH.nil)
        go_simp
        refine hK.out _ _ trivial (fun _ => ?_)
        clear hK K
        try simp only [Act.put, List.setIfInBounds_toArray, List.set_cons_zero, List.set_cons_succ]
        refine wpAnyH_ready (rs := [3]) (by kernel_rfl) (by simp) ?_
        refine AllReadyH.cons rfl (fun K hK => ?_) (AllReadyH.nil)
        go_simp
        refine (hcc _ _ V1 hC (by have := bb.size; omega)).mono ?_
        rintro e V3 ⟨a2, k2, d2, l2, rfl, OC, b7⟩
        have oC : ∀ k, Two (.slice a2 n k2) (.slice d2 m l2) k → q3 < k := fun k hk => by have := (OC.two k hk).1; omega
        replace OC := OC.mono (show g ≤ V1.heap.size by have := bb.size; omega)
        replace Mb := Mb.on b7 Mb.lt
        replace Cb := Cb.on b7 Cb.lt
        replace R1 := R1.on b7 R1.lt
        replace R2 := R2.on b7 R2.lt
        replace OM := OM.on b7 (Nat.le_refl _)
        replace hE := hE.on b7 (Nat.le_refl _)
        replace bb := bb.trans (b7.mono (by have := bb.size; omega))
        replace hlt := Nat.lt_of_lt_of_le hlt b7.size
        clear b7
        go_simp
        refine hK.out _ _ trivial (fun _ => ?_)
        clear hK K
        try simp only [Act.put, List.setIfInBounds_toArray, List.set_cons_zero, List.set_cons_succ]
        have r1 := fun i => Mb.cell i; have f1 := fun i => Mb.froz i
        refine wpAnyH_ready (rs := [4]) (by kernel_rfl) (by simp) ?_
        refine AllReadyH.cons rfl (fun K hK => ?_) (AllReadyH.nil)
        go_simp
        replace Cb := ((Cb.other (show q1 ≠ g by omega) 0 (.int .i64 mc)).other (show q1 ≠ g by omega) 1 (.slice av2 nw kv2))
        replace R1 := ((R1.other (show q2 ≠ g by omega) 0 (.int .i64 mc)).other (show q2 ≠ g by omega) 1 (.slice av2 nw kv2))
        replace R2 := ((R2.other (show q3 ≠ g by omega) 0 (.int .i64 mc)).other (show q3 ≠ g by omega) 1 (.slice av2 nw kv2))
        replace Mb := ((Mb.set 0 (.int .i64 mc)).set 1 (.slice av2 nw kv2))
        have oMg : ∀ k, (Value.slice av2 nw kv2).ownBlock = some k → k ≠ g := fun k hk => by have := oM k hk; omega
        have oMq : ∀ k, (Value.slice av2 nw kv2).ownBlock = some k → k ≠ q1 := fun k hk => by have := oM k hk; omega
        have oCg : ∀ k, Two (.slice a2 n k2) (.slice d2 m l2) k → k ≠ g := fun k hk => by have := oC k hk; omega
        have oCq : ∀ k, Two (.slice a2 n k2) (.slice d2 m l2) k → k ≠ q1 := fun k hk => by have := oC k hk; omega
        replace OM := (Words.Owns.other (Words.Owns.other OM (p := ⟨g, 0, none⟩) oMg (.int .i64 mc)) (p := ⟨g, 1, none⟩) oMg (.slice av2 nw kv2))
        replace OC := (ownC_other (i := 1) (u := .slice av2 nw kv2) (ownC_other (i := 0) (u := .int .i64 mc) OC oCg) oCg)
        have hEn : 0 < g := hEl
        replace hE := err_set (err_set hE (Nat.ne_of_lt hEn) 0 (.int .i64 mc)) (Nat.ne_of_lt hEn) 1 (.slice av2 nw kv2)
        replace bb := ((bb.setCell (p := ⟨g, 0, none⟩) (show g ≤ g by omega) (.int .i64 mc)).setCell (p := ⟨g, 1, none⟩) (show g ≤ g by omega) (.slice av2 nw kv2))
        obtain ⟨WA, hWA⟩ : ∃ W, ((V3.setCell ⟨g, 0, none⟩ (.int .i64 mc)).setCell ⟨g, 1, none⟩ (.slice av2 nw kv2)) = W := ⟨_, rfl⟩
        rw [hWA] at Cb Mb R1 R2 OM OC hE bb ⊢
        clear hWA r1 f1
        refine hK.out _ _ trivial (fun _ => ?_)
        clear hK K
        try simp only [Act.put, List.setIfInBounds_toArray, List.set_cons_zero, List.set_cons_succ]
        have r1 := fun i => Cb.cell i; have f1 := fun i => Cb.froz i
        refine wpAnyH_ready (rs := [5]) (by kernel_rfl) (by simp) ?_
        refine AllReadyH.cons rfl (fun K hK => ?_) (AllReadyH.nil)
        go_simp
        replace Mb := (((((((Mb.other (show g ≠ q1 by omega) 0 (.int .i64 who)).other (show g ≠ q1 by omega) 1 (.int .i64 rv)).other (show g ≠ q1 by omega) 2 (.int .i64 ph)).other (show g ≠ q1 by omega) 3 (.int .i64 at')).other (show g ≠ q1 by omega) 4 (.int .i64 wv)).other (show g ≠ q1 by omega) 5 (.slice a2 n k2)).other (show g ≠ q1 by omega) 6 (.slice d2 m l2))
        replace R1 := (((((((R1.other (show q2 ≠ q1 by omega) 0 (.int .i64 who)).other (show q2 ≠ q1 by omega) 1 (.int .i64 rv)).other (show q2 ≠ q1 by omega) 2 (.int .i64 ph)).other (show q2 ≠ q1 by omega) 3 (.int .i64 at')).other (show q2 ≠ q1 by omega) 4 (.int .i64 wv)).other (show q2 ≠ q1 by omega) 5 (.slice a2 n k2)).other (show q2 ≠ q1 by omega) 6 (.slice d2 m l2))
        replace R2 := (((((((R2.other (show q3 ≠ q1 by omega) 0 (.int .i64 who)).other (show q3 ≠ q1 by omega) 1 (.int .i64 rv)).other (show q3 ≠ q1 by omega) 2 (.int .i64 ph)).other (show q3 ≠ q1 by omega) 3 (.int .i64 at')).other (show q3 ≠ q1 by omega) 4 (.int .i64 wv)).other (show q3 ≠ q1 by omega) 5 (.slice a2 n k2)).other (show q3 ≠ q1 by omega) 6 (.slice d2 m l2))
        replace Cb := (((((((Cb.set 0 (.int .i64 who)).set 1 (.int .i64 rv)).set 2 (.int .i64 ph)).set 3 (.int .i64 at')).set 4 (.int .i64 wv)).set 5 (.slice a2 n k2)).set 6 (.slice d2 m l2))
        replace OM := (Words.Owns.other (Words.Owns.other (Words.Owns.other (Words.Owns.other (Words.Owns.other (Words.Owns.other (Words.Owns.other OM (p := ⟨q1, 0, none⟩) oMq (.int .i64 who)) (p := ⟨q1, 1, none⟩) oMq (.int .i64 rv)) (p := ⟨q1, 2, none⟩) oMq (.int .i64 ph)) (p := ⟨q1, 3, none⟩) oMq (.int .i64 at')) (p := ⟨q1, 4, none⟩) oMq (.int .i64 wv)) (p := ⟨q1, 5, none⟩) oMq (.slice a2 n k2)) (p := ⟨q1, 6, none⟩) oMq (.slice d2 m l2))
        replace OC := (ownC_other (i := 6) (u := .slice d2 m l2) (ownC_other (i := 5) (u := .slice a2 n k2) (ownC_other (i := 4) (u := .int .i64 wv) (ownC_other (i := 3) (u := .int .i64 at') (ownC_other (i := 2) (u := .int .i64 ph) (ownC_other (i := 1) (u := .int .i64 rv) (ownC_other (i := 0) (u := .int .i64 who) OC oCq) oCq) oCq) oCq) oCq) oCq) oCq)
        replace hE := (err_set (err_set (err_set (err_set (err_set (err_set (err_set hE (Nat.ne_of_lt (Nat.lt_trans hEn l01)) 0 (.int .i64 who)) (Nat.ne_of_lt (Nat.lt_trans hEn l01)) 1 (.int .i64 rv)) (Nat.ne_of_lt (Nat.lt_trans hEn l01)) 2 (.int .i64 ph)) (Nat.ne_of_lt (Nat.lt_trans hEn l01)) 3 (.int .i64 at')) (Nat.ne_of_lt (Nat.lt_trans hEn l01)) 4 (.int .i64 wv)) (Nat.ne_of_lt (Nat.lt_trans hEn l01)) 5 (.slice a2 n k2)) (Nat.ne_of_lt (Nat.lt_trans hEn l01)) 6 (.slice d2 m l2))
        replace bb := (((((((bb.setCell (p := ⟨q1, 0, none⟩) (show g ≤ q1 by omega) (.int .i64 who)).setCell (p := ⟨q1, 1, none⟩) (show g ≤ q1 by omega) (.int .i64 rv)).setCell (p := ⟨q1, 2, none⟩) (show g ≤ q1 by omega) (.int .i64 ph)).setCell (p := ⟨q1, 3, none⟩) (show g ≤ q1 by omega) (.int .i64 at')).setCell (p := ⟨q1, 4, none⟩) (show g ≤ q1 by omega) (.int .i64 wv)).setCell (p := ⟨q1, 5, none⟩) (show g ≤ q1 by omega) (.slice a2 n k2)).setCell (p := ⟨q1, 6, none⟩) (show g ≤ q1 by omega) (.slice d2 m l2))
        obtain ⟨WB, hWB⟩ : ∃ W, (((((((WA.setCell ⟨q1, 0, none⟩ (.int .i64 who)).setCell ⟨q1, 1, none⟩ (.int .i64 rv)).setCell ⟨q1, 2, none⟩ (.int .i64 ph)).setCell ⟨q1, 3, none⟩ (.int .i64 at')).setCell ⟨q1, 4, none⟩ (.int .i64 wv)).setCell ⟨q1, 5, none⟩ (.slice a2 n k2)).setCell ⟨q1, 6, none⟩ (.slice d2 m l2)) = W := ⟨_, rfl⟩
        rw [hWB] at Cb Mb R1 R2 OM OC hE bb ⊢
        clear hWB r1 f1
        refine hK.out _ _ trivial (fun _ => ?_)
        clear hK K
        try simp only [Act.put, List.setIfInBounds_toArray, List.set_cons_zero, List.set_cons_succ]
        refine wpAnyH_done (by kernel_rfl) ?_ _
        exact ⟨rfl, av2, kv2, a2, k2, d2, l2, rfl, Mb, Cb, R1, R2, ⟨OM, oM⟩, ⟨OC, oC⟩, bb, hE⟩
      · go_simp
        refine hK.out _ _ trivial (fun _ => ?_)
        clear hK K
        try simp only [Act.put, List.setIfInBounds_toArray, List.set_cons_zero, List.set_cons_succ]
        refine wpAnyH_ready (rs := [1]) (by kernel_rfl) (by simp) ?_
        refine AllReadyH.cons rfl (fun K hK => ?_) (AllReadyH.nil)
        go_simp
        refine (hcm _ WD hM (by have := bb.size; omega)).mono ?_
        rintro e V1 ⟨v2, rfl, OM, b7⟩
        obtain ⟨av2, kv2, rfl⟩ := OM.form
        rw [HW.out] at OM ⊢
        have oM : ∀ k, (Value.slice av2 nw kv2).ownBlock = some k → q3 < k := fun k hk => by have := (OM.at k hk).1; omega
        replace OM := OM.mono (show g ≤ WD.heap.size by have := bb.size; omega)
        replace Mb := Mb.on b7 Mb.lt
        replace Cb := Cb.on b7 Cb.lt
        replace R1 := R1.on b7 R1.lt
        replace R2 := R2.on b7 R2.lt
        replace hC := hC.on b7 (by have := bb.size; omega)
        replace hE := hE.on b7 (Nat.le_refl _)
        replace bb := bb.trans (b7.mono (by have := bb.size; omega))
        replace hlt := Nat.lt_of_lt_of_le hlt b7.size
        clear b7
        go_simp
        refine hK.out _ _ trivial (fun _ => ?_)
        clear hK K
        try simp only [Act.put, List.setIfInBounds_toArray, List.set_cons_zero, List.set_cons_succ]
        refine wpAnyH_ready (rs := [3]) (by kernel_rfl) (by simp) ?_
        refine AllReadyH.cons rfl (fun K hK => ?_) (AllReadyH.nil)
        go_simp
        refine (hcc _ _ V1 hC (by have := bb.size; omega)).mono ?_
        rintro e V3 ⟨a2, k2, d2, l2, rfl, OC, b7⟩
        have oC : ∀ k, Two (.slice a2 n k2) (.slice d2 m l2) k → q3 < k := fun k hk => by have := (OC.two k hk).1; omega
        replace OC := OC.mono (show g ≤ V1.heap.size by have := bb.size; omega)
        replace Mb := Mb.on b7 Mb.lt
        replace Cb := Cb.on b7 Cb.lt
        replace R1 := R1.on b7 R1.lt
        replace R2 := R2.on b7 R2.lt
        replace OM := OM.on b7 (Nat.le_refl _)
        replace hE := hE.on b7 (Nat.le_refl _)
        replace bb := bb.trans (b7.mono (by have := bb.size; omega))
        replace hlt := Nat.lt_of_lt_of_le hlt b7.size
        clear b7
        go_simp
        refine hK.out _ _ trivial (fun _ => ?_)
        clear hK K
        try simp only [Act.put, List.setIfInBounds_toArray, List.set_cons_zero, List.set_cons_succ]
        have r1 := fun i => Mb.cell i; have f1 := fun i => Mb.froz i
        refine wpAnyH_ready (rs := [4]) (by kernel_rfl) (by simp) ?_
        refine AllReadyH.cons rfl (fun K hK => ?_) (AllReadyH.nil)
        go_simp
        replace Cb := ((Cb.other (show q1 ≠ g by omega) 0 (.int .i64 mc)).other (show q1 ≠ g by omega) 1 (.slice av2 nw kv2))
        replace R1 := ((R1.other (show q2 ≠ g by omega) 0 (.int .i64 mc)).other (show q2 ≠ g by omega) 1 (.slice av2 nw kv2))
        replace R2 := ((R2.other (show q3 ≠ g by omega) 0 (.int .i64 mc)).other (show q3 ≠ g by omega) 1 (.slice av2 nw kv2))
        replace Mb := ((Mb.set 0 (.int .i64 mc)).set 1 (.slice av2 nw kv2))
        have oMg : ∀ k, (Value.slice av2 nw kv2).ownBlock = some k → k ≠ g := fun k hk => by have := oM k hk; omega
        have oMq : ∀ k, (Value.slice av2 nw kv2).ownBlock = some k → k ≠ q1 := fun k hk => by have := oM k hk; omega
        have oCg : ∀ k, Two (.slice a2 n k2) (.slice d2 m l2) k → k ≠ g := fun k hk => by have := oC k hk; omega
        have oCq : ∀ k, Two (.slice a2 n k2) (.slice d2 m l2) k → k ≠ q1 := fun k hk => by have := oC k hk; omega
        replace OM := (Words.Owns.other (Words.Owns.other OM (p := ⟨g, 0, none⟩) oMg (.int .i64 mc)) (p := ⟨g, 1, none⟩) oMg (.slice av2 nw kv2))
        replace OC := (ownC_other (i := 1) (u := .slice av2 nw kv2) (ownC_other (i := 0) (u := .int .i64 mc) OC oCg) oCg)
        have hEn : 0 < g := hEl
        replace hE := err_set (err_set hE (Nat.ne_of_lt hEn) 0 (.int .i64 mc)) (Nat.ne_of_lt hEn) 1 (.slice av2 nw kv2)
        replace bb := ((bb.setCell (p := ⟨g, 0, none⟩) (show g ≤ g by omega) (.int .i64 mc)).setCell (p := ⟨g, 1, none⟩) (show g ≤ g by omega) (.slice av2 nw kv2))
        obtain ⟨WA, hWA⟩ : ∃ W, ((V3.setCell ⟨g, 0, none⟩ (.int .i64 mc)).setCell ⟨g, 1, none⟩ (.slice av2 nw kv2)) = W := ⟨_, rfl⟩
        rw [hWA] at Cb Mb R1 R2 OM OC hE bb ⊢
        clear hWA r1 f1
        refine hK.out _ _ trivial (fun _ => ?_)
        clear hK K
        try simp only [Act.put, List.setIfInBounds_toArray, List.set_cons_zero, List.set_cons_succ]
        have r1 := fun i => Cb.cell i; have f1 := fun i => Cb.froz i
        refine wpAnyH_ready (rs := [5]) (by kernel_rfl) (by simp) ?_
        refine AllReadyH.cons rfl (fun K hK => ?_) (AllReadyH.nil)
        go_simp
        replace Mb := (((((((Mb.other (show g ≠ q1 by omega) 0 (.int .i64 who)).other (show g ≠ q1 by omega) 1 (.int .i64 rv)).other (show g ≠ q1 by omega) 2 (.int .i64 ph)).other (show g ≠ q1 by omega) 3 (.int .i64 at')).other (show g ≠ q1 by omega) 4 (.int .i64 wv)).other (show g ≠ q1 by omega) 5 (.slice a2 n k2)).other (show g ≠ q1 by omega) 6 (.slice d2 m l2))
        replace R1 := (((((((R1.other (show q2 ≠ q1 by omega) 0 (.int .i64 who)).other (show q2 ≠ q1 by omega) 1 (.int .i64 rv)).other (show q2 ≠ q1 by omega) 2 (.int .i64 ph)).other (show q2 ≠ q1 by omega) 3 (.int .i64 at')).other (show q2 ≠ q1 by omega) 4 (.int .i64 wv)).other (show q2 ≠ q1 by omega) 5 (.slice a2 n k2)).other (show q2 ≠ q1 by omega) 6 (.slice d2 m l2))
        replace R2 := (((((((R2.other (show q3 ≠ q1 by omega) 0 (.int .i64 who)).other (show q3 ≠ q1 by omega) 1 (.int .i64 rv)).other (show q3 ≠ q1 by omega) 2 (.int .i64 ph)).other (show q3 ≠ q1 by omega) 3 (.int .i64 at')).other (show q3 ≠ q1 by omega) 4 (.int .i64 wv)).other (show q3 ≠ q1 by omega) 5 (.slice a2 n k2)).other (show q3 ≠ q1 by omega) 6 (.slice d2 m l2))
        replace Cb := (((((((Cb.set 0 (.int .i64 who)).set 1 (.int .i64 rv)).set 2 (.int .i64 ph)).set 3 (.int .i64 at')).set 4 (.int .i64 wv)).set 5 (.slice a2 n k2)).set 6 (.slice d2 m l2))
        replace OM := (Words.Owns.other (Words.Owns.other (Words.Owns.other (Words.Owns.other (Words.Owns.other (Words.Owns.other (Words.Owns.other OM (p := ⟨q1, 0, none⟩) oMq (.int .i64 who)) (p := ⟨q1, 1, none⟩) oMq (.int .i64 rv)) (p := ⟨q1, 2, none⟩) oMq (.int .i64 ph)) (p := ⟨q1, 3, none⟩) oMq (.int .i64 at')) (p := ⟨q1, 4, none⟩) oMq (.int .i64 wv)) (p := ⟨q1, 5, none⟩) oMq (.slice a2 n k2)) (p := ⟨q1, 6, none⟩) oMq (.slice d2 m l2))
        replace OC := (ownC_other (i := 6) (u := .slice d2 m l2) (ownC_other (i := 5) (u := .slice a2 n k2) (ownC_other (i := 4) (u := .int .i64 wv) (ownC_other (i := 3) (u := .int .i64 at') (ownC_other (i := 2) (u := .int .i64 ph) (ownC_other (i := 1) (u := .int .i64 rv) (ownC_other (i := 0) (u := .int .i64 who) OC oCq) oCq) oCq) oCq) oCq) oCq) oCq)
        replace hE := (err_set (err_set (err_set (err_set (err_set (err_set (err_set hE (Nat.ne_of_lt (Nat.lt_trans hEn l01)) 0 (.int .i64 who)) (Nat.ne_of_lt (Nat.lt_trans hEn l01)) 1 (.int .i64 rv)) (Nat.ne_of_lt (Nat.lt_trans hEn l01)) 2 (.int .i64 ph)) (Nat.ne_of_lt (Nat.lt_trans hEn l01)) 3 (.int .i64 at')) (Nat.ne_of_lt (Nat.lt_trans hEn l01)) 4 (.int .i64 wv)) (Nat.ne_of_lt (Nat.lt_trans hEn l01)) 5 (.slice a2 n k2)) (Nat.ne_of_lt (Nat.lt_trans hEn l01)) 6 (.slice d2 m l2))
        replace bb := (((((((bb.setCell (p := ⟨q1, 0, none⟩) (show g ≤ q1 by omega) (.int .i64 who)).setCell (p := ⟨q1, 1, none⟩) (show g ≤ q1 by omega) (.int .i64 rv)).setCell (p := ⟨q1, 2, none⟩) (show g ≤ q1 by omega) (.int .i64 ph)).setCell (p := ⟨q1, 3, none⟩) (show g ≤ q1 by omega) (.int .i64 at')).setCell (p := ⟨q1, 4, none⟩) (show g ≤ q1 by omega) (.int .i64 wv)).setCell (p := ⟨q1, 5, none⟩) (show g ≤ q1 by omega) (.slice a2 n k2)).setCell (p := ⟨q1, 6, none⟩) (show g ≤ q1 by omega) (.slice d2 m l2))
        obtain ⟨WB, hWB⟩ : ∃ W, (((((((WA.setCell ⟨q1, 0, none⟩ (.int .i64 who)).setCell ⟨q1, 1, none⟩ (.int .i64 rv)).setCell ⟨q1, 2, none⟩ (.int .i64 ph)).setCell ⟨q1, 3, none⟩ (.int .i64 at')).setCell ⟨q1, 4, none⟩ (.int .i64 wv)).setCell ⟨q1, 5, none⟩ (.slice a2 n k2)).setCell ⟨q1, 6, none⟩ (.slice d2 m l2)) = W := ⟨_, rfl⟩
        rw [hWB] at Cb Mb R1 R2 OM OC hE bb ⊢
        clear hWB r1 f1
        refine hK.out _ _ trivial (fun _ => ?_)
        clear hK K
        try simp only [Act.put, List.setIfInBounds_toArray, List.set_cons_zero, List.set_cons_succ]
        refine wpAnyH_done (by kernel_rfl) ?_ _
        exact ⟨rfl, av2, kv2, a2, k2, d2, l2, rfl, Mb, Cb, R1, R2, ⟨OM, oM⟩, ⟨OC, oC⟩, bb, hE⟩
    · go_simp
      refine hK.out _ _ trivial (fun _ => ?_)
      clear hK K
      try simp only [Act.put, List.setIfInBounds_toArray, List.set_cons_zero, List.set_cons_succ]
      refine wpAnyH_ready (rs := [0]) (by kernel_rfl) (by simp) ?_
      refine AllReadyH.cons rfl (fun K hK => ?_) (AllReadyH.nil)
      go_simp
      refine hK.out _ _ trivial (fun _ => ?_)
      clear hK K
      try simp only [Act.put, List.setIfInBounds_toArray, List.set_cons_zero, List.set_cons_succ]
      refine wpAnyH_ready (rs := [1]) (by kernel_rfl) (by simp) ?_
      refine AllReadyH.cons rfl (fun K hK => ?_) (AllReadyH.nil)
      go_simp
      refine (hcm _ WD hM (by have := bb.size; omega)).mono ?_
      rintro e V1 ⟨v2, rfl, OM, b7⟩
      obtain ⟨av2, kv2, rfl⟩ := OM.form
      rw [HW.out] at OM ⊢
      have oM : ∀ k, (Value.slice av2 nw kv2).ownBlock = some k → q3 < k := fun k hk => by have := (OM.at k hk).1; omega
      replace OM := OM.mono (show g ≤ WD.heap.size by have := bb.size; omega)
      replace Mb := Mb.on b7 Mb.lt
      replace Cb := Cb.on b7 Cb.lt
      replace R1 := R1.on b7 R1.lt
      replace R2 := R2.on b7 R2.lt
      replace hC := hC.on b7 (by have := bb.size; omega)
      replace hE := hE.on b7 (Nat.le_refl _)
      replace bb := bb.trans (b7.mono (by have := bb.size; omega))
      replace hlt := Nat.lt_of_lt_of_le hlt b7.size
      clear b7
      go_simp
      refine hK.out _ _ trivial (fun _ => ?_)
      clear hK K
      try simp only [Act.put, List.setIfInBounds_toArray, List.set_cons_zero, List.set_cons_succ]
      refine wpAnyH_ready (rs := [3]) (by kernel_rfl) (by simp) ?_
      refine AllReadyH.cons rfl (fun K hK => ?_) (AllReadyH.nil)
      go_simp
      refine (hcc _ _ V1 hC (by have := bb.size; omega)).mono ?_
      rintro e V3 ⟨a2, k2, d2, l2, rfl, OC, b7⟩
      have oC : ∀ k, Two (.slice a2 n k2) (.slice d2 m l2) k → q3 < k := fun k hk => by have := (OC.two k hk).1; omega
      replace OC := OC.mono (show g ≤ V1.heap.size by have := bb.size; omega)
      replace Mb := Mb.on b7 Mb.lt
      replace Cb := Cb.on b7 Cb.lt
      replace R1 := R1.on b7 R1.lt
      replace R2 := R2.on b7 R2.lt
      replace OM := OM.on b7 (Nat.le_refl _)
      replace hE := hE.on b7 (Nat.le_refl _)
      replace bb := bb.trans (b7.mono (by have := bb.size; omega))
      replace hlt := Nat.lt_of_lt_of_le hlt b7.size
      clear b7
      go_simp
      refine hK.out _ _ trivial (fun _ => ?_)
      clear hK K
      try simp only [Act.put, List.setIfInBounds_toArray, List.set_cons_zero, List.set_cons_succ]
      have r1 := fun i => Mb.cell i; have f1 := fun i => Mb.froz i
      refine wpAnyH_ready (rs := [4]) (by kernel_rfl) (by simp) ?_
      refine AllReadyH.cons rfl (fun K hK => ?_) (AllReadyH.nil)
      go_simp
      replace Cb := ((Cb.other (show q1 ≠ g by omega) 0 (.int .i64 mc)).other (show q1 ≠ g by omega) 1 (.slice av2 nw kv2))
      replace R1 := ((R1.other (show q2 ≠ g by omega) 0 (.int .i64 mc)).other (show q2 ≠ g by omega) 1 (.slice av2 nw kv2))
      replace R2 := ((R2.other (show q3 ≠ g by omega) 0 (.int .i64 mc)).other (show q3 ≠ g by omega) 1 (.slice av2 nw kv2))
      replace Mb := ((Mb.set 0 (.int .i64 mc)).set 1 (.slice av2 nw kv2))
      have oMg : ∀ k, (Value.slice av2 nw kv2).ownBlock = some k → k ≠ g := fun k hk => by have := oM k hk; omega
      have oMq : ∀ k, (Value.slice av2 nw kv2).ownBlock = some k → k ≠ q1 := fun k hk => by have := oM k hk; omega
      have oCg : ∀ k, Two (.slice a2 n k2) (.slice d2 m l2) k → k ≠ g := fun k hk => by have := oC k hk; omega
      have oCq : ∀ k, Two (.slice a2 n k2) (.slice d2 m l2) k → k ≠ q1 := fun k hk => by have := oC k hk; omega
      replace OM := (Words.Owns.other (Words.Owns.other OM (p := ⟨g, 0, none⟩) oMg (.int .i64 mc)) (p := ⟨g, 1, none⟩) oMg (.slice av2 nw kv2))
      replace OC := (ownC_other (i := 1) (u := .slice av2 nw kv2) (ownC_other (i := 0) (u := .int .i64 mc) OC oCg) oCg)
      have hEn : 0 < g := hEl
      replace hE := err_set (err_set hE (Nat.ne_of_lt hEn) 0 (.int .i64 mc)) (Nat.ne_of_lt hEn) 1 (.slice av2 nw kv2)
      replace bb := ((bb.setCell (p := ⟨g, 0, none⟩) (show g ≤ g by omega) (.int .i64 mc)).setCell (p := ⟨g, 1, none⟩) (show g ≤ g by omega) (.slice av2 nw kv2))
      obtain ⟨WA, hWA⟩ : ∃ W, ((V3.setCell ⟨g, 0, none⟩ (.int .i64 mc)).setCell ⟨g, 1, none⟩ (.slice av2 nw kv2)) = W := ⟨_, rfl⟩
      rw [hWA] at Cb Mb R1 R2 OM OC hE bb ⊢
      clear hWA r1 f1
      refine hK.out _ _ trivial (fun _ => ?_)
      clear hK K
      try simp only [Act.put, List.setIfInBounds_toArray, List.set_cons_zero, List.set_cons_succ]
      have r1 := fun i => Cb.cell i; have f1 := fun i => Cb.froz i
      refine wpAnyH_ready (rs := [5]) (by kernel_rfl) (by simp) ?_
      refine AllReadyH.cons rfl (fun K hK => ?_) (AllReadyH.nil)
      go_simp
      replace Mb := (((((((Mb.other (show g ≠ q1 by omega) 0 (.int .i64 who)).other (show g ≠ q1 by omega) 1 (.int .i64 rv)).other (show g ≠ q1 by omega) 2 (.int .i64 ph)).other (show g ≠ q1 by omega) 3 (.int .i64 at')).other (show g ≠ q1 by omega) 4 (.int .i64 wv)).other (show g ≠ q1 by omega) 5 (.slice a2 n k2)).other (show g ≠ q1 by omega) 6 (.slice d2 m l2))
      replace R1 := (((((((R1.other (show q2 ≠ q1 by omega) 0 (.int .i64 who)).other (show q2 ≠ q1 by omega) 1 (.int .i64 rv)).other (show q2 ≠ q1 by omega) 2 (.int .i64 ph)).other (show q2 ≠ q1 by omega) 3 (.int .i64 at')).other (show q2 ≠ q1 by omega) 4 (.int .i64 wv)).other (show q2 ≠ q1 by omega) 5 (.slice a2 n k2)).other (show q2 ≠ q1 by omega) 6 (.slice d2 m l2))
      replace R2 := (((((((R2.other (show q3 ≠ q1 by omega) 0 (.int .i64 who)).other (show q3 ≠ q1 by omega) 1 (.int .i64 rv)).other (show q3 ≠ q1 by omega) 2 (.int .i64 ph)).other (show q3 ≠ q1 by omega) 3 (.int .i64 at')).other (show q3 ≠ q1 by omega) 4 (.int .i64 wv)).other (show q3 ≠ q1 by omega) 5 (.slice a2 n k2)).other (show q3 ≠ q1 by omega) 6 (.slice d2 m l2))
      replace Cb := (((((((Cb.set 0 (.int .i64 who)).set 1 (.int .i64 rv)).set 2 (.int .i64 ph)).set 3 (.int .i64 at')).set 4 (.int .i64 wv)).set 5 (.slice a2 n k2)).set 6 (.slice d2 m l2))
      replace OM := (Words.Owns.other (Words.Owns.other (Words.Owns.other (Words.Owns.other (Words.Owns.other (Words.Owns.other (Words.Owns.other OM (p := ⟨q1, 0, none⟩) oMq (.int .i64 who)) (p := ⟨q1, 1, none⟩) oMq (.int .i64 rv)) (p := ⟨q1, 2, none⟩) oMq (.int .i64 ph)) (p := ⟨q1, 3, none⟩) oMq (.int .i64 at')) (p := ⟨q1, 4, none⟩) oMq (.int .i64 wv)) (p := ⟨q1, 5, none⟩) oMq (.slice a2 n k2)) (p := ⟨q1, 6, none⟩) oMq (.slice d2 m l2))
      replace OC := (ownC_other (i := 6) (u := .slice d2 m l2) (ownC_other (i := 5) (u := .slice a2 n k2) (ownC_other (i := 4) (u := .int .i64 wv) (ownC_other (i := 3) (u := .int .i64 at') (ownC_other (i := 2) (u := .int .i64 ph) (ownC_other (i := 1) (u := .int .i64 rv) (ownC_other (i := 0) (u := .int .i64 who) OC oCq) oCq) oCq) oCq) oCq) oCq) oCq)
      replace hE := (err_set (err_set (err_set (err_set (err_set (err_set (err_set hE (Nat.ne_of_lt (Nat.lt_trans hEn l01)) 0 (.int .i64 who)) (Nat.ne_of_lt (Nat.lt_trans hEn l01)) 1 (.int .i64 rv)) (Nat.ne_of_lt (Nat.lt_trans hEn l01)) 2 (.int .i64 ph)) (Nat.ne_of_lt (Nat.lt_trans hEn l01)) 3 (.int .i64 at')) (Nat.ne_of_lt (Nat.lt_trans hEn l01)) 4 (.int .i64 wv)) (Nat.ne_of_lt (Nat.lt_trans hEn l01)) 5 (.slice a2 n k2)) (Nat.ne_of_lt (Nat.lt_trans hEn l01)) 6 (.slice d2 m l2))
      replace bb := (((((((bb.setCell (p := ⟨q1, 0, none⟩) (show g ≤ q1 by omega) (.int .i64 who)).setCell (p := ⟨q1, 1, none⟩) (show g ≤ q1 by omega) (.int .i64 rv)).setCell (p := ⟨q1, 2, none⟩) (show g ≤ q1 by omega) (.int .i64 ph)).setCell (p := ⟨q1, 3, none⟩) (show g ≤ q1 by omega) (.int .i64 at')).setCell (p := ⟨q1, 4, none⟩) (show g ≤ q1 by omega) (.int .i64 wv)).setCell (p := ⟨q1, 5, none⟩) (show g ≤ q1 by omega) (.slice a2 n k2)).setCell (p := ⟨q1, 6, none⟩) (show g ≤ q1 by omega) (.slice d2 m l2))
      obtain ⟨WB, hWB⟩ : ∃ W, (((((((WA.setCell ⟨q1, 0, none⟩ (.int .i64 who)).setCell ⟨q1, 1, none⟩ (.int .i64 rv)).setCell ⟨q1, 2, none⟩ (.int .i64 ph)).setCell ⟨q1, 3, none⟩ (.int .i64 at')).setCell ⟨q1, 4, none⟩ (.int .i64 wv)).setCell ⟨q1, 5, none⟩ (.slice a2 n k2)).setCell ⟨q1, 6, none⟩ (.slice d2 m l2)) = W := ⟨_, rfl⟩
      rw [hWB] at Cb Mb R1 R2 OM OC hE bb ⊢
      clear hWB r1 f1
      refine hK.out _ _ trivial (fun _ => ?_)
      clear hK K
      try simp only [Act.put, List.setIfInBounds_toArray, List.set_cons_zero, List.set_cons_succ]
      refine wpAnyH_done (by kernel_rfl) ?_ _
      exact ⟨rfl, av2, kv2, a2, k2, d2, l2, rfl, Mb, Cb, R1, R2, ⟨OM, oM⟩, ⟨OC, oC⟩, bb, hE⟩
  rintro e a' w4 ⟨rfl, av2, kv2, a2, k2, d2, l2, rfl, Mb, Cb, R1, R2, ⟨OM, oM⟩, ⟨OC, oC⟩, bb, hE⟩
  clear hM hC hcm hcc l3
  have m0 := Mb.cell 0; have m1 := Mb.cell 1
  have c0 := Cb.cell 0; have c1 := Cb.cell 1; have c2 := Cb.cell 2; have c3 := Cb.cell 3; have c4 := Cb.cell 4; have c5 := Cb.cell 5; have c6 := Cb.cell 6
  go_wp2_with fail
  clear m0 m1
  refine (hmo _ _ w4 OM.sees (Nat.le_refl _)).mono ?_
  rintro e w5 ⟨rfl, b7⟩
  replace Mb := Mb.on b7 Mb.lt
  replace Cb := Cb.on b7 Cb.lt
  replace R1 := R1.on b7 R1.lt
  replace R2 := R2.on b7 R2.lt
  replace OM := OM.on b7 (Nat.le_refl _); replace OC := OC.on b7 (Nat.le_refl _); replace hE := hE.on b7 (Nat.le_refl _)
  replace bb := bb.trans (b7.mono (by have := bb.size; omega))
  clear b7
  clear c0 c1 c2 c3 c4 c5 c6
  cases mo
  · skip
    have hz := hno rfl
    have hc0 := HC0.out
    subst hc0
    dsimp only at hz
    have HZ2 := (show Hid _ from hz)
    clear hz hno hco HMO HCO HZ HC0
    go_wp2_with fail
    have cCM : (w5.cell? ⟨q1, 0, none⟩ = some (.int .i64 who) ∧ w5.cell? ⟨q1, 1, none⟩ = some (.int .i64 rv) ∧ w5.cell? ⟨q1, 2, none⟩ = some (.int .i64 ph) ∧ w5.cell? ⟨q1, 3, none⟩ = some (.int .i64 at') ∧ w5.cell? ⟨q1, 4, none⟩ = some (.int .i64 wv) ∧ w5.cell? ⟨q1, 5, none⟩ = some (.slice a2 n k2) ∧ w5.cell? ⟨q1, 6, none⟩ = some (.slice d2 m l2)) ∧ (w5.cell? ⟨g, 0, none⟩ = some (.int .i64 mc) ∧ w5.cell? ⟨g, 1, none⟩ = some (.slice av2 nw kv2)) := ⟨⟨Cb.cell 0, Cb.cell 1, Cb.cell 2, Cb.cell 3, Cb.cell 4, Cb.cell 5, Cb.cell 6⟩, ⟨Mb.cell 0, Mb.cell 1⟩⟩
    replace Mb := Mb.drew
    replace Cb := Cb.drew
    replace R1 := R1.drew
    replace R2 := R2.drew
    replace bb := bb.drew; replace OM := OM.drew; replace OC : OwnC _ _ _ _ _ _ := OC.on (drew_lowC w5) (Nat.le_refl _)
    obtain ⟨WD, hWD⟩ : ∃ WD, w5.drew = WD := ⟨_, rfl⟩
    refine wp_region_held_drew (S := fun W => (W.cell? ⟨q1, 0, none⟩ = some (.int .i64 who) ∧ W.cell? ⟨q1, 1, none⟩ = some (.int .i64 rv) ∧ W.cell? ⟨q1, 2, none⟩ = some (.int .i64 ph) ∧ W.cell? ⟨q1, 3, none⟩ = some (.int .i64 at') ∧ W.cell? ⟨q1, 4, none⟩ = some (.int .i64 wv) ∧ W.cell? ⟨q1, 5, none⟩ = some (.slice a2 n k2) ∧ W.cell? ⟨q1, 6, none⟩ = some (.slice d2 m l2)) ∧ (W.cell? ⟨g, 0, none⟩ = some (.int .i64 mc) ∧ W.cell? ⟨g, 1, none⟩ = some (.slice av2 nw kv2))) (by kernel_rfl) cCM (fun hHeld => ?_)
    rw [hWD] at Cb Mb R1 R2 bb OM OC hHeld ⊢
    clear hWD cCM
    refine takeH (i := 0) (some 19) (.agg #[.int .i64 mc, .slice av2 nw kv2]) rfl rfl (by kernel_rfl) (by kernel_rfl) (by kernel_rfl) (fun _ _ _ h => h) (Or.inl ⟨by rfl, fun w hSw => by (try dsimp only at hSw); go_simp⟩) (by assumption) ?_
    try simp only [Act.put, List.setIfInBounds_toArray, List.set_cons_zero, List.set_cons_succ]
    refine takeH (i := 1) (some 20) (.agg #[.int .i64 who, .int .i64 rv, .int .i64 ph, .int .i64 at', .int .i64 wv, .slice a2 n k2, .slice d2 m l2]) rfl rfl (by kernel_rfl) (by kernel_rfl) (by kernel_rfl) (fun _ _ _ h => h) (Or.inl ⟨by rfl, fun w hSw => by (try dsimp only at hSw); go_simp⟩) (by assumption) ?_
    try simp only [Act.put, List.setIfInBounds_toArray, List.set_cons_zero, List.set_cons_succ]
    have oM2 : ∀ k, (Value.slice av2 nw kv2).ownBlock = some k → k ≠ q2 := fun k hk => by have := oM k hk; omega
    have oM3 : ∀ k, (Value.slice av2 nw kv2).ownBlock = some k → k ≠ q3 := fun k hk => by have := oM k hk; omega
    have oC2 : ∀ k, Two (.slice a2 n k2) (.slice d2 m l2) k → k ≠ q2 := fun k hk => by have := oC k hk; omega
    have oC3 : ∀ k, Two (.slice a2 n k2) (.slice d2 m l2) k → k ≠ q3 := fun k hk => by have := oC k hk; omega
    have r1 := fun i => R1.cell i; have f1 := fun i => R1.froz i
    refine wpAnyH_ready (rs := [2]) (by kernel_rfl) (by simp) ?_
    refine AllReadyH.cons rfl (fun K hK => ?_) AllReadyH.nil
    go_simp
    replace Cb := ((Cb.other (show q1 ≠ q2 by omega) 0 (.int .i64 mc)).other (show q1 ≠ q2 by omega) 1 (.slice av2 nw kv2))
    replace Mb := ((Mb.other (show g ≠ q2 by omega) 0 (.int .i64 mc)).other (show g ≠ q2 by omega) 1 (.slice av2 nw kv2))
    replace R2 := ((R2.other (show q3 ≠ q2 by omega) 0 (.int .i64 mc)).other (show q3 ≠ q2 by omega) 1 (.slice av2 nw kv2))
    replace R1 := ((R1.set 0 (.int .i64 mc)).set 1 (.slice av2 nw kv2))
    replace OM := (Words.Owns.other (Words.Owns.other OM (p := ⟨q2, 0, none⟩) oM2 (.int .i64 mc)) (p := ⟨q2, 1, none⟩) oM2 (.slice av2 nw kv2))
    replace OC := (ownC_other (i := 1) (u := .slice av2 nw kv2) (ownC_other (i := 0) (u := .int .i64 mc) OC oC2) oC2)
    replace bb := ((bb.setCell (p := ⟨q2, 0, none⟩) (show g ≤ q2 by omega) (.int .i64 mc)).setCell (p := ⟨q2, 1, none⟩) (show g ≤ q2 by omega) (.slice av2 nw kv2))
    obtain ⟨WA, hWA⟩ : ∃ W, ((WD.setCell ⟨q2, 0, none⟩ (.int .i64 mc)).setCell ⟨q2, 1, none⟩ (.slice av2 nw kv2)) = W := ⟨_, rfl⟩
    rw [hWA] at Cb Mb R1 R2 OM OC bb ⊢
    clear hWA r1 f1
    refine hK.out _ _ ⟨⟨Cb.cell 0, Cb.cell 1, Cb.cell 2, Cb.cell 3, Cb.cell 4, Cb.cell 5, Cb.cell 6⟩, ⟨Mb.cell 0, Mb.cell 1⟩⟩ (fun _ => ?_)
    clear hK K
    try simp only [Act.put, List.setIfInBounds_toArray, List.set_cons_zero, List.set_cons_succ]
    have r2 := fun i => R2.cell i; have f2 := fun i => R2.froz i
    refine wpAnyH_ready (rs := [3]) (by kernel_rfl) (by simp) ?_
    refine AllReadyH.cons rfl (fun K hK => ?_) AllReadyH.nil
    go_simp
    replace Cb := (((((((Cb.other (show q1 ≠ q3 by omega) 0 (.int .i64 who)).other (show q1 ≠ q3 by omega) 1 (.int .i64 rv)).other (show q1 ≠ q3 by omega) 2 (.int .i64 ph)).other (show q1 ≠ q3 by omega) 3 (.int .i64 at')).other (show q1 ≠ q3 by omega) 4 (.int .i64 wv)).other (show q1 ≠ q3 by omega) 5 (.slice a2 n k2)).other (show q1 ≠ q3 by omega) 6 (.slice d2 m l2))
    replace Mb := (((((((Mb.other (show g ≠ q3 by omega) 0 (.int .i64 who)).other (show g ≠ q3 by omega) 1 (.int .i64 rv)).other (show g ≠ q3 by omega) 2 (.int .i64 ph)).other (show g ≠ q3 by omega) 3 (.int .i64 at')).other (show g ≠ q3 by omega) 4 (.int .i64 wv)).other (show g ≠ q3 by omega) 5 (.slice a2 n k2)).other (show g ≠ q3 by omega) 6 (.slice d2 m l2))
    replace R1 := (((((((R1.other (show q2 ≠ q3 by omega) 0 (.int .i64 who)).other (show q2 ≠ q3 by omega) 1 (.int .i64 rv)).other (show q2 ≠ q3 by omega) 2 (.int .i64 ph)).other (show q2 ≠ q3 by omega) 3 (.int .i64 at')).other (show q2 ≠ q3 by omega) 4 (.int .i64 wv)).other (show q2 ≠ q3 by omega) 5 (.slice a2 n k2)).other (show q2 ≠ q3 by omega) 6 (.slice d2 m l2))
    replace R2 := (((((((R2.set 0 (.int .i64 who)).set 1 (.int .i64 rv)).set 2 (.int .i64 ph)).set 3 (.int .i64 at')).set 4 (.int .i64 wv)).set 5 (.slice a2 n k2)).set 6 (.slice d2 m l2))
    replace OM := (Words.Owns.other (Words.Owns.other (Words.Owns.other (Words.Owns.other (Words.Owns.other (Words.Owns.other (Words.Owns.other OM (p := ⟨q3, 0, none⟩) oM3 (.int .i64 who)) (p := ⟨q3, 1, none⟩) oM3 (.int .i64 rv)) (p := ⟨q3, 2, none⟩) oM3 (.int .i64 ph)) (p := ⟨q3, 3, none⟩) oM3 (.int .i64 at')) (p := ⟨q3, 4, none⟩) oM3 (.int .i64 wv)) (p := ⟨q3, 5, none⟩) oM3 (.slice a2 n k2)) (p := ⟨q3, 6, none⟩) oM3 (.slice d2 m l2))
    replace OC := (ownC_other (i := 6) (u := .slice d2 m l2) (ownC_other (i := 5) (u := .slice a2 n k2) (ownC_other (i := 4) (u := .int .i64 wv) (ownC_other (i := 3) (u := .int .i64 at') (ownC_other (i := 2) (u := .int .i64 ph) (ownC_other (i := 1) (u := .int .i64 rv) (ownC_other (i := 0) (u := .int .i64 who) OC oC3) oC3) oC3) oC3) oC3) oC3) oC3)
    replace bb := (((((((bb.setCell (p := ⟨q3, 0, none⟩) (show g ≤ q3 by omega) (.int .i64 who)).setCell (p := ⟨q3, 1, none⟩) (show g ≤ q3 by omega) (.int .i64 rv)).setCell (p := ⟨q3, 2, none⟩) (show g ≤ q3 by omega) (.int .i64 ph)).setCell (p := ⟨q3, 3, none⟩) (show g ≤ q3 by omega) (.int .i64 at')).setCell (p := ⟨q3, 4, none⟩) (show g ≤ q3 by omega) (.int .i64 wv)).setCell (p := ⟨q3, 5, none⟩) (show g ≤ q3 by omega) (.slice a2 n k2)).setCell (p := ⟨q3, 6, none⟩) (show g ≤ q3 by omega) (.slice d2 m l2))
    obtain ⟨WB, hWB⟩ : ∃ W, (((((((WA.setCell ⟨q3, 0, none⟩ (.int .i64 who)).setCell ⟨q3, 1, none⟩ (.int .i64 rv)).setCell ⟨q3, 2, none⟩ (.int .i64 ph)).setCell ⟨q3, 3, none⟩ (.int .i64 at')).setCell ⟨q3, 4, none⟩ (.int .i64 wv)).setCell ⟨q3, 5, none⟩ (.slice a2 n k2)).setCell ⟨q3, 6, none⟩ (.slice d2 m l2)) = W := ⟨_, rfl⟩
    rw [hWB] at Cb Mb R1 R2 OM OC bb ⊢
    clear hWB r2 f2
    refine hK.out _ _ ⟨⟨Cb.cell 0, Cb.cell 1, Cb.cell 2, Cb.cell 3, Cb.cell 4, Cb.cell 5, Cb.cell 6⟩, ⟨Mb.cell 0, Mb.cell 1⟩⟩ (fun _ => ?_)
    clear hK K
    try simp only [Act.put, List.setIfInBounds_toArray, List.set_cons_zero, List.set_cons_succ]
    refine wpAnyH_done (by kernel_rfl) ?_ _
    have r1 := fun i => R1.cell i; have r2 := fun i => R2.cell i
    go_wp2
    refine bodyPost_ret (v := .tuple #[.agg #[.int .i64 mc, .slice av2 nw kv2], .agg #[.int .i64 who, .int .i64 rv, .int .i64 ph, .int .i64 at', .int .i64 wv, .slice a2 n k2, .slice d2 m l2]]) (by simp [results, Tryd.results9, go_sem, r1, r2]) rfl ?_
    exact told_mk HZ2.out HW.out HN.out HM2.out hg OM OC bb
  have c0 := Cb.cell 0; have c1 := Cb.cell 1; have c2 := Cb.cell 2; have c3 := Cb.cell 3; have c4 := Cb.cell 4; have c5 := Cb.cell 5; have c6 := Cb.cell 6
  go_wp2_with fail
  clear c0 c1 c2 c3 c4 c5 c6
  refine (hco _ _ _ w5 OC.sees (Nat.le_refl _)).mono ?_
  rintro e w6 ⟨rfl, b7⟩
  replace Mb := Mb.on b7 Mb.lt
  replace Cb := Cb.on b7 Cb.lt
  replace R1 := R1.on b7 R1.lt
  replace R2 := R2.on b7 R2.lt
  replace OM := OM.on b7 (Nat.le_refl _); replace OC := OC.on b7 (Nat.le_refl _); replace hE := hE.on b7 (Nat.le_refl _)
  replace bb := bb.trans (b7.mono (by have := bb.size; omega))
  clear b7
  cases co
  · skip
    have hz := hno rfl
    have hc0 := HC0.out
    subst hc0
    dsimp only at hz
    have HZ2 := (show Hid _ from hz)
    clear hz hno HMO HCO HZ HC0
    go_wp2_with fail
    have cCM : (w6.cell? ⟨q1, 0, none⟩ = some (.int .i64 who) ∧ w6.cell? ⟨q1, 1, none⟩ = some (.int .i64 rv) ∧ w6.cell? ⟨q1, 2, none⟩ = some (.int .i64 ph) ∧ w6.cell? ⟨q1, 3, none⟩ = some (.int .i64 at') ∧ w6.cell? ⟨q1, 4, none⟩ = some (.int .i64 wv) ∧ w6.cell? ⟨q1, 5, none⟩ = some (.slice a2 n k2) ∧ w6.cell? ⟨q1, 6, none⟩ = some (.slice d2 m l2)) ∧ (w6.cell? ⟨g, 0, none⟩ = some (.int .i64 mc) ∧ w6.cell? ⟨g, 1, none⟩ = some (.slice av2 nw kv2)) := ⟨⟨Cb.cell 0, Cb.cell 1, Cb.cell 2, Cb.cell 3, Cb.cell 4, Cb.cell 5, Cb.cell 6⟩, ⟨Mb.cell 0, Mb.cell 1⟩⟩
    replace Mb := Mb.drew
    replace Cb := Cb.drew
    replace R1 := R1.drew
    replace R2 := R2.drew
    replace bb := bb.drew; replace OM := OM.drew; replace OC : OwnC _ _ _ _ _ _ := OC.on (drew_lowC w6) (Nat.le_refl _)
    obtain ⟨WD, hWD⟩ : ∃ WD, w6.drew = WD := ⟨_, rfl⟩
    refine wp_region_held_drew (S := fun W => (W.cell? ⟨q1, 0, none⟩ = some (.int .i64 who) ∧ W.cell? ⟨q1, 1, none⟩ = some (.int .i64 rv) ∧ W.cell? ⟨q1, 2, none⟩ = some (.int .i64 ph) ∧ W.cell? ⟨q1, 3, none⟩ = some (.int .i64 at') ∧ W.cell? ⟨q1, 4, none⟩ = some (.int .i64 wv) ∧ W.cell? ⟨q1, 5, none⟩ = some (.slice a2 n k2) ∧ W.cell? ⟨q1, 6, none⟩ = some (.slice d2 m l2)) ∧ (W.cell? ⟨g, 0, none⟩ = some (.int .i64 mc) ∧ W.cell? ⟨g, 1, none⟩ = some (.slice av2 nw kv2))) (by kernel_rfl) cCM (fun hHeld => ?_)
    rw [hWD] at Cb Mb R1 R2 bb OM OC hHeld ⊢
    clear hWD cCM
    refine takeH (i := 0) (some 19) (.agg #[.int .i64 mc, .slice av2 nw kv2]) rfl rfl (by kernel_rfl) (by kernel_rfl) (by kernel_rfl) (fun _ _ _ h => h) (Or.inl ⟨by rfl, fun w hSw => by (try dsimp only at hSw); go_simp⟩) (by assumption) ?_
    try simp only [Act.put, List.setIfInBounds_toArray, List.set_cons_zero, List.set_cons_succ]
    refine takeH (i := 1) (some 20) (.agg #[.int .i64 who, .int .i64 rv, .int .i64 ph, .int .i64 at', .int .i64 wv, .slice a2 n k2, .slice d2 m l2]) rfl rfl (by kernel_rfl) (by kernel_rfl) (by kernel_rfl) (fun _ _ _ h => h) (Or.inl ⟨by rfl, fun w hSw => by (try dsimp only at hSw); go_simp⟩) (by assumption) ?_
    try simp only [Act.put, List.setIfInBounds_toArray, List.set_cons_zero, List.set_cons_succ]
    have oM2 : ∀ k, (Value.slice av2 nw kv2).ownBlock = some k → k ≠ q2 := fun k hk => by have := oM k hk; omega
    have oM3 : ∀ k, (Value.slice av2 nw kv2).ownBlock = some k → k ≠ q3 := fun k hk => by have := oM k hk; omega
    have oC2 : ∀ k, Two (.slice a2 n k2) (.slice d2 m l2) k → k ≠ q2 := fun k hk => by have := oC k hk; omega
    have oC3 : ∀ k, Two (.slice a2 n k2) (.slice d2 m l2) k → k ≠ q3 := fun k hk => by have := oC k hk; omega
    have r1 := fun i => R1.cell i; have f1 := fun i => R1.froz i
    refine wpAnyH_ready (rs := [2]) (by kernel_rfl) (by simp) ?_
    refine AllReadyH.cons rfl (fun K hK => ?_) AllReadyH.nil
    go_simp
    replace Cb := ((Cb.other (show q1 ≠ q2 by omega) 0 (.int .i64 mc)).other (show q1 ≠ q2 by omega) 1 (.slice av2 nw kv2))
    replace Mb := ((Mb.other (show g ≠ q2 by omega) 0 (.int .i64 mc)).other (show g ≠ q2 by omega) 1 (.slice av2 nw kv2))
    replace R2 := ((R2.other (show q3 ≠ q2 by omega) 0 (.int .i64 mc)).other (show q3 ≠ q2 by omega) 1 (.slice av2 nw kv2))
    replace R1 := ((R1.set 0 (.int .i64 mc)).set 1 (.slice av2 nw kv2))
    replace OM := (Words.Owns.other (Words.Owns.other OM (p := ⟨q2, 0, none⟩) oM2 (.int .i64 mc)) (p := ⟨q2, 1, none⟩) oM2 (.slice av2 nw kv2))
    replace OC := (ownC_other (i := 1) (u := .slice av2 nw kv2) (ownC_other (i := 0) (u := .int .i64 mc) OC oC2) oC2)
    replace bb := ((bb.setCell (p := ⟨q2, 0, none⟩) (show g ≤ q2 by omega) (.int .i64 mc)).setCell (p := ⟨q2, 1, none⟩) (show g ≤ q2 by omega) (.slice av2 nw kv2))
    obtain ⟨WA, hWA⟩ : ∃ W, ((WD.setCell ⟨q2, 0, none⟩ (.int .i64 mc)).setCell ⟨q2, 1, none⟩ (.slice av2 nw kv2)) = W := ⟨_, rfl⟩
    rw [hWA] at Cb Mb R1 R2 OM OC bb ⊢
    clear hWA r1 f1
    refine hK.out _ _ ⟨⟨Cb.cell 0, Cb.cell 1, Cb.cell 2, Cb.cell 3, Cb.cell 4, Cb.cell 5, Cb.cell 6⟩, ⟨Mb.cell 0, Mb.cell 1⟩⟩ (fun _ => ?_)
    clear hK K
    try simp only [Act.put, List.setIfInBounds_toArray, List.set_cons_zero, List.set_cons_succ]
    have r2 := fun i => R2.cell i; have f2 := fun i => R2.froz i
    refine wpAnyH_ready (rs := [3]) (by kernel_rfl) (by simp) ?_
    refine AllReadyH.cons rfl (fun K hK => ?_) AllReadyH.nil
    go_simp
    replace Cb := (((((((Cb.other (show q1 ≠ q3 by omega) 0 (.int .i64 who)).other (show q1 ≠ q3 by omega) 1 (.int .i64 rv)).other (show q1 ≠ q3 by omega) 2 (.int .i64 ph)).other (show q1 ≠ q3 by omega) 3 (.int .i64 at')).other (show q1 ≠ q3 by omega) 4 (.int .i64 wv)).other (show q1 ≠ q3 by omega) 5 (.slice a2 n k2)).other (show q1 ≠ q3 by omega) 6 (.slice d2 m l2))
    replace Mb := (((((((Mb.other (show g ≠ q3 by omega) 0 (.int .i64 who)).other (show g ≠ q3 by omega) 1 (.int .i64 rv)).other (show g ≠ q3 by omega) 2 (.int .i64 ph)).other (show g ≠ q3 by omega) 3 (.int .i64 at')).other (show g ≠ q3 by omega) 4 (.int .i64 wv)).other (show g ≠ q3 by omega) 5 (.slice a2 n k2)).other (show g ≠ q3 by omega) 6 (.slice d2 m l2))
    replace R1 := (((((((R1.other (show q2 ≠ q3 by omega) 0 (.int .i64 who)).other (show q2 ≠ q3 by omega) 1 (.int .i64 rv)).other (show q2 ≠ q3 by omega) 2 (.int .i64 ph)).other (show q2 ≠ q3 by omega) 3 (.int .i64 at')).other (show q2 ≠ q3 by omega) 4 (.int .i64 wv)).other (show q2 ≠ q3 by omega) 5 (.slice a2 n k2)).other (show q2 ≠ q3 by omega) 6 (.slice d2 m l2))
    replace R2 := (((((((R2.set 0 (.int .i64 who)).set 1 (.int .i64 rv)).set 2 (.int .i64 ph)).set 3 (.int .i64 at')).set 4 (.int .i64 wv)).set 5 (.slice a2 n k2)).set 6 (.slice d2 m l2))
    replace OM := (Words.Owns.other (Words.Owns.other (Words.Owns.other (Words.Owns.other (Words.Owns.other (Words.Owns.other (Words.Owns.other OM (p := ⟨q3, 0, none⟩) oM3 (.int .i64 who)) (p := ⟨q3, 1, none⟩) oM3 (.int .i64 rv)) (p := ⟨q3, 2, none⟩) oM3 (.int .i64 ph)) (p := ⟨q3, 3, none⟩) oM3 (.int .i64 at')) (p := ⟨q3, 4, none⟩) oM3 (.int .i64 wv)) (p := ⟨q3, 5, none⟩) oM3 (.slice a2 n k2)) (p := ⟨q3, 6, none⟩) oM3 (.slice d2 m l2))
    replace OC := (ownC_other (i := 6) (u := .slice d2 m l2) (ownC_other (i := 5) (u := .slice a2 n k2) (ownC_other (i := 4) (u := .int .i64 wv) (ownC_other (i := 3) (u := .int .i64 at') (ownC_other (i := 2) (u := .int .i64 ph) (ownC_other (i := 1) (u := .int .i64 rv) (ownC_other (i := 0) (u := .int .i64 who) OC oC3) oC3) oC3) oC3) oC3) oC3) oC3)
    replace bb := (((((((bb.setCell (p := ⟨q3, 0, none⟩) (show g ≤ q3 by omega) (.int .i64 who)).setCell (p := ⟨q3, 1, none⟩) (show g ≤ q3 by omega) (.int .i64 rv)).setCell (p := ⟨q3, 2, none⟩) (show g ≤ q3 by omega) (.int .i64 ph)).setCell (p := ⟨q3, 3, none⟩) (show g ≤ q3 by omega) (.int .i64 at')).setCell (p := ⟨q3, 4, none⟩) (show g ≤ q3 by omega) (.int .i64 wv)).setCell (p := ⟨q3, 5, none⟩) (show g ≤ q3 by omega) (.slice a2 n k2)).setCell (p := ⟨q3, 6, none⟩) (show g ≤ q3 by omega) (.slice d2 m l2))
    obtain ⟨WB, hWB⟩ : ∃ W, (((((((WA.setCell ⟨q3, 0, none⟩ (.int .i64 who)).setCell ⟨q3, 1, none⟩ (.int .i64 rv)).setCell ⟨q3, 2, none⟩ (.int .i64 ph)).setCell ⟨q3, 3, none⟩ (.int .i64 at')).setCell ⟨q3, 4, none⟩ (.int .i64 wv)).setCell ⟨q3, 5, none⟩ (.slice a2 n k2)).setCell ⟨q3, 6, none⟩ (.slice d2 m l2)) = W := ⟨_, rfl⟩
    rw [hWB] at Cb Mb R1 R2 OM OC bb ⊢
    clear hWB r2 f2
    refine hK.out _ _ ⟨⟨Cb.cell 0, Cb.cell 1, Cb.cell 2, Cb.cell 3, Cb.cell 4, Cb.cell 5, Cb.cell 6⟩, ⟨Mb.cell 0, Mb.cell 1⟩⟩ (fun _ => ?_)
    clear hK K
    try simp only [Act.put, List.setIfInBounds_toArray, List.set_cons_zero, List.set_cons_succ]
    refine wpAnyH_done (by kernel_rfl) ?_ _
    have r1 := fun i => R1.cell i; have r2 := fun i => R2.cell i
    go_wp2
    refine bodyPost_ret (v := .tuple #[.agg #[.int .i64 mc, .slice av2 nw kv2], .agg #[.int .i64 who, .int .i64 rv, .int .i64 ph, .int .i64 at', .int .i64 wv, .slice a2 n k2, .slice d2 m l2]]) (by simp [results, Tryd.results9, go_sem, r1, r2]) rfl ?_
    exact told_mk HZ2.out HW.out HN.out HM2.out hg OM OC bb
  clear hno hmo hco
  have hc0 := HC0.out
  subst hc0
  have hphs := phase_in HCO.out
  obtain ⟨hb1, hb2, hb3, hb4, -⟩ := bounds_of HCO.out
  have hl8 := (Words.memOk_out HMO.out).1
  have hrow := step_row HCO.out
  have hrd := step_read HCO.out
  dsimp only at hphs hb1 hb2 hb3 hb4 hrow hrd
  obtain ⟨k, rfl⟩ : ∃ k : Nat, at' = (k : Int) := ⟨at'.toNat, by omega⟩
  rw [Int.toNat_natCast] at hrow hrd
  have hR2 : q3 < w6.heap.size := R2.lt
  have TB := Blk.new w6 #[.nilFunc, .func (.func 36) #[] #[], .func (.func 37) #[] #[], .func (.func 38) #[] #[], .func (.func 39) #[] #[], .func (.func 40) #[] #[], .func (.func 41) #[] #[], .func (.func 42) #[] #[], .func (.func 41) #[] #[]] 68
  have b8 := alloc_below w6 (.cells #[.nilFunc, .func (.func 36) #[] #[], .func (.func 37) #[] #[], .func (.func 38) #[] #[], .func (.func 39) #[] #[], .func (.func 40) #[] #[], .func (.func 41) #[] #[], .func (.func 42) #[] #[], .func (.func 41) #[] #[]] 68)
  have c2f := fun i => Cb.cell i
  replace Mb := Mb.on b8 Mb.lt
  replace Cb := Cb.on b8 Cb.lt
  replace R1 := R1.on b8 R1.lt
  replace R2 := R2.on b8 R2.lt
  replace OM := OM.on b8 (Nat.le_refl _); replace OC := OC.on b8 (Nat.le_refl _); replace hE := hE.on b8 (Nat.le_refl _)
  replace bb := bb.trans (b8.mono (by have := bb.size; omega))
  obtain ⟨q6, hq6⟩ : ∃ q, w6.heap.size = q := ⟨_, rfl⟩
  obtain ⟨w7, hw7⟩ : ∃ W, w6.alloc (.cells #[.nilFunc, .func (.func 36) #[] #[], .func (.func 37) #[] #[], .func (.func 38) #[] #[], .func (.func 39) #[] #[], .func (.func 40) #[] #[], .func (.func 41) #[] #[], .func (.func 42) #[] #[], .func (.func 41) #[] #[]] 68) = W := ⟨_, rfl⟩
  rw [hw7] at TB Mb Cb R1 R2 OM OC hE bb
  rw [hq6] at TB
  clear b8
  have hq36 : q3 < q6 := hq6 ▸ hR2
  rcases ph8 hphs with rfl | rfl | rfl | rfl | rfl | rfl | rfl | rfl
  · go_wp2_with fail
    try rw [hw7]
    try rw [hq6]
    clear hw7 hq6 c2f
    obtain ⟨hk, cn, hcn, hcl⟩ := hrow (by decide)
    clear hrow hrd hphs
    have cCM : (w7.cell? ⟨q1, 0, none⟩ = some (.int .i64 who) ∧ w7.cell? ⟨q1, 1, none⟩ = some (.int .i64 rv) ∧ w7.cell? ⟨q1, 2, none⟩ = some (.int .i64 1) ∧ w7.cell? ⟨q1, 3, none⟩ = some (.int .i64 (k : Int)) ∧ w7.cell? ⟨q1, 4, none⟩ = some (.int .i64 wv) ∧ w7.cell? ⟨q1, 5, none⟩ = some (.slice a2 n k2) ∧ w7.cell? ⟨q1, 6, none⟩ = some (.slice d2 m l2)) ∧ (w7.cell? ⟨g, 0, none⟩ = some (.int .i64 mc) ∧ w7.cell? ⟨g, 1, none⟩ = some (.slice av2 nw kv2)) ∧ w7.cell? ⟨q6, 1, none⟩ = some (.func (.func 36) #[] #[]) := ⟨⟨Cb.cell 0, Cb.cell 1, Cb.cell 2, Cb.cell 3, Cb.cell 4, Cb.cell 5, Cb.cell 6⟩, ⟨Mb.cell 0, Mb.cell 1⟩, TB.cell 1⟩
    replace Mb := Mb.drew
    replace Cb := Cb.drew
    replace R1 := R1.drew
    replace R2 := R2.drew
    replace TB := TB.drew
    replace bb := bb.drew; replace OM := OM.drew; replace OC : OwnC _ _ _ _ _ _ := OC.on (drew_lowC w7) (Nat.le_refl _); replace hE : Err _ _ := hE.on (drew_lowC w7) (Nat.le_refl _)
    obtain ⟨WD, hWD⟩ : ∃ WD, w7.drew = WD := ⟨_, rfl⟩
    refine wp_region_held_drew (S := fun W => (W.cell? ⟨q1, 0, none⟩ = some (.int .i64 who) ∧ W.cell? ⟨q1, 1, none⟩ = some (.int .i64 rv) ∧ W.cell? ⟨q1, 2, none⟩ = some (.int .i64 1) ∧ W.cell? ⟨q1, 3, none⟩ = some (.int .i64 (k : Int)) ∧ W.cell? ⟨q1, 4, none⟩ = some (.int .i64 wv) ∧ W.cell? ⟨q1, 5, none⟩ = some (.slice a2 n k2) ∧ W.cell? ⟨q1, 6, none⟩ = some (.slice d2 m l2)) ∧ (W.cell? ⟨g, 0, none⟩ = some (.int .i64 mc) ∧ W.cell? ⟨g, 1, none⟩ = some (.slice av2 nw kv2)) ∧ W.cell? ⟨q6, 1, none⟩ = some (.func (.func 36) #[] #[])) (by kernel_rfl) cCM (fun hHeld => ?_)
    rw [hWD] at Cb Mb R1 R2 TB bb OM OC hE hHeld ⊢
    clear hWD cCM
    refine takeH (i := 0) (some 22) (.pointer (some ⟨q1, 2, none⟩)) rfl rfl (by kernel_rfl) (by kernel_rfl) (by kernel_rfl) (fun _ _ _ h => h) (Or.inl ⟨by rfl, fun w hSw => by (try dsimp only at hSw); go_simp⟩) (by assumption) ?_
    try simp only [Act.put, List.setIfInBounds_toArray, List.set_cons_zero, List.set_cons_succ]
    refine takeH (i := 1) (some 23) (.int .i64 1) rfl rfl (by kernel_rfl) (by kernel_rfl) (by kernel_rfl) (fun _ _ _ h => h) (Or.inl ⟨by rfl, fun w hSw => by (try dsimp only at hSw); go_simp⟩) (by assumption) ?_
    try simp only [Act.put, List.setIfInBounds_toArray, List.set_cons_zero, List.set_cons_succ]
    refine takeH (i := 2) (some 24) (.pointer (some ⟨q6, 1, none⟩)) rfl rfl (by kernel_rfl) (by kernel_rfl) (by kernel_rfl) (fun _ _ _ h => h) (Or.inl ⟨by rfl, fun w hSw => by (try dsimp only at hSw); go_simp⟩) (by assumption) ?_
    try simp only [Act.put, List.setIfInBounds_toArray, List.set_cons_zero, List.set_cons_succ]
    refine takeH (i := 3) (some 25) (.func (.func 36) #[] #[]) rfl rfl (by kernel_rfl) (by kernel_rfl) (by kernel_rfl) (fun _ _ _ h => h) (Or.inl ⟨by rfl, fun w hSw => by (try dsimp only at hSw); go_simp⟩) (by assumption) ?_
    try simp only [Act.put, List.setIfInBounds_toArray, List.set_cons_zero, List.set_cons_succ]
    refine takeH (i := 4) (some 26) (.agg #[.int .i64 who, .int .i64 rv, .int .i64 1, .int .i64 (k : Int), .int .i64 wv, .slice a2 n k2, .slice d2 m l2]) rfl rfl (by kernel_rfl) (by kernel_rfl) (by kernel_rfl) (fun _ _ _ h => h) (Or.inl ⟨by rfl, fun w hSw => by (try dsimp only at hSw); go_simp⟩) (by assumption) ?_
    try simp only [Act.put, List.setIfInBounds_toArray, List.set_cons_zero, List.set_cons_succ]
    refine takeH (i := 5) (some 27) (.agg #[.int .i64 mc, .slice av2 nw kv2]) rfl rfl (by kernel_rfl) (by kernel_rfl) (by kernel_rfl) (fun _ _ _ h => h) (Or.inl ⟨by rfl, fun w hSw => by (try dsimp only at hSw); go_simp⟩) (by assumption) ?_
    try simp only [Act.put, List.setIfInBounds_toArray, List.set_cons_zero, List.set_cons_succ]
    refine wpAnyH_ready (rs := [6]) (by kernel_rfl) (by simp) ?_
    refine AllReadyH.cons rfl (fun K hK => ?_) AllReadyH.nil
    go_simp
    have hMs : Words.Sees WD.heap.size WD (.slice av2 ws.length kv2) ws := by rw [HW.out]; exact OM.sees
    have hCs : SeeC WD.heap.size WD (.slice a2 ps.length k2) (.slice d2 rs.length l2) ps rs := by rw [HN.out, HM2.out]; exact OC.sees
    have hcall := lockI who rv 1 wv k _ _ ps _ rs _ mc ws _ _ _ WD bE hMs hCs hE (Nat.le_refl _) (by omega) hb1 hb2 hk
    rw [HN.out, HM2.out, HW.out] at hcall
    clear hMs hCs
    refine hcall.mono ?_
    clear hcall
    rintro e w8 ⟨v8, rfl, OM8, b8⟩
    have hz : Z = ⟨mc, lockTo mc ws (ps.getD k z2).c who, if lockMay mc ws (ps.getD k z2).c who = true then onPh 1 k ps.length rs.length 2 else phB k, if lockMay mc ws (ps.getD k z2).c who = true then onAt 1 k ps.length rs.length else atB k, wv⟩ := by rw [← HZ.out, stepO_yes HMO.out HCO.out]; rfl
    rw [HN.out, HM2.out] at hz
    obtain ⟨zl, hzl⟩ : ∃ x : List W3, (lockTo mc ws (ps.getD k z2).c who) = x := ⟨_, rfl⟩
    obtain ⟨zp, hzp⟩ : ∃ x : Int, (if lockMay mc ws (ps.getD k z2).c who = true then onPh 1 k n m 2 else phB k) = x := ⟨_, rfl⟩
    obtain ⟨za, hza⟩ : ∃ x : Int, (if lockMay mc ws (ps.getD k z2).c who = true then onAt 1 k n m else atB k) = x := ⟨_, rfl⟩
    rw [hzl, hzp, hza] at hz
    rw [hzl] at OM8
    rw [hzp, hza]
    clear hzl hzp hza
    have HZ3 := (show Hid _ from hz)
    clear hz
    obtain ⟨av8, kv8, rfl⟩ := OM8.form
    obtain ⟨n8, hn8⟩ : ∃ n, zl.length = n := ⟨_, rfl⟩
    rw [hn8] at OM8 ⊢
    have HN8 := (show Hid (zl.length = n8) from hn8)
    have oM8 : ∀ k, (Value.slice av8 n8 kv8).ownBlock = some k → q3 < k := fun k hk => by have := (OM8.at k hk).1; have := R2.lt; omega
    replace OM8 := OM8.mono (show g ≤ WD.heap.size by have := bb.size; omega)
    clear OM oM hn8
    replace Mb := Mb.on b8 Mb.lt
    replace Cb := Cb.on b8 Cb.lt
    replace R1 := R1.on b8 R1.lt
    replace R2 := R2.on b8 R2.lt
    replace TB := TB.on b8 TB.lt
    replace OC := OC.on b8 (Nat.le_refl _)
    replace bb := bb.trans (b8.mono (by have := bb.size; omega))
    have OM := OM8; have oM := oM8
    clear OM8 oM8 b8
    go_simp
    refine hK.out _ _ ⟨⟨Cb.cell 0, Cb.cell 1, Cb.cell 2, Cb.cell 3, Cb.cell 4, Cb.cell 5, Cb.cell 6⟩, ⟨Mb.cell 0, Mb.cell 1⟩, TB.cell 1⟩ (fun _ => ?_)
    clear hK K
    try simp only [Act.put, List.setIfInBounds_toArray, List.set_cons_zero, List.set_cons_succ]
    refine takeH (i := 7) (some 29) (.agg #[.int .i64 mc, .slice av8 n8 kv8]) rfl rfl (by kernel_rfl) (by kernel_rfl) (by kernel_rfl) (fun _ _ _ h => h) (Or.inl ⟨by rfl, fun w hSw => by (try dsimp only at hSw); go_simp⟩) (by assumption) ?_
    try simp only [Act.put, List.setIfInBounds_toArray, List.set_cons_zero, List.set_cons_succ]
    refine takeH (i := 8) (some 30) (.agg #[.int .i64 who, .int .i64 rv, .int .i64 zp, .int .i64 za, .int .i64 wv, .slice a2 n k2, .slice d2 m l2]) rfl rfl (by kernel_rfl) (by kernel_rfl) (by kernel_rfl) (fun _ _ _ h => h) (Or.inl ⟨by rfl, fun w hSw => by (try dsimp only at hSw); go_simp⟩) (by assumption) ?_
    try simp only [Act.put, List.setIfInBounds_toArray, List.set_cons_zero, List.set_cons_succ]
    have q6lt : q3 < q6 := hq36
    have oM2 : ∀ k, (Value.slice av8 n8 kv8).ownBlock = some k → k ≠ q2 := fun k hk => by have := oM k hk; omega
    have oM3 : ∀ k, (Value.slice av8 n8 kv8).ownBlock = some k → k ≠ q3 := fun k hk => by have := oM k hk; omega
    have oC2 : ∀ k, Two (.slice a2 n k2) (.slice d2 m l2) k → k ≠ q2 := fun k hk => by have := oC k hk; omega
    have oC3 : ∀ k, Two (.slice a2 n k2) (.slice d2 m l2) k → k ≠ q3 := fun k hk => by have := oC k hk; omega
    have r1 := fun i => R1.cell i; have f1 := fun i => R1.froz i
    refine wpAnyH_ready (rs := [9]) (by kernel_rfl) (by simp) ?_
    refine AllReadyH.cons rfl (fun K hK => ?_) AllReadyH.nil
    go_simp
    replace TB := ((TB.other (show q6 ≠ q2 by omega) 0 (.int .i64 mc)).other (show q6 ≠ q2 by omega) 1 (.slice av8 n8 kv8))
    replace Cb := ((Cb.other (show q1 ≠ q2 by omega) 0 (.int .i64 mc)).other (show q1 ≠ q2 by omega) 1 (.slice av8 n8 kv8))
    replace Mb := ((Mb.other (show g ≠ q2 by omega) 0 (.int .i64 mc)).other (show g ≠ q2 by omega) 1 (.slice av8 n8 kv8))
    replace R2 := ((R2.other (show q3 ≠ q2 by omega) 0 (.int .i64 mc)).other (show q3 ≠ q2 by omega) 1 (.slice av8 n8 kv8))
    replace R1 := ((R1.set 0 (.int .i64 mc)).set 1 (.slice av8 n8 kv8))
    replace OM := (Words.Owns.other (Words.Owns.other OM (p := ⟨q2, 0, none⟩) oM2 (.int .i64 mc)) (p := ⟨q2, 1, none⟩) oM2 (.slice av8 n8 kv8))
    replace OC := (ownC_other (i := 1) (u := .slice av8 n8 kv8) (ownC_other (i := 0) (u := .int .i64 mc) OC oC2) oC2)
    replace bb := ((bb.setCell (p := ⟨q2, 0, none⟩) (show g ≤ q2 by omega) (.int .i64 mc)).setCell (p := ⟨q2, 1, none⟩) (show g ≤ q2 by omega) (.slice av8 n8 kv8))
    obtain ⟨WA, hWA⟩ : ∃ W, ((w8.setCell ⟨q2, 0, none⟩ (.int .i64 mc)).setCell ⟨q2, 1, none⟩ (.slice av8 n8 kv8)) = W := ⟨_, rfl⟩
    rw [hWA] at TB Cb Mb R1 R2 OM OC bb ⊢
    clear hWA r1 f1
    refine hK.out _ _ ⟨⟨Cb.cell 0, Cb.cell 1, Cb.cell 2, Cb.cell 3, Cb.cell 4, Cb.cell 5, Cb.cell 6⟩, ⟨Mb.cell 0, Mb.cell 1⟩, TB.cell 1⟩ (fun _ => ?_)
    clear hK K
    try simp only [Act.put, List.setIfInBounds_toArray, List.set_cons_zero, List.set_cons_succ]
    have r2 := fun i => R2.cell i; have f2 := fun i => R2.froz i
    refine wpAnyH_ready (rs := [10]) (by kernel_rfl) (by simp) ?_
    refine AllReadyH.cons rfl (fun K hK => ?_) AllReadyH.nil
    go_simp
    replace TB := (((((((TB.other (show q6 ≠ q3 by omega) 0 (.int .i64 who)).other (show q6 ≠ q3 by omega) 1 (.int .i64 rv)).other (show q6 ≠ q3 by omega) 2 (.int .i64 zp)).other (show q6 ≠ q3 by omega) 3 (.int .i64 za)).other (show q6 ≠ q3 by omega) 4 (.int .i64 wv)).other (show q6 ≠ q3 by omega) 5 (.slice a2 n k2)).other (show q6 ≠ q3 by omega) 6 (.slice d2 m l2))
    replace Cb := (((((((Cb.other (show q1 ≠ q3 by omega) 0 (.int .i64 who)).other (show q1 ≠ q3 by omega) 1 (.int .i64 rv)).other (show q1 ≠ q3 by omega) 2 (.int .i64 zp)).other (show q1 ≠ q3 by omega) 3 (.int .i64 za)).other (show q1 ≠ q3 by omega) 4 (.int .i64 wv)).other (show q1 ≠ q3 by omega) 5 (.slice a2 n k2)).other (show q1 ≠ q3 by omega) 6 (.slice d2 m l2))
    replace Mb := (((((((Mb.other (show g ≠ q3 by omega) 0 (.int .i64 who)).other (show g ≠ q3 by omega) 1 (.int .i64 rv)).other (show g ≠ q3 by omega) 2 (.int .i64 zp)).other (show g ≠ q3 by omega) 3 (.int .i64 za)).other (show g ≠ q3 by omega) 4 (.int .i64 wv)).other (show g ≠ q3 by omega) 5 (.slice a2 n k2)).other (show g ≠ q3 by omega) 6 (.slice d2 m l2))
    replace R1 := (((((((R1.other (show q2 ≠ q3 by omega) 0 (.int .i64 who)).other (show q2 ≠ q3 by omega) 1 (.int .i64 rv)).other (show q2 ≠ q3 by omega) 2 (.int .i64 zp)).other (show q2 ≠ q3 by omega) 3 (.int .i64 za)).other (show q2 ≠ q3 by omega) 4 (.int .i64 wv)).other (show q2 ≠ q3 by omega) 5 (.slice a2 n k2)).other (show q2 ≠ q3 by omega) 6 (.slice d2 m l2))
    replace R2 := (((((((R2.set 0 (.int .i64 who)).set 1 (.int .i64 rv)).set 2 (.int .i64 zp)).set 3 (.int .i64 za)).set 4 (.int .i64 wv)).set 5 (.slice a2 n k2)).set 6 (.slice d2 m l2))
    replace OM := (Words.Owns.other (Words.Owns.other (Words.Owns.other (Words.Owns.other (Words.Owns.other (Words.Owns.other (Words.Owns.other OM (p := ⟨q3, 0, none⟩) oM3 (.int .i64 who)) (p := ⟨q3, 1, none⟩) oM3 (.int .i64 rv)) (p := ⟨q3, 2, none⟩) oM3 (.int .i64 zp)) (p := ⟨q3, 3, none⟩) oM3 (.int .i64 za)) (p := ⟨q3, 4, none⟩) oM3 (.int .i64 wv)) (p := ⟨q3, 5, none⟩) oM3 (.slice a2 n k2)) (p := ⟨q3, 6, none⟩) oM3 (.slice d2 m l2))
    replace OC := (ownC_other (i := 6) (u := .slice d2 m l2) (ownC_other (i := 5) (u := .slice a2 n k2) (ownC_other (i := 4) (u := .int .i64 wv) (ownC_other (i := 3) (u := .int .i64 za) (ownC_other (i := 2) (u := .int .i64 zp) (ownC_other (i := 1) (u := .int .i64 rv) (ownC_other (i := 0) (u := .int .i64 who) OC oC3) oC3) oC3) oC3) oC3) oC3) oC3)
    replace bb := (((((((bb.setCell (p := ⟨q3, 0, none⟩) (show g ≤ q3 by omega) (.int .i64 who)).setCell (p := ⟨q3, 1, none⟩) (show g ≤ q3 by omega) (.int .i64 rv)).setCell (p := ⟨q3, 2, none⟩) (show g ≤ q3 by omega) (.int .i64 zp)).setCell (p := ⟨q3, 3, none⟩) (show g ≤ q3 by omega) (.int .i64 za)).setCell (p := ⟨q3, 4, none⟩) (show g ≤ q3 by omega) (.int .i64 wv)).setCell (p := ⟨q3, 5, none⟩) (show g ≤ q3 by omega) (.slice a2 n k2)).setCell (p := ⟨q3, 6, none⟩) (show g ≤ q3 by omega) (.slice d2 m l2))
    obtain ⟨WB, hWB⟩ : ∃ W, (((((((WA.setCell ⟨q3, 0, none⟩ (.int .i64 who)).setCell ⟨q3, 1, none⟩ (.int .i64 rv)).setCell ⟨q3, 2, none⟩ (.int .i64 zp)).setCell ⟨q3, 3, none⟩ (.int .i64 za)).setCell ⟨q3, 4, none⟩ (.int .i64 wv)).setCell ⟨q3, 5, none⟩ (.slice a2 n k2)).setCell ⟨q3, 6, none⟩ (.slice d2 m l2)) = W := ⟨_, rfl⟩
    rw [hWB] at TB Cb Mb R1 R2 OM OC bb ⊢
    clear hWB r2 f2
    refine hK.out _ _ ⟨⟨Cb.cell 0, Cb.cell 1, Cb.cell 2, Cb.cell 3, Cb.cell 4, Cb.cell 5, Cb.cell 6⟩, ⟨Mb.cell 0, Mb.cell 1⟩, TB.cell 1⟩ (fun _ => ?_)
    clear hK K
    try simp only [Act.put, List.setIfInBounds_toArray, List.set_cons_zero, List.set_cons_succ]
    refine wpAnyH_done (by kernel_rfl) ?_ _
    have r1 := fun i => R1.cell i; have r2 := fun i => R2.cell i
    go_wp2
    refine bodyPost_ret (v := .tuple #[.agg #[.int .i64 mc, .slice av8 n8 kv8], .agg #[.int .i64 who, .int .i64 rv, .int .i64 zp, .int .i64 za, .int .i64 wv, .slice a2 n k2, .slice d2 m l2]]) (by simp [results, Tryd.results9, go_sem, r1, r2]) rfl ?_
    exact told_mk HZ3.out HN8.out HN.out HM2.out hg OM OC bb
  · go_wp2_with fail
    try rw [hw7]
    try rw [hq6]
    clear hw7 hq6 c2f
    clear hrow hrd hphs
    have cCM : (w7.cell? ⟨q1, 0, none⟩ = some (.int .i64 who) ∧ w7.cell? ⟨q1, 1, none⟩ = some (.int .i64 rv) ∧ w7.cell? ⟨q1, 2, none⟩ = some (.int .i64 2) ∧ w7.cell? ⟨q1, 3, none⟩ = some (.int .i64 (k : Int)) ∧ w7.cell? ⟨q1, 4, none⟩ = some (.int .i64 wv) ∧ w7.cell? ⟨q1, 5, none⟩ = some (.slice a2 n k2) ∧ w7.cell? ⟨q1, 6, none⟩ = some (.slice d2 m l2)) ∧ (w7.cell? ⟨g, 0, none⟩ = some (.int .i64 mc) ∧ w7.cell? ⟨g, 1, none⟩ = some (.slice av2 nw kv2)) ∧ w7.cell? ⟨q6, 2, none⟩ = some (.func (.func 37) #[] #[]) := ⟨⟨Cb.cell 0, Cb.cell 1, Cb.cell 2, Cb.cell 3, Cb.cell 4, Cb.cell 5, Cb.cell 6⟩, ⟨Mb.cell 0, Mb.cell 1⟩, TB.cell 2⟩
    replace Mb := Mb.drew
    replace Cb := Cb.drew
    replace R1 := R1.drew
    replace R2 := R2.drew
    replace TB := TB.drew
    replace bb := bb.drew; replace OM := OM.drew; replace OC : OwnC _ _ _ _ _ _ := OC.on (drew_lowC w7) (Nat.le_refl _); replace hE : Err _ _ := hE.on (drew_lowC w7) (Nat.le_refl _)
    obtain ⟨WD, hWD⟩ : ∃ WD, w7.drew = WD := ⟨_, rfl⟩
    refine wp_region_held_drew (S := fun W => (W.cell? ⟨q1, 0, none⟩ = some (.int .i64 who) ∧ W.cell? ⟨q1, 1, none⟩ = some (.int .i64 rv) ∧ W.cell? ⟨q1, 2, none⟩ = some (.int .i64 2) ∧ W.cell? ⟨q1, 3, none⟩ = some (.int .i64 (k : Int)) ∧ W.cell? ⟨q1, 4, none⟩ = some (.int .i64 wv) ∧ W.cell? ⟨q1, 5, none⟩ = some (.slice a2 n k2) ∧ W.cell? ⟨q1, 6, none⟩ = some (.slice d2 m l2)) ∧ (W.cell? ⟨g, 0, none⟩ = some (.int .i64 mc) ∧ W.cell? ⟨g, 1, none⟩ = some (.slice av2 nw kv2)) ∧ W.cell? ⟨q6, 2, none⟩ = some (.func (.func 37) #[] #[])) (by kernel_rfl) cCM (fun hHeld => ?_)
    rw [hWD] at Cb Mb R1 R2 TB bb OM OC hE hHeld ⊢
    clear hWD cCM
    refine takeH (i := 0) (some 22) (.pointer (some ⟨q1, 2, none⟩)) rfl rfl (by kernel_rfl) (by kernel_rfl) (by kernel_rfl) (fun _ _ _ h => h) (Or.inl ⟨by rfl, fun w hSw => by (try dsimp only at hSw); go_simp⟩) (by assumption) ?_
    try simp only [Act.put, List.setIfInBounds_toArray, List.set_cons_zero, List.set_cons_succ]
    refine takeH (i := 1) (some 23) (.int .i64 2) rfl rfl (by kernel_rfl) (by kernel_rfl) (by kernel_rfl) (fun _ _ _ h => h) (Or.inl ⟨by rfl, fun w hSw => by (try dsimp only at hSw); go_simp⟩) (by assumption) ?_
    try simp only [Act.put, List.setIfInBounds_toArray, List.set_cons_zero, List.set_cons_succ]
    refine takeH (i := 2) (some 24) (.pointer (some ⟨q6, 2, none⟩)) rfl rfl (by kernel_rfl) (by kernel_rfl) (by kernel_rfl) (fun _ _ _ h => h) (Or.inl ⟨by rfl, fun w hSw => by (try dsimp only at hSw); go_simp⟩) (by assumption) ?_
    try simp only [Act.put, List.setIfInBounds_toArray, List.set_cons_zero, List.set_cons_succ]
    refine takeH (i := 3) (some 25) (.func (.func 37) #[] #[]) rfl rfl (by kernel_rfl) (by kernel_rfl) (by kernel_rfl) (fun _ _ _ h => h) (Or.inl ⟨by rfl, fun w hSw => by (try dsimp only at hSw); go_simp⟩) (by assumption) ?_
    try simp only [Act.put, List.setIfInBounds_toArray, List.set_cons_zero, List.set_cons_succ]
    refine takeH (i := 4) (some 26) (.agg #[.int .i64 who, .int .i64 rv, .int .i64 2, .int .i64 (k : Int), .int .i64 wv, .slice a2 n k2, .slice d2 m l2]) rfl rfl (by kernel_rfl) (by kernel_rfl) (by kernel_rfl) (fun _ _ _ h => h) (Or.inl ⟨by rfl, fun w hSw => by (try dsimp only at hSw); go_simp⟩) (by assumption) ?_
    try simp only [Act.put, List.setIfInBounds_toArray, List.set_cons_zero, List.set_cons_succ]
    refine takeH (i := 5) (some 27) (.agg #[.int .i64 mc, .slice av2 nw kv2]) rfl rfl (by kernel_rfl) (by kernel_rfl) (by kernel_rfl) (fun _ _ _ h => h) (Or.inl ⟨by rfl, fun w hSw => by (try dsimp only at hSw); go_simp⟩) (by assumption) ?_
    try simp only [Act.put, List.setIfInBounds_toArray, List.set_cons_zero, List.set_cons_succ]
    refine wpAnyH_ready (rs := [6]) (by kernel_rfl) (by simp) ?_
    refine AllReadyH.cons rfl (fun K hK => ?_) AllReadyH.nil
    go_simp
    have hMs : Words.Sees WD.heap.size WD (.slice av2 ws.length kv2) ws := by rw [HW.out]; exact OM.sees
    have hCs : SeeC WD.heap.size WD (.slice a2 ps.length k2) (.slice d2 rs.length l2) ps rs := by rw [HN.out, HM2.out]; exact OC.sees
    have hcall := tickI who rv 2 wv k _ _ ps _ rs _ mc ws _ _ _ WD bE hMs hCs hE (Nat.le_refl _) (by omega) hb1 hb2 (by omega)
    rw [HN.out, HM2.out, HW.out] at hcall
    clear hMs hCs
    refine hcall.mono ?_
    clear hcall
    rintro e w8 ⟨v8, rfl, OM8, b8⟩
    have hz : Z = ⟨tickC mc ws, ws, if tickR mc ws = 0 then phB ps.length else onPh 2 k ps.length rs.length 3, if tickR mc ws = 0 then atB ps.length else onAt 2 k ps.length rs.length, if tickR mc ws = 0 then wv else tickR mc ws⟩ := by rw [← HZ.out, stepO_yes HMO.out HCO.out]; rfl
    rw [HN.out, HM2.out] at hz
    obtain ⟨zc, hzc⟩ : ∃ x : Int, (tickC mc ws) = x := ⟨_, rfl⟩
    obtain ⟨zp, hzp⟩ : ∃ x : Int, (if tickR mc ws = 0 then phB n else onPh 2 k n m 3) = x := ⟨_, rfl⟩
    obtain ⟨za, hza⟩ : ∃ x : Int, (if tickR mc ws = 0 then atB n else onAt 2 k n m) = x := ⟨_, rfl⟩
    obtain ⟨zw, hzw⟩ : ∃ x : Int, (if tickR mc ws = 0 then wv else tickR mc ws) = x := ⟨_, rfl⟩
    rw [hzc, hzp, hza, hzw] at hz
    rw [hzc, hzp, hza, hzw]
    clear hzc hzp hza hzw
    have HZ3 := (show Hid _ from hz)
    clear hz
    obtain ⟨av8, kv8, rfl⟩ := OM8.form
    obtain ⟨n8, hn8⟩ : ∃ n, ws.length = n := ⟨_, rfl⟩
    rw [hn8] at OM8 ⊢
    have HN8 := (show Hid (ws.length = n8) from hn8)
    have oM8 : ∀ k, (Value.slice av8 n8 kv8).ownBlock = some k → q3 < k := fun k hk => by have := (OM8.at k hk).1; have := R2.lt; omega
    replace OM8 := OM8.mono (show g ≤ WD.heap.size by have := bb.size; omega)
    clear OM oM hn8
    replace Mb := Mb.on b8 Mb.lt
    replace Cb := Cb.on b8 Cb.lt
    replace R1 := R1.on b8 R1.lt
    replace R2 := R2.on b8 R2.lt
    replace TB := TB.on b8 TB.lt
    replace OC := OC.on b8 (Nat.le_refl _)
    replace bb := bb.trans (b8.mono (by have := bb.size; omega))
    have OM := OM8; have oM := oM8
    clear OM8 oM8 b8
    go_simp
    refine hK.out _ _ ⟨⟨Cb.cell 0, Cb.cell 1, Cb.cell 2, Cb.cell 3, Cb.cell 4, Cb.cell 5, Cb.cell 6⟩, ⟨Mb.cell 0, Mb.cell 1⟩, TB.cell 2⟩ (fun _ => ?_)
    clear hK K
    try simp only [Act.put, List.setIfInBounds_toArray, List.set_cons_zero, List.set_cons_succ]
    refine takeH (i := 7) (some 29) (.agg #[.int .i64 zc, .slice av8 n8 kv8]) rfl rfl (by kernel_rfl) (by kernel_rfl) (by kernel_rfl) (fun _ _ _ h => h) (Or.inl ⟨by rfl, fun w hSw => by (try dsimp only at hSw); go_simp⟩) (by assumption) ?_
    try simp only [Act.put, List.setIfInBounds_toArray, List.set_cons_zero, List.set_cons_succ]
    refine takeH (i := 8) (some 30) (.agg #[.int .i64 who, .int .i64 rv, .int .i64 zp, .int .i64 za, .int .i64 zw, .slice a2 n k2, .slice d2 m l2]) rfl rfl (by kernel_rfl) (by kernel_rfl) (by kernel_rfl) (fun _ _ _ h => h) (Or.inl ⟨by rfl, fun w hSw => by (try dsimp only at hSw); go_simp⟩) (by assumption) ?_
    try simp only [Act.put, List.setIfInBounds_toArray, List.set_cons_zero, List.set_cons_succ]
    have q6lt : q3 < q6 := hq36
    have oM2 : ∀ k, (Value.slice av8 n8 kv8).ownBlock = some k → k ≠ q2 := fun k hk => by have := oM k hk; omega
    have oM3 : ∀ k, (Value.slice av8 n8 kv8).ownBlock = some k → k ≠ q3 := fun k hk => by have := oM k hk; omega
    have oC2 : ∀ k, Two (.slice a2 n k2) (.slice d2 m l2) k → k ≠ q2 := fun k hk => by have := oC k hk; omega
    have oC3 : ∀ k, Two (.slice a2 n k2) (.slice d2 m l2) k → k ≠ q3 := fun k hk => by have := oC k hk; omega
    have r1 := fun i => R1.cell i; have f1 := fun i => R1.froz i
    refine wpAnyH_ready (rs := [9]) (by kernel_rfl) (by simp) ?_
    refine AllReadyH.cons rfl (fun K hK => ?_) AllReadyH.nil
    go_simp
    replace TB := ((TB.other (show q6 ≠ q2 by omega) 0 (.int .i64 zc)).other (show q6 ≠ q2 by omega) 1 (.slice av8 n8 kv8))
    replace Cb := ((Cb.other (show q1 ≠ q2 by omega) 0 (.int .i64 zc)).other (show q1 ≠ q2 by omega) 1 (.slice av8 n8 kv8))
    replace Mb := ((Mb.other (show g ≠ q2 by omega) 0 (.int .i64 zc)).other (show g ≠ q2 by omega) 1 (.slice av8 n8 kv8))
    replace R2 := ((R2.other (show q3 ≠ q2 by omega) 0 (.int .i64 zc)).other (show q3 ≠ q2 by omega) 1 (.slice av8 n8 kv8))
    replace R1 := ((R1.set 0 (.int .i64 zc)).set 1 (.slice av8 n8 kv8))
    replace OM := (Words.Owns.other (Words.Owns.other OM (p := ⟨q2, 0, none⟩) oM2 (.int .i64 zc)) (p := ⟨q2, 1, none⟩) oM2 (.slice av8 n8 kv8))
    replace OC := (ownC_other (i := 1) (u := .slice av8 n8 kv8) (ownC_other (i := 0) (u := .int .i64 zc) OC oC2) oC2)
    replace bb := ((bb.setCell (p := ⟨q2, 0, none⟩) (show g ≤ q2 by omega) (.int .i64 zc)).setCell (p := ⟨q2, 1, none⟩) (show g ≤ q2 by omega) (.slice av8 n8 kv8))
    obtain ⟨WA, hWA⟩ : ∃ W, ((w8.setCell ⟨q2, 0, none⟩ (.int .i64 zc)).setCell ⟨q2, 1, none⟩ (.slice av8 n8 kv8)) = W := ⟨_, rfl⟩
    rw [hWA] at TB Cb Mb R1 R2 OM OC bb ⊢
    clear hWA r1 f1
    refine hK.out _ _ ⟨⟨Cb.cell 0, Cb.cell 1, Cb.cell 2, Cb.cell 3, Cb.cell 4, Cb.cell 5, Cb.cell 6⟩, ⟨Mb.cell 0, Mb.cell 1⟩, TB.cell 2⟩ (fun _ => ?_)
    clear hK K
    try simp only [Act.put, List.setIfInBounds_toArray, List.set_cons_zero, List.set_cons_succ]
    have r2 := fun i => R2.cell i; have f2 := fun i => R2.froz i
    refine wpAnyH_ready (rs := [10]) (by kernel_rfl) (by simp) ?_
    refine AllReadyH.cons rfl (fun K hK => ?_) AllReadyH.nil
    go_simp
    replace TB := (((((((TB.other (show q6 ≠ q3 by omega) 0 (.int .i64 who)).other (show q6 ≠ q3 by omega) 1 (.int .i64 rv)).other (show q6 ≠ q3 by omega) 2 (.int .i64 zp)).other (show q6 ≠ q3 by omega) 3 (.int .i64 za)).other (show q6 ≠ q3 by omega) 4 (.int .i64 zw)).other (show q6 ≠ q3 by omega) 5 (.slice a2 n k2)).other (show q6 ≠ q3 by omega) 6 (.slice d2 m l2))
    replace Cb := (((((((Cb.other (show q1 ≠ q3 by omega) 0 (.int .i64 who)).other (show q1 ≠ q3 by omega) 1 (.int .i64 rv)).other (show q1 ≠ q3 by omega) 2 (.int .i64 zp)).other (show q1 ≠ q3 by omega) 3 (.int .i64 za)).other (show q1 ≠ q3 by omega) 4 (.int .i64 zw)).other (show q1 ≠ q3 by omega) 5 (.slice a2 n k2)).other (show q1 ≠ q3 by omega) 6 (.slice d2 m l2))
    replace Mb := (((((((Mb.other (show g ≠ q3 by omega) 0 (.int .i64 who)).other (show g ≠ q3 by omega) 1 (.int .i64 rv)).other (show g ≠ q3 by omega) 2 (.int .i64 zp)).other (show g ≠ q3 by omega) 3 (.int .i64 za)).other (show g ≠ q3 by omega) 4 (.int .i64 zw)).other (show g ≠ q3 by omega) 5 (.slice a2 n k2)).other (show g ≠ q3 by omega) 6 (.slice d2 m l2))
    replace R1 := (((((((R1.other (show q2 ≠ q3 by omega) 0 (.int .i64 who)).other (show q2 ≠ q3 by omega) 1 (.int .i64 rv)).other (show q2 ≠ q3 by omega) 2 (.int .i64 zp)).other (show q2 ≠ q3 by omega) 3 (.int .i64 za)).other (show q2 ≠ q3 by omega) 4 (.int .i64 zw)).other (show q2 ≠ q3 by omega) 5 (.slice a2 n k2)).other (show q2 ≠ q3 by omega) 6 (.slice d2 m l2))
    replace R2 := (((((((R2.set 0 (.int .i64 who)).set 1 (.int .i64 rv)).set 2 (.int .i64 zp)).set 3 (.int .i64 za)).set 4 (.int .i64 zw)).set 5 (.slice a2 n k2)).set 6 (.slice d2 m l2))
    replace OM := (Words.Owns.other (Words.Owns.other (Words.Owns.other (Words.Owns.other (Words.Owns.other (Words.Owns.other (Words.Owns.other OM (p := ⟨q3, 0, none⟩) oM3 (.int .i64 who)) (p := ⟨q3, 1, none⟩) oM3 (.int .i64 rv)) (p := ⟨q3, 2, none⟩) oM3 (.int .i64 zp)) (p := ⟨q3, 3, none⟩) oM3 (.int .i64 za)) (p := ⟨q3, 4, none⟩) oM3 (.int .i64 zw)) (p := ⟨q3, 5, none⟩) oM3 (.slice a2 n k2)) (p := ⟨q3, 6, none⟩) oM3 (.slice d2 m l2))
    replace OC := (ownC_other (i := 6) (u := .slice d2 m l2) (ownC_other (i := 5) (u := .slice a2 n k2) (ownC_other (i := 4) (u := .int .i64 zw) (ownC_other (i := 3) (u := .int .i64 za) (ownC_other (i := 2) (u := .int .i64 zp) (ownC_other (i := 1) (u := .int .i64 rv) (ownC_other (i := 0) (u := .int .i64 who) OC oC3) oC3) oC3) oC3) oC3) oC3) oC3)
    replace bb := (((((((bb.setCell (p := ⟨q3, 0, none⟩) (show g ≤ q3 by omega) (.int .i64 who)).setCell (p := ⟨q3, 1, none⟩) (show g ≤ q3 by omega) (.int .i64 rv)).setCell (p := ⟨q3, 2, none⟩) (show g ≤ q3 by omega) (.int .i64 zp)).setCell (p := ⟨q3, 3, none⟩) (show g ≤ q3 by omega) (.int .i64 za)).setCell (p := ⟨q3, 4, none⟩) (show g ≤ q3 by omega) (.int .i64 zw)).setCell (p := ⟨q3, 5, none⟩) (show g ≤ q3 by omega) (.slice a2 n k2)).setCell (p := ⟨q3, 6, none⟩) (show g ≤ q3 by omega) (.slice d2 m l2))
    obtain ⟨WB, hWB⟩ : ∃ W, (((((((WA.setCell ⟨q3, 0, none⟩ (.int .i64 who)).setCell ⟨q3, 1, none⟩ (.int .i64 rv)).setCell ⟨q3, 2, none⟩ (.int .i64 zp)).setCell ⟨q3, 3, none⟩ (.int .i64 za)).setCell ⟨q3, 4, none⟩ (.int .i64 zw)).setCell ⟨q3, 5, none⟩ (.slice a2 n k2)).setCell ⟨q3, 6, none⟩ (.slice d2 m l2)) = W := ⟨_, rfl⟩
    rw [hWB] at TB Cb Mb R1 R2 OM OC bb ⊢
    clear hWB r2 f2
    refine hK.out _ _ ⟨⟨Cb.cell 0, Cb.cell 1, Cb.cell 2, Cb.cell 3, Cb.cell 4, Cb.cell 5, Cb.cell 6⟩, ⟨Mb.cell 0, Mb.cell 1⟩, TB.cell 2⟩ (fun _ => ?_)
    clear hK K
    try simp only [Act.put, List.setIfInBounds_toArray, List.set_cons_zero, List.set_cons_succ]
    refine wpAnyH_done (by kernel_rfl) ?_ _
    have r1 := fun i => R1.cell i; have r2 := fun i => R2.cell i
    go_wp2
    refine bodyPost_ret (v := .tuple #[.agg #[.int .i64 zc, .slice av8 n8 kv8], .agg #[.int .i64 who, .int .i64 rv, .int .i64 zp, .int .i64 za, .int .i64 zw, .slice a2 n k2, .slice d2 m l2]]) (by simp [results, Tryd.results9, go_sem, r1, r2]) rfl ?_
    exact told_mk HZ3.out HN8.out HN.out HM2.out hg OM OC bb
  · go_wp2_with fail
    try rw [hw7]
    try rw [hq6]
    clear hw7 hq6 c2f
    obtain ⟨hk, cn, hcn, hcl⟩ := hrd (by trivial)
    clear hrow hrd hphs
    have cCM : (w7.cell? ⟨q1, 0, none⟩ = some (.int .i64 who) ∧ w7.cell? ⟨q1, 1, none⟩ = some (.int .i64 rv) ∧ w7.cell? ⟨q1, 2, none⟩ = some (.int .i64 3) ∧ w7.cell? ⟨q1, 3, none⟩ = some (.int .i64 (k : Int)) ∧ w7.cell? ⟨q1, 4, none⟩ = some (.int .i64 wv) ∧ w7.cell? ⟨q1, 5, none⟩ = some (.slice a2 n k2) ∧ w7.cell? ⟨q1, 6, none⟩ = some (.slice d2 m l2)) ∧ (w7.cell? ⟨g, 0, none⟩ = some (.int .i64 mc) ∧ w7.cell? ⟨g, 1, none⟩ = some (.slice av2 nw kv2)) ∧ w7.cell? ⟨q6, 3, none⟩ = some (.func (.func 38) #[] #[]) := ⟨⟨Cb.cell 0, Cb.cell 1, Cb.cell 2, Cb.cell 3, Cb.cell 4, Cb.cell 5, Cb.cell 6⟩, ⟨Mb.cell 0, Mb.cell 1⟩, TB.cell 3⟩
    replace Mb := Mb.drew
    replace Cb := Cb.drew
    replace R1 := R1.drew
    replace R2 := R2.drew
    replace TB := TB.drew
    replace bb := bb.drew; replace OM := OM.drew; replace OC : OwnC _ _ _ _ _ _ := OC.on (drew_lowC w7) (Nat.le_refl _); replace hE : Err _ _ := hE.on (drew_lowC w7) (Nat.le_refl _)
    obtain ⟨WD, hWD⟩ : ∃ WD, w7.drew = WD := ⟨_, rfl⟩
    refine wp_region_held_drew (S := fun W => (W.cell? ⟨q1, 0, none⟩ = some (.int .i64 who) ∧ W.cell? ⟨q1, 1, none⟩ = some (.int .i64 rv) ∧ W.cell? ⟨q1, 2, none⟩ = some (.int .i64 3) ∧ W.cell? ⟨q1, 3, none⟩ = some (.int .i64 (k : Int)) ∧ W.cell? ⟨q1, 4, none⟩ = some (.int .i64 wv) ∧ W.cell? ⟨q1, 5, none⟩ = some (.slice a2 n k2) ∧ W.cell? ⟨q1, 6, none⟩ = some (.slice d2 m l2)) ∧ (W.cell? ⟨g, 0, none⟩ = some (.int .i64 mc) ∧ W.cell? ⟨g, 1, none⟩ = some (.slice av2 nw kv2)) ∧ W.cell? ⟨q6, 3, none⟩ = some (.func (.func 38) #[] #[])) (by kernel_rfl) cCM (fun hHeld => ?_)
    rw [hWD] at Cb Mb R1 R2 TB bb OM OC hE hHeld ⊢
    clear hWD cCM
    refine takeH (i := 0) (some 22) (.pointer (some ⟨q1, 2, none⟩)) rfl rfl (by kernel_rfl) (by kernel_rfl) (by kernel_rfl) (fun _ _ _ h => h) (Or.inl ⟨by rfl, fun w hSw => by (try dsimp only at hSw); go_simp⟩) (by assumption) ?_
    try simp only [Act.put, List.setIfInBounds_toArray, List.set_cons_zero, List.set_cons_succ]
    refine takeH (i := 1) (some 23) (.int .i64 3) rfl rfl (by kernel_rfl) (by kernel_rfl) (by kernel_rfl) (fun _ _ _ h => h) (Or.inl ⟨by rfl, fun w hSw => by (try dsimp only at hSw); go_simp⟩) (by assumption) ?_
    try simp only [Act.put, List.setIfInBounds_toArray, List.set_cons_zero, List.set_cons_succ]
    refine takeH (i := 2) (some 24) (.pointer (some ⟨q6, 3, none⟩)) rfl rfl (by kernel_rfl) (by kernel_rfl) (by kernel_rfl) (fun _ _ _ h => h) (Or.inl ⟨by rfl, fun w hSw => by (try dsimp only at hSw); go_simp⟩) (by assumption) ?_
    try simp only [Act.put, List.setIfInBounds_toArray, List.set_cons_zero, List.set_cons_succ]
    refine takeH (i := 3) (some 25) (.func (.func 38) #[] #[]) rfl rfl (by kernel_rfl) (by kernel_rfl) (by kernel_rfl) (fun _ _ _ h => h) (Or.inl ⟨by rfl, fun w hSw => by (try dsimp only at hSw); go_simp⟩) (by assumption) ?_
    try simp only [Act.put, List.setIfInBounds_toArray, List.set_cons_zero, List.set_cons_succ]
    refine takeH (i := 4) (some 26) (.agg #[.int .i64 who, .int .i64 rv, .int .i64 3, .int .i64 (k : Int), .int .i64 wv, .slice a2 n k2, .slice d2 m l2]) rfl rfl (by kernel_rfl) (by kernel_rfl) (by kernel_rfl) (fun _ _ _ h => h) (Or.inl ⟨by rfl, fun w hSw => by (try dsimp only at hSw); go_simp⟩) (by assumption) ?_
    try simp only [Act.put, List.setIfInBounds_toArray, List.set_cons_zero, List.set_cons_succ]
    refine takeH (i := 5) (some 27) (.agg #[.int .i64 mc, .slice av2 nw kv2]) rfl rfl (by kernel_rfl) (by kernel_rfl) (by kernel_rfl) (fun _ _ _ h => h) (Or.inl ⟨by rfl, fun w hSw => by (try dsimp only at hSw); go_simp⟩) (by assumption) ?_
    try simp only [Act.put, List.setIfInBounds_toArray, List.set_cons_zero, List.set_cons_succ]
    refine wpAnyH_ready (rs := [6]) (by kernel_rfl) (by simp) ?_
    refine AllReadyH.cons rfl (fun K hK => ?_) AllReadyH.nil
    go_simp
    have hMs : Words.Sees WD.heap.size WD (.slice av2 ws.length kv2) ws := by rw [HW.out]; exact OM.sees
    have hCs : SeeC WD.heap.size WD (.slice a2 ps.length k2) (.slice d2 rs.length l2) ps rs := by rw [HN.out, HM2.out]; exact OC.sees
    have hcall := checkI who rv 3 wv k _ _ ps _ rs _ mc ws _ _ _ WD bE hMs hCs hE (Nat.le_refl _) (by omega) hb1 hb2 hk cn hcn (by omega)
    rw [HN.out, HM2.out, HW.out] at hcall
    clear hMs hCs
    refine hcall.mono ?_
    clear hcall
    rintro e w8 ⟨rfl, b8⟩
    have hz : Z = ⟨mc, ws, if bad (wAt ws (rs.getD k 0)) who rv = true then phB ps.length else onPh 3 k ps.length rs.length 4, if bad (wAt ws (rs.getD k 0)) who rv = true then atB ps.length else onAt 3 k ps.length rs.length, wv⟩ := by rw [← HZ.out, stepO_yes HMO.out HCO.out]; rfl
    rw [HN.out, HM2.out] at hz
    obtain ⟨zp, hzp⟩ : ∃ x : Int, (if bad (wAt ws (rs.getD k 0)) who rv = true then phB n else onPh 3 k n m 4) = x := ⟨_, rfl⟩
    obtain ⟨za, hza⟩ : ∃ x : Int, (if bad (wAt ws (rs.getD k 0)) who rv = true then atB n else onAt 3 k n m) = x := ⟨_, rfl⟩
    rw [hzp, hza] at hz
    rw [hzp, hza]
    clear hzp hza
    have HZ3 := (show Hid _ from hz)
    clear hz
    replace Mb := Mb.on b8 Mb.lt
    replace Cb := Cb.on b8 Cb.lt
    replace R1 := R1.on b8 R1.lt
    replace R2 := R2.on b8 R2.lt
    replace TB := TB.on b8 TB.lt
    replace OM := OM.on b8 (Nat.le_refl _); replace OC := OC.on b8 (Nat.le_refl _)
    replace bb := bb.trans (b8.mono (by have := bb.size; omega))
    clear b8
    go_simp
    refine hK.out _ _ ⟨⟨Cb.cell 0, Cb.cell 1, Cb.cell 2, Cb.cell 3, Cb.cell 4, Cb.cell 5, Cb.cell 6⟩, ⟨Mb.cell 0, Mb.cell 1⟩, TB.cell 3⟩ (fun _ => ?_)
    clear hK K
    try simp only [Act.put, List.setIfInBounds_toArray, List.set_cons_zero, List.set_cons_succ]
    refine takeH (i := 7) (some 29) (.agg #[.int .i64 mc, .slice av2 nw kv2]) rfl rfl (by kernel_rfl) (by kernel_rfl) (by kernel_rfl) (fun _ _ _ h => h) (Or.inl ⟨by rfl, fun w hSw => by (try dsimp only at hSw); go_simp⟩) (by assumption) ?_
    try simp only [Act.put, List.setIfInBounds_toArray, List.set_cons_zero, List.set_cons_succ]
    refine takeH (i := 8) (some 30) (.agg #[.int .i64 who, .int .i64 rv, .int .i64 zp, .int .i64 za, .int .i64 wv, .slice a2 n k2, .slice d2 m l2]) rfl rfl (by kernel_rfl) (by kernel_rfl) (by kernel_rfl) (fun _ _ _ h => h) (Or.inl ⟨by rfl, fun w hSw => by (try dsimp only at hSw); go_simp⟩) (by assumption) ?_
    try simp only [Act.put, List.setIfInBounds_toArray, List.set_cons_zero, List.set_cons_succ]
    have q6lt : q3 < q6 := hq36
    have oM2 : ∀ k, (Value.slice av2 nw kv2).ownBlock = some k → k ≠ q2 := fun k hk => by have := oM k hk; omega
    have oM3 : ∀ k, (Value.slice av2 nw kv2).ownBlock = some k → k ≠ q3 := fun k hk => by have := oM k hk; omega
    have oC2 : ∀ k, Two (.slice a2 n k2) (.slice d2 m l2) k → k ≠ q2 := fun k hk => by have := oC k hk; omega
    have oC3 : ∀ k, Two (.slice a2 n k2) (.slice d2 m l2) k → k ≠ q3 := fun k hk => by have := oC k hk; omega
    have r1 := fun i => R1.cell i; have f1 := fun i => R1.froz i
    refine wpAnyH_ready (rs := [9]) (by kernel_rfl) (by simp) ?_
    refine AllReadyH.cons rfl (fun K hK => ?_) AllReadyH.nil
    go_simp
    replace TB := ((TB.other (show q6 ≠ q2 by omega) 0 (.int .i64 mc)).other (show q6 ≠ q2 by omega) 1 (.slice av2 nw kv2))
    replace Cb := ((Cb.other (show q1 ≠ q2 by omega) 0 (.int .i64 mc)).other (show q1 ≠ q2 by omega) 1 (.slice av2 nw kv2))
    replace Mb := ((Mb.other (show g ≠ q2 by omega) 0 (.int .i64 mc)).other (show g ≠ q2 by omega) 1 (.slice av2 nw kv2))
    replace R2 := ((R2.other (show q3 ≠ q2 by omega) 0 (.int .i64 mc)).other (show q3 ≠ q2 by omega) 1 (.slice av2 nw kv2))
    replace R1 := ((R1.set 0 (.int .i64 mc)).set 1 (.slice av2 nw kv2))
    replace OM := (Words.Owns.other (Words.Owns.other OM (p := ⟨q2, 0, none⟩) oM2 (.int .i64 mc)) (p := ⟨q2, 1, none⟩) oM2 (.slice av2 nw kv2))
    replace OC := (ownC_other (i := 1) (u := .slice av2 nw kv2) (ownC_other (i := 0) (u := .int .i64 mc) OC oC2) oC2)
    replace bb := ((bb.setCell (p := ⟨q2, 0, none⟩) (show g ≤ q2 by omega) (.int .i64 mc)).setCell (p := ⟨q2, 1, none⟩) (show g ≤ q2 by omega) (.slice av2 nw kv2))
    obtain ⟨WA, hWA⟩ : ∃ W, ((w8.setCell ⟨q2, 0, none⟩ (.int .i64 mc)).setCell ⟨q2, 1, none⟩ (.slice av2 nw kv2)) = W := ⟨_, rfl⟩
    rw [hWA] at TB Cb Mb R1 R2 OM OC bb ⊢
    clear hWA r1 f1
    refine hK.out _ _ ⟨⟨Cb.cell 0, Cb.cell 1, Cb.cell 2, Cb.cell 3, Cb.cell 4, Cb.cell 5, Cb.cell 6⟩, ⟨Mb.cell 0, Mb.cell 1⟩, TB.cell 3⟩ (fun _ => ?_)
    clear hK K
    try simp only [Act.put, List.setIfInBounds_toArray, List.set_cons_zero, List.set_cons_succ]
    have r2 := fun i => R2.cell i; have f2 := fun i => R2.froz i
    refine wpAnyH_ready (rs := [10]) (by kernel_rfl) (by simp) ?_
    refine AllReadyH.cons rfl (fun K hK => ?_) AllReadyH.nil
    go_simp
    replace TB := (((((((TB.other (show q6 ≠ q3 by omega) 0 (.int .i64 who)).other (show q6 ≠ q3 by omega) 1 (.int .i64 rv)).other (show q6 ≠ q3 by omega) 2 (.int .i64 zp)).other (show q6 ≠ q3 by omega) 3 (.int .i64 za)).other (show q6 ≠ q3 by omega) 4 (.int .i64 wv)).other (show q6 ≠ q3 by omega) 5 (.slice a2 n k2)).other (show q6 ≠ q3 by omega) 6 (.slice d2 m l2))
    replace Cb := (((((((Cb.other (show q1 ≠ q3 by omega) 0 (.int .i64 who)).other (show q1 ≠ q3 by omega) 1 (.int .i64 rv)).other (show q1 ≠ q3 by omega) 2 (.int .i64 zp)).other (show q1 ≠ q3 by omega) 3 (.int .i64 za)).other (show q1 ≠ q3 by omega) 4 (.int .i64 wv)).other (show q1 ≠ q3 by omega) 5 (.slice a2 n k2)).other (show q1 ≠ q3 by omega) 6 (.slice d2 m l2))
    replace Mb := (((((((Mb.other (show g ≠ q3 by omega) 0 (.int .i64 who)).other (show g ≠ q3 by omega) 1 (.int .i64 rv)).other (show g ≠ q3 by omega) 2 (.int .i64 zp)).other (show g ≠ q3 by omega) 3 (.int .i64 za)).other (show g ≠ q3 by omega) 4 (.int .i64 wv)).other (show g ≠ q3 by omega) 5 (.slice a2 n k2)).other (show g ≠ q3 by omega) 6 (.slice d2 m l2))
    replace R1 := (((((((R1.other (show q2 ≠ q3 by omega) 0 (.int .i64 who)).other (show q2 ≠ q3 by omega) 1 (.int .i64 rv)).other (show q2 ≠ q3 by omega) 2 (.int .i64 zp)).other (show q2 ≠ q3 by omega) 3 (.int .i64 za)).other (show q2 ≠ q3 by omega) 4 (.int .i64 wv)).other (show q2 ≠ q3 by omega) 5 (.slice a2 n k2)).other (show q2 ≠ q3 by omega) 6 (.slice d2 m l2))
    replace R2 := (((((((R2.set 0 (.int .i64 who)).set 1 (.int .i64 rv)).set 2 (.int .i64 zp)).set 3 (.int .i64 za)).set 4 (.int .i64 wv)).set 5 (.slice a2 n k2)).set 6 (.slice d2 m l2))
    replace OM := (Words.Owns.other (Words.Owns.other (Words.Owns.other (Words.Owns.other (Words.Owns.other (Words.Owns.other (Words.Owns.other OM (p := ⟨q3, 0, none⟩) oM3 (.int .i64 who)) (p := ⟨q3, 1, none⟩) oM3 (.int .i64 rv)) (p := ⟨q3, 2, none⟩) oM3 (.int .i64 zp)) (p := ⟨q3, 3, none⟩) oM3 (.int .i64 za)) (p := ⟨q3, 4, none⟩) oM3 (.int .i64 wv)) (p := ⟨q3, 5, none⟩) oM3 (.slice a2 n k2)) (p := ⟨q3, 6, none⟩) oM3 (.slice d2 m l2))
    replace OC := (ownC_other (i := 6) (u := .slice d2 m l2) (ownC_other (i := 5) (u := .slice a2 n k2) (ownC_other (i := 4) (u := .int .i64 wv) (ownC_other (i := 3) (u := .int .i64 za) (ownC_other (i := 2) (u := .int .i64 zp) (ownC_other (i := 1) (u := .int .i64 rv) (ownC_other (i := 0) (u := .int .i64 who) OC oC3) oC3) oC3) oC3) oC3) oC3) oC3)
    replace bb := (((((((bb.setCell (p := ⟨q3, 0, none⟩) (show g ≤ q3 by omega) (.int .i64 who)).setCell (p := ⟨q3, 1, none⟩) (show g ≤ q3 by omega) (.int .i64 rv)).setCell (p := ⟨q3, 2, none⟩) (show g ≤ q3 by omega) (.int .i64 zp)).setCell (p := ⟨q3, 3, none⟩) (show g ≤ q3 by omega) (.int .i64 za)).setCell (p := ⟨q3, 4, none⟩) (show g ≤ q3 by omega) (.int .i64 wv)).setCell (p := ⟨q3, 5, none⟩) (show g ≤ q3 by omega) (.slice a2 n k2)).setCell (p := ⟨q3, 6, none⟩) (show g ≤ q3 by omega) (.slice d2 m l2))
    obtain ⟨WB, hWB⟩ : ∃ W, (((((((WA.setCell ⟨q3, 0, none⟩ (.int .i64 who)).setCell ⟨q3, 1, none⟩ (.int .i64 rv)).setCell ⟨q3, 2, none⟩ (.int .i64 zp)).setCell ⟨q3, 3, none⟩ (.int .i64 za)).setCell ⟨q3, 4, none⟩ (.int .i64 wv)).setCell ⟨q3, 5, none⟩ (.slice a2 n k2)).setCell ⟨q3, 6, none⟩ (.slice d2 m l2)) = W := ⟨_, rfl⟩
    rw [hWB] at TB Cb Mb R1 R2 OM OC bb ⊢
    clear hWB r2 f2
    refine hK.out _ _ ⟨⟨Cb.cell 0, Cb.cell 1, Cb.cell 2, Cb.cell 3, Cb.cell 4, Cb.cell 5, Cb.cell 6⟩, ⟨Mb.cell 0, Mb.cell 1⟩, TB.cell 3⟩ (fun _ => ?_)
    clear hK K
    try simp only [Act.put, List.setIfInBounds_toArray, List.set_cons_zero, List.set_cons_succ]
    refine wpAnyH_done (by kernel_rfl) ?_ _
    have r1 := fun i => R1.cell i; have r2 := fun i => R2.cell i
    go_wp2
    refine bodyPost_ret (v := .tuple #[.agg #[.int .i64 mc, .slice av2 nw kv2], .agg #[.int .i64 who, .int .i64 rv, .int .i64 zp, .int .i64 za, .int .i64 wv, .slice a2 n k2, .slice d2 m l2]]) (by simp [results, Tryd.results9, go_sem, r1, r2]) rfl ?_
    exact told_mk HZ3.out HW.out HN.out HM2.out hg OM OC bb
  · go_wp2_with fail
    try rw [hw7]
    try rw [hq6]
    clear hw7 hq6 c2f
    obtain ⟨hk, cn, hcn, hcl⟩ := hrow (by decide)
    clear hrow hrd hphs
    have cCM : (w7.cell? ⟨q1, 0, none⟩ = some (.int .i64 who) ∧ w7.cell? ⟨q1, 1, none⟩ = some (.int .i64 rv) ∧ w7.cell? ⟨q1, 2, none⟩ = some (.int .i64 4) ∧ w7.cell? ⟨q1, 3, none⟩ = some (.int .i64 (k : Int)) ∧ w7.cell? ⟨q1, 4, none⟩ = some (.int .i64 wv) ∧ w7.cell? ⟨q1, 5, none⟩ = some (.slice a2 n k2) ∧ w7.cell? ⟨q1, 6, none⟩ = some (.slice d2 m l2)) ∧ (w7.cell? ⟨g, 0, none⟩ = some (.int .i64 mc) ∧ w7.cell? ⟨g, 1, none⟩ = some (.slice av2 nw kv2)) ∧ w7.cell? ⟨q6, 4, none⟩ = some (.func (.func 39) #[] #[]) := ⟨⟨Cb.cell 0, Cb.cell 1, Cb.cell 2, Cb.cell 3, Cb.cell 4, Cb.cell 5, Cb.cell 6⟩, ⟨Mb.cell 0, Mb.cell 1⟩, TB.cell 4⟩
    replace Mb := Mb.drew
    replace Cb := Cb.drew
    replace R1 := R1.drew
    replace R2 := R2.drew
    replace TB := TB.drew
    replace bb := bb.drew; replace OM := OM.drew; replace OC : OwnC _ _ _ _ _ _ := OC.on (drew_lowC w7) (Nat.le_refl _); replace hE : Err _ _ := hE.on (drew_lowC w7) (Nat.le_refl _)
    obtain ⟨WD, hWD⟩ : ∃ WD, w7.drew = WD := ⟨_, rfl⟩
    refine wp_region_held_drew (S := fun W => (W.cell? ⟨q1, 0, none⟩ = some (.int .i64 who) ∧ W.cell? ⟨q1, 1, none⟩ = some (.int .i64 rv) ∧ W.cell? ⟨q1, 2, none⟩ = some (.int .i64 4) ∧ W.cell? ⟨q1, 3, none⟩ = some (.int .i64 (k : Int)) ∧ W.cell? ⟨q1, 4, none⟩ = some (.int .i64 wv) ∧ W.cell? ⟨q1, 5, none⟩ = some (.slice a2 n k2) ∧ W.cell? ⟨q1, 6, none⟩ = some (.slice d2 m l2)) ∧ (W.cell? ⟨g, 0, none⟩ = some (.int .i64 mc) ∧ W.cell? ⟨g, 1, none⟩ = some (.slice av2 nw kv2)) ∧ W.cell? ⟨q6, 4, none⟩ = some (.func (.func 39) #[] #[])) (by kernel_rfl) cCM (fun hHeld => ?_)
    rw [hWD] at Cb Mb R1 R2 TB bb OM OC hE hHeld ⊢
    clear hWD cCM
    refine takeH (i := 0) (some 22) (.pointer (some ⟨q1, 2, none⟩)) rfl rfl (by kernel_rfl) (by kernel_rfl) (by kernel_rfl) (fun _ _ _ h => h) (Or.inl ⟨by rfl, fun w hSw => by (try dsimp only at hSw); go_simp⟩) (by assumption) ?_
    try simp only [Act.put, List.setIfInBounds_toArray, List.set_cons_zero, List.set_cons_succ]
    refine takeH (i := 1) (some 23) (.int .i64 4) rfl rfl (by kernel_rfl) (by kernel_rfl) (by kernel_rfl) (fun _ _ _ h => h) (Or.inl ⟨by rfl, fun w hSw => by (try dsimp only at hSw); go_simp⟩) (by assumption) ?_
    try simp only [Act.put, List.setIfInBounds_toArray, List.set_cons_zero, List.set_cons_succ]
    refine takeH (i := 2) (some 24) (.pointer (some ⟨q6, 4, none⟩)) rfl rfl (by kernel_rfl) (by kernel_rfl) (by kernel_rfl) (fun _ _ _ h => h) (Or.inl ⟨by rfl, fun w hSw => by (try dsimp only at hSw); go_simp⟩) (by assumption) ?_
    try simp only [Act.put, List.setIfInBounds_toArray, List.set_cons_zero, List.set_cons_succ]
    refine takeH (i := 3) (some 25) (.func (.func 39) #[] #[]) rfl rfl (by kernel_rfl) (by kernel_rfl) (by kernel_rfl) (fun _ _ _ h => h) (Or.inl ⟨by rfl, fun w hSw => by (try dsimp only at hSw); go_simp⟩) (by assumption) ?_
    try simp only [Act.put, List.setIfInBounds_toArray, List.set_cons_zero, List.set_cons_succ]
    refine takeH (i := 4) (some 26) (.agg #[.int .i64 who, .int .i64 rv, .int .i64 4, .int .i64 (k : Int), .int .i64 wv, .slice a2 n k2, .slice d2 m l2]) rfl rfl (by kernel_rfl) (by kernel_rfl) (by kernel_rfl) (fun _ _ _ h => h) (Or.inl ⟨by rfl, fun w hSw => by (try dsimp only at hSw); go_simp⟩) (by assumption) ?_
    try simp only [Act.put, List.setIfInBounds_toArray, List.set_cons_zero, List.set_cons_succ]
    refine takeH (i := 5) (some 27) (.agg #[.int .i64 mc, .slice av2 nw kv2]) rfl rfl (by kernel_rfl) (by kernel_rfl) (by kernel_rfl) (fun _ _ _ h => h) (Or.inl ⟨by rfl, fun w hSw => by (try dsimp only at hSw); go_simp⟩) (by assumption) ?_
    try simp only [Act.put, List.setIfInBounds_toArray, List.set_cons_zero, List.set_cons_succ]
    refine wpAnyH_ready (rs := [6]) (by kernel_rfl) (by simp) ?_
    refine AllReadyH.cons rfl (fun K hK => ?_) AllReadyH.nil
    go_simp
    have hMs : Words.Sees WD.heap.size WD (.slice av2 ws.length kv2) ws := by rw [HW.out]; exact OM.sees
    have hCs : SeeC WD.heap.size WD (.slice a2 ps.length k2) (.slice d2 rs.length l2) ps rs := by rw [HN.out, HM2.out]; exact OC.sees
    have hcall := storeI who rv 4 wv k _ _ ps _ rs _ mc ws _ _ _ WD bE hMs hCs hE (Nat.le_refl _) (by omega) hb1 hb2 hk
    rw [HN.out, HM2.out, HW.out] at hcall
    clear hMs hCs
    refine hcall.mono ?_
    clear hcall
    rintro e w8 ⟨v8, rfl, OM8, b8⟩
    have hz : Z = ⟨mc, storeTo mc ws (ps.getD k z2).c who (ps.getD k z2).v, onPh 4 k ps.length rs.length 5, onAt 4 k ps.length rs.length, wv⟩ := by rw [← HZ.out, stepO_yes HMO.out HCO.out]; rfl
    rw [HN.out, HM2.out] at hz
    obtain ⟨zl, hzl⟩ : ∃ x : List W3, (storeTo mc ws (ps.getD k z2).c who (ps.getD k z2).v) = x := ⟨_, rfl⟩
    obtain ⟨zp, hzp⟩ : ∃ x : Int, (onPh 4 k n m 5) = x := ⟨_, rfl⟩
    obtain ⟨za, hza⟩ : ∃ x : Int, (onAt 4 k n m) = x := ⟨_, rfl⟩
    rw [hzl, hzp, hza] at hz
    rw [hzl] at OM8
    rw [hzp, hza]
    clear hzl hzp hza
    have HZ3 := (show Hid _ from hz)
    clear hz
    obtain ⟨av8, kv8, rfl⟩ := OM8.form
    obtain ⟨n8, hn8⟩ : ∃ n, zl.length = n := ⟨_, rfl⟩
    rw [hn8] at OM8 ⊢
    have HN8 := (show Hid (zl.length = n8) from hn8)
    have oM8 : ∀ k, (Value.slice av8 n8 kv8).ownBlock = some k → q3 < k := fun k hk => by have := (OM8.at k hk).1; have := R2.lt; omega
    replace OM8 := OM8.mono (show g ≤ WD.heap.size by have := bb.size; omega)
    clear OM oM hn8
    replace Mb := Mb.on b8 Mb.lt
    replace Cb := Cb.on b8 Cb.lt
    replace R1 := R1.on b8 R1.lt
    replace R2 := R2.on b8 R2.lt
    replace TB := TB.on b8 TB.lt
    replace OC := OC.on b8 (Nat.le_refl _)
    replace bb := bb.trans (b8.mono (by have := bb.size; omega))
    have OM := OM8; have oM := oM8
    clear OM8 oM8 b8
    go_simp
    refine hK.out _ _ ⟨⟨Cb.cell 0, Cb.cell 1, Cb.cell 2, Cb.cell 3, Cb.cell 4, Cb.cell 5, Cb.cell 6⟩, ⟨Mb.cell 0, Mb.cell 1⟩, TB.cell 4⟩ (fun _ => ?_)
    clear hK K
    try simp only [Act.put, List.setIfInBounds_toArray, List.set_cons_zero, List.set_cons_succ]
    refine takeH (i := 7) (some 29) (.agg #[.int .i64 mc, .slice av8 n8 kv8]) rfl rfl (by kernel_rfl) (by kernel_rfl) (by kernel_rfl) (fun _ _ _ h => h) (Or.inl ⟨by rfl, fun w hSw => by (try dsimp only at hSw); go_simp⟩) (by assumption) ?_
    try simp only [Act.put, List.setIfInBounds_toArray, List.set_cons_zero, List.set_cons_succ]
    refine takeH (i := 8) (some 30) (.agg #[.int .i64 who, .int .i64 rv, .int .i64 zp, .int .i64 za, .int .i64 wv, .slice a2 n k2, .slice d2 m l2]) rfl rfl (by kernel_rfl) (by kernel_rfl) (by kernel_rfl) (fun _ _ _ h => h) (Or.inl ⟨by rfl, fun w hSw => by (try dsimp only at hSw); go_simp⟩) (by assumption) ?_
    try simp only [Act.put, List.setIfInBounds_toArray, List.set_cons_zero, List.set_cons_succ]
    have q6lt : q3 < q6 := hq36
    have oM2 : ∀ k, (Value.slice av8 n8 kv8).ownBlock = some k → k ≠ q2 := fun k hk => by have := oM k hk; omega
    have oM3 : ∀ k, (Value.slice av8 n8 kv8).ownBlock = some k → k ≠ q3 := fun k hk => by have := oM k hk; omega
    have oC2 : ∀ k, Two (.slice a2 n k2) (.slice d2 m l2) k → k ≠ q2 := fun k hk => by have := oC k hk; omega
    have oC3 : ∀ k, Two (.slice a2 n k2) (.slice d2 m l2) k → k ≠ q3 := fun k hk => by have := oC k hk; omega
    have r1 := fun i => R1.cell i; have f1 := fun i => R1.froz i
    refine wpAnyH_ready (rs := [9]) (by kernel_rfl) (by simp) ?_
    refine AllReadyH.cons rfl (fun K hK => ?_) AllReadyH.nil
    go_simp
    replace TB := ((TB.other (show q6 ≠ q2 by omega) 0 (.int .i64 mc)).other (show q6 ≠ q2 by omega) 1 (.slice av8 n8 kv8))
    replace Cb := ((Cb.other (show q1 ≠ q2 by omega) 0 (.int .i64 mc)).other (show q1 ≠ q2 by omega) 1 (.slice av8 n8 kv8))
    replace Mb := ((Mb.other (show g ≠ q2 by omega) 0 (.int .i64 mc)).other (show g ≠ q2 by omega) 1 (.slice av8 n8 kv8))
    replace R2 := ((R2.other (show q3 ≠ q2 by omega) 0 (.int .i64 mc)).other (show q3 ≠ q2 by omega) 1 (.slice av8 n8 kv8))
    replace R1 := ((R1.set 0 (.int .i64 mc)).set 1 (.slice av8 n8 kv8))
    replace OM := (Words.Owns.other (Words.Owns.other OM (p := ⟨q2, 0, none⟩) oM2 (.int .i64 mc)) (p := ⟨q2, 1, none⟩) oM2 (.slice av8 n8 kv8))
    replace OC := (ownC_other (i := 1) (u := .slice av8 n8 kv8) (ownC_other (i := 0) (u := .int .i64 mc) OC oC2) oC2)
    replace bb := ((bb.setCell (p := ⟨q2, 0, none⟩) (show g ≤ q2 by omega) (.int .i64 mc)).setCell (p := ⟨q2, 1, none⟩) (show g ≤ q2 by omega) (.slice av8 n8 kv8))
    obtain ⟨WA, hWA⟩ : ∃ W, ((w8.setCell ⟨q2, 0, none⟩ (.int .i64 mc)).setCell ⟨q2, 1, none⟩ (.slice av8 n8 kv8)) = W := ⟨_, rfl⟩
    rw [hWA] at TB Cb Mb R1 R2 OM OC bb ⊢
    clear hWA r1 f1
    refine hK.out _ _ ⟨⟨Cb.cell 0, Cb.cell 1, Cb.cell 2, Cb.cell 3, Cb.cell 4, Cb.cell 5, Cb.cell 6⟩, ⟨Mb.cell 0, Mb.cell 1⟩, TB.cell 4⟩ (fun _ => ?_)
    clear hK K
    try simp only [Act.put, List.setIfInBounds_toArray, List.set_cons_zero, List.set_cons_succ]
    have r2 := fun i => R2.cell i; have f2 := fun i => R2.froz i
    refine wpAnyH_ready (rs := [10]) (by kernel_rfl) (by simp) ?_
    refine AllReadyH.cons rfl (fun K hK => ?_) AllReadyH.nil
    go_simp
    replace TB := (((((((TB.other (show q6 ≠ q3 by omega) 0 (.int .i64 who)).other (show q6 ≠ q3 by omega) 1 (.int .i64 rv)).other (show q6 ≠ q3 by omega) 2 (.int .i64 zp)).other (show q6 ≠ q3 by omega) 3 (.int .i64 za)).other (show q6 ≠ q3 by omega) 4 (.int .i64 wv)).other (show q6 ≠ q3 by omega) 5 (.slice a2 n k2)).other (show q6 ≠ q3 by omega) 6 (.slice d2 m l2))
    replace Cb := (((((((Cb.other (show q1 ≠ q3 by omega) 0 (.int .i64 who)).other (show q1 ≠ q3 by omega) 1 (.int .i64 rv)).other (show q1 ≠ q3 by omega) 2 (.int .i64 zp)).other (show q1 ≠ q3 by omega) 3 (.int .i64 za)).other (show q1 ≠ q3 by omega) 4 (.int .i64 wv)).other (show q1 ≠ q3 by omega) 5 (.slice a2 n k2)).other (show q1 ≠ q3 by omega) 6 (.slice d2 m l2))
    replace Mb := (((((((Mb.other (show g ≠ q3 by omega) 0 (.int .i64 who)).other (show g ≠ q3 by omega) 1 (.int .i64 rv)).other (show g ≠ q3 by omega) 2 (.int .i64 zp)).other (show g ≠ q3 by omega) 3 (.int .i64 za)).other (show g ≠ q3 by omega) 4 (.int .i64 wv)).other (show g ≠ q3 by omega) 5 (.slice a2 n k2)).other (show g ≠ q3 by omega) 6 (.slice d2 m l2))
    replace R1 := (((((((R1.other (show q2 ≠ q3 by omega) 0 (.int .i64 who)).other (show q2 ≠ q3 by omega) 1 (.int .i64 rv)).other (show q2 ≠ q3 by omega) 2 (.int .i64 zp)).other (show q2 ≠ q3 by omega) 3 (.int .i64 za)).other (show q2 ≠ q3 by omega) 4 (.int .i64 wv)).other (show q2 ≠ q3 by omega) 5 (.slice a2 n k2)).other (show q2 ≠ q3 by omega) 6 (.slice d2 m l2))
    replace R2 := (((((((R2.set 0 (.int .i64 who)).set 1 (.int .i64 rv)).set 2 (.int .i64 zp)).set 3 (.int .i64 za)).set 4 (.int .i64 wv)).set 5 (.slice a2 n k2)).set 6 (.slice d2 m l2))
    replace OM := (Words.Owns.other (Words.Owns.other (Words.Owns.other (Words.Owns.other (Words.Owns.other (Words.Owns.other (Words.Owns.other OM (p := ⟨q3, 0, none⟩) oM3 (.int .i64 who)) (p := ⟨q3, 1, none⟩) oM3 (.int .i64 rv)) (p := ⟨q3, 2, none⟩) oM3 (.int .i64 zp)) (p := ⟨q3, 3, none⟩) oM3 (.int .i64 za)) (p := ⟨q3, 4, none⟩) oM3 (.int .i64 wv)) (p := ⟨q3, 5, none⟩) oM3 (.slice a2 n k2)) (p := ⟨q3, 6, none⟩) oM3 (.slice d2 m l2))
    replace OC := (ownC_other (i := 6) (u := .slice d2 m l2) (ownC_other (i := 5) (u := .slice a2 n k2) (ownC_other (i := 4) (u := .int .i64 wv) (ownC_other (i := 3) (u := .int .i64 za) (ownC_other (i := 2) (u := .int .i64 zp) (ownC_other (i := 1) (u := .int .i64 rv) (ownC_other (i := 0) (u := .int .i64 who) OC oC3) oC3) oC3) oC3) oC3) oC3) oC3)
    replace bb := (((((((bb.setCell (p := ⟨q3, 0, none⟩) (show g ≤ q3 by omega) (.int .i64 who)).setCell (p := ⟨q3, 1, none⟩) (show g ≤ q3 by omega) (.int .i64 rv)).setCell (p := ⟨q3, 2, none⟩) (show g ≤ q3 by omega) (.int .i64 zp)).setCell (p := ⟨q3, 3, none⟩) (show g ≤ q3 by omega) (.int .i64 za)).setCell (p := ⟨q3, 4, none⟩) (show g ≤ q3 by omega) (.int .i64 wv)).setCell (p := ⟨q3, 5, none⟩) (show g ≤ q3 by omega) (.slice a2 n k2)).setCell (p := ⟨q3, 6, none⟩) (show g ≤ q3 by omega) (.slice d2 m l2))
    obtain ⟨WB, hWB⟩ : ∃ W, (((((((WA.setCell ⟨q3, 0, none⟩ (.int .i64 who)).setCell ⟨q3, 1, none⟩ (.int .i64 rv)).setCell ⟨q3, 2, none⟩ (.int .i64 zp)).setCell ⟨q3, 3, none⟩ (.int .i64 za)).setCell ⟨q3, 4, none⟩ (.int .i64 wv)).setCell ⟨q3, 5, none⟩ (.slice a2 n k2)).setCell ⟨q3, 6, none⟩ (.slice d2 m l2)) = W := ⟨_, rfl⟩
    rw [hWB] at TB Cb Mb R1 R2 OM OC bb ⊢
    clear hWB r2 f2
    refine hK.out _ _ ⟨⟨Cb.cell 0, Cb.cell 1, Cb.cell 2, Cb.cell 3, Cb.cell 4, Cb.cell 5, Cb.cell 6⟩, ⟨Mb.cell 0, Mb.cell 1⟩, TB.cell 4⟩ (fun _ => ?_)
    clear hK K
    try simp only [Act.put, List.setIfInBounds_toArray, List.set_cons_zero, List.set_cons_succ]
    refine wpAnyH_done (by kernel_rfl) ?_ _
    have r1 := fun i => R1.cell i; have r2 := fun i => R2.cell i
    go_wp2
    refine bodyPost_ret (v := .tuple #[.agg #[.int .i64 mc, .slice av8 n8 kv8], .agg #[.int .i64 who, .int .i64 rv, .int .i64 zp, .int .i64 za, .int .i64 wv, .slice a2 n k2, .slice d2 m l2]]) (by simp [results, Tryd.results9, go_sem, r1, r2]) rfl ?_
    exact told_mk HZ3.out HN8.out HN.out HM2.out hg OM OC bb
  · go_wp2_with fail
    try rw [hw7]
    try rw [hq6]
    clear hw7 hq6 c2f
    obtain ⟨hk, cn, hcn, hcl⟩ := hrow (by decide)
    clear hrow hrd hphs
    have cCM : (w7.cell? ⟨q1, 0, none⟩ = some (.int .i64 who) ∧ w7.cell? ⟨q1, 1, none⟩ = some (.int .i64 rv) ∧ w7.cell? ⟨q1, 2, none⟩ = some (.int .i64 5) ∧ w7.cell? ⟨q1, 3, none⟩ = some (.int .i64 (k : Int)) ∧ w7.cell? ⟨q1, 4, none⟩ = some (.int .i64 wv) ∧ w7.cell? ⟨q1, 5, none⟩ = some (.slice a2 n k2) ∧ w7.cell? ⟨q1, 6, none⟩ = some (.slice d2 m l2)) ∧ (w7.cell? ⟨g, 0, none⟩ = some (.int .i64 mc) ∧ w7.cell? ⟨g, 1, none⟩ = some (.slice av2 nw kv2)) ∧ w7.cell? ⟨q6, 5, none⟩ = some (.func (.func 40) #[] #[]) := ⟨⟨Cb.cell 0, Cb.cell 1, Cb.cell 2, Cb.cell 3, Cb.cell 4, Cb.cell 5, Cb.cell 6⟩, ⟨Mb.cell 0, Mb.cell 1⟩, TB.cell 5⟩
    replace Mb := Mb.drew
    replace Cb := Cb.drew
    replace R1 := R1.drew
    replace R2 := R2.drew
    replace TB := TB.drew
    replace bb := bb.drew; replace OM := OM.drew; replace OC : OwnC _ _ _ _ _ _ := OC.on (drew_lowC w7) (Nat.le_refl _); replace hE : Err _ _ := hE.on (drew_lowC w7) (Nat.le_refl _)
    obtain ⟨WD, hWD⟩ : ∃ WD, w7.drew = WD := ⟨_, rfl⟩
    refine wp_region_held_drew (S := fun W => (W.cell? ⟨q1, 0, none⟩ = some (.int .i64 who) ∧ W.cell? ⟨q1, 1, none⟩ = some (.int .i64 rv) ∧ W.cell? ⟨q1, 2, none⟩ = some (.int .i64 5) ∧ W.cell? ⟨q1, 3, none⟩ = some (.int .i64 (k : Int)) ∧ W.cell? ⟨q1, 4, none⟩ = some (.int .i64 wv) ∧ W.cell? ⟨q1, 5, none⟩ = some (.slice a2 n k2) ∧ W.cell? ⟨q1, 6, none⟩ = some (.slice d2 m l2)) ∧ (W.cell? ⟨g, 0, none⟩ = some (.int .i64 mc) ∧ W.cell? ⟨g, 1, none⟩ = some (.slice av2 nw kv2)) ∧ W.cell? ⟨q6, 5, none⟩ = some (.func (.func 40) #[] #[])) (by kernel_rfl) cCM (fun hHeld => ?_)
    rw [hWD] at Cb Mb R1 R2 TB bb OM OC hE hHeld ⊢
    clear hWD cCM
    refine takeH (i := 0) (some 22) (.pointer (some ⟨q1, 2, none⟩)) rfl rfl (by kernel_rfl) (by kernel_rfl) (by kernel_rfl) (fun _ _ _ h => h) (Or.inl ⟨by rfl, fun w hSw => by (try dsimp only at hSw); go_simp⟩) (by assumption) ?_
    try simp only [Act.put, List.setIfInBounds_toArray, List.set_cons_zero, List.set_cons_succ]
    refine takeH (i := 1) (some 23) (.int .i64 5) rfl rfl (by kernel_rfl) (by kernel_rfl) (by kernel_rfl) (fun _ _ _ h => h) (Or.inl ⟨by rfl, fun w hSw => by (try dsimp only at hSw); go_simp⟩) (by assumption) ?_
    try simp only [Act.put, List.setIfInBounds_toArray, List.set_cons_zero, List.set_cons_succ]
    refine takeH (i := 2) (some 24) (.pointer (some ⟨q6, 5, none⟩)) rfl rfl (by kernel_rfl) (by kernel_rfl) (by kernel_rfl) (fun _ _ _ h => h) (Or.inl ⟨by rfl, fun w hSw => by (try dsimp only at hSw); go_simp⟩) (by assumption) ?_
    try simp only [Act.put, List.setIfInBounds_toArray, List.set_cons_zero, List.set_cons_succ]
    refine takeH (i := 3) (some 25) (.func (.func 40) #[] #[]) rfl rfl (by kernel_rfl) (by kernel_rfl) (by kernel_rfl) (fun _ _ _ h => h) (Or.inl ⟨by rfl, fun w hSw => by (try dsimp only at hSw); go_simp⟩) (by assumption) ?_
    try simp only [Act.put, List.setIfInBounds_toArray, List.set_cons_zero, List.set_cons_succ]
    refine takeH (i := 4) (some 26) (.agg #[.int .i64 who, .int .i64 rv, .int .i64 5, .int .i64 (k : Int), .int .i64 wv, .slice a2 n k2, .slice d2 m l2]) rfl rfl (by kernel_rfl) (by kernel_rfl) (by kernel_rfl) (fun _ _ _ h => h) (Or.inl ⟨by rfl, fun w hSw => by (try dsimp only at hSw); go_simp⟩) (by assumption) ?_
    try simp only [Act.put, List.setIfInBounds_toArray, List.set_cons_zero, List.set_cons_succ]
    refine takeH (i := 5) (some 27) (.agg #[.int .i64 mc, .slice av2 nw kv2]) rfl rfl (by kernel_rfl) (by kernel_rfl) (by kernel_rfl) (fun _ _ _ h => h) (Or.inl ⟨by rfl, fun w hSw => by (try dsimp only at hSw); go_simp⟩) (by assumption) ?_
    try simp only [Act.put, List.setIfInBounds_toArray, List.set_cons_zero, List.set_cons_succ]
    refine wpAnyH_ready (rs := [6]) (by kernel_rfl) (by simp) ?_
    refine AllReadyH.cons rfl (fun K hK => ?_) AllReadyH.nil
    go_simp
    have hMs : Words.Sees WD.heap.size WD (.slice av2 ws.length kv2) ws := by rw [HW.out]; exact OM.sees
    have hCs : SeeC WD.heap.size WD (.slice a2 ps.length k2) (.slice d2 rs.length l2) ps rs := by rw [HN.out, HM2.out]; exact OC.sees
    have hcall := freeI who rv 5 wv k _ _ ps _ rs _ mc ws _ _ _ WD bE hMs hCs hE (Nat.le_refl _) (by omega) hb1 hb2 hk
    rw [HN.out, HM2.out, HW.out] at hcall
    clear hMs hCs
    refine hcall.mono ?_
    clear hcall
    rintro e w8 ⟨v8, rfl, OM8, b8⟩
    have hz : Z = ⟨mc, unlockTo mc ws (ps.getD k z2).c who wv, onPh 5 k ps.length rs.length 6, onAt 5 k ps.length rs.length, wv⟩ := by rw [← HZ.out, stepO_yes HMO.out HCO.out]; rfl
    rw [HN.out, HM2.out] at hz
    obtain ⟨zl, hzl⟩ : ∃ x : List W3, (unlockTo mc ws (ps.getD k z2).c who wv) = x := ⟨_, rfl⟩
    obtain ⟨zp, hzp⟩ : ∃ x : Int, (onPh 5 k n m 6) = x := ⟨_, rfl⟩
    obtain ⟨za, hza⟩ : ∃ x : Int, (onAt 5 k n m) = x := ⟨_, rfl⟩
    rw [hzl, hzp, hza] at hz
    rw [hzl] at OM8
    rw [hzp, hza]
    clear hzl hzp hza
    have HZ3 := (show Hid _ from hz)
    clear hz
    obtain ⟨av8, kv8, rfl⟩ := OM8.form
    obtain ⟨n8, hn8⟩ : ∃ n, zl.length = n := ⟨_, rfl⟩
    rw [hn8] at OM8 ⊢
    have HN8 := (show Hid (zl.length = n8) from hn8)
    have oM8 : ∀ k, (Value.slice av8 n8 kv8).ownBlock = some k → q3 < k := fun k hk => by have := (OM8.at k hk).1; have := R2.lt; omega
    replace OM8 := OM8.mono (show g ≤ WD.heap.size by have := bb.size; omega)
    clear OM oM hn8
    replace Mb := Mb.on b8 Mb.lt
    replace Cb := Cb.on b8 Cb.lt
    replace R1 := R1.on b8 R1.lt
    replace R2 := R2.on b8 R2.lt
    replace TB := TB.on b8 TB.lt
    replace OC := OC.on b8 (Nat.le_refl _)
    replace bb := bb.trans (b8.mono (by have := bb.size; omega))
    have OM := OM8; have oM := oM8
    clear OM8 oM8 b8
    go_simp
    refine hK.out _ _ ⟨⟨Cb.cell 0, Cb.cell 1, Cb.cell 2, Cb.cell 3, Cb.cell 4, Cb.cell 5, Cb.cell 6⟩, ⟨Mb.cell 0, Mb.cell 1⟩, TB.cell 5⟩ (fun _ => ?_)
    clear hK K
    try simp only [Act.put, List.setIfInBounds_toArray, List.set_cons_zero, List.set_cons_succ]
    refine takeH (i := 7) (some 29) (.agg #[.int .i64 mc, .slice av8 n8 kv8]) rfl rfl (by kernel_rfl) (by kernel_rfl) (by kernel_rfl) (fun _ _ _ h => h) (Or.inl ⟨by rfl, fun w hSw => by (try dsimp only at hSw); go_simp⟩) (by assumption) ?_
    try simp only [Act.put, List.setIfInBounds_toArray, List.set_cons_zero, List.set_cons_succ]
    refine takeH (i := 8) (some 30) (.agg #[.int .i64 who, .int .i64 rv, .int .i64 zp, .int .i64 za, .int .i64 wv, .slice a2 n k2, .slice d2 m l2]) rfl rfl (by kernel_rfl) (by kernel_rfl) (by kernel_rfl) (fun _ _ _ h => h) (Or.inl ⟨by rfl, fun w hSw => by (try dsimp only at hSw); go_simp⟩) (by assumption) ?_
    try simp only [Act.put, List.setIfInBounds_toArray, List.set_cons_zero, List.set_cons_succ]
    have q6lt : q3 < q6 := hq36
    have oM2 : ∀ k, (Value.slice av8 n8 kv8).ownBlock = some k → k ≠ q2 := fun k hk => by have := oM k hk; omega
    have oM3 : ∀ k, (Value.slice av8 n8 kv8).ownBlock = some k → k ≠ q3 := fun k hk => by have := oM k hk; omega
    have oC2 : ∀ k, Two (.slice a2 n k2) (.slice d2 m l2) k → k ≠ q2 := fun k hk => by have := oC k hk; omega
    have oC3 : ∀ k, Two (.slice a2 n k2) (.slice d2 m l2) k → k ≠ q3 := fun k hk => by have := oC k hk; omega
    have r1 := fun i => R1.cell i; have f1 := fun i => R1.froz i
    refine wpAnyH_ready (rs := [9]) (by kernel_rfl) (by simp) ?_
    refine AllReadyH.cons rfl (fun K hK => ?_) AllReadyH.nil
    go_simp
    replace TB := ((TB.other (show q6 ≠ q2 by omega) 0 (.int .i64 mc)).other (show q6 ≠ q2 by omega) 1 (.slice av8 n8 kv8))
    replace Cb := ((Cb.other (show q1 ≠ q2 by omega) 0 (.int .i64 mc)).other (show q1 ≠ q2 by omega) 1 (.slice av8 n8 kv8))
    replace Mb := ((Mb.other (show g ≠ q2 by omega) 0 (.int .i64 mc)).other (show g ≠ q2 by omega) 1 (.slice av8 n8 kv8))
    replace R2 := ((R2.other (show q3 ≠ q2 by omega) 0 (.int .i64 mc)).other (show q3 ≠ q2 by omega) 1 (.slice av8 n8 kv8))
    replace R1 := ((R1.set 0 (.int .i64 mc)).set 1 (.slice av8 n8 kv8))
    replace OM := (Words.Owns.other (Words.Owns.other OM (p := ⟨q2, 0, none⟩) oM2 (.int .i64 mc)) (p := ⟨q2, 1, none⟩) oM2 (.slice av8 n8 kv8))
    replace OC := (ownC_other (i := 1) (u := .slice av8 n8 kv8) (ownC_other (i := 0) (u := .int .i64 mc) OC oC2) oC2)
    replace bb := ((bb.setCell (p := ⟨q2, 0, none⟩) (show g ≤ q2 by omega) (.int .i64 mc)).setCell (p := ⟨q2, 1, none⟩) (show g ≤ q2 by omega) (.slice av8 n8 kv8))
    obtain ⟨WA, hWA⟩ : ∃ W, ((w8.setCell ⟨q2, 0, none⟩ (.int .i64 mc)).setCell ⟨q2, 1, none⟩ (.slice av8 n8 kv8)) = W := ⟨_, rfl⟩
    rw [hWA] at TB Cb Mb R1 R2 OM OC bb ⊢
    clear hWA r1 f1
    refine hK.out _ _ ⟨⟨Cb.cell 0, Cb.cell 1, Cb.cell 2, Cb.cell 3, Cb.cell 4, Cb.cell 5, Cb.cell 6⟩, ⟨Mb.cell 0, Mb.cell 1⟩, TB.cell 5⟩ (fun _ => ?_)
    clear hK K
    try simp only [Act.put, List.setIfInBounds_toArray, List.set_cons_zero, List.set_cons_succ]
    have r2 := fun i => R2.cell i; have f2 := fun i => R2.froz i
    refine wpAnyH_ready (rs := [10]) (by kernel_rfl) (by simp) ?_
    refine AllReadyH.cons rfl (fun K hK => ?_) AllReadyH.nil
    go_simp
    replace TB := (((((((TB.other (show q6 ≠ q3 by omega) 0 (.int .i64 who)).other (show q6 ≠ q3 by omega) 1 (.int .i64 rv)).other (show q6 ≠ q3 by omega) 2 (.int .i64 zp)).other (show q6 ≠ q3 by omega) 3 (.int .i64 za)).other (show q6 ≠ q3 by omega) 4 (.int .i64 wv)).other (show q6 ≠ q3 by omega) 5 (.slice a2 n k2)).other (show q6 ≠ q3 by omega) 6 (.slice d2 m l2))
    replace Cb := (((((((Cb.other (show q1 ≠ q3 by omega) 0 (.int .i64 who)).other (show q1 ≠ q3 by omega) 1 (.int .i64 rv)).other (show q1 ≠ q3 by omega) 2 (.int .i64 zp)).other (show q1 ≠ q3 by omega) 3 (.int .i64 za)).other (show q1 ≠ q3 by omega) 4 (.int .i64 wv)).other (show q1 ≠ q3 by omega) 5 (.slice a2 n k2)).other (show q1 ≠ q3 by omega) 6 (.slice d2 m l2))
    replace Mb := (((((((Mb.other (show g ≠ q3 by omega) 0 (.int .i64 who)).other (show g ≠ q3 by omega) 1 (.int .i64 rv)).other (show g ≠ q3 by omega) 2 (.int .i64 zp)).other (show g ≠ q3 by omega) 3 (.int .i64 za)).other (show g ≠ q3 by omega) 4 (.int .i64 wv)).other (show g ≠ q3 by omega) 5 (.slice a2 n k2)).other (show g ≠ q3 by omega) 6 (.slice d2 m l2))
    replace R1 := (((((((R1.other (show q2 ≠ q3 by omega) 0 (.int .i64 who)).other (show q2 ≠ q3 by omega) 1 (.int .i64 rv)).other (show q2 ≠ q3 by omega) 2 (.int .i64 zp)).other (show q2 ≠ q3 by omega) 3 (.int .i64 za)).other (show q2 ≠ q3 by omega) 4 (.int .i64 wv)).other (show q2 ≠ q3 by omega) 5 (.slice a2 n k2)).other (show q2 ≠ q3 by omega) 6 (.slice d2 m l2))
    replace R2 := (((((((R2.set 0 (.int .i64 who)).set 1 (.int .i64 rv)).set 2 (.int .i64 zp)).set 3 (.int .i64 za)).set 4 (.int .i64 wv)).set 5 (.slice a2 n k2)).set 6 (.slice d2 m l2))
    replace OM := (Words.Owns.other (Words.Owns.other (Words.Owns.other (Words.Owns.other (Words.Owns.other (Words.Owns.other (Words.Owns.other OM (p := ⟨q3, 0, none⟩) oM3 (.int .i64 who)) (p := ⟨q3, 1, none⟩) oM3 (.int .i64 rv)) (p := ⟨q3, 2, none⟩) oM3 (.int .i64 zp)) (p := ⟨q3, 3, none⟩) oM3 (.int .i64 za)) (p := ⟨q3, 4, none⟩) oM3 (.int .i64 wv)) (p := ⟨q3, 5, none⟩) oM3 (.slice a2 n k2)) (p := ⟨q3, 6, none⟩) oM3 (.slice d2 m l2))
    replace OC := (ownC_other (i := 6) (u := .slice d2 m l2) (ownC_other (i := 5) (u := .slice a2 n k2) (ownC_other (i := 4) (u := .int .i64 wv) (ownC_other (i := 3) (u := .int .i64 za) (ownC_other (i := 2) (u := .int .i64 zp) (ownC_other (i := 1) (u := .int .i64 rv) (ownC_other (i := 0) (u := .int .i64 who) OC oC3) oC3) oC3) oC3) oC3) oC3) oC3)
    replace bb := (((((((bb.setCell (p := ⟨q3, 0, none⟩) (show g ≤ q3 by omega) (.int .i64 who)).setCell (p := ⟨q3, 1, none⟩) (show g ≤ q3 by omega) (.int .i64 rv)).setCell (p := ⟨q3, 2, none⟩) (show g ≤ q3 by omega) (.int .i64 zp)).setCell (p := ⟨q3, 3, none⟩) (show g ≤ q3 by omega) (.int .i64 za)).setCell (p := ⟨q3, 4, none⟩) (show g ≤ q3 by omega) (.int .i64 wv)).setCell (p := ⟨q3, 5, none⟩) (show g ≤ q3 by omega) (.slice a2 n k2)).setCell (p := ⟨q3, 6, none⟩) (show g ≤ q3 by omega) (.slice d2 m l2))
    obtain ⟨WB, hWB⟩ : ∃ W, (((((((WA.setCell ⟨q3, 0, none⟩ (.int .i64 who)).setCell ⟨q3, 1, none⟩ (.int .i64 rv)).setCell ⟨q3, 2, none⟩ (.int .i64 zp)).setCell ⟨q3, 3, none⟩ (.int .i64 za)).setCell ⟨q3, 4, none⟩ (.int .i64 wv)).setCell ⟨q3, 5, none⟩ (.slice a2 n k2)).setCell ⟨q3, 6, none⟩ (.slice d2 m l2)) = W := ⟨_, rfl⟩
    rw [hWB] at TB Cb Mb R1 R2 OM OC bb ⊢
    clear hWB r2 f2
    refine hK.out _ _ ⟨⟨Cb.cell 0, Cb.cell 1, Cb.cell 2, Cb.cell 3, Cb.cell 4, Cb.cell 5, Cb.cell 6⟩, ⟨Mb.cell 0, Mb.cell 1⟩, TB.cell 5⟩ (fun _ => ?_)
    clear hK K
    try simp only [Act.put, List.setIfInBounds_toArray, List.set_cons_zero, List.set_cons_succ]
    refine wpAnyH_done (by kernel_rfl) ?_ _
    have r1 := fun i => R1.cell i; have r2 := fun i => R2.cell i
    go_wp2
    refine bodyPost_ret (v := .tuple #[.agg #[.int .i64 mc, .slice av8 n8 kv8], .agg #[.int .i64 who, .int .i64 rv, .int .i64 zp, .int .i64 za, .int .i64 wv, .slice a2 n k2, .slice d2 m l2]]) (by simp [results, Tryd.results9, go_sem, r1, r2]) rfl ?_
    exact told_mk HZ3.out HN8.out HN.out HM2.out hg OM OC bb
  · go_wp2_with fail
    try rw [hw7]
    try rw [hq6]
    clear hw7 hq6 c2f
    clear hrow hrd hphs
    have cCM : (w7.cell? ⟨q1, 0, none⟩ = some (.int .i64 who) ∧ w7.cell? ⟨q1, 1, none⟩ = some (.int .i64 rv) ∧ w7.cell? ⟨q1, 2, none⟩ = some (.int .i64 6) ∧ w7.cell? ⟨q1, 3, none⟩ = some (.int .i64 (k : Int)) ∧ w7.cell? ⟨q1, 4, none⟩ = some (.int .i64 wv) ∧ w7.cell? ⟨q1, 5, none⟩ = some (.slice a2 n k2) ∧ w7.cell? ⟨q1, 6, none⟩ = some (.slice d2 m l2)) ∧ (w7.cell? ⟨g, 0, none⟩ = some (.int .i64 mc) ∧ w7.cell? ⟨g, 1, none⟩ = some (.slice av2 nw kv2)) ∧ w7.cell? ⟨q6, 6, none⟩ = some (.func (.func 41) #[] #[]) := ⟨⟨Cb.cell 0, Cb.cell 1, Cb.cell 2, Cb.cell 3, Cb.cell 4, Cb.cell 5, Cb.cell 6⟩, ⟨Mb.cell 0, Mb.cell 1⟩, TB.cell 6⟩
    replace Mb := Mb.drew
    replace Cb := Cb.drew
    replace R1 := R1.drew
    replace R2 := R2.drew
    replace TB := TB.drew
    replace bb := bb.drew; replace OM := OM.drew; replace OC : OwnC _ _ _ _ _ _ := OC.on (drew_lowC w7) (Nat.le_refl _); replace hE : Err _ _ := hE.on (drew_lowC w7) (Nat.le_refl _)
    obtain ⟨WD, hWD⟩ : ∃ WD, w7.drew = WD := ⟨_, rfl⟩
    refine wp_region_held_drew (S := fun W => (W.cell? ⟨q1, 0, none⟩ = some (.int .i64 who) ∧ W.cell? ⟨q1, 1, none⟩ = some (.int .i64 rv) ∧ W.cell? ⟨q1, 2, none⟩ = some (.int .i64 6) ∧ W.cell? ⟨q1, 3, none⟩ = some (.int .i64 (k : Int)) ∧ W.cell? ⟨q1, 4, none⟩ = some (.int .i64 wv) ∧ W.cell? ⟨q1, 5, none⟩ = some (.slice a2 n k2) ∧ W.cell? ⟨q1, 6, none⟩ = some (.slice d2 m l2)) ∧ (W.cell? ⟨g, 0, none⟩ = some (.int .i64 mc) ∧ W.cell? ⟨g, 1, none⟩ = some (.slice av2 nw kv2)) ∧ W.cell? ⟨q6, 6, none⟩ = some (.func (.func 41) #[] #[])) (by kernel_rfl) cCM (fun hHeld => ?_)
    rw [hWD] at Cb Mb R1 R2 TB bb OM OC hE hHeld ⊢
    clear hWD cCM
    refine takeH (i := 0) (some 22) (.pointer (some ⟨q1, 2, none⟩)) rfl rfl (by kernel_rfl) (by kernel_rfl) (by kernel_rfl) (fun _ _ _ h => h) (Or.inl ⟨by rfl, fun w hSw => by (try dsimp only at hSw); go_simp⟩) (by assumption) ?_
    try simp only [Act.put, List.setIfInBounds_toArray, List.set_cons_zero, List.set_cons_succ]
    refine takeH (i := 1) (some 23) (.int .i64 6) rfl rfl (by kernel_rfl) (by kernel_rfl) (by kernel_rfl) (fun _ _ _ h => h) (Or.inl ⟨by rfl, fun w hSw => by (try dsimp only at hSw); go_simp⟩) (by assumption) ?_
    try simp only [Act.put, List.setIfInBounds_toArray, List.set_cons_zero, List.set_cons_succ]
    refine takeH (i := 2) (some 24) (.pointer (some ⟨q6, 6, none⟩)) rfl rfl (by kernel_rfl) (by kernel_rfl) (by kernel_rfl) (fun _ _ _ h => h) (Or.inl ⟨by rfl, fun w hSw => by (try dsimp only at hSw); go_simp⟩) (by assumption) ?_
    try simp only [Act.put, List.setIfInBounds_toArray, List.set_cons_zero, List.set_cons_succ]
    refine takeH (i := 3) (some 25) (.func (.func 41) #[] #[]) rfl rfl (by kernel_rfl) (by kernel_rfl) (by kernel_rfl) (fun _ _ _ h => h) (Or.inl ⟨by rfl, fun w hSw => by (try dsimp only at hSw); go_simp⟩) (by assumption) ?_
    try simp only [Act.put, List.setIfInBounds_toArray, List.set_cons_zero, List.set_cons_succ]
    refine takeH (i := 4) (some 26) (.agg #[.int .i64 who, .int .i64 rv, .int .i64 6, .int .i64 (k : Int), .int .i64 wv, .slice a2 n k2, .slice d2 m l2]) rfl rfl (by kernel_rfl) (by kernel_rfl) (by kernel_rfl) (fun _ _ _ h => h) (Or.inl ⟨by rfl, fun w hSw => by (try dsimp only at hSw); go_simp⟩) (by assumption) ?_
    try simp only [Act.put, List.setIfInBounds_toArray, List.set_cons_zero, List.set_cons_succ]
    refine takeH (i := 5) (some 27) (.agg #[.int .i64 mc, .slice av2 nw kv2]) rfl rfl (by kernel_rfl) (by kernel_rfl) (by kernel_rfl) (fun _ _ _ h => h) (Or.inl ⟨by rfl, fun w hSw => by (try dsimp only at hSw); go_simp⟩) (by assumption) ?_
    try simp only [Act.put, List.setIfInBounds_toArray, List.set_cons_zero, List.set_cons_succ]
    refine wpAnyH_ready (rs := [6]) (by kernel_rfl) (by simp) ?_
    refine AllReadyH.cons rfl (fun K hK => ?_) AllReadyH.nil
    go_simp
    have hMs : Words.Sees WD.heap.size WD (.slice av2 ws.length kv2) ws := by rw [HW.out]; exact OM.sees
    have hCs : SeeC WD.heap.size WD (.slice a2 ps.length k2) (.slice d2 rs.length l2) ps rs := by rw [HN.out, HM2.out]; exact OC.sees
    have hcall := restI who rv 6 wv k _ _ ps _ rs _ mc ws _ _ _ WD bE hMs hCs hE (Nat.le_refl _) (by omega) hb1 hb2
    rw [HN.out, HM2.out, HW.out] at hcall
    clear hMs hCs
    refine hcall.mono ?_
    clear hcall
    rintro e w8 ⟨rfl, b8⟩
    have hz : Z = ⟨mc, ws, 6, (k : Int), wv⟩ := by rw [← HZ.out, stepO_yes HMO.out HCO.out]; rfl
    have HZ3 := (show Hid _ from hz)
    clear hz
    replace Mb := Mb.on b8 Mb.lt
    replace Cb := Cb.on b8 Cb.lt
    replace R1 := R1.on b8 R1.lt
    replace R2 := R2.on b8 R2.lt
    replace TB := TB.on b8 TB.lt
    replace OM := OM.on b8 (Nat.le_refl _); replace OC := OC.on b8 (Nat.le_refl _)
    replace bb := bb.trans (b8.mono (by have := bb.size; omega))
    clear b8
    go_simp
    refine hK.out _ _ ⟨⟨Cb.cell 0, Cb.cell 1, Cb.cell 2, Cb.cell 3, Cb.cell 4, Cb.cell 5, Cb.cell 6⟩, ⟨Mb.cell 0, Mb.cell 1⟩, TB.cell 6⟩ (fun _ => ?_)
    clear hK K
    try simp only [Act.put, List.setIfInBounds_toArray, List.set_cons_zero, List.set_cons_succ]
    refine takeH (i := 7) (some 29) (.agg #[.int .i64 mc, .slice av2 nw kv2]) rfl rfl (by kernel_rfl) (by kernel_rfl) (by kernel_rfl) (fun _ _ _ h => h) (Or.inl ⟨by rfl, fun w hSw => by (try dsimp only at hSw); go_simp⟩) (by assumption) ?_
    try simp only [Act.put, List.setIfInBounds_toArray, List.set_cons_zero, List.set_cons_succ]
    refine takeH (i := 8) (some 30) (.agg #[.int .i64 who, .int .i64 rv, .int .i64 6, .int .i64 (k : Int), .int .i64 wv, .slice a2 n k2, .slice d2 m l2]) rfl rfl (by kernel_rfl) (by kernel_rfl) (by kernel_rfl) (fun _ _ _ h => h) (Or.inl ⟨by rfl, fun w hSw => by (try dsimp only at hSw); go_simp⟩) (by assumption) ?_
    try simp only [Act.put, List.setIfInBounds_toArray, List.set_cons_zero, List.set_cons_succ]
    have q6lt : q3 < q6 := hq36
    have oM2 : ∀ k, (Value.slice av2 nw kv2).ownBlock = some k → k ≠ q2 := fun k hk => by have := oM k hk; omega
    have oM3 : ∀ k, (Value.slice av2 nw kv2).ownBlock = some k → k ≠ q3 := fun k hk => by have := oM k hk; omega
    have oC2 : ∀ k, Two (.slice a2 n k2) (.slice d2 m l2) k → k ≠ q2 := fun k hk => by have := oC k hk; omega
    have oC3 : ∀ k, Two (.slice a2 n k2) (.slice d2 m l2) k → k ≠ q3 := fun k hk => by have := oC k hk; omega
    have r1 := fun i => R1.cell i; have f1 := fun i => R1.froz i
    refine wpAnyH_ready (rs := [9]) (by kernel_rfl) (by simp) ?_
    refine AllReadyH.cons rfl (fun K hK => ?_) AllReadyH.nil
    go_simp
    replace TB := ((TB.other (show q6 ≠ q2 by omega) 0 (.int .i64 mc)).other (show q6 ≠ q2 by omega) 1 (.slice av2 nw kv2))
    replace Cb := ((Cb.other (show q1 ≠ q2 by omega) 0 (.int .i64 mc)).other (show q1 ≠ q2 by omega) 1 (.slice av2 nw kv2))
    replace Mb := ((Mb.other (show g ≠ q2 by omega) 0 (.int .i64 mc)).other (show g ≠ q2 by omega) 1 (.slice av2 nw kv2))
    replace R2 := ((R2.other (show q3 ≠ q2 by omega) 0 (.int .i64 mc)).other (show q3 ≠ q2 by omega) 1 (.slice av2 nw kv2))
    replace R1 := ((R1.set 0 (.int .i64 mc)).set 1 (.slice av2 nw kv2))
    replace OM := (Words.Owns.other (Words.Owns.other OM (p := ⟨q2, 0, none⟩) oM2 (.int .i64 mc)) (p := ⟨q2, 1, none⟩) oM2 (.slice av2 nw kv2))
    replace OC := (ownC_other (i := 1) (u := .slice av2 nw kv2) (ownC_other (i := 0) (u := .int .i64 mc) OC oC2) oC2)
    replace bb := ((bb.setCell (p := ⟨q2, 0, none⟩) (show g ≤ q2 by omega) (.int .i64 mc)).setCell (p := ⟨q2, 1, none⟩) (show g ≤ q2 by omega) (.slice av2 nw kv2))
    obtain ⟨WA, hWA⟩ : ∃ W, ((w8.setCell ⟨q2, 0, none⟩ (.int .i64 mc)).setCell ⟨q2, 1, none⟩ (.slice av2 nw kv2)) = W := ⟨_, rfl⟩
    rw [hWA] at TB Cb Mb R1 R2 OM OC bb ⊢
    clear hWA r1 f1
    refine hK.out _ _ ⟨⟨Cb.cell 0, Cb.cell 1, Cb.cell 2, Cb.cell 3, Cb.cell 4, Cb.cell 5, Cb.cell 6⟩, ⟨Mb.cell 0, Mb.cell 1⟩, TB.cell 6⟩ (fun _ => ?_)
    clear hK K
    try simp only [Act.put, List.setIfInBounds_toArray, List.set_cons_zero, List.set_cons_succ]
    have r2 := fun i => R2.cell i; have f2 := fun i => R2.froz i
    refine wpAnyH_ready (rs := [10]) (by kernel_rfl) (by simp) ?_
    refine AllReadyH.cons rfl (fun K hK => ?_) AllReadyH.nil
    go_simp
    replace TB := (((((((TB.other (show q6 ≠ q3 by omega) 0 (.int .i64 who)).other (show q6 ≠ q3 by omega) 1 (.int .i64 rv)).other (show q6 ≠ q3 by omega) 2 (.int .i64 6)).other (show q6 ≠ q3 by omega) 3 (.int .i64 (k : Int))).other (show q6 ≠ q3 by omega) 4 (.int .i64 wv)).other (show q6 ≠ q3 by omega) 5 (.slice a2 n k2)).other (show q6 ≠ q3 by omega) 6 (.slice d2 m l2))
    replace Cb := (((((((Cb.other (show q1 ≠ q3 by omega) 0 (.int .i64 who)).other (show q1 ≠ q3 by omega) 1 (.int .i64 rv)).other (show q1 ≠ q3 by omega) 2 (.int .i64 6)).other (show q1 ≠ q3 by omega) 3 (.int .i64 (k : Int))).other (show q1 ≠ q3 by omega) 4 (.int .i64 wv)).other (show q1 ≠ q3 by omega) 5 (.slice a2 n k2)).other (show q1 ≠ q3 by omega) 6 (.slice d2 m l2))
    replace Mb := (((((((Mb.other (show g ≠ q3 by omega) 0 (.int .i64 who)).other (show g ≠ q3 by omega) 1 (.int .i64 rv)).other (show g ≠ q3 by omega) 2 (.int .i64 6)).other (show g ≠ q3 by omega) 3 (.int .i64 (k : Int))).other (show g ≠ q3 by omega) 4 (.int .i64 wv)).other (show g ≠ q3 by omega) 5 (.slice a2 n k2)).other (show g ≠ q3 by omega) 6 (.slice d2 m l2))
    replace R1 := (((((((R1.other (show q2 ≠ q3 by omega) 0 (.int .i64 who)).other (show q2 ≠ q3 by omega) 1 (.int .i64 rv)).other (show q2 ≠ q3 by omega) 2 (.int .i64 6)).other (show q2 ≠ q3 by omega) 3 (.int .i64 (k : Int))).other (show q2 ≠ q3 by omega) 4 (.int .i64 wv)).other (show q2 ≠ q3 by omega) 5 (.slice a2 n k2)).other (show q2 ≠ q3 by omega) 6 (.slice d2 m l2))
    replace R2 := (((((((R2.set 0 (.int .i64 who)).set 1 (.int .i64 rv)).set 2 (.int .i64 6)).set 3 (.int .i64 (k : Int))).set 4 (.int .i64 wv)).set 5 (.slice a2 n k2)).set 6 (.slice d2 m l2))
    replace OM := (Words.Owns.other (Words.Owns.other (Words.Owns.other (Words.Owns.other (Words.Owns.other (Words.Owns.other (Words.Owns.other OM (p := ⟨q3, 0, none⟩) oM3 (.int .i64 who)) (p := ⟨q3, 1, none⟩) oM3 (.int .i64 rv)) (p := ⟨q3, 2, none⟩) oM3 (.int .i64 6)) (p := ⟨q3, 3, none⟩) oM3 (.int .i64 (k : Int))) (p := ⟨q3, 4, none⟩) oM3 (.int .i64 wv)) (p := ⟨q3, 5, none⟩) oM3 (.slice a2 n k2)) (p := ⟨q3, 6, none⟩) oM3 (.slice d2 m l2))
    replace OC := (ownC_other (i := 6) (u := .slice d2 m l2) (ownC_other (i := 5) (u := .slice a2 n k2) (ownC_other (i := 4) (u := .int .i64 wv) (ownC_other (i := 3) (u := .int .i64 (k : Int)) (ownC_other (i := 2) (u := .int .i64 6) (ownC_other (i := 1) (u := .int .i64 rv) (ownC_other (i := 0) (u := .int .i64 who) OC oC3) oC3) oC3) oC3) oC3) oC3) oC3)
    replace bb := (((((((bb.setCell (p := ⟨q3, 0, none⟩) (show g ≤ q3 by omega) (.int .i64 who)).setCell (p := ⟨q3, 1, none⟩) (show g ≤ q3 by omega) (.int .i64 rv)).setCell (p := ⟨q3, 2, none⟩) (show g ≤ q3 by omega) (.int .i64 6)).setCell (p := ⟨q3, 3, none⟩) (show g ≤ q3 by omega) (.int .i64 (k : Int))).setCell (p := ⟨q3, 4, none⟩) (show g ≤ q3 by omega) (.int .i64 wv)).setCell (p := ⟨q3, 5, none⟩) (show g ≤ q3 by omega) (.slice a2 n k2)).setCell (p := ⟨q3, 6, none⟩) (show g ≤ q3 by omega) (.slice d2 m l2))
    obtain ⟨WB, hWB⟩ : ∃ W, (((((((WA.setCell ⟨q3, 0, none⟩ (.int .i64 who)).setCell ⟨q3, 1, none⟩ (.int .i64 rv)).setCell ⟨q3, 2, none⟩ (.int .i64 6)).setCell ⟨q3, 3, none⟩ (.int .i64 (k : Int))).setCell ⟨q3, 4, none⟩ (.int .i64 wv)).setCell ⟨q3, 5, none⟩ (.slice a2 n k2)).setCell ⟨q3, 6, none⟩ (.slice d2 m l2)) = W := ⟨_, rfl⟩
    rw [hWB] at TB Cb Mb R1 R2 OM OC bb ⊢
    clear hWB r2 f2
    refine hK.out _ _ ⟨⟨Cb.cell 0, Cb.cell 1, Cb.cell 2, Cb.cell 3, Cb.cell 4, Cb.cell 5, Cb.cell 6⟩, ⟨Mb.cell 0, Mb.cell 1⟩, TB.cell 6⟩ (fun _ => ?_)
    clear hK K
    try simp only [Act.put, List.setIfInBounds_toArray, List.set_cons_zero, List.set_cons_succ]
    refine wpAnyH_done (by kernel_rfl) ?_ _
    have r1 := fun i => R1.cell i; have r2 := fun i => R2.cell i
    go_wp2
    refine bodyPost_ret (v := .tuple #[.agg #[.int .i64 mc, .slice av2 nw kv2], .agg #[.int .i64 who, .int .i64 rv, .int .i64 6, .int .i64 (k : Int), .int .i64 wv, .slice a2 n k2, .slice d2 m l2]]) (by simp [results, Tryd.results9, go_sem, r1, r2]) rfl ?_
    exact told_mk HZ3.out HW.out HN.out HM2.out hg OM OC bb
  · go_wp2_with fail
    try rw [hw7]
    try rw [hq6]
    clear hw7 hq6 c2f
    obtain ⟨hk, cn, hcn, hcl⟩ := hrow (by decide)
    clear hrow hrd hphs
    have cCM : (w7.cell? ⟨q1, 0, none⟩ = some (.int .i64 who) ∧ w7.cell? ⟨q1, 1, none⟩ = some (.int .i64 rv) ∧ w7.cell? ⟨q1, 2, none⟩ = some (.int .i64 7) ∧ w7.cell? ⟨q1, 3, none⟩ = some (.int .i64 (k : Int)) ∧ w7.cell? ⟨q1, 4, none⟩ = some (.int .i64 wv) ∧ w7.cell? ⟨q1, 5, none⟩ = some (.slice a2 n k2) ∧ w7.cell? ⟨q1, 6, none⟩ = some (.slice d2 m l2)) ∧ (w7.cell? ⟨g, 0, none⟩ = some (.int .i64 mc) ∧ w7.cell? ⟨g, 1, none⟩ = some (.slice av2 nw kv2)) ∧ w7.cell? ⟨q6, 7, none⟩ = some (.func (.func 42) #[] #[]) := ⟨⟨Cb.cell 0, Cb.cell 1, Cb.cell 2, Cb.cell 3, Cb.cell 4, Cb.cell 5, Cb.cell 6⟩, ⟨Mb.cell 0, Mb.cell 1⟩, TB.cell 7⟩
    replace Mb := Mb.drew
    replace Cb := Cb.drew
    replace R1 := R1.drew
    replace R2 := R2.drew
    replace TB := TB.drew
    replace bb := bb.drew; replace OM := OM.drew; replace OC : OwnC _ _ _ _ _ _ := OC.on (drew_lowC w7) (Nat.le_refl _); replace hE : Err _ _ := hE.on (drew_lowC w7) (Nat.le_refl _)
    obtain ⟨WD, hWD⟩ : ∃ WD, w7.drew = WD := ⟨_, rfl⟩
    refine wp_region_held_drew (S := fun W => (W.cell? ⟨q1, 0, none⟩ = some (.int .i64 who) ∧ W.cell? ⟨q1, 1, none⟩ = some (.int .i64 rv) ∧ W.cell? ⟨q1, 2, none⟩ = some (.int .i64 7) ∧ W.cell? ⟨q1, 3, none⟩ = some (.int .i64 (k : Int)) ∧ W.cell? ⟨q1, 4, none⟩ = some (.int .i64 wv) ∧ W.cell? ⟨q1, 5, none⟩ = some (.slice a2 n k2) ∧ W.cell? ⟨q1, 6, none⟩ = some (.slice d2 m l2)) ∧ (W.cell? ⟨g, 0, none⟩ = some (.int .i64 mc) ∧ W.cell? ⟨g, 1, none⟩ = some (.slice av2 nw kv2)) ∧ W.cell? ⟨q6, 7, none⟩ = some (.func (.func 42) #[] #[])) (by kernel_rfl) cCM (fun hHeld => ?_)
    rw [hWD] at Cb Mb R1 R2 TB bb OM OC hE hHeld ⊢
    clear hWD cCM
    refine takeH (i := 0) (some 22) (.pointer (some ⟨q1, 2, none⟩)) rfl rfl (by kernel_rfl) (by kernel_rfl) (by kernel_rfl) (fun _ _ _ h => h) (Or.inl ⟨by rfl, fun w hSw => by (try dsimp only at hSw); go_simp⟩) (by assumption) ?_
    try simp only [Act.put, List.setIfInBounds_toArray, List.set_cons_zero, List.set_cons_succ]
    refine takeH (i := 1) (some 23) (.int .i64 7) rfl rfl (by kernel_rfl) (by kernel_rfl) (by kernel_rfl) (fun _ _ _ h => h) (Or.inl ⟨by rfl, fun w hSw => by (try dsimp only at hSw); go_simp⟩) (by assumption) ?_
    try simp only [Act.put, List.setIfInBounds_toArray, List.set_cons_zero, List.set_cons_succ]
    refine takeH (i := 2) (some 24) (.pointer (some ⟨q6, 7, none⟩)) rfl rfl (by kernel_rfl) (by kernel_rfl) (by kernel_rfl) (fun _ _ _ h => h) (Or.inl ⟨by rfl, fun w hSw => by (try dsimp only at hSw); go_simp⟩) (by assumption) ?_
    try simp only [Act.put, List.setIfInBounds_toArray, List.set_cons_zero, List.set_cons_succ]
    refine takeH (i := 3) (some 25) (.func (.func 42) #[] #[]) rfl rfl (by kernel_rfl) (by kernel_rfl) (by kernel_rfl) (fun _ _ _ h => h) (Or.inl ⟨by rfl, fun w hSw => by (try dsimp only at hSw); go_simp⟩) (by assumption) ?_
    try simp only [Act.put, List.setIfInBounds_toArray, List.set_cons_zero, List.set_cons_succ]
    refine takeH (i := 4) (some 26) (.agg #[.int .i64 who, .int .i64 rv, .int .i64 7, .int .i64 (k : Int), .int .i64 wv, .slice a2 n k2, .slice d2 m l2]) rfl rfl (by kernel_rfl) (by kernel_rfl) (by kernel_rfl) (fun _ _ _ h => h) (Or.inl ⟨by rfl, fun w hSw => by (try dsimp only at hSw); go_simp⟩) (by assumption) ?_
    try simp only [Act.put, List.setIfInBounds_toArray, List.set_cons_zero, List.set_cons_succ]
    refine takeH (i := 5) (some 27) (.agg #[.int .i64 mc, .slice av2 nw kv2]) rfl rfl (by kernel_rfl) (by kernel_rfl) (by kernel_rfl) (fun _ _ _ h => h) (Or.inl ⟨by rfl, fun w hSw => by (try dsimp only at hSw); go_simp⟩) (by assumption) ?_
    try simp only [Act.put, List.setIfInBounds_toArray, List.set_cons_zero, List.set_cons_succ]
    refine wpAnyH_ready (rs := [6]) (by kernel_rfl) (by simp) ?_
    refine AllReadyH.cons rfl (fun K hK => ?_) AllReadyH.nil
    go_simp
    have hMs : Words.Sees WD.heap.size WD (.slice av2 ws.length kv2) ws := by rw [HW.out]; exact OM.sees
    have hCs : SeeC WD.heap.size WD (.slice a2 ps.length k2) (.slice d2 rs.length l2) ps rs := by rw [HN.out, HM2.out]; exact OC.sees
    have hcall := backStepI who rv 7 wv k _ _ ps _ rs _ mc ws _ _ _ WD bE hMs hCs hE (Nat.le_refl _) (by omega) hb1 hb2 hk cn hcn (by omega)
    rw [HN.out, HM2.out, HW.out] at hcall
    clear hMs hCs
    refine hcall.mono ?_
    clear hcall
    rintro e w8 ⟨v8, rfl, OM8, b8⟩
    have hz : Z = ⟨mc, unlockTo mc ws (ps.getD k z2).c who (wAt ws (ps.getD k z2).c).ver, phB k, atB k, wv⟩ := by rw [← HZ.out, stepO_yes HMO.out HCO.out]; rfl
    obtain ⟨zl, hzl⟩ : ∃ x : List W3, (unlockTo mc ws (ps.getD k z2).c who (wAt ws (ps.getD k z2).c).ver) = x := ⟨_, rfl⟩
    obtain ⟨zp, hzp⟩ : ∃ x : Int, (phB k) = x := ⟨_, rfl⟩
    obtain ⟨za, hza⟩ : ∃ x : Int, (atB k) = x := ⟨_, rfl⟩
    rw [hzl, hzp, hza] at hz
    rw [hzl] at OM8
    rw [hzp, hza]
    clear hzl hzp hza
    have HZ3 := (show Hid _ from hz)
    clear hz
    obtain ⟨av8, kv8, rfl⟩ := OM8.form
    obtain ⟨n8, hn8⟩ : ∃ n, zl.length = n := ⟨_, rfl⟩
    rw [hn8] at OM8 ⊢
    have HN8 := (show Hid (zl.length = n8) from hn8)
    have oM8 : ∀ k, (Value.slice av8 n8 kv8).ownBlock = some k → q3 < k := fun k hk => by have := (OM8.at k hk).1; have := R2.lt; omega
    replace OM8 := OM8.mono (show g ≤ WD.heap.size by have := bb.size; omega)
    clear OM oM hn8
    replace Mb := Mb.on b8 Mb.lt
    replace Cb := Cb.on b8 Cb.lt
    replace R1 := R1.on b8 R1.lt
    replace R2 := R2.on b8 R2.lt
    replace TB := TB.on b8 TB.lt
    replace OC := OC.on b8 (Nat.le_refl _)
    replace bb := bb.trans (b8.mono (by have := bb.size; omega))
    have OM := OM8; have oM := oM8
    clear OM8 oM8 b8
    go_simp
    refine hK.out _ _ ⟨⟨Cb.cell 0, Cb.cell 1, Cb.cell 2, Cb.cell 3, Cb.cell 4, Cb.cell 5, Cb.cell 6⟩, ⟨Mb.cell 0, Mb.cell 1⟩, TB.cell 7⟩ (fun _ => ?_)
    clear hK K
    try simp only [Act.put, List.setIfInBounds_toArray, List.set_cons_zero, List.set_cons_succ]
    refine takeH (i := 7) (some 29) (.agg #[.int .i64 mc, .slice av8 n8 kv8]) rfl rfl (by kernel_rfl) (by kernel_rfl) (by kernel_rfl) (fun _ _ _ h => h) (Or.inl ⟨by rfl, fun w hSw => by (try dsimp only at hSw); go_simp⟩) (by assumption) ?_
    try simp only [Act.put, List.setIfInBounds_toArray, List.set_cons_zero, List.set_cons_succ]
    refine takeH (i := 8) (some 30) (.agg #[.int .i64 who, .int .i64 rv, .int .i64 zp, .int .i64 za, .int .i64 wv, .slice a2 n k2, .slice d2 m l2]) rfl rfl (by kernel_rfl) (by kernel_rfl) (by kernel_rfl) (fun _ _ _ h => h) (Or.inl ⟨by rfl, fun w hSw => by (try dsimp only at hSw); go_simp⟩) (by assumption) ?_
    try simp only [Act.put, List.setIfInBounds_toArray, List.set_cons_zero, List.set_cons_succ]
    have q6lt : q3 < q6 := hq36
    have oM2 : ∀ k, (Value.slice av8 n8 kv8).ownBlock = some k → k ≠ q2 := fun k hk => by have := oM k hk; omega
    have oM3 : ∀ k, (Value.slice av8 n8 kv8).ownBlock = some k → k ≠ q3 := fun k hk => by have := oM k hk; omega
    have oC2 : ∀ k, Two (.slice a2 n k2) (.slice d2 m l2) k → k ≠ q2 := fun k hk => by have := oC k hk; omega
    have oC3 : ∀ k, Two (.slice a2 n k2) (.slice d2 m l2) k → k ≠ q3 := fun k hk => by have := oC k hk; omega
    have r1 := fun i => R1.cell i; have f1 := fun i => R1.froz i
    refine wpAnyH_ready (rs := [9]) (by kernel_rfl) (by simp) ?_
    refine AllReadyH.cons rfl (fun K hK => ?_) AllReadyH.nil
    go_simp
    replace TB := ((TB.other (show q6 ≠ q2 by omega) 0 (.int .i64 mc)).other (show q6 ≠ q2 by omega) 1 (.slice av8 n8 kv8))
    replace Cb := ((Cb.other (show q1 ≠ q2 by omega) 0 (.int .i64 mc)).other (show q1 ≠ q2 by omega) 1 (.slice av8 n8 kv8))
    replace Mb := ((Mb.other (show g ≠ q2 by omega) 0 (.int .i64 mc)).other (show g ≠ q2 by omega) 1 (.slice av8 n8 kv8))
    replace R2 := ((R2.other (show q3 ≠ q2 by omega) 0 (.int .i64 mc)).other (show q3 ≠ q2 by omega) 1 (.slice av8 n8 kv8))
    replace R1 := ((R1.set 0 (.int .i64 mc)).set 1 (.slice av8 n8 kv8))
    replace OM := (Words.Owns.other (Words.Owns.other OM (p := ⟨q2, 0, none⟩) oM2 (.int .i64 mc)) (p := ⟨q2, 1, none⟩) oM2 (.slice av8 n8 kv8))
    replace OC := (ownC_other (i := 1) (u := .slice av8 n8 kv8) (ownC_other (i := 0) (u := .int .i64 mc) OC oC2) oC2)
    replace bb := ((bb.setCell (p := ⟨q2, 0, none⟩) (show g ≤ q2 by omega) (.int .i64 mc)).setCell (p := ⟨q2, 1, none⟩) (show g ≤ q2 by omega) (.slice av8 n8 kv8))
    obtain ⟨WA, hWA⟩ : ∃ W, ((w8.setCell ⟨q2, 0, none⟩ (.int .i64 mc)).setCell ⟨q2, 1, none⟩ (.slice av8 n8 kv8)) = W := ⟨_, rfl⟩
    rw [hWA] at TB Cb Mb R1 R2 OM OC bb ⊢
    clear hWA r1 f1
    refine hK.out _ _ ⟨⟨Cb.cell 0, Cb.cell 1, Cb.cell 2, Cb.cell 3, Cb.cell 4, Cb.cell 5, Cb.cell 6⟩, ⟨Mb.cell 0, Mb.cell 1⟩, TB.cell 7⟩ (fun _ => ?_)
    clear hK K
    try simp only [Act.put, List.setIfInBounds_toArray, List.set_cons_zero, List.set_cons_succ]
    have r2 := fun i => R2.cell i; have f2 := fun i => R2.froz i
    refine wpAnyH_ready (rs := [10]) (by kernel_rfl) (by simp) ?_
    refine AllReadyH.cons rfl (fun K hK => ?_) AllReadyH.nil
    go_simp
    replace TB := (((((((TB.other (show q6 ≠ q3 by omega) 0 (.int .i64 who)).other (show q6 ≠ q3 by omega) 1 (.int .i64 rv)).other (show q6 ≠ q3 by omega) 2 (.int .i64 zp)).other (show q6 ≠ q3 by omega) 3 (.int .i64 za)).other (show q6 ≠ q3 by omega) 4 (.int .i64 wv)).other (show q6 ≠ q3 by omega) 5 (.slice a2 n k2)).other (show q6 ≠ q3 by omega) 6 (.slice d2 m l2))
    replace Cb := (((((((Cb.other (show q1 ≠ q3 by omega) 0 (.int .i64 who)).other (show q1 ≠ q3 by omega) 1 (.int .i64 rv)).other (show q1 ≠ q3 by omega) 2 (.int .i64 zp)).other (show q1 ≠ q3 by omega) 3 (.int .i64 za)).other (show q1 ≠ q3 by omega) 4 (.int .i64 wv)).other (show q1 ≠ q3 by omega) 5 (.slice a2 n k2)).other (show q1 ≠ q3 by omega) 6 (.slice d2 m l2))
    replace Mb := (((((((Mb.other (show g ≠ q3 by omega) 0 (.int .i64 who)).other (show g ≠ q3 by omega) 1 (.int .i64 rv)).other (show g ≠ q3 by omega) 2 (.int .i64 zp)).other (show g ≠ q3 by omega) 3 (.int .i64 za)).other (show g ≠ q3 by omega) 4 (.int .i64 wv)).other (show g ≠ q3 by omega) 5 (.slice a2 n k2)).other (show g ≠ q3 by omega) 6 (.slice d2 m l2))
    replace R1 := (((((((R1.other (show q2 ≠ q3 by omega) 0 (.int .i64 who)).other (show q2 ≠ q3 by omega) 1 (.int .i64 rv)).other (show q2 ≠ q3 by omega) 2 (.int .i64 zp)).other (show q2 ≠ q3 by omega) 3 (.int .i64 za)).other (show q2 ≠ q3 by omega) 4 (.int .i64 wv)).other (show q2 ≠ q3 by omega) 5 (.slice a2 n k2)).other (show q2 ≠ q3 by omega) 6 (.slice d2 m l2))
    replace R2 := (((((((R2.set 0 (.int .i64 who)).set 1 (.int .i64 rv)).set 2 (.int .i64 zp)).set 3 (.int .i64 za)).set 4 (.int .i64 wv)).set 5 (.slice a2 n k2)).set 6 (.slice d2 m l2))
    replace OM := (Words.Owns.other (Words.Owns.other (Words.Owns.other (Words.Owns.other (Words.Owns.other (Words.Owns.other (Words.Owns.other OM (p := ⟨q3, 0, none⟩) oM3 (.int .i64 who)) (p := ⟨q3, 1, none⟩) oM3 (.int .i64 rv)) (p := ⟨q3, 2, none⟩) oM3 (.int .i64 zp)) (p := ⟨q3, 3, none⟩) oM3 (.int .i64 za)) (p := ⟨q3, 4, none⟩) oM3 (.int .i64 wv)) (p := ⟨q3, 5, none⟩) oM3 (.slice a2 n k2)) (p := ⟨q3, 6, none⟩) oM3 (.slice d2 m l2))
    replace OC := (ownC_other (i := 6) (u := .slice d2 m l2) (ownC_other (i := 5) (u := .slice a2 n k2) (ownC_other (i := 4) (u := .int .i64 wv) (ownC_other (i := 3) (u := .int .i64 za) (ownC_other (i := 2) (u := .int .i64 zp) (ownC_other (i := 1) (u := .int .i64 rv) (ownC_other (i := 0) (u := .int .i64 who) OC oC3) oC3) oC3) oC3) oC3) oC3) oC3)
    replace bb := (((((((bb.setCell (p := ⟨q3, 0, none⟩) (show g ≤ q3 by omega) (.int .i64 who)).setCell (p := ⟨q3, 1, none⟩) (show g ≤ q3 by omega) (.int .i64 rv)).setCell (p := ⟨q3, 2, none⟩) (show g ≤ q3 by omega) (.int .i64 zp)).setCell (p := ⟨q3, 3, none⟩) (show g ≤ q3 by omega) (.int .i64 za)).setCell (p := ⟨q3, 4, none⟩) (show g ≤ q3 by omega) (.int .i64 wv)).setCell (p := ⟨q3, 5, none⟩) (show g ≤ q3 by omega) (.slice a2 n k2)).setCell (p := ⟨q3, 6, none⟩) (show g ≤ q3 by omega) (.slice d2 m l2))
    obtain ⟨WB, hWB⟩ : ∃ W, (((((((WA.setCell ⟨q3, 0, none⟩ (.int .i64 who)).setCell ⟨q3, 1, none⟩ (.int .i64 rv)).setCell ⟨q3, 2, none⟩ (.int .i64 zp)).setCell ⟨q3, 3, none⟩ (.int .i64 za)).setCell ⟨q3, 4, none⟩ (.int .i64 wv)).setCell ⟨q3, 5, none⟩ (.slice a2 n k2)).setCell ⟨q3, 6, none⟩ (.slice d2 m l2)) = W := ⟨_, rfl⟩
    rw [hWB] at TB Cb Mb R1 R2 OM OC bb ⊢
    clear hWB r2 f2
    refine hK.out _ _ ⟨⟨Cb.cell 0, Cb.cell 1, Cb.cell 2, Cb.cell 3, Cb.cell 4, Cb.cell 5, Cb.cell 6⟩, ⟨Mb.cell 0, Mb.cell 1⟩, TB.cell 7⟩ (fun _ => ?_)
    clear hK K
    try simp only [Act.put, List.setIfInBounds_toArray, List.set_cons_zero, List.set_cons_succ]
    refine wpAnyH_done (by kernel_rfl) ?_ _
    have r1 := fun i => R1.cell i; have r2 := fun i => R2.cell i
    go_wp2
    refine bodyPost_ret (v := .tuple #[.agg #[.int .i64 mc, .slice av8 n8 kv8], .agg #[.int .i64 who, .int .i64 rv, .int .i64 zp, .int .i64 za, .int .i64 wv, .slice a2 n k2, .slice d2 m l2]]) (by simp [results, Tryd.results9, go_sem, r1, r2]) rfl ?_
    exact told_mk HZ3.out HN8.out HN.out HM2.out hg OM OC bb
  · go_wp2_with fail
    try rw [hw7]
    try rw [hq6]
    clear hw7 hq6 c2f
    clear hrow hrd hphs
    have cCM : (w7.cell? ⟨q1, 0, none⟩ = some (.int .i64 who) ∧ w7.cell? ⟨q1, 1, none⟩ = some (.int .i64 rv) ∧ w7.cell? ⟨q1, 2, none⟩ = some (.int .i64 8) ∧ w7.cell? ⟨q1, 3, none⟩ = some (.int .i64 (k : Int)) ∧ w7.cell? ⟨q1, 4, none⟩ = some (.int .i64 wv) ∧ w7.cell? ⟨q1, 5, none⟩ = some (.slice a2 n k2) ∧ w7.cell? ⟨q1, 6, none⟩ = some (.slice d2 m l2)) ∧ (w7.cell? ⟨g, 0, none⟩ = some (.int .i64 mc) ∧ w7.cell? ⟨g, 1, none⟩ = some (.slice av2 nw kv2)) ∧ w7.cell? ⟨q6, 8, none⟩ = some (.func (.func 41) #[] #[]) := ⟨⟨Cb.cell 0, Cb.cell 1, Cb.cell 2, Cb.cell 3, Cb.cell 4, Cb.cell 5, Cb.cell 6⟩, ⟨Mb.cell 0, Mb.cell 1⟩, TB.cell 8⟩
    replace Mb := Mb.drew
    replace Cb := Cb.drew
    replace R1 := R1.drew
    replace R2 := R2.drew
    replace TB := TB.drew
    replace bb := bb.drew; replace OM := OM.drew; replace OC : OwnC _ _ _ _ _ _ := OC.on (drew_lowC w7) (Nat.le_refl _); replace hE : Err _ _ := hE.on (drew_lowC w7) (Nat.le_refl _)
    obtain ⟨WD, hWD⟩ : ∃ WD, w7.drew = WD := ⟨_, rfl⟩
    refine wp_region_held_drew (S := fun W => (W.cell? ⟨q1, 0, none⟩ = some (.int .i64 who) ∧ W.cell? ⟨q1, 1, none⟩ = some (.int .i64 rv) ∧ W.cell? ⟨q1, 2, none⟩ = some (.int .i64 8) ∧ W.cell? ⟨q1, 3, none⟩ = some (.int .i64 (k : Int)) ∧ W.cell? ⟨q1, 4, none⟩ = some (.int .i64 wv) ∧ W.cell? ⟨q1, 5, none⟩ = some (.slice a2 n k2) ∧ W.cell? ⟨q1, 6, none⟩ = some (.slice d2 m l2)) ∧ (W.cell? ⟨g, 0, none⟩ = some (.int .i64 mc) ∧ W.cell? ⟨g, 1, none⟩ = some (.slice av2 nw kv2)) ∧ W.cell? ⟨q6, 8, none⟩ = some (.func (.func 41) #[] #[])) (by kernel_rfl) cCM (fun hHeld => ?_)
    rw [hWD] at Cb Mb R1 R2 TB bb OM OC hE hHeld ⊢
    clear hWD cCM
    refine takeH (i := 0) (some 22) (.pointer (some ⟨q1, 2, none⟩)) rfl rfl (by kernel_rfl) (by kernel_rfl) (by kernel_rfl) (fun _ _ _ h => h) (Or.inl ⟨by rfl, fun w hSw => by (try dsimp only at hSw); go_simp⟩) (by assumption) ?_
    try simp only [Act.put, List.setIfInBounds_toArray, List.set_cons_zero, List.set_cons_succ]
    refine takeH (i := 1) (some 23) (.int .i64 8) rfl rfl (by kernel_rfl) (by kernel_rfl) (by kernel_rfl) (fun _ _ _ h => h) (Or.inl ⟨by rfl, fun w hSw => by (try dsimp only at hSw); go_simp⟩) (by assumption) ?_
    try simp only [Act.put, List.setIfInBounds_toArray, List.set_cons_zero, List.set_cons_succ]
    refine takeH (i := 2) (some 24) (.pointer (some ⟨q6, 8, none⟩)) rfl rfl (by kernel_rfl) (by kernel_rfl) (by kernel_rfl) (fun _ _ _ h => h) (Or.inl ⟨by rfl, fun w hSw => by (try dsimp only at hSw); go_simp⟩) (by assumption) ?_
    try simp only [Act.put, List.setIfInBounds_toArray, List.set_cons_zero, List.set_cons_succ]
    refine takeH (i := 3) (some 25) (.func (.func 41) #[] #[]) rfl rfl (by kernel_rfl) (by kernel_rfl) (by kernel_rfl) (fun _ _ _ h => h) (Or.inl ⟨by rfl, fun w hSw => by (try dsimp only at hSw); go_simp⟩) (by assumption) ?_
    try simp only [Act.put, List.setIfInBounds_toArray, List.set_cons_zero, List.set_cons_succ]
    refine takeH (i := 4) (some 26) (.agg #[.int .i64 who, .int .i64 rv, .int .i64 8, .int .i64 (k : Int), .int .i64 wv, .slice a2 n k2, .slice d2 m l2]) rfl rfl (by kernel_rfl) (by kernel_rfl) (by kernel_rfl) (fun _ _ _ h => h) (Or.inl ⟨by rfl, fun w hSw => by (try dsimp only at hSw); go_simp⟩) (by assumption) ?_
    try simp only [Act.put, List.setIfInBounds_toArray, List.set_cons_zero, List.set_cons_succ]
    refine takeH (i := 5) (some 27) (.agg #[.int .i64 mc, .slice av2 nw kv2]) rfl rfl (by kernel_rfl) (by kernel_rfl) (by kernel_rfl) (fun _ _ _ h => h) (Or.inl ⟨by rfl, fun w hSw => by (try dsimp only at hSw); go_simp⟩) (by assumption) ?_
    try simp only [Act.put, List.setIfInBounds_toArray, List.set_cons_zero, List.set_cons_succ]
    refine wpAnyH_ready (rs := [6]) (by kernel_rfl) (by simp) ?_
    refine AllReadyH.cons rfl (fun K hK => ?_) AllReadyH.nil
    go_simp
    have hMs : Words.Sees WD.heap.size WD (.slice av2 ws.length kv2) ws := by rw [HW.out]; exact OM.sees
    have hCs : SeeC WD.heap.size WD (.slice a2 ps.length k2) (.slice d2 rs.length l2) ps rs := by rw [HN.out, HM2.out]; exact OC.sees
    have hcall := restI who rv 8 wv k _ _ ps _ rs _ mc ws _ _ _ WD bE hMs hCs hE (Nat.le_refl _) (by omega) hb1 hb2
    rw [HN.out, HM2.out, HW.out] at hcall
    clear hMs hCs
    refine hcall.mono ?_
    clear hcall
    rintro e w8 ⟨rfl, b8⟩
    have hz : Z = ⟨mc, ws, 8, (k : Int), wv⟩ := by rw [← HZ.out, stepO_yes HMO.out HCO.out]; rfl
    have HZ3 := (show Hid _ from hz)
    clear hz
    replace Mb := Mb.on b8 Mb.lt
    replace Cb := Cb.on b8 Cb.lt
    replace R1 := R1.on b8 R1.lt
    replace R2 := R2.on b8 R2.lt
    replace TB := TB.on b8 TB.lt
    replace OM := OM.on b8 (Nat.le_refl _); replace OC := OC.on b8 (Nat.le_refl _)
    replace bb := bb.trans (b8.mono (by have := bb.size; omega))
    clear b8
    go_simp
    refine hK.out _ _ ⟨⟨Cb.cell 0, Cb.cell 1, Cb.cell 2, Cb.cell 3, Cb.cell 4, Cb.cell 5, Cb.cell 6⟩, ⟨Mb.cell 0, Mb.cell 1⟩, TB.cell 8⟩ (fun _ => ?_)
    clear hK K
    try simp only [Act.put, List.setIfInBounds_toArray, List.set_cons_zero, List.set_cons_succ]
    refine takeH (i := 7) (some 29) (.agg #[.int .i64 mc, .slice av2 nw kv2]) rfl rfl (by kernel_rfl) (by kernel_rfl) (by kernel_rfl) (fun _ _ _ h => h) (Or.inl ⟨by rfl, fun w hSw => by (try dsimp only at hSw); go_simp⟩) (by assumption) ?_
    try simp only [Act.put, List.setIfInBounds_toArray, List.set_cons_zero, List.set_cons_succ]
    refine takeH (i := 8) (some 30) (.agg #[.int .i64 who, .int .i64 rv, .int .i64 8, .int .i64 (k : Int), .int .i64 wv, .slice a2 n k2, .slice d2 m l2]) rfl rfl (by kernel_rfl) (by kernel_rfl) (by kernel_rfl) (fun _ _ _ h => h) (Or.inl ⟨by rfl, fun w hSw => by (try dsimp only at hSw); go_simp⟩) (by assumption) ?_
    try simp only [Act.put, List.setIfInBounds_toArray, List.set_cons_zero, List.set_cons_succ]
    have q6lt : q3 < q6 := hq36
    have oM2 : ∀ k, (Value.slice av2 nw kv2).ownBlock = some k → k ≠ q2 := fun k hk => by have := oM k hk; omega
    have oM3 : ∀ k, (Value.slice av2 nw kv2).ownBlock = some k → k ≠ q3 := fun k hk => by have := oM k hk; omega
    have oC2 : ∀ k, Two (.slice a2 n k2) (.slice d2 m l2) k → k ≠ q2 := fun k hk => by have := oC k hk; omega
    have oC3 : ∀ k, Two (.slice a2 n k2) (.slice d2 m l2) k → k ≠ q3 := fun k hk => by have := oC k hk; omega
    have r1 := fun i => R1.cell i; have f1 := fun i => R1.froz i
    refine wpAnyH_ready (rs := [9]) (by kernel_rfl) (by simp) ?_
    refine AllReadyH.cons rfl (fun K hK => ?_) AllReadyH.nil
    go_simp
    replace TB := ((TB.other (show q6 ≠ q2 by omega) 0 (.int .i64 mc)).other (show q6 ≠ q2 by omega) 1 (.slice av2 nw kv2))
    replace Cb := ((Cb.other (show q1 ≠ q2 by omega) 0 (.int .i64 mc)).other (show q1 ≠ q2 by omega) 1 (.slice av2 nw kv2))
    replace Mb := ((Mb.other (show g ≠ q2 by omega) 0 (.int .i64 mc)).other (show g ≠ q2 by omega) 1 (.slice av2 nw kv2))
    replace R2 := ((R2.other (show q3 ≠ q2 by omega) 0 (.int .i64 mc)).other (show q3 ≠ q2 by omega) 1 (.slice av2 nw kv2))
    replace R1 := ((R1.set 0 (.int .i64 mc)).set 1 (.slice av2 nw kv2))
    replace OM := (Words.Owns.other (Words.Owns.other OM (p := ⟨q2, 0, none⟩) oM2 (.int .i64 mc)) (p := ⟨q2, 1, none⟩) oM2 (.slice av2 nw kv2))
    replace OC := (ownC_other (i := 1) (u := .slice av2 nw kv2) (ownC_other (i := 0) (u := .int .i64 mc) OC oC2) oC2)
    replace bb := ((bb.setCell (p := ⟨q2, 0, none⟩) (show g ≤ q2 by omega) (.int .i64 mc)).setCell (p := ⟨q2, 1, none⟩) (show g ≤ q2 by omega) (.slice av2 nw kv2))
    obtain ⟨WA, hWA⟩ : ∃ W, ((w8.setCell ⟨q2, 0, none⟩ (.int .i64 mc)).setCell ⟨q2, 1, none⟩ (.slice av2 nw kv2)) = W := ⟨_, rfl⟩
    rw [hWA] at TB Cb Mb R1 R2 OM OC bb ⊢
    clear hWA r1 f1
    refine hK.out _ _ ⟨⟨Cb.cell 0, Cb.cell 1, Cb.cell 2, Cb.cell 3, Cb.cell 4, Cb.cell 5, Cb.cell 6⟩, ⟨Mb.cell 0, Mb.cell 1⟩, TB.cell 8⟩ (fun _ => ?_)
    clear hK K
    try simp only [Act.put, List.setIfInBounds_toArray, List.set_cons_zero, List.set_cons_succ]
    have r2 := fun i => R2.cell i; have f2 := fun i => R2.froz i
    refine wpAnyH_ready (rs := [10]) (by kernel_rfl) (by simp) ?_
    refine AllReadyH.cons rfl (fun K hK => ?_) AllReadyH.nil
    go_simp
    replace TB := (((((((TB.other (show q6 ≠ q3 by omega) 0 (.int .i64 who)).other (show q6 ≠ q3 by omega) 1 (.int .i64 rv)).other (show q6 ≠ q3 by omega) 2 (.int .i64 8)).other (show q6 ≠ q3 by omega) 3 (.int .i64 (k : Int))).other (show q6 ≠ q3 by omega) 4 (.int .i64 wv)).other (show q6 ≠ q3 by omega) 5 (.slice a2 n k2)).other (show q6 ≠ q3 by omega) 6 (.slice d2 m l2))
    replace Cb := (((((((Cb.other (show q1 ≠ q3 by omega) 0 (.int .i64 who)).other (show q1 ≠ q3 by omega) 1 (.int .i64 rv)).other (show q1 ≠ q3 by omega) 2 (.int .i64 8)).other (show q1 ≠ q3 by omega) 3 (.int .i64 (k : Int))).other (show q1 ≠ q3 by omega) 4 (.int .i64 wv)).other (show q1 ≠ q3 by omega) 5 (.slice a2 n k2)).other (show q1 ≠ q3 by omega) 6 (.slice d2 m l2))
    replace Mb := (((((((Mb.other (show g ≠ q3 by omega) 0 (.int .i64 who)).other (show g ≠ q3 by omega) 1 (.int .i64 rv)).other (show g ≠ q3 by omega) 2 (.int .i64 8)).other (show g ≠ q3 by omega) 3 (.int .i64 (k : Int))).other (show g ≠ q3 by omega) 4 (.int .i64 wv)).other (show g ≠ q3 by omega) 5 (.slice a2 n k2)).other (show g ≠ q3 by omega) 6 (.slice d2 m l2))
    replace R1 := (((((((R1.other (show q2 ≠ q3 by omega) 0 (.int .i64 who)).other (show q2 ≠ q3 by omega) 1 (.int .i64 rv)).other (show q2 ≠ q3 by omega) 2 (.int .i64 8)).other (show q2 ≠ q3 by omega) 3 (.int .i64 (k : Int))).other (show q2 ≠ q3 by omega) 4 (.int .i64 wv)).other (show q2 ≠ q3 by omega) 5 (.slice a2 n k2)).other (show q2 ≠ q3 by omega) 6 (.slice d2 m l2))
    replace R2 := (((((((R2.set 0 (.int .i64 who)).set 1 (.int .i64 rv)).set 2 (.int .i64 8)).set 3 (.int .i64 (k : Int))).set 4 (.int .i64 wv)).set 5 (.slice a2 n k2)).set 6 (.slice d2 m l2))
    replace OM := (Words.Owns.other (Words.Owns.other (Words.Owns.other (Words.Owns.other (Words.Owns.other (Words.Owns.other (Words.Owns.other OM (p := ⟨q3, 0, none⟩) oM3 (.int .i64 who)) (p := ⟨q3, 1, none⟩) oM3 (.int .i64 rv)) (p := ⟨q3, 2, none⟩) oM3 (.int .i64 8)) (p := ⟨q3, 3, none⟩) oM3 (.int .i64 (k : Int))) (p := ⟨q3, 4, none⟩) oM3 (.int .i64 wv)) (p := ⟨q3, 5, none⟩) oM3 (.slice a2 n k2)) (p := ⟨q3, 6, none⟩) oM3 (.slice d2 m l2))
    replace OC := (ownC_other (i := 6) (u := .slice d2 m l2) (ownC_other (i := 5) (u := .slice a2 n k2) (ownC_other (i := 4) (u := .int .i64 wv) (ownC_other (i := 3) (u := .int .i64 (k : Int)) (ownC_other (i := 2) (u := .int .i64 8) (ownC_other (i := 1) (u := .int .i64 rv) (ownC_other (i := 0) (u := .int .i64 who) OC oC3) oC3) oC3) oC3) oC3) oC3) oC3)
    replace bb := (((((((bb.setCell (p := ⟨q3, 0, none⟩) (show g ≤ q3 by omega) (.int .i64 who)).setCell (p := ⟨q3, 1, none⟩) (show g ≤ q3 by omega) (.int .i64 rv)).setCell (p := ⟨q3, 2, none⟩) (show g ≤ q3 by omega) (.int .i64 8)).setCell (p := ⟨q3, 3, none⟩) (show g ≤ q3 by omega) (.int .i64 (k : Int))).setCell (p := ⟨q3, 4, none⟩) (show g ≤ q3 by omega) (.int .i64 wv)).setCell (p := ⟨q3, 5, none⟩) (show g ≤ q3 by omega) (.slice a2 n k2)).setCell (p := ⟨q3, 6, none⟩) (show g ≤ q3 by omega) (.slice d2 m l2))
    obtain ⟨WB, hWB⟩ : ∃ W, (((((((WA.setCell ⟨q3, 0, none⟩ (.int .i64 who)).setCell ⟨q3, 1, none⟩ (.int .i64 rv)).setCell ⟨q3, 2, none⟩ (.int .i64 8)).setCell ⟨q3, 3, none⟩ (.int .i64 (k : Int))).setCell ⟨q3, 4, none⟩ (.int .i64 wv)).setCell ⟨q3, 5, none⟩ (.slice a2 n k2)).setCell ⟨q3, 6, none⟩ (.slice d2 m l2)) = W := ⟨_, rfl⟩
    rw [hWB] at TB Cb Mb R1 R2 OM OC bb ⊢
    clear hWB r2 f2
    refine hK.out _ _ ⟨⟨Cb.cell 0, Cb.cell 1, Cb.cell 2, Cb.cell 3, Cb.cell 4, Cb.cell 5, Cb.cell 6⟩, ⟨Mb.cell 0, Mb.cell 1⟩, TB.cell 8⟩ (fun _ => ?_)
    clear hK K
    try simp only [Act.put, List.setIfInBounds_toArray, List.set_cons_zero, List.set_cons_succ]
    refine wpAnyH_done (by kernel_rfl) ?_ _
    have r1 := fun i => R1.cell i; have r2 := fun i => R2.cell i
    go_wp2
    refine bodyPost_ret (v := .tuple #[.agg #[.int .i64 mc, .slice av2 nw kv2], .agg #[.int .i64 who, .int .i64 rv, .int .i64 8, .int .i64 (k : Int), .int .i64 wv, .slice a2 n k2, .slice d2 m l2]]) (by simp [results, Tryd.results9, go_sem, r1, r2]) rfl ?_
    exact told_mk HZ3.out HW.out HN.out HM2.out hg OM OC bb
end Commits
end Go.Proofs.YtppikpdphcfomaaDoor
