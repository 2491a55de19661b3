/- Several texts of one proof, in build order: SerLaw. -/
import Derived.Test.YtajbmokidcdfnaaSB3
import Derived.Test.YtajbmokidcdfnaaSB20
/- The law of Serial. -/
set_option linter.unusedVariables false
set_option linter.unusedSimpArgs false
namespace Go.Proofs.Ytajbmokidcdfnaa
open Go.RowKit
namespace Ops
open Bas Flat

set_option maxRecDepth 100000 in
set_option maxHeartbeats 12800000 in
theorem lawSerial (vC vK vO vc vm : Value) (xs : List O4) (kss : List (List O4)) (zs : List Int) (t : Th) (w : World) (hP : SeesP w.heap.size w vC vK xs kss) (hO : Ints.Sees w.heap.size w vO zs) (hT : SeeT w.heap.size w vc vm t) :
    Calls Try.prog 8 #[.agg #[vC, vK], vO, .agg #[vc, vm, .int .i64 t.n]] w fun e w' => e = .returned (.bool true) ∧ Below w.heap.size w w' := by
  have hzr := sees_room hO
  have Z1 := fun W (left : Int) (L : LSr w W vC vK vO vc vm xs kss zs t) (h0 : 0 ≤ left) (h1 : left ≤ 1048576) => szProgC _ _ xs kss left _ W L.P L.b.size h0 h1
  have Z2 := fun W (left : Int) (L : LSr w W vC vK vO vc vm xs kss zs t) (h0 : 0 ≤ left) (h1 : left ≤ 1048576) => szThC _ _ t left _ W L.T L.b.size h0 h1
  have C1 := fun W (L : LSr w W vC vK vO vc vm xs kss zs t) (hf : Fits xs kss) => toProgO _ _ xs kss _ W L.P L.b.size hf
  have C2 := fun W (L : LSr w W vC vK vO vc vm xs kss zs t) (hl : zs.length ≤ 1048576) => Ints.toIntsC _ zs _ W L.O L.b.size hl
  have C3 := fun W (L : LSr w W vC vK vO vc vm xs kss zs t) (hf : FitT t) => toThC _ _ t _ W L.T L.b.size hf
  have SP := fun B W uC uK uO uc um (hP : SeesP B W uC uK xs kss) (hO : Ints.Sees B W uO zs) (hT : SeeT B W uc um t) (hB : B ≤ W.heap.size) (hf : Fits xs kss) (hl : zs.length ≤ 1048576) => specSerial uC uK uO uc um xs kss zs t B W hP hO hT hB hf hl
  have IM := fun B W uC uK uO uc um (hP : SeesP B W uC uK xs kss) (hO : Ints.Sees B W uO zs) (hT : SeeT B W uc um t) (hB : B ≤ W.heap.size) (hf : Fits xs kss) (hl : zs.length ≤ 1048576) => implSerial uC uK uO uc um xs kss zs t B W hP hO hT hB hf hl
  obtain ⟨ac, cc, rfl⟩ := hP.c.form
  obtain ⟨ak, ck, rfl⟩ := hP.k.form
  obtain ⟨ao, co, rfl⟩ := hO.form
  obtain ⟨ax, cx, rfl⟩ := hT.c.form
  obtain ⟨am, cm, rfl⟩ := hT.m.form
  have L0 := LSr.new w _ _ _ _ _ xs kss zs t hP hO hT
  obtain ⟨nx, hnx⟩ : ∃ n, xs.length = n := ⟨_, rfl⟩
  obtain ⟨nk, hnk⟩ : ∃ n, kss.length = n := ⟨_, rfl⟩
  obtain ⟨nz, hnz⟩ : ∃ n, zs.length = n := ⟨_, rfl⟩
  obtain ⟨nc, hnc⟩ : ∃ n, t.c.length = n := ⟨_, rfl⟩
  obtain ⟨nm, hnm⟩ : ∃ n, t.m.length = n := ⟨_, rfl⟩
  rw [hnx, hnk, hnz, hnc, hnm] at L0
  obtain ⟨W0, hW0⟩ : ∃ W, (w.alloc (.cells #[.slice ac nx cc, .slice ak nk ck] 70)).alloc (.cells #[.slice ax nc cx, .slice am nm cm, .int .i64 t.n] 71) = W := ⟨_, rfl⟩
  rw [hW0] at L0
  rw [hnx, hnk, hnz, hnc, hnm]
  simp only [hnx, hnk, hnz, hnc, hnm] at Z1 Z2 C1 C2 C3
  rw [hnz] at hzr
  have i1 : (nz : Int) ≤ 9223372036854775807 := by unfold maxLen at hzr; omega
  have k0 := L0.p.cell 0; have k1 := L0.p.cell 1
  have j0 := L0.s.cell 0; have j1 := L0.s.cell 1; have j2 := L0.s.cell 2
  by_cases hz : (1048576 : Int) < nz
  · go_enter Try.func8, Try.ntmps8
    go_wp2
    go_ret
    exact ⟨rfl, L0.b⟩
  have cZ := Z1 W0 1048576 L0 (by omega) (by omega)
  go_enter Try.func8, Try.ntmps8
  go_wp2_with fail
  clear hW0 k0 k1
  refine cZ.mono ?_
  rintro e w1 ⟨q1, rfl, hq1, b1⟩
  clear cZ
  have L1 := L0.on b1
  clear b1 L0 j0 j1 j2
  have k0 := L1.p.cell 0; have k1 := L1.p.cell 1
  have j0 := L1.s.cell 0; have j1 := L1.s.cell 1; have j2 := L1.s.cell 2
  by_cases hn1 : q1 < 0
  · clear hq1
    go_wp2
    go_ret
    exact ⟨rfl, L1.b⟩
  have hq1' : 0 ≤ q1 ∧ q1 ≤ 1048576 ∧ Fits xs kss := by
    rcases hq1 with h | h
    · exact absurd h hn1
    · exact ⟨by omega, by omega, h.2.2⟩
  obtain ⟨p0, p1, hf1⟩ := hq1'
  clear hq1
  have hF := (show Hid _ from hf1)
  clear hf1
  have cZ := Z2 w1 q1 L1 p0 p1
  go_wp2_with fail
  refine cZ.mono ?_
  rintro e w2 ⟨q2, rfl, hq2, b2⟩
  clear cZ
  have L2 := L1.on b2
  clear b2 L1 j0 j1 j2 k0 k1
  have k0 := L2.p.cell 0; have k1 := L2.p.cell 1
  have j0 := L2.s.cell 0; have j1 := L2.s.cell 1; have j2 := L2.s.cell 2
  by_cases hn2 : q2 < 0
  · clear hq2
    go_wp2
    go_ret
    exact ⟨rfl, L2.b⟩
  have hf2 : FitT t := by
    rcases hq2 with h | h
    · exact absurd h hn2
    · exact h.2.2
  have hG := (show Hid _ from hf2)
  clear hf2 hq2
  go_wp2_with fail
  refine Code.wp_mono (Q := fun e a' W' => e = .normal ∧ ∃ N q ar cr aq cq ay cy v31 v33 v35, a' = ⟨#[.agg #[.slice ac nx cc, .slice ak nk ck], .slice ao nz co, .agg #[.slice ax nc cx, .slice am nm cm, .int .i64 t.n], .pointer (some ⟨w.heap.size, 0, none⟩), undef, .pointer (some ⟨w.heap.size + 1, 0, none⟩), .bool false, .int .i64 q2, .pointer (some ⟨N, 0, none⟩), undef, undef, undef, undef, undef, undef, undef, undef, .slice ao nz co, .int .i64 (nz : Int), .bool false, .agg #[.slice ac nx cc, .slice ak nk ck], .int .i64 1048576, .int .i64 q1, .int .i64 q1, .bool (decide (q1 < 0)), .agg #[.slice ax nc cx, .slice am nm cm, .int .i64 t.n], .int .i64 q1, .int .i64 q2, .int .i64 q2, .bool (decide (q2 < 0)), .agg #[.slice ac nx cc, .slice ak nk ck], v31, .slice ao nz co, v33, .agg #[.slice ax nc cx, .slice am nm cm, .int .i64 t.n], v35, .agg #[.int .i64 q.out, .slice ar q.r.length cr, .slice aq q.t.c.length cq, .slice ay q.t.m.length cy, .int .i64 q.t.n], undef, undef, undef, undef, undef, undef, undef, undef, undef, undef, undef, undef, undef, undef, undef, undef, undef, undef, undef, undef, undef, undef, undef, undef, undef, undef, undef, undef, undef, undef, undef, undef, undef, undef, undef, undef, undef, undef, undef, undef, undef, undef, undef, undef, undef, undef, undef, undef, undef, undef, undef, undef, undef, undef, undef, undef, undef, undef, undef, undef, undef, undef, undef, undef, undef, undef, undef, undef, undef, undef, undef, undef, undef, undef, undef, undef], []⟩ ∧ LSr w W' (.slice ac nx cc) (.slice ak nk ck) (.slice ao nz co) (.slice ax nc cx) (.slice am nm cm) xs kss zs t ∧ RunTold xs kss zs t q ∧ RunAt w.heap.size W' N q (.slice ar q.r.length cr) (.slice aq q.t.c.length cq) (.slice ay q.t.m.length cy) ∧ w.heap.size + 1 < N) ?_ ?_
  rotate_left
  · have LD := L2.drew
    obtain ⟨WD, hWD⟩ : ∃ WD, w2.drew = WD := ⟨_, rfl⟩
    refine wp_region_held_drew (S := fun W => W.cell? ⟨w.heap.size, 0, none⟩ = some (.slice ac nx cc) ∧ W.cell? ⟨w.heap.size, 1, none⟩ = some (.slice ak nk ck) ∧ W.cell? ⟨w.heap.size + 1, 0, none⟩ = some (.slice ax nc cx) ∧ W.cell? ⟨w.heap.size + 1, 1, none⟩ = some (.slice am nm cm) ∧ W.cell? ⟨w.heap.size + 1, 2, none⟩ = some (.int .i64 t.n)) (by kernel_rfl) L2.drew.cells (fun hHeld => ?_)
    rw [hWD] at LD hHeld ⊢
    clear hWD k0 k1 j0 j1 j2
    refine takeH (i := 0) (some 30) (.agg #[.slice ac nx cc, .slice ak nk ck]) rfl rfl (by kernel_rfl) (by kernel_rfl) (by kernel_rfl) (fun _ _ _ h => by cases h.1) (Or.inl ⟨by rfl, fun w hSw => by (try dsimp only at hSw); go_simp⟩) (by assumption) ?_
    simp only [Act.put, List.setIfInBounds_toArray, List.set_cons_zero, List.set_cons_succ]
    refine takeH (i := 2) (some 32) (.slice ao nz co) rfl rfl (by kernel_rfl) (by kernel_rfl) (by kernel_rfl) (fun _ _ _ h => by cases h.1) (Or.inl ⟨by rfl, fun w hSw => by (try dsimp only at hSw); go_simp⟩) (by assumption) ?_
    simp only [Act.put, List.setIfInBounds_toArray, List.set_cons_zero, List.set_cons_succ]
    refine takeH (i := 4) (some 34) (.agg #[.slice ax nc cx, .slice am nm cm, .int .i64 t.n]) rfl rfl (by kernel_rfl) (by kernel_rfl) (by kernel_rfl) (fun _ _ _ h => by cases h.1) (Or.inl ⟨by rfl, fun w hSw => by (try dsimp only at hSw); go_simp⟩) (by assumption) ?_
    simp only [Act.put, List.setIfInBounds_toArray, List.set_cons_zero, List.set_cons_succ]
    refine wpAnyH_ready (rs := [1, 7]) (by kernel_rfl) (by simp) ?_
    refine AllReadyH.cons rfl (fun K hK => ?_) (AllReadyH.cons rfl (fun K hK => ?_) AllReadyH.nil)
    · go_simp
      refine (C1 _ LD hF.out).mono ?_
      rintro e V1 ⟨uC, uK, us, rfl, P2, b1⟩
      have L1c := LD.on b1
      go_simp
      refine hK.out _ _ L1c.cells (fun _ => ?_)
      clear hK K
      try simp only [Act.put, List.setIfInBounds_toArray, List.set_cons_zero, List.set_cons_succ]
      refine wpAnyH_ready (rs := [3, 7]) (by kernel_rfl) (by simp) ?_
      refine AllReadyH.cons rfl (fun K hK => ?_) (AllReadyH.cons rfl (fun K hK => ?_) AllReadyH.nil)
      · go_simp
        refine (C2 _ L1c (by omega)).mono ?_
        rintro e V2 ⟨uO, rfl, O2, b2⟩
        have L2c := L1c.on b2
        have P2 := P2.on b2
        go_simp
        refine hK.out _ _ L2c.cells (fun _ => ?_)
        clear hK K
        try simp only [Act.put, List.setIfInBounds_toArray, List.set_cons_zero, List.set_cons_succ]
        refine wpAnyH_ready (rs := [5, 7]) (by kernel_rfl) (by simp) ?_
        refine AllReadyH.cons rfl (fun K hK => ?_) (AllReadyH.cons rfl (fun K hK => ?_) AllReadyH.nil)
        · go_simp
          refine (C3 _ L2c hG.out).mono ?_
          rintro e V3 ⟨uc, um, rfl, T2, b3⟩
          have L3c := L2c.on b3
          have P2 := P2.on b3
          have O2 := O2.on b3 (Nat.le_refl _)
          go_simp
          refine hK.out _ _ L3c.cells (fun _ => ?_)
          clear hK K
          try simp only [Act.put, List.setIfInBounds_toArray, List.set_cons_zero, List.set_cons_succ]
          refine wpAnyH_ready (rs := [6, 7]) (by kernel_rfl) (by simp) ?_
          refine AllReadyH.cons rfl (fun K hK => ?_) (AllReadyH.cons rfl (fun K hK => ?_) AllReadyH.nil)
          · go_simp
            refine (SP _ _ _ _ _ _ _ P2.seesP O2.sees T2.sees (Nat.le_refl _) hF.out (by omega)).mono ?_
            rintro e V4 ⟨q, vr, vq, vy, rfl, hq, R1, R2, d1, d2, b4⟩
            have L4c := L3c.on b4
            have P2 := P2.on b4
            have O2 := O2.on b4 (Nat.le_refl _)
            have T2 := T2.on b4
            have hz := L3c.b.size
            obtain ⟨ar, cr, rfl⟩ := R1.form
            obtain ⟨aq, cq, rfl⟩ := R2.c.form
            obtain ⟨ay, cy, rfl⟩ := R2.m.form
            clear P2 O2 T2
            go_simp
            refine hK.out _ _ L4c.cells (fun _ => ?_)
            clear hK K
            try simp only [Act.put, List.setIfInBounds_toArray, List.set_cons_zero, List.set_cons_succ]
            refine wpAnyH_ready (rs := [7]) (by kernel_rfl) (by simp) ?_
            refine AllReadyH.cons rfl (fun K hK => ?_) (AllReadyH.nil)
            go_simp
            have A5 := alloc_below V4 (.cells #[.int .i64 0, .slice none 0 0, .slice none 0 0, .slice none 0 0, .int .i64 0] 57)
            have Y5 := Blk.new V4 #[.int .i64 0, .slice none 0 0, .slice none 0 0, .slice none 0 0, .int .i64 0] 57
            have L5a := L4c.on A5
            have hNY5 := L4c.big
            have R1 := R1.on A5 (Nat.le_refl _)
            have R2 := R2.on A5
            refine hK.out _ _ L5a.cells (fun _ => ?_)
            clear hK K A5
            try simp only [Act.put, List.setIfInBounds_toArray, List.set_cons_zero, List.set_cons_succ]
            obtain ⟨W5a, hW5a⟩ : ∃ W, V4.alloc (.cells #[.int .i64 0, .slice none 0 0, .slice none 0 0, .slice none 0 0, .int .i64 0] 57) = W := ⟨_, rfl⟩
            obtain ⟨N5, hN5⟩ : ∃ N, V4.heap.size = N := ⟨_, rfl⟩
            rw [hW5a] at L5a Y5 R1 R2 ⊢
            rw [hN5] at Y5 hNY5 ⊢
            clear hW5a hN5
            have y6 := fun i => Y5.cell i; have yf6 := fun i => Y5.froz i
            refine wpAnyH_ready (rs := [8]) (by kernel_rfl) (by simp) ?_
            refine AllReadyH.cons rfl (fun K hK => ?_) AllReadyH.nil
            go_simp
            have hS6 := L5a.five hNY5 (.int .i64 q.out) (.slice ar q.r.length cr) (.slice aq q.t.c.length cq) (.slice ay q.t.m.length cy) (.int .i64 q.t.n)
            have hY6 := RunAt.stored Y5 (R1.mono hz) (R2.mono hz) d1 d2
            refine hK.out _ _ hS6.cells (fun _ => ?_)
            clear hK K
            refine wpAnyH_done (by kernel_rfl) ?_ _
            exact ⟨rfl, _, q, _, _, _, _, _, _, _, _, _, rfl, hS6, hq, hY6, hNY5⟩
          · go_simp
            have A4 := alloc_below V3 (.cells #[.int .i64 0, .slice none 0 0, .slice none 0 0, .slice none 0 0, .int .i64 0] 57)
            have Y4 := Blk.new V3 #[.int .i64 0, .slice none 0 0, .slice none 0 0, .slice none 0 0, .int .i64 0] 57
            have L4a := L3c.on A4
            have hNY4 := L3c.big
            have P2 := P2.on A4
            have O2 := O2.on A4 (Nat.le_refl _)
            have T2 := T2.on A4
            refine hK.out _ _ L4a.cells (fun _ => ?_)
            clear hK K A4
            try simp only [Act.put, List.setIfInBounds_toArray, List.set_cons_zero, List.set_cons_succ]
            obtain ⟨W4a, hW4a⟩ : ∃ W, V3.alloc (.cells #[.int .i64 0, .slice none 0 0, .slice none 0 0, .slice none 0 0, .int .i64 0] 57) = W := ⟨_, rfl⟩
            obtain ⟨N4, hN4⟩ : ∃ N, V3.heap.size = N := ⟨_, rfl⟩
            rw [hW4a] at L4a Y4 P2 O2 T2 ⊢
            rw [hN4] at Y4 hNY4 ⊢
            clear hW4a hN4
            refine wpAnyH_ready (rs := [6]) (by kernel_rfl) (by simp) ?_
            refine AllReadyH.cons rfl (fun K hK => ?_) (AllReadyH.nil)
            go_simp
            refine (SP _ _ _ _ _ _ _ P2.seesP O2.sees T2.sees (Nat.le_refl _) hF.out (by omega)).mono ?_
            rintro e V7 ⟨q, vr, vq, vy, rfl, hq, R1, R2, d1, d2, b7⟩
            have L7c := L4a.on b7
            have Y4c := Y4.on b7 Y4.lt; have hNY4c := hNY4
            have P2 := P2.on b7
            have O2 := O2.on b7 (Nat.le_refl _)
            have T2 := T2.on b7
            have hz := L4a.b.size
            obtain ⟨ar, cr, rfl⟩ := R1.form
            obtain ⟨aq, cq, rfl⟩ := R2.c.form
            obtain ⟨ay, cy, rfl⟩ := R2.m.form
            clear P2 O2 T2
            go_simp
            refine hK.out _ _ L7c.cells (fun _ => ?_)
            clear hK K
            try simp only [Act.put, List.setIfInBounds_toArray, List.set_cons_zero, List.set_cons_succ]
            have y8 := fun i => Y4c.cell i; have yf8 := fun i => Y4c.froz i
            refine wpAnyH_ready (rs := [8]) (by kernel_rfl) (by simp) ?_
            refine AllReadyH.cons rfl (fun K hK => ?_) AllReadyH.nil
            go_simp
            have hS8 := L7c.five hNY4c (.int .i64 q.out) (.slice ar q.r.length cr) (.slice aq q.t.c.length cq) (.slice ay q.t.m.length cy) (.int .i64 q.t.n)
            have hY8 := RunAt.stored Y4c (R1.mono hz) (R2.mono hz) d1 d2
            refine hK.out _ _ hS8.cells (fun _ => ?_)
            clear hK K
            refine wpAnyH_done (by kernel_rfl) ?_ _
            exact ⟨rfl, _, q, _, _, _, _, _, _, _, _, _, rfl, hS8, hq, hY8, hNY4c⟩
        · go_simp
          have A3 := alloc_below V2 (.cells #[.int .i64 0, .slice none 0 0, .slice none 0 0, .slice none 0 0, .int .i64 0] 57)
          have Y3 := Blk.new V2 #[.int .i64 0, .slice none 0 0, .slice none 0 0, .slice none 0 0, .int .i64 0] 57
          have L3a := L2c.on A3
          have hNY3 := L2c.big
          have P2 := P2.on A3
          have O2 := O2.on A3 (Nat.le_refl _)
          refine hK.out _ _ L3a.cells (fun _ => ?_)
          clear hK K A3
          try simp only [Act.put, List.setIfInBounds_toArray, List.set_cons_zero, List.set_cons_succ]
          obtain ⟨W3a, hW3a⟩ : ∃ W, V2.alloc (.cells #[.int .i64 0, .slice none 0 0, .slice none 0 0, .slice none 0 0, .int .i64 0] 57) = W := ⟨_, rfl⟩
          obtain ⟨N3, hN3⟩ : ∃ N, V2.heap.size = N := ⟨_, rfl⟩
          rw [hW3a] at L3a Y3 P2 O2 ⊢
          rw [hN3] at Y3 hNY3 ⊢
          clear hW3a hN3
          refine wpAnyH_ready (rs := [5]) (by kernel_rfl) (by simp) ?_
          refine AllReadyH.cons rfl (fun K hK => ?_) (AllReadyH.nil)
          go_simp
          refine (C3 _ L3a hG.out).mono ?_
          rintro e V9 ⟨uc, um, rfl, T2, b9⟩
          have L9c := L3a.on b9
          have Y3c := Y3.on b9 Y3.lt; have hNY3c := hNY3
          have P2 := P2.on b9
          have O2 := O2.on b9 (Nat.le_refl _)
          go_simp
          refine hK.out _ _ L9c.cells (fun _ => ?_)
          clear hK K
          try simp only [Act.put, List.setIfInBounds_toArray, List.set_cons_zero, List.set_cons_succ]
          refine wpAnyH_ready (rs := [6]) (by kernel_rfl) (by simp) ?_
          refine AllReadyH.cons rfl (fun K hK => ?_) (AllReadyH.nil)
          go_simp
          refine (SP _ _ _ _ _ _ _ P2.seesP O2.sees T2.sees (Nat.le_refl _) hF.out (by omega)).mono ?_
          rintro e V10 ⟨q, vr, vq, vy, rfl, hq, R1, R2, d1, d2, b10⟩
          have L10c := L9c.on b10
          have Y3cc := Y3c.on b10 Y3c.lt; have hNY3cc := hNY3c
          have P2 := P2.on b10
          have O2 := O2.on b10 (Nat.le_refl _)
          have T2 := T2.on b10
          have hz := L9c.b.size
          obtain ⟨ar, cr, rfl⟩ := R1.form
          obtain ⟨aq, cq, rfl⟩ := R2.c.form
          obtain ⟨ay, cy, rfl⟩ := R2.m.form
          clear P2 O2 T2
          go_simp
          refine hK.out _ _ L10c.cells (fun _ => ?_)
          clear hK K
          try simp only [Act.put, List.setIfInBounds_toArray, List.set_cons_zero, List.set_cons_succ]
          have y11 := fun i => Y3cc.cell i; have yf11 := fun i => Y3cc.froz i
          refine wpAnyH_ready (rs := [8]) (by kernel_rfl) (by simp) ?_
          refine AllReadyH.cons rfl (fun K hK => ?_) AllReadyH.nil
          go_simp
          have hS11 := L10c.five hNY3cc (.int .i64 q.out) (.slice ar q.r.length cr) (.slice aq q.t.c.length cq) (.slice ay q.t.m.length cy) (.int .i64 q.t.n)
          have hY11 := RunAt.stored Y3cc (R1.mono hz) (R2.mono hz) d1 d2
          refine hK.out _ _ hS11.cells (fun _ => ?_)
          clear hK K
          refine wpAnyH_done (by kernel_rfl) ?_ _
          exact ⟨rfl, _, q, _, _, _, _, _, _, _, _, _, rfl, hS11, hq, hY11, hNY3cc⟩
      · go_simp
        have A2 := alloc_below V1 (.cells #[.int .i64 0, .slice none 0 0, .slice none 0 0, .slice none 0 0, .int .i64 0] 57)
        have Y2 := Blk.new V1 #[.int .i64 0, .slice none 0 0, .slice none 0 0, .slice none 0 0, .int .i64 0] 57
        have L2a := L1c.on A2
        have hNY2 := L1c.big
        have P2 := P2.on A2
        refine hK.out _ _ L2a.cells (fun _ => ?_)
        clear hK K A2
        try simp only [Act.put, List.setIfInBounds_toArray, List.set_cons_zero, List.set_cons_succ]
        obtain ⟨W2a, hW2a⟩ : ∃ W, V1.alloc (.cells #[.int .i64 0, .slice none 0 0, .slice none 0 0, .slice none 0 0, .int .i64 0] 57) = W := ⟨_, rfl⟩
        obtain ⟨N2, hN2⟩ : ∃ N, V1.heap.size = N := ⟨_, rfl⟩
        rw [hW2a] at L2a Y2 P2 ⊢
        rw [hN2] at Y2 hNY2 ⊢
        clear hW2a hN2
        refine wpAnyH_ready (rs := [3]) (by kernel_rfl) (by simp) ?_
        refine AllReadyH.cons rfl (fun K hK => ?_) (AllReadyH.nil)
        go_simp
        refine (C2 _ L2a (by omega)).mono ?_
        rintro e V12 ⟨uO, rfl, O2, b12⟩
        have L12c := L2a.on b12
        have Y2c := Y2.on b12 Y2.lt; have hNY2c := hNY2
        have P2 := P2.on b12
        go_simp
        refine hK.out _ _ L12c.cells (fun _ => ?_)
        clear hK K
        try simp only [Act.put, List.setIfInBounds_toArray, List.set_cons_zero, List.set_cons_succ]
        refine wpAnyH_ready (rs := [5]) (by kernel_rfl) (by simp) ?_
        refine AllReadyH.cons rfl (fun K hK => ?_) (AllReadyH.nil)
        go_simp
        refine (C3 _ L12c hG.out).mono ?_
        rintro e V13 ⟨uc, um, rfl, T2, b13⟩
        have L13c := L12c.on b13
        have Y2cc := Y2c.on b13 Y2c.lt; have hNY2cc := hNY2c
        have P2 := P2.on b13
        have O2 := O2.on b13 (Nat.le_refl _)
        go_simp
        refine hK.out _ _ L13c.cells (fun _ => ?_)
        clear hK K
        try simp only [Act.put, List.setIfInBounds_toArray, List.set_cons_zero, List.set_cons_succ]
        refine wpAnyH_ready (rs := [6]) (by kernel_rfl) (by simp) ?_
        refine AllReadyH.cons rfl (fun K hK => ?_) (AllReadyH.nil)
        go_simp
        refine (SP _ _ _ _ _ _ _ P2.seesP O2.sees T2.sees (Nat.le_refl _) hF.out (by omega)).mono ?_
        rintro e V14 ⟨q, vr, vq, vy, rfl, hq, R1, R2, d1, d2, b14⟩
        have L14c := L13c.on b14
        have Y2ccc := Y2cc.on b14 Y2cc.lt; have hNY2ccc := hNY2cc
        have P2 := P2.on b14
        have O2 := O2.on b14 (Nat.le_refl _)
        have T2 := T2.on b14
        have hz := L13c.b.size
        obtain ⟨ar, cr, rfl⟩ := R1.form
        obtain ⟨aq, cq, rfl⟩ := R2.c.form
        obtain ⟨ay, cy, rfl⟩ := R2.m.form
        clear P2 O2 T2
        go_simp
        refine hK.out _ _ L14c.cells (fun _ => ?_)
        clear hK K
        try simp only [Act.put, List.setIfInBounds_toArray, List.set_cons_zero, List.set_cons_succ]
        have y15 := fun i => Y2ccc.cell i; have yf15 := fun i => Y2ccc.froz i
        refine wpAnyH_ready (rs := [8]) (by kernel_rfl) (by simp) ?_
        refine AllReadyH.cons rfl (fun K hK => ?_) AllReadyH.nil
        go_simp
        have hS15 := L14c.five hNY2ccc (.int .i64 q.out) (.slice ar q.r.length cr) (.slice aq q.t.c.length cq) (.slice ay q.t.m.length cy) (.int .i64 q.t.n)
        have hY15 := RunAt.stored Y2ccc (R1.mono hz) (R2.mono hz) d1 d2
        refine hK.out _ _ hS15.cells (fun _ => ?_)
        clear hK K
        refine wpAnyH_done (by kernel_rfl) ?_ _
        exact ⟨rfl, _, q, _, _, _, _, _, _, _, _, _, rfl, hS15, hq, hY15, hNY2ccc⟩
    · go_simp
      have A1 := alloc_below WD (.cells #[.int .i64 0, .slice none 0 0, .slice none 0 0, .slice none 0 0, .int .i64 0] 57)
      have Y1 := Blk.new WD #[.int .i64 0, .slice none 0 0, .slice none 0 0, .slice none 0 0, .int .i64 0] 57
      have L1a := LD.on A1
      have hNY1 := LD.big
      refine hK.out _ _ L1a.cells (fun _ => ?_)
      clear hK K A1
      try simp only [Act.put, List.setIfInBounds_toArray, List.set_cons_zero, List.set_cons_succ]
      obtain ⟨W1a, hW1a⟩ : ∃ W, WD.alloc (.cells #[.int .i64 0, .slice none 0 0, .slice none 0 0, .slice none 0 0, .int .i64 0] 57) = W := ⟨_, rfl⟩
      obtain ⟨N1, hN1⟩ : ∃ N, WD.heap.size = N := ⟨_, rfl⟩
      rw [hW1a] at L1a Y1  ⊢
      rw [hN1] at Y1 hNY1 ⊢
      clear hW1a hN1
      refine wpAnyH_ready (rs := [1]) (by kernel_rfl) (by simp) ?_
      refine AllReadyH.cons rfl (fun K hK => ?_) (AllReadyH.nil)
      go_simp
      refine (C1 _ L1a hF.out).mono ?_
      rintro e V16 ⟨uC, uK, us, rfl, P2, b16⟩
      have L16c := L1a.on b16
      have Y1c := Y1.on b16 Y1.lt; have hNY1c := hNY1
      go_simp
      refine hK.out _ _ L16c.cells (fun _ => ?_)
      clear hK K
      try simp only [Act.put, List.setIfInBounds_toArray, List.set_cons_zero, List.set_cons_succ]
      refine wpAnyH_ready (rs := [3]) (by kernel_rfl) (by simp) ?_
      refine AllReadyH.cons rfl (fun K hK => ?_) (AllReadyH.nil)
      go_simp
      refine (C2 _ L16c (by omega)).mono ?_
      rintro e V17 ⟨uO, rfl, O2, b17⟩
      have L17c := L16c.on b17
      have Y1cc := Y1c.on b17 Y1c.lt; have hNY1cc := hNY1c
      have P2 := P2.on b17
      go_simp
      refine hK.out _ _ L17c.cells (fun _ => ?_)
      clear hK K
      try simp only [Act.put, List.setIfInBounds_toArray, List.set_cons_zero, List.set_cons_succ]
      refine wpAnyH_ready (rs := [5]) (by kernel_rfl) (by simp) ?_
      refine AllReadyH.cons rfl (fun K hK => ?_) (AllReadyH.nil)
      go_simp
      refine (C3 _ L17c hG.out).mono ?_
      rintro e V18 ⟨uc, um, rfl, T2, b18⟩
      have L18c := L17c.on b18
      have Y1ccc := Y1cc.on b18 Y1cc.lt; have hNY1ccc := hNY1cc
      have P2 := P2.on b18
      have O2 := O2.on b18 (Nat.le_refl _)
      go_simp
      refine hK.out _ _ L18c.cells (fun _ => ?_)
      clear hK K
      try simp only [Act.put, List.setIfInBounds_toArray, List.set_cons_zero, List.set_cons_succ]
      refine wpAnyH_ready (rs := [6]) (by kernel_rfl) (by simp) ?_
      refine AllReadyH.cons rfl (fun K hK => ?_) (AllReadyH.nil)
      go_simp
      refine (SP _ _ _ _ _ _ _ P2.seesP O2.sees T2.sees (Nat.le_refl _) hF.out (by omega)).mono ?_
      rintro e V19 ⟨q, vr, vq, vy, rfl, hq, R1, R2, d1, d2, b19⟩
      have L19c := L18c.on b19
      have Y1cccc := Y1ccc.on b19 Y1ccc.lt; have hNY1cccc := hNY1ccc
      have P2 := P2.on b19
      have O2 := O2.on b19 (Nat.le_refl _)
      have T2 := T2.on b19
      have hz := L18c.b.size
      obtain ⟨ar, cr, rfl⟩ := R1.form
      obtain ⟨aq, cq, rfl⟩ := R2.c.form
      obtain ⟨ay, cy, rfl⟩ := R2.m.form
      clear P2 O2 T2
      go_simp
      refine hK.out _ _ L19c.cells (fun _ => ?_)
      clear hK K
      try simp only [Act.put, List.setIfInBounds_toArray, List.set_cons_zero, List.set_cons_succ]
      have y20 := fun i => Y1cccc.cell i; have yf20 := fun i => Y1cccc.froz i
      refine wpAnyH_ready (rs := [8]) (by kernel_rfl) (by simp) ?_
      refine AllReadyH.cons rfl (fun K hK => ?_) AllReadyH.nil
      go_simp
      have hS20 := L19c.five hNY1cccc (.int .i64 q.out) (.slice ar q.r.length cr) (.slice aq q.t.c.length cq) (.slice ay q.t.m.length cy) (.int .i64 q.t.n)
      have hY20 := RunAt.stored Y1cccc (R1.mono hz) (R2.mono hz) d1 d2
      refine hK.out _ _ hS20.cells (fun _ => ?_)
      clear hK K
      refine wpAnyH_done (by kernel_rfl) ?_ _
      exact ⟨rfl, _, q, _, _, _, _, _, _, _, _, _, rfl, hS20, hq, hY20, hNY1cccc⟩

  rintro e a' W3 ⟨rfl, N0, q, ar, cr, aq, cq, ay, cy, v31, v33, v35, rfl, L3, hq, R3, hN0⟩
  clear L2 k0 k1 j0 j1 j2
  have k0 := L3.p.cell 0; have k1 := L3.p.cell 1
  go_wp2_with fail
  clear k0 k1
  refine (C1 W3 L3 hF.out).mono ?_
  rintro e w4 ⟨uC, uK, us, rfl, P4, b4⟩
  obtain ⟨a4, p4, rfl⟩ := P4.c.form
  obtain ⟨a5, p5, rfl⟩ := P4.k.row.form
  have hus := P4.k.len.trans hnk
  rw [hnx, hus] at P4 ⊢
  have L4 := L3.on b4; have R4 := R3.on b4
  have P4 := P4.mono L3.b.size
  clear L3 R3 b4
  have b5 := alloc_below w4 (.cells #[.slice a4 nx p4, .slice a5 nk p5] 62)
  have X5 := Blk.new w4 #[.slice a4 nx p4, .slice a5 nk p5] 62
  have L5 := L4.on b5; have R5 := R4.on b5; have P5 := P4.on b5
  have hN1 := L4.big
  obtain ⟨W5, hW5⟩ : ∃ W, w4.alloc (.cells #[.slice a4 nx p4, .slice a5 nk p5] 62) = W := ⟨_, rfl⟩
  rw [hW5] at X5 L5 R5 P5
  have i0 := X5.cell 0; have i1 := X5.cell 1
  have if0 := fun i => X5.froz i
  clear L4 R4 P4 b5
  go_wp2_with fail
  clear i0 i1 if0
  refine (C2 W5 L5 (by omega)).mono ?_
  rintro e w6 ⟨uO, rfl, O6, b6⟩
  obtain ⟨a6, p6, rfl⟩ := O6.form
  rw [hnz] at O6 ⊢
  have ap1 : ∀ k, Three (.slice ar q.r.length cr) (.slice aq q.t.c.length cq) (.slice ay q.t.m.length cy) k → ¬ One (.slice a6 nz p6) k := fun k h1 h2 => by have := (R5.rows k h1).2.2; have := (O6.at k h2).1; omega
  have L6 := L5.on b6; have R6 := R5.on b6; have P6 := P5.on b6; have X6 := X5.on b6 X5.lt
  have O6 := O6.mono L5.b.size
  clear L5 R5 P5 X5 b6
  have j0 := L6.s.cell 0; have j1 := L6.s.cell 1; have j2 := L6.s.cell 2
  go_wp2_with fail
  clear j0 j1 j2
  refine (C3 w6 L6 hG.out).mono ?_
  rintro e w7 ⟨uc, um, rfl, T7, b7⟩
  obtain ⟨a7, p7, rfl⟩ := T7.c.form
  obtain ⟨a8, p8, rfl⟩ := T7.m.form
  rw [hnc, hnm] at T7 ⊢
  have ap2 : ∀ k, Three (.slice ar q.r.length cr) (.slice aq q.t.c.length cq) (.slice ay q.t.m.length cy) k → ¬ Two (.slice a7 nc p7) (.slice a8 nm p8) k := fun k h1 h2 => by have := (R6.rows k h1).2.2; have := (T7.rows k h2).2.1; omega
  have ap3 : ∀ k, Two (.slice a7 nc p7) (.slice a8 nm p8) k → ¬ One (.slice a6 nz p6) k := fun k h1 h2 => by have := (T7.rows k h1).2.1; have := (O6.at k h2).2; omega
  have L7 := L6.on b7; have R7 := R6.on b7; have P7 := P6.on b7; have X7 := X6.on b7 X6.lt; have O7 := O6.on b7 (Nat.le_refl _)
  have T7 := T7.mono L6.b.size
  clear L6 R6 P6 X6 O6 b7
  have b8 := alloc_below w7 (.cells #[.slice a7 nc p7, .slice a8 nm p8, .int .i64 t.n] 49)
  have Y8 := Blk.new w7 #[.slice a7 nc p7, .slice a8 nm p8, .int .i64 t.n] 49
  have L8 := L7.on b8; have R8 := R7.on b8; have P8 := P7.on b8; have X8 := X7.on b8 X7.lt; have O8 := O7.on b8 (Nat.le_refl _); have T8 := T7.on b8
  obtain ⟨W8, hW8⟩ : ∃ W, w7.alloc (.cells #[.slice a7 nc p7, .slice a8 nm p8, .int .i64 t.n] 49) = W := ⟨_, rfl⟩
  rw [hW8] at Y8 L8 R8 P8 X8 O8 T8
  have i0 := X8.cell 0; have i1 := X8.cell 1
  have j0 := Y8.cell 0; have j1 := Y8.cell 1; have j2 := Y8.cell 2
  have jf0 := fun i => Y8.froz i
  clear L7 R7 P7 X7 O7 T7 b8
  go_wp2_with fail
  clear i0 i1 j0 j1 j2 jf0
  refine (IM _ W8 _ _ _ _ _ P8.seesP O8.sees T8.sees (Nat.le_refl _) hF.out (by omega)).mono ?_
  rintro e w9 ⟨qq, vr, vq, vy, rfl, hqq, r9, t9, d3, d4, b9⟩
  obtain rfl := hqq.unique hq
  obtain ⟨ar', cr', rfl⟩ := r9.form
  obtain ⟨aq', cq', rfl⟩ := t9.c.form
  obtain ⟨ay', cy', rfl⟩ := t9.m.form
  have hz8 := L8.b.size
  have lo : ∀ k, Three (.slice ar' qq.r.length cr') (.slice aq' qq.t.c.length cq') (.slice ay' qq.t.m.length cy') k → W8.heap.size ≤ k := fun k h => by
    rcases h with h | h | h
    · exact (r9.at k h).1
    · exact (t9.c.at k h).1
    · exact (t9.m.at k h).1
  have ap4 : ∀ k, Three (.slice ar qq.r.length cr) (.slice aq qq.t.c.length cq) (.slice ay qq.t.m.length cy) k → ¬ Three (.slice ar' qq.r.length cr') (.slice aq' qq.t.c.length cq') (.slice ay' qq.t.m.length cy') k := fun k h1 h2 => by have := (R8.rows k h1).2.2; have := lo k h2; omega
  have ap5 : ∀ k, Three (.slice ar' qq.r.length cr') (.slice aq' qq.t.c.length cq') (.slice ay' qq.t.m.length cy') k → ¬ One (.slice a6 nz p6) k := fun k h1 h2 => by have := (O8.at k h2).2; have := lo k h1; omega
  have ap6 : ∀ k, Three (.slice ar' qq.r.length cr') (.slice aq' qq.t.c.length cq') (.slice ay' qq.t.m.length cy') k → ¬ Two (.slice a7 nc p7) (.slice a8 nm p8) k := fun k h1 h2 => by have := (T8.rows k h2).2.2; have := lo k h1; omega
  clear lo
  have r9 := r9.mono hz8; have t9 := t9.mono hz8
  have L9 := L8.on b9; have R9 := R8.on b9; have P9 := P8.on b9; have X9 := X8.on b9 X8.lt; have Y9 := Y8.on b9 Y8.lt; have O9 := O8.on b9 (Nat.le_refl _); have T9 := T8.on b9
  clear L8 R8 P8 X8 Y8 O8 T8 b9 hz8 hqq
  have b10 := alloc_below w9 (.cells #[.int .i64 qq.out, .slice ar' qq.r.length cr', .slice aq' qq.t.c.length cq', .slice ay' qq.t.m.length cy', .int .i64 qq.t.n] 57)
  have G0 : RunAt w.heap.size _ w9.heap.size qq _ _ _ := { y := Blk.new w9 #[.int .i64 qq.out, .slice ar' qq.r.length cr', .slice aq' qq.t.c.length cq', .slice ay' qq.t.m.length cy', .int .i64 qq.t.n] 57, r := r9.on b10 (Nat.le_refl _), t := t9.on b10, d1 := d3, d2 := d4 }
  have L10 := L9.on b10; have R10 := R9.on b10; have P10 := P9.on b10; have X10 := X9.on b10 X9.lt; have Y10 := Y9.on b10 Y9.lt; have O10 := O9.on b10 (Nat.le_refl _); have T10 := T9.on b10
  obtain ⟨W10, hW10⟩ : ∃ W, w9.alloc (.cells #[.int .i64 qq.out, .slice ar' qq.r.length cr', .slice aq' qq.t.c.length cq', .slice ay' qq.t.m.length cy', .int .i64 qq.t.n] 57) = W := ⟨_, rfl⟩
  rw [hW10] at G0 L10 R10 P10 X10 Y10 O10 T10
  clear L9 R9 P9 X9 Y9 O9 T9 b10 r9 t9
  have g0 := fun i => G0.y.cell i; have gf := fun i => G0.y.froz i
  have s0 := fun i => R10.y.cell i
  go_wp2_with fail
  clear g0 gf s0
  refine (eqRunC _ _ _ _ _ _ _ qq.r qq.t _ W10 G0.r.sees R10.r.sees G0.t.sees R10.t.sees (Nat.le_refl _)).mono ?_
  rintro e w11 ⟨rfl, b11⟩
  obtain ⟨pX, hpX⟩ : ∃ p, w4.heap.size = p := ⟨_, rfl⟩
  obtain ⟨pY, hpY⟩ : ∃ p, w7.heap.size = p := ⟨_, rfl⟩
  obtain ⟨N1, hN1'⟩ : ∃ p, w9.heap.size = p := ⟨_, rfl⟩
  rw [hpX] at X10 ⊢
  rw [hpY] at Y10 ⊢
  rw [hN1'] at G0 ⊢
  have L := L10.on b11; have R := R10.on b11; have G := G0.on b11; have P := P10.on b11; have X := X10.on b11 X10.lt; have Y := Y10.on b11 Y10.lt; have O := O10.on b11 (Nat.le_refl _); have T := T10.on b11
  clear L10 R10 G0 P10 X10 Y10 O10 T10 b11 hpX hpY hN1'
  obtain ⟨s1, s2, s3⟩ := told_small hq
  have hcells : (w11.cell? ⟨pX, 0, none⟩ = some (.slice a4 nx p4) ∧ w11.cell? ⟨pX, 1, none⟩ = some (.slice a5 nk p5)) ∧ (w11.cell? ⟨w.heap.size, 0, none⟩ = some (.slice ac nx cc) ∧ w11.cell? ⟨w.heap.size, 1, none⟩ = some (.slice ak nk ck)) := ⟨⟨X.cell 0, X.cell 1⟩, L.p.cell 0, L.p.cell 1⟩
  go_wp2_with fail
  replace L := L.drew
  replace R := R.drew
  replace G := G.drew
  replace P := P.on (drew_below _)
  replace X := X.drew
  replace Y := Y.drew
  replace O := O.on (drew_below _) (Nat.le_refl _)
  replace T := T.on (drew_below _)
  obtain ⟨WD, hWD⟩ : ∃ WD, w11.drew = WD := ⟨_, rfl⟩
  refine wp_region_held_drew (S := fun W => (W.cell? ⟨pX, 0, none⟩ = some (.slice a4 nx p4) ∧ W.cell? ⟨pX, 1, none⟩ = some (.slice a5 nk p5)) ∧ (W.cell? ⟨w.heap.size, 0, none⟩ = some (.slice ac nx cc) ∧ W.cell? ⟨w.heap.size, 1, none⟩ = some (.slice ak nk ck))) (by kernel_rfl) hcells (fun hHeld => ?_)
  rw [hWD] at L R G P X Y O T hHeld ⊢
  clear hWD hcells
  refine takeH (i := 0) (some 51) (.agg #[.slice a4 nx p4, .slice a5 nk p5]) rfl rfl (by kernel_rfl) (by kernel_rfl) (by kernel_rfl) (fun _ _ _ h => h) (Or.inl ⟨by rfl, fun w hSw => by (try dsimp only at hSw); go_simp⟩) (by assumption) ?_
  simp only [Act.put, List.setIfInBounds_toArray, List.set_cons_zero, List.set_cons_succ]
  refine takeH (i := 1) (some 52) (.agg #[.slice ac nx cc, .slice ak nk ck]) rfl rfl (by kernel_rfl) (by kernel_rfl) (by kernel_rfl) (fun _ _ _ h => h) (Or.inl ⟨by rfl, fun w hSw => by (try dsimp only at hSw); go_simp⟩) (by assumption) ?_
  simp only [Act.put, List.setIfInBounds_toArray, List.set_cons_zero, List.set_cons_succ]
  refine wpAnyH_ready (rs := [2]) (by kernel_rfl) (by simp) ?_
  refine AllReadyH.cons rfl (fun K hK => ?_) AllReadyH.nil
  go_simp
  refine (C1 _ L hF.out).mono ?_
  rintro e V0 ⟨uC2, uK2, us2, rfl, Q2, b⟩
  replace L := L.on b
  replace R := R.on b
  replace G := G.on b
  replace P := P.on b
  replace X := X.on b X.lt
  replace Y := Y.on b Y.lt
  replace O := O.on b (Nat.le_refl _)
  replace T := T.on b
  clear b
  go_simp
  refine hK.out _ _ ⟨⟨X.cell 0, X.cell 1⟩, L.p.cell 0, L.p.cell 1⟩ (fun _ => ?_)
  clear hK K
  try simp only [Act.put, List.setIfInBounds_toArray, List.set_cons_zero, List.set_cons_succ]
  refine wpAnyH_ready (rs := [3]) (by kernel_rfl) (by simp) ?_
  refine AllReadyH.cons rfl (fun K hK => ?_) AllReadyH.nil
  go_simp
  refine (eqProgC _ _ _ _ xs kss _ _ P.seesP Q2.seesP (Nat.le_refl _)).mono ?_
  rintro e V1 ⟨rfl, b⟩
  replace L := L.on b
  replace R := R.on b
  replace G := G.on b
  replace P := P.on b
  replace X := X.on b X.lt
  replace Y := Y.on b Y.lt
  replace O := O.on b (Nat.le_refl _)
  replace T := T.on b
  clear b
  go_simp
  refine hK.out _ _ ⟨⟨X.cell 0, X.cell 1⟩, L.p.cell 0, L.p.cell 1⟩ (fun _ => ?_)
  clear hK K
  try simp only [Act.put, List.setIfInBounds_toArray, List.set_cons_zero, List.set_cons_succ]
  refine takeH (i := 4) (some 55) (.bool false) rfl rfl (by kernel_rfl) (by kernel_rfl) (by kernel_rfl) (fun _ _ _ h => h) (Or.inl ⟨by rfl, fun w hSw => by (try dsimp only at hSw); go_simp⟩) (by assumption) ?_
  try simp only [Act.put, List.setIfInBounds_toArray, List.set_cons_zero, List.set_cons_succ]
  refine wpAnyH_done (by kernel_rfl) ?_ _
  clear hHeld
  clear Q2
  go_wp2_with fail
  refine (C2 _ L (by omega)).mono ?_
  rintro e w12 ⟨uO2, rfl, Q2, b⟩
  replace L := L.on b
  replace R := R.on b
  replace G := G.on b
  replace P := P.on b
  replace X := X.on b X.lt
  replace Y := Y.on b Y.lt
  replace O := O.on b (Nat.le_refl _)
  replace T := T.on b
  clear b
  obtain ⟨a12, p12, rfl⟩ := Q2.form
  rw [hnz] at Q2 ⊢
  go_wp2_with fail
  refine (Ints.eqIntsC _ _ zs _ w12 O.sees Q2.sees (Nat.le_refl _)).mono ?_
  rintro e w13 ⟨rfl, b⟩
  clear Q2
  replace L := L.on b
  replace R := R.on b
  replace G := G.on b
  replace P := P.on b
  replace X := X.on b X.lt
  replace Y := Y.on b Y.lt
  replace O := O.on b (Nat.le_refl _)
  replace T := T.on b
  clear b
  have hcells : (w13.cell? ⟨pY, 0, none⟩ = some (.slice a7 nc p7) ∧ w13.cell? ⟨pY, 1, none⟩ = some (.slice a8 nm p8) ∧ w13.cell? ⟨pY, 2, none⟩ = some (.int .i64 t.n)) ∧ (w13.cell? ⟨w.heap.size + 1, 0, none⟩ = some (.slice ax nc cx) ∧ w13.cell? ⟨w.heap.size + 1, 1, none⟩ = some (.slice am nm cm) ∧ w13.cell? ⟨w.heap.size + 1, 2, none⟩ = some (.int .i64 t.n)) := ⟨⟨Y.cell 0, Y.cell 1, Y.cell 2⟩, L.s.cell 0, L.s.cell 1, L.s.cell 2⟩
  go_wp2_with fail
  replace L := L.drew
  replace R := R.drew
  replace G := G.drew
  replace P := P.on (drew_below _)
  replace X := X.drew
  replace Y := Y.drew
  replace O := O.on (drew_below _) (Nat.le_refl _)
  replace T := T.on (drew_below _)
  obtain ⟨WD, hWD⟩ : ∃ WD, w13.drew = WD := ⟨_, rfl⟩
  refine wp_region_held_drew (S := fun W => (W.cell? ⟨pY, 0, none⟩ = some (.slice a7 nc p7) ∧ W.cell? ⟨pY, 1, none⟩ = some (.slice a8 nm p8) ∧ W.cell? ⟨pY, 2, none⟩ = some (.int .i64 t.n)) ∧ (W.cell? ⟨w.heap.size + 1, 0, none⟩ = some (.slice ax nc cx) ∧ W.cell? ⟨w.heap.size + 1, 1, none⟩ = some (.slice am nm cm) ∧ W.cell? ⟨w.heap.size + 1, 2, none⟩ = some (.int .i64 t.n))) (by kernel_rfl) hcells (fun hHeld => ?_)
  rw [hWD] at L R G P X Y O T hHeld ⊢
  clear hWD hcells
  refine takeH (i := 0) (some 61) (.agg #[.slice a7 nc p7, .slice a8 nm p8, .int .i64 t.n]) rfl rfl (by kernel_rfl) (by kernel_rfl) (by kernel_rfl) (fun _ _ _ h => h) (Or.inl ⟨by rfl, fun w hSw => by (try dsimp only at hSw); go_simp⟩) (by assumption) ?_
  simp only [Act.put, List.setIfInBounds_toArray, List.set_cons_zero, List.set_cons_succ]
  refine takeH (i := 1) (some 62) (.agg #[.slice ax nc cx, .slice am nm cm, .int .i64 t.n]) rfl rfl (by kernel_rfl) (by kernel_rfl) (by kernel_rfl) (fun _ _ _ h => h) (Or.inl ⟨by rfl, fun w hSw => by (try dsimp only at hSw); go_simp⟩) (by assumption) ?_
  simp only [Act.put, List.setIfInBounds_toArray, List.set_cons_zero, List.set_cons_succ]
  refine wpAnyH_ready (rs := [2]) (by kernel_rfl) (by simp) ?_
  refine AllReadyH.cons rfl (fun K hK => ?_) AllReadyH.nil
  go_simp
  refine (C3 _ L hG.out).mono ?_
  rintro e V0 ⟨uC2, uK2, rfl, Q2, b⟩
  replace L := L.on b
  replace R := R.on b
  replace G := G.on b
  replace P := P.on b
  replace X := X.on b X.lt
  replace Y := Y.on b Y.lt
  replace O := O.on b (Nat.le_refl _)
  replace T := T.on b
  clear b
  go_simp
  refine hK.out _ _ ⟨⟨Y.cell 0, Y.cell 1, Y.cell 2⟩, L.s.cell 0, L.s.cell 1, L.s.cell 2⟩ (fun _ => ?_)
  clear hK K
  try simp only [Act.put, List.setIfInBounds_toArray, List.set_cons_zero, List.set_cons_succ]
  refine wpAnyH_ready (rs := [3]) (by kernel_rfl) (by simp) ?_
  refine AllReadyH.cons rfl (fun K hK => ?_) AllReadyH.nil
  go_simp
  refine (eqThC _ _ _ _ t _ _ T.sees Q2.sees (Nat.le_refl _)).mono ?_
  rintro e V1 ⟨rfl, b⟩
  replace L := L.on b
  replace R := R.on b
  replace G := G.on b
  replace P := P.on b
  replace X := X.on b X.lt
  replace Y := Y.on b Y.lt
  replace O := O.on b (Nat.le_refl _)
  replace T := T.on b
  clear b
  go_simp
  refine hK.out _ _ ⟨⟨Y.cell 0, Y.cell 1, Y.cell 2⟩, L.s.cell 0, L.s.cell 1, L.s.cell 2⟩ (fun _ => ?_)
  clear hK K
  try simp only [Act.put, List.setIfInBounds_toArray, List.set_cons_zero, List.set_cons_succ]
  refine takeH (i := 4) (some 65) (.bool false) rfl rfl (by kernel_rfl) (by kernel_rfl) (by kernel_rfl) (fun _ _ _ h => h) (Or.inl ⟨by rfl, fun w hSw => by (try dsimp only at hSw); go_simp⟩) (by assumption) ?_
  try simp only [Act.put, List.setIfInBounds_toArray, List.set_cons_zero, List.set_cons_succ]
  refine wpAnyH_done (by kernel_rfl) ?_ _
  clear hHeld
  clear Q2
  have x0 := X.cell 0; have x1 := X.cell 1
  go_wp2_with fail
  clear x0 x1
  refine (markProgB _ _ _ xs kss _ _ P L.b.size hF.out.1 hF.out.2.1 hF.out.2.2).mono ?_
  rintro e w14 ⟨rfl, -, bB, hkp⟩
  obtain ⟨m1, m2⟩ := markEnd_le hF.out
  obtain ⟨ke, hke⟩ : ∃ k, markEnd xs kss = k := ⟨_, rfl⟩
  rw [hke] at m1 m2 ⊢
  clear hke P X
  replace L := L.keepB bB hkp; replace R := R.keepB hkp; replace G := G.keepB hkp; replace Y := hkp _ _ _ (by decide) Y; replace O := ownsKeepB O hkp; replace T := T.keepB hkp
  clear bB hkp
  go_wp2_with fail
  refine (Ints.markIntsK _ zs ke (by omega) (by omega) _ w14 O (by omega)).mono ?_
  rintro e w15 ⟨rfl, -, gI⟩
  have hc := Chg.grown (S := One (.slice a6 nz p6)) gI (fun k hk => hk)
  replace L := L.chg hc (own_one O); replace R := R.chg hc (fun k hk => (own_one O k hk).1) ap1; replace G := G.chg hc (fun k hk => (own_one O k hk).1) ap5
  replace Y := hc.blkI (fun k hk => (own_one O k hk).1) Y (by decide); replace T := T.chg hc ap3
  clear hc gI O ap1 ap3 ap5
  rw [hnz]
  have y0 := Y.cell 0; have y1 := Y.cell 1; have y2 := Y.cell 2
  go_wp2_with fail
  clear y0 y1 y2
  refine (markThC _ _ t (ke + (nz : Int)) (by omega) (by omega) _ w15 T hG.out).mono ?_
  rintro e w16 ⟨rfl, -, -, hc⟩
  replace L := L.chg hc T.rows; replace R := R.chg hc (fun k hk => (T.rows k hk).1) ap2; replace G := G.chg hc (fun k hk => (T.rows k hk).1) ap6
  clear hc T Y ap2 ap6
  rw [hnc, hnm]
  have q1n : ¬ (ke + (nz : Int) + (nc : Int) + (nm : Int) < 0) := by omega
  have q1d : decide (ke + (nz : Int) + (nc : Int) + (nm : Int) < 0) = false := decide_eq_false q1n
  have g0 := fun i => G.y.cell i; have r0 := fun i => R.y.cell i
  go_wp2_with fail
  clear g0 r0 q1n q1d
  refine (eqRunC _ _ _ _ _ _ _ qq.r qq.t _ w16 G.r.sees R.r.sees G.t.sees R.t.sees (Nat.le_refl _)).mono ?_
  rintro e w17 ⟨rfl, b⟩
  replace L := L.on b
  replace R := R.on b
  replace G := G.on b
  clear b
  have g0 := fun i => G.y.cell i
  go_wp2_with fail
  clear g0
  refine (markRunC _ _ _ _ qq.r qq.t 1 (by omega) (by omega) _ w17 G.r G.t G.d1 G.d2 (by omega) ⟨by omega, by omega⟩).mono ?_
  rintro e w18 ⟨rfl, M1, M2, M3, hc⟩
  have M : RunMk w.heap.size w18 N1 qq.out qq.t.n ar' aq' ay' qq.r.length qq.t.c.length qq.t.m.length cr' cq' cy' := { y := hc.blkI (fun k hk => (G.rows k hk).1) G.y (by decide), r := M1, c := M2, m := M3 }
  replace L := L.chg hc G.rows; replace R := R.chg hc (fun k hk => (G.rows k hk).1) ap4
  clear hc G M1 M2 M3 ap4
  have g0 := fun i => M.y.cell i
  go_wp2_with fail
  clear g0
  refine (heldRunC _ _ _ _ _ qq.r.length qq.t.c.length qq.t.m.length 1 (by omega) (by omega) _ w18 M.r.sees M.c.sees M.m.sees (Nat.le_refl _) (by omega) (by omega) (by omega)).mono ?_
  rintro e w19 ⟨rfl, b⟩
  replace L := L.on b
  replace R := R.on b
  replace M := M.on b
  clear b
  have q1n : ¬ (1 + (qq.r.length : Int) + (qq.t.c.length : Int) + (qq.t.m.length : Int) < 0) := by omega
  have LD := L.drew; have RD := R.drew; have MD := M.drew
  have hcells := L.cells
  go_wp2_with fail
  clear q1n L R M
  obtain ⟨WD, hWD⟩ : ∃ WD, w19.drew = WD := ⟨_, rfl⟩
  refine wp_region_held_drew (S := fun W => W.cell? ⟨w.heap.size, 0, none⟩ = some (.slice ac nx cc) ∧ W.cell? ⟨w.heap.size, 1, none⟩ = some (.slice ak nk ck) ∧ W.cell? ⟨w.heap.size + 1, 0, none⟩ = some (.slice ax nc cx) ∧ W.cell? ⟨w.heap.size + 1, 1, none⟩ = some (.slice am nm cm) ∧ W.cell? ⟨w.heap.size + 1, 2, none⟩ = some (.int .i64 t.n)) (by kernel_rfl) hcells (fun hHeld => ?_)
  rw [hWD] at LD RD MD hHeld ⊢
  clear hWD hcells
  refine takeH (i := 0) (some 94) (.agg #[.slice ac nx cc, .slice ak nk ck]) rfl rfl (by kernel_rfl) (by kernel_rfl) (by kernel_rfl) (fun _ _ _ h => h) (Or.inl ⟨by rfl, fun w hSw => by (try dsimp only at hSw); go_simp⟩) (by assumption) ?_
  simp only [Act.put, List.setIfInBounds_toArray, List.set_cons_zero, List.set_cons_succ]
  refine takeH (i := 2) (some 96) (.slice ao nz co) rfl rfl (by kernel_rfl) (by kernel_rfl) (by kernel_rfl) (fun _ _ _ h => h) (Or.inl ⟨by rfl, fun w hSw => by (try dsimp only at hSw); go_simp⟩) (by assumption) ?_
  simp only [Act.put, List.setIfInBounds_toArray, List.set_cons_zero, List.set_cons_succ]
  refine takeH (i := 4) (some 98) (.agg #[.slice ax nc cx, .slice am nm cm, .int .i64 t.n]) rfl rfl (by kernel_rfl) (by kernel_rfl) (by kernel_rfl) (fun _ _ _ h => h) (Or.inl ⟨by rfl, fun w hSw => by (try dsimp only at hSw); go_simp⟩) (by assumption) ?_
  simp only [Act.put, List.setIfInBounds_toArray, List.set_cons_zero, List.set_cons_succ]
  refine wpAnyH_ready (rs := [1, 7]) (by kernel_rfl) (by simp) ?_
  refine AllReadyH.cons rfl (fun K hK => ?_) (AllReadyH.cons rfl (fun K hK => ?_) AllReadyH.nil)
  · go_simp
    refine (C1 _ LD hF.out).mono ?_
    rintro e V1 ⟨uC, uK, us, rfl, P2, b1⟩
    have L1c := LD.on b1
    have RD := RD.on b1
    have MD := MD.on b1
    go_simp
    refine hK.out _ _ L1c.cells (fun _ => ?_)
    clear hK K
    try simp only [Act.put, List.setIfInBounds_toArray, List.set_cons_zero, List.set_cons_succ]
    refine wpAnyH_ready (rs := [3, 7]) (by kernel_rfl) (by simp) ?_
    refine AllReadyH.cons rfl (fun K hK => ?_) (AllReadyH.cons rfl (fun K hK => ?_) AllReadyH.nil)
    · go_simp
      refine (C2 _ L1c (by omega)).mono ?_
      rintro e V2 ⟨uO, rfl, O2, b2⟩
      have L2c := L1c.on b2
      have RD := RD.on b2
      have MD := MD.on b2
      have P2 := P2.on b2
      go_simp
      refine hK.out _ _ L2c.cells (fun _ => ?_)
      clear hK K
      try simp only [Act.put, List.setIfInBounds_toArray, List.set_cons_zero, List.set_cons_succ]
      refine wpAnyH_ready (rs := [5, 7]) (by kernel_rfl) (by simp) ?_
      refine AllReadyH.cons rfl (fun K hK => ?_) (AllReadyH.cons rfl (fun K hK => ?_) AllReadyH.nil)
      · go_simp
        refine (C3 _ L2c hG.out).mono ?_
        rintro e V3 ⟨uc, um, rfl, T2, b3⟩
        have L3c := L2c.on b3
        have RD := RD.on b3
        have MD := MD.on b3
        have P2 := P2.on b3
        have O2 := O2.on b3 (Nat.le_refl _)
        go_simp
        refine hK.out _ _ L3c.cells (fun _ => ?_)
        clear hK K
        try simp only [Act.put, List.setIfInBounds_toArray, List.set_cons_zero, List.set_cons_succ]
        refine wpAnyH_ready (rs := [6, 7]) (by kernel_rfl) (by simp) ?_
        refine AllReadyH.cons rfl (fun K hK => ?_) (AllReadyH.cons rfl (fun K hK => ?_) AllReadyH.nil)
        · go_simp
          refine (IM _ _ _ _ _ _ _ P2.seesP O2.sees T2.sees (Nat.le_refl _) hF.out (by omega)).mono ?_
          rintro e V4 ⟨q2, vr, vq, vy, rfl, hq2, R1, R2, d1, d2, b4⟩
          have L4c := L3c.on b4
          have RD := RD.on b4
          have MD := MD.on b4
          have P2 := P2.on b4
          have O2 := O2.on b4 (Nat.le_refl _)
          have T2 := T2.on b4
          obtain rfl := hq.unique hq2
          have hz := L3c.b.size
          obtain ⟨ar2, cr2, rfl⟩ := R1.form
          obtain ⟨aq2, cq2, rfl⟩ := R2.c.form
          obtain ⟨ay2, cy2, rfl⟩ := R2.m.form
          clear P2 O2 T2 hq2
          go_simp
          refine hK.out _ _ L4c.cells (fun _ => ?_)
          clear hK K
          try simp only [Act.put, List.setIfInBounds_toArray, List.set_cons_zero, List.set_cons_succ]
          refine wpAnyH_ready (rs := [7]) (by kernel_rfl) (by simp) ?_
          refine AllReadyH.cons rfl (fun K hK => ?_) (AllReadyH.nil)
          go_simp
          have A5 := alloc_below V4 (.cells #[.int .i64 0, .slice none 0 0, .slice none 0 0, .slice none 0 0, .int .i64 0] 57)
          have Y5 := Blk.new V4 #[.int .i64 0, .slice none 0 0, .slice none 0 0, .slice none 0 0, .int .i64 0] 57
          have L5a := L4c.on A5
          have hNY5 := L4c.big
          have hNR := RD.y.lt
          have hNM := MD.y.lt
          have RD := RD.on A5
          have MD := MD.on A5
          have R1 := R1.on A5 (Nat.le_refl _)
          have R2 := R2.on A5
          refine hK.out _ _ L5a.cells (fun _ => ?_)
          clear hK K A5
          try simp only [Act.put, List.setIfInBounds_toArray, List.set_cons_zero, List.set_cons_succ]
          obtain ⟨W5a, hW5a⟩ : ∃ W, V4.alloc (.cells #[.int .i64 0, .slice none 0 0, .slice none 0 0, .slice none 0 0, .int .i64 0] 57) = W := ⟨_, rfl⟩
          obtain ⟨N5, hN5⟩ : ∃ N, V4.heap.size = N := ⟨_, rfl⟩
          rw [hW5a] at L5a Y5 RD MD R1 R2 ⊢
          rw [hN5] at Y5 hNY5 hNR hNM ⊢
          clear hW5a hN5
          have y6 := fun i => Y5.cell i; have yf6 := fun i => Y5.froz i
          refine wpAnyH_ready (rs := [8]) (by kernel_rfl) (by simp) ?_
          refine AllReadyH.cons rfl (fun K hK => ?_) AllReadyH.nil
          go_simp
          have hS6 := L5a.five hNY5 (.int .i64 qq.out) (.slice ar2 qq.r.length cr2) (.slice aq2 qq.t.c.length cq2) (.slice ay2 qq.t.m.length cy2) (.int .i64 qq.t.n)
          have hY6 := RunAt.stored Y5 (R1.mono hz) (R2.mono hz) d1 d2
          have hR6 := RD.five Y5 (Nat.ne_of_lt hNR) (.int .i64 qq.out) (.slice ar2 qq.r.length cr2) (.slice aq2 qq.t.c.length cq2) (.slice ay2 qq.t.m.length cy2) (.int .i64 qq.t.n)
          have hM6 := MD.five Y5 (Nat.ne_of_lt hNM) (.int .i64 qq.out) (.slice ar2 qq.r.length cr2) (.slice aq2 qq.t.c.length cq2) (.slice ay2 qq.t.m.length cy2) (.int .i64 qq.t.n)
          refine hK.out _ _ hS6.cells (fun _ => ?_)
          clear hK K
          refine wpAnyH_done (by kernel_rfl) ?_ _
          have HL := hS6; have HY := hY6; have HR := hR6; have HM := hM6
          clear hS6 hY6 hR6 hM6 Y5 RD MD R1 R2
          obtain ⟨WF, hWF⟩ : ∃ W, (((((W5a.setCell ⟨N5, 0, none⟩ (.int .i64 qq.out)).setCell ⟨N5, 1, none⟩ (.slice ar2 qq.r.length cr2)).setCell ⟨N5, 2, none⟩ (.slice aq2 qq.t.c.length cq2)).setCell ⟨N5, 3, none⟩ (.slice ay2 qq.t.m.length cy2)).setCell ⟨N5, 4, none⟩ (.int .i64 qq.t.n)) = W := ⟨_, rfl⟩
          rw [hWF] at HL HY HR HM ⊢
          clear hWF
          have y0 := fun i => HY.y.cell i; have r0 := fun i => HR.y.cell i
          go_wp2_with fail
          clear y0 r0
          refine (eqRunC _ _ _ _ _ _ _ qq.r qq.t _ WF HY.r.sees HR.r.sees HY.t.sees HR.t.sees (Nat.le_refl _)).mono ?_
          rintro e w20 ⟨rfl, b⟩
          replace HL := HL.on b; replace HM := HM.on b
          clear b HY HR
          have g0 := fun i => HM.y.cell i
          go_wp2_with fail
          clear g0
          refine (heldRunC _ _ _ _ _ qq.r.length qq.t.c.length qq.t.m.length 1 (by omega) (by omega) _ w20 HM.r.sees HM.c.sees HM.m.sees (Nat.le_refl _) (by omega) (by omega) (by omega)).mono ?_
          rintro e w21 ⟨rfl, b⟩
          replace HL := HL.on b
          have q1n : ¬ (1 + (qq.r.length : Int) + (qq.t.c.length : Int) + (qq.t.m.length : Int) < 0) := by omega
          go_wp2
          go_ret
          exact ⟨rfl, HL.b⟩
        · go_simp
          have A4 := alloc_below V3 (.cells #[.int .i64 0, .slice none 0 0, .slice none 0 0, .slice none 0 0, .int .i64 0] 57)
          have Y4 := Blk.new V3 #[.int .i64 0, .slice none 0 0, .slice none 0 0, .slice none 0 0, .int .i64 0] 57
          have L4a := L3c.on A4
          have hNY4 := L3c.big
          have hNR := RD.y.lt
          have hNM := MD.y.lt
          have RD := RD.on A4
          have MD := MD.on A4
          have P2 := P2.on A4
          have O2 := O2.on A4 (Nat.le_refl _)
          have T2 := T2.on A4
          refine hK.out _ _ L4a.cells (fun _ => ?_)
          clear hK K A4
          try simp only [Act.put, List.setIfInBounds_toArray, List.set_cons_zero, List.set_cons_succ]
          obtain ⟨W4a, hW4a⟩ : ∃ W, V3.alloc (.cells #[.int .i64 0, .slice none 0 0, .slice none 0 0, .slice none 0 0, .int .i64 0] 57) = W := ⟨_, rfl⟩
          obtain ⟨N4, hN4⟩ : ∃ N, V3.heap.size = N := ⟨_, rfl⟩
          rw [hW4a] at L4a Y4 RD MD P2 O2 T2 ⊢
          rw [hN4] at Y4 hNY4 hNR hNM ⊢
          clear hW4a hN4
          refine wpAnyH_ready (rs := [6]) (by kernel_rfl) (by simp) ?_
          refine AllReadyH.cons rfl (fun K hK => ?_) (AllReadyH.nil)
          go_simp
          refine (IM _ _ _ _ _ _ _ P2.seesP O2.sees T2.sees (Nat.le_refl _) hF.out (by omega)).mono ?_
          rintro e V7 ⟨q2, vr, vq, vy, rfl, hq2, R1, R2, d1, d2, b7⟩
          have L7c := L4a.on b7
          have Y4c := Y4.on b7 Y4.lt; have hNY4c := hNY4
          have RD := RD.on b7
          have MD := MD.on b7
          have P2 := P2.on b7
          have O2 := O2.on b7 (Nat.le_refl _)
          have T2 := T2.on b7
          obtain rfl := hq.unique hq2
          have hz := L4a.b.size
          obtain ⟨ar2, cr2, rfl⟩ := R1.form
          obtain ⟨aq2, cq2, rfl⟩ := R2.c.form
          obtain ⟨ay2, cy2, rfl⟩ := R2.m.form
          clear P2 O2 T2 hq2
          go_simp
          refine hK.out _ _ L7c.cells (fun _ => ?_)
          clear hK K
          try simp only [Act.put, List.setIfInBounds_toArray, List.set_cons_zero, List.set_cons_succ]
          have y8 := fun i => Y4c.cell i; have yf8 := fun i => Y4c.froz i
          refine wpAnyH_ready (rs := [8]) (by kernel_rfl) (by simp) ?_
          refine AllReadyH.cons rfl (fun K hK => ?_) AllReadyH.nil
          go_simp
          have hS8 := L7c.five hNY4c (.int .i64 qq.out) (.slice ar2 qq.r.length cr2) (.slice aq2 qq.t.c.length cq2) (.slice ay2 qq.t.m.length cy2) (.int .i64 qq.t.n)
          have hY8 := RunAt.stored Y4c (R1.mono hz) (R2.mono hz) d1 d2
          have hR8 := RD.five Y4c (Nat.ne_of_lt hNR) (.int .i64 qq.out) (.slice ar2 qq.r.length cr2) (.slice aq2 qq.t.c.length cq2) (.slice ay2 qq.t.m.length cy2) (.int .i64 qq.t.n)
          have hM8 := MD.five Y4c (Nat.ne_of_lt hNM) (.int .i64 qq.out) (.slice ar2 qq.r.length cr2) (.slice aq2 qq.t.c.length cq2) (.slice ay2 qq.t.m.length cy2) (.int .i64 qq.t.n)
          refine hK.out _ _ hS8.cells (fun _ => ?_)
          clear hK K
          refine wpAnyH_done (by kernel_rfl) ?_ _
          have HL := hS8; have HY := hY8; have HR := hR8; have HM := hM8
          clear hS8 hY8 hR8 hM8 Y4c RD MD R1 R2
          obtain ⟨WF, hWF⟩ : ∃ W, (((((V7.setCell ⟨N4, 0, none⟩ (.int .i64 qq.out)).setCell ⟨N4, 1, none⟩ (.slice ar2 qq.r.length cr2)).setCell ⟨N4, 2, none⟩ (.slice aq2 qq.t.c.length cq2)).setCell ⟨N4, 3, none⟩ (.slice ay2 qq.t.m.length cy2)).setCell ⟨N4, 4, none⟩ (.int .i64 qq.t.n)) = W := ⟨_, rfl⟩
          rw [hWF] at HL HY HR HM ⊢
          clear hWF
          have y0 := fun i => HY.y.cell i; have r0 := fun i => HR.y.cell i
          go_wp2_with fail
          clear y0 r0
          refine (eqRunC _ _ _ _ _ _ _ qq.r qq.t _ WF HY.r.sees HR.r.sees HY.t.sees HR.t.sees (Nat.le_refl _)).mono ?_
          rintro e w20 ⟨rfl, b⟩
          replace HL := HL.on b; replace HM := HM.on b
          clear b HY HR
          have g0 := fun i => HM.y.cell i
          go_wp2_with fail
          clear g0
          refine (heldRunC _ _ _ _ _ qq.r.length qq.t.c.length qq.t.m.length 1 (by omega) (by omega) _ w20 HM.r.sees HM.c.sees HM.m.sees (Nat.le_refl _) (by omega) (by omega) (by omega)).mono ?_
          rintro e w21 ⟨rfl, b⟩
          replace HL := HL.on b
          have q1n : ¬ (1 + (qq.r.length : Int) + (qq.t.c.length : Int) + (qq.t.m.length : Int) < 0) := by omega
          go_wp2
          go_ret
          exact ⟨rfl, HL.b⟩
      · go_simp
        have A3 := alloc_below V2 (.cells #[.int .i64 0, .slice none 0 0, .slice none 0 0, .slice none 0 0, .int .i64 0] 57)
        have Y3 := Blk.new V2 #[.int .i64 0, .slice none 0 0, .slice none 0 0, .slice none 0 0, .int .i64 0] 57
        have L3a := L2c.on A3
        have hNY3 := L2c.big
        have hNR := RD.y.lt
        have hNM := MD.y.lt
        have RD := RD.on A3
        have MD := MD.on A3
        have P2 := P2.on A3
        have O2 := O2.on A3 (Nat.le_refl _)
        refine hK.out _ _ L3a.cells (fun _ => ?_)
        clear hK K A3
        try simp only [Act.put, List.setIfInBounds_toArray, List.set_cons_zero, List.set_cons_succ]
        obtain ⟨W3a, hW3a⟩ : ∃ W, V2.alloc (.cells #[.int .i64 0, .slice none 0 0, .slice none 0 0, .slice none 0 0, .int .i64 0] 57) = W := ⟨_, rfl⟩
        obtain ⟨N3, hN3⟩ : ∃ N, V2.heap.size = N := ⟨_, rfl⟩
        rw [hW3a] at L3a Y3 RD MD P2 O2 ⊢
        rw [hN3] at Y3 hNY3 hNR hNM ⊢
        clear hW3a hN3
        refine wpAnyH_ready (rs := [5]) (by kernel_rfl) (by simp) ?_
        refine AllReadyH.cons rfl (fun K hK => ?_) (AllReadyH.nil)
        go_simp
        refine (C3 _ L3a hG.out).mono ?_
        rintro e V9 ⟨uc, um, rfl, T2, b9⟩
        have L9c := L3a.on b9
        have Y3c := Y3.on b9 Y3.lt; have hNY3c := hNY3
        have RD := RD.on b9
        have MD := MD.on b9
        have P2 := P2.on b9
        have O2 := O2.on b9 (Nat.le_refl _)
        go_simp
        refine hK.out _ _ L9c.cells (fun _ => ?_)
        clear hK K
        try simp only [Act.put, List.setIfInBounds_toArray, List.set_cons_zero, List.set_cons_succ]
        refine wpAnyH_ready (rs := [6]) (by kernel_rfl) (by simp) ?_
        refine AllReadyH.cons rfl (fun K hK => ?_) (AllReadyH.nil)
        go_simp
        refine (IM _ _ _ _ _ _ _ P2.seesP O2.sees T2.sees (Nat.le_refl _) hF.out (by omega)).mono ?_
        rintro e V10 ⟨q2, vr, vq, vy, rfl, hq2, R1, R2, d1, d2, b10⟩
        have L10c := L9c.on b10
        have Y3cc := Y3c.on b10 Y3c.lt; have hNY3cc := hNY3c
        have RD := RD.on b10
        have MD := MD.on b10
        have P2 := P2.on b10
        have O2 := O2.on b10 (Nat.le_refl _)
        have T2 := T2.on b10
        obtain rfl := hq.unique hq2
        have hz := L9c.b.size
        obtain ⟨ar2, cr2, rfl⟩ := R1.form
        obtain ⟨aq2, cq2, rfl⟩ := R2.c.form
        obtain ⟨ay2, cy2, rfl⟩ := R2.m.form
        clear P2 O2 T2 hq2
        go_simp
        refine hK.out _ _ L10c.cells (fun _ => ?_)
        clear hK K
        try simp only [Act.put, List.setIfInBounds_toArray, List.set_cons_zero, List.set_cons_succ]
        have y11 := fun i => Y3cc.cell i; have yf11 := fun i => Y3cc.froz i
        refine wpAnyH_ready (rs := [8]) (by kernel_rfl) (by simp) ?_
        refine AllReadyH.cons rfl (fun K hK => ?_) AllReadyH.nil
        go_simp
        have hS11 := L10c.five hNY3cc (.int .i64 qq.out) (.slice ar2 qq.r.length cr2) (.slice aq2 qq.t.c.length cq2) (.slice ay2 qq.t.m.length cy2) (.int .i64 qq.t.n)
        have hY11 := RunAt.stored Y3cc (R1.mono hz) (R2.mono hz) d1 d2
        have hR11 := RD.five Y3cc (Nat.ne_of_lt hNR) (.int .i64 qq.out) (.slice ar2 qq.r.length cr2) (.slice aq2 qq.t.c.length cq2) (.slice ay2 qq.t.m.length cy2) (.int .i64 qq.t.n)
        have hM11 := MD.five Y3cc (Nat.ne_of_lt hNM) (.int .i64 qq.out) (.slice ar2 qq.r.length cr2) (.slice aq2 qq.t.c.length cq2) (.slice ay2 qq.t.m.length cy2) (.int .i64 qq.t.n)
        refine hK.out _ _ hS11.cells (fun _ => ?_)
        clear hK K
        refine wpAnyH_done (by kernel_rfl) ?_ _
        have HL := hS11; have HY := hY11; have HR := hR11; have HM := hM11
        clear hS11 hY11 hR11 hM11 Y3cc RD MD R1 R2
        obtain ⟨WF, hWF⟩ : ∃ W, (((((V10.setCell ⟨N3, 0, none⟩ (.int .i64 qq.out)).setCell ⟨N3, 1, none⟩ (.slice ar2 qq.r.length cr2)).setCell ⟨N3, 2, none⟩ (.slice aq2 qq.t.c.length cq2)).setCell ⟨N3, 3, none⟩ (.slice ay2 qq.t.m.length cy2)).setCell ⟨N3, 4, none⟩ (.int .i64 qq.t.n)) = W := ⟨_, rfl⟩
        rw [hWF] at HL HY HR HM ⊢
        clear hWF
        have y0 := fun i => HY.y.cell i; have r0 := fun i => HR.y.cell i
        go_wp2_with fail
        clear y0 r0
        refine (eqRunC _ _ _ _ _ _ _ qq.r qq.t _ WF HY.r.sees HR.r.sees HY.t.sees HR.t.sees (Nat.le_refl _)).mono ?_
        rintro e w20 ⟨rfl, b⟩
        replace HL := HL.on b; replace HM := HM.on b
        clear b HY HR
        have g0 := fun i => HM.y.cell i
        go_wp2_with fail
        clear g0
        refine (heldRunC _ _ _ _ _ qq.r.length qq.t.c.length qq.t.m.length 1 (by omega) (by omega) _ w20 HM.r.sees HM.c.sees HM.m.sees (Nat.le_refl _) (by omega) (by omega) (by omega)).mono ?_
        rintro e w21 ⟨rfl, b⟩
        replace HL := HL.on b
        have q1n : ¬ (1 + (qq.r.length : Int) + (qq.t.c.length : Int) + (qq.t.m.length : Int) < 0) := by omega
        go_wp2
        go_ret
        exact ⟨rfl, HL.b⟩
    · go_simp
      have A2 := alloc_below V1 (.cells #[.int .i64 0, .slice none 0 0, .slice none 0 0, .slice none 0 0, .int .i64 0] 57)
      have Y2 := Blk.new V1 #[.int .i64 0, .slice none 0 0, .slice none 0 0, .slice none 0 0, .int .i64 0] 57
      have L2a := L1c.on A2
      have hNY2 := L1c.big
      have hNR := RD.y.lt
      have hNM := MD.y.lt
      have RD := RD.on A2
      have MD := MD.on A2
      have P2 := P2.on A2
      refine hK.out _ _ L2a.cells (fun _ => ?_)
      clear hK K A2
      try simp only [Act.put, List.setIfInBounds_toArray, List.set_cons_zero, List.set_cons_succ]
      obtain ⟨W2a, hW2a⟩ : ∃ W, V1.alloc (.cells #[.int .i64 0, .slice none 0 0, .slice none 0 0, .slice none 0 0, .int .i64 0] 57) = W := ⟨_, rfl⟩
      obtain ⟨N2, hN2⟩ : ∃ N, V1.heap.size = N := ⟨_, rfl⟩
      rw [hW2a] at L2a Y2 RD MD P2 ⊢
      rw [hN2] at Y2 hNY2 hNR hNM ⊢
      clear hW2a hN2
      refine wpAnyH_ready (rs := [3]) (by kernel_rfl) (by simp) ?_
      refine AllReadyH.cons rfl (fun K hK => ?_) (AllReadyH.nil)
      go_simp
      refine (C2 _ L2a (by omega)).mono ?_
      rintro e V12 ⟨uO, rfl, O2, b12⟩
      have L12c := L2a.on b12
      have Y2c := Y2.on b12 Y2.lt; have hNY2c := hNY2
      have RD := RD.on b12
      have MD := MD.on b12
      have P2 := P2.on b12
      go_simp
      refine hK.out _ _ L12c.cells (fun _ => ?_)
      clear hK K
      try simp only [Act.put, List.setIfInBounds_toArray, List.set_cons_zero, List.set_cons_succ]
      refine wpAnyH_ready (rs := [5]) (by kernel_rfl) (by simp) ?_
      refine AllReadyH.cons rfl (fun K hK => ?_) (AllReadyH.nil)
      go_simp
      refine (C3 _ L12c hG.out).mono ?_
      rintro e V13 ⟨uc, um, rfl, T2, b13⟩
      have L13c := L12c.on b13
      have Y2cc := Y2c.on b13 Y2c.lt; have hNY2cc := hNY2c
      have RD := RD.on b13
      have MD := MD.on b13
      have P2 := P2.on b13
      have O2 := O2.on b13 (Nat.le_refl _)
      go_simp
      refine hK.out _ _ L13c.cells (fun _ => ?_)
      clear hK K
      try simp only [Act.put, List.setIfInBounds_toArray, List.set_cons_zero, List.set_cons_succ]
      refine wpAnyH_ready (rs := [6]) (by kernel_rfl) (by simp) ?_
      refine AllReadyH.cons rfl (fun K hK => ?_) (AllReadyH.nil)
      go_simp
      refine (IM _ _ _ _ _ _ _ P2.seesP O2.sees T2.sees (Nat.le_refl _) hF.out (by omega)).mono ?_
      rintro e V14 ⟨q2, vr, vq, vy, rfl, hq2, R1, R2, d1, d2, b14⟩
      have L14c := L13c.on b14
      have Y2ccc := Y2cc.on b14 Y2cc.lt; have hNY2ccc := hNY2cc
      have RD := RD.on b14
      have MD := MD.on b14
      have P2 := P2.on b14
      have O2 := O2.on b14 (Nat.le_refl _)
      have T2 := T2.on b14
      obtain rfl := hq.unique hq2
      have hz := L13c.b.size
      obtain ⟨ar2, cr2, rfl⟩ := R1.form
      obtain ⟨aq2, cq2, rfl⟩ := R2.c.form
      obtain ⟨ay2, cy2, rfl⟩ := R2.m.form
      clear P2 O2 T2 hq2
      go_simp
      refine hK.out _ _ L14c.cells (fun _ => ?_)
      clear hK K
      try simp only [Act.put, List.setIfInBounds_toArray, List.set_cons_zero, List.set_cons_succ]
      have y15 := fun i => Y2ccc.cell i; have yf15 := fun i => Y2ccc.froz i
      refine wpAnyH_ready (rs := [8]) (by kernel_rfl) (by simp) ?_
      refine AllReadyH.cons rfl (fun K hK => ?_) AllReadyH.nil
      go_simp
      have hS15 := L14c.five hNY2ccc (.int .i64 qq.out) (.slice ar2 qq.r.length cr2) (.slice aq2 qq.t.c.length cq2) (.slice ay2 qq.t.m.length cy2) (.int .i64 qq.t.n)
      have hY15 := RunAt.stored Y2ccc (R1.mono hz) (R2.mono hz) d1 d2
      have hR15 := RD.five Y2ccc (Nat.ne_of_lt hNR) (.int .i64 qq.out) (.slice ar2 qq.r.length cr2) (.slice aq2 qq.t.c.length cq2) (.slice ay2 qq.t.m.length cy2) (.int .i64 qq.t.n)
      have hM15 := MD.five Y2ccc (Nat.ne_of_lt hNM) (.int .i64 qq.out) (.slice ar2 qq.r.length cr2) (.slice aq2 qq.t.c.length cq2) (.slice ay2 qq.t.m.length cy2) (.int .i64 qq.t.n)
      refine hK.out _ _ hS15.cells (fun _ => ?_)
      clear hK K
      refine wpAnyH_done (by kernel_rfl) ?_ _
      have HL := hS15; have HY := hY15; have HR := hR15; have HM := hM15
      clear hS15 hY15 hR15 hM15 Y2ccc RD MD R1 R2
      obtain ⟨WF, hWF⟩ : ∃ W, (((((V14.setCell ⟨N2, 0, none⟩ (.int .i64 qq.out)).setCell ⟨N2, 1, none⟩ (.slice ar2 qq.r.length cr2)).setCell ⟨N2, 2, none⟩ (.slice aq2 qq.t.c.length cq2)).setCell ⟨N2, 3, none⟩ (.slice ay2 qq.t.m.length cy2)).setCell ⟨N2, 4, none⟩ (.int .i64 qq.t.n)) = W := ⟨_, rfl⟩
      rw [hWF] at HL HY HR HM ⊢
      clear hWF
      have y0 := fun i => HY.y.cell i; have r0 := fun i => HR.y.cell i
      go_wp2_with fail
      clear y0 r0
      refine (eqRunC _ _ _ _ _ _ _ qq.r qq.t _ WF HY.r.sees HR.r.sees HY.t.sees HR.t.sees (Nat.le_refl _)).mono ?_
      rintro e w20 ⟨rfl, b⟩
      replace HL := HL.on b; replace HM := HM.on b
      clear b HY HR
      have g0 := fun i => HM.y.cell i
      go_wp2_with fail
      clear g0
      refine (heldRunC _ _ _ _ _ qq.r.length qq.t.c.length qq.t.m.length 1 (by omega) (by omega) _ w20 HM.r.sees HM.c.sees HM.m.sees (Nat.le_refl _) (by omega) (by omega) (by omega)).mono ?_
      rintro e w21 ⟨rfl, b⟩
      replace HL := HL.on b
      have q1n : ¬ (1 + (qq.r.length : Int) + (qq.t.c.length : Int) + (qq.t.m.length : Int) < 0) := by omega
      go_wp2
      go_ret
      exact ⟨rfl, HL.b⟩
  · go_simp
    have A1 := alloc_below WD (.cells #[.int .i64 0, .slice none 0 0, .slice none 0 0, .slice none 0 0, .int .i64 0] 57)
    have Y1 := Blk.new WD #[.int .i64 0, .slice none 0 0, .slice none 0 0, .slice none 0 0, .int .i64 0] 57
    have L1a := LD.on A1
    have hNY1 := LD.big
    have hNR := RD.y.lt
    have hNM := MD.y.lt
    have RD := RD.on A1
    have MD := MD.on A1
    refine hK.out _ _ L1a.cells (fun _ => ?_)
    clear hK K A1
    try simp only [Act.put, List.setIfInBounds_toArray, List.set_cons_zero, List.set_cons_succ]
    obtain ⟨W1a, hW1a⟩ : ∃ W, WD.alloc (.cells #[.int .i64 0, .slice none 0 0, .slice none 0 0, .slice none 0 0, .int .i64 0] 57) = W := ⟨_, rfl⟩
    obtain ⟨N1, hN1⟩ : ∃ N, WD.heap.size = N := ⟨_, rfl⟩
    rw [hW1a] at L1a Y1 RD MD ⊢
    rw [hN1] at Y1 hNY1 hNR hNM ⊢
    clear hW1a hN1
    refine wpAnyH_ready (rs := [1]) (by kernel_rfl) (by simp) ?_
    refine AllReadyH.cons rfl (fun K hK => ?_) (AllReadyH.nil)
    go_simp
    refine (C1 _ L1a hF.out).mono ?_
    rintro e V16 ⟨uC, uK, us, rfl, P2, b16⟩
    have L16c := L1a.on b16
    have Y1c := Y1.on b16 Y1.lt; have hNY1c := hNY1
    have RD := RD.on b16
    have MD := MD.on b16
    go_simp
    refine hK.out _ _ L16c.cells (fun _ => ?_)
    clear hK K
    try simp only [Act.put, List.setIfInBounds_toArray, List.set_cons_zero, List.set_cons_succ]
    refine wpAnyH_ready (rs := [3]) (by kernel_rfl) (by simp) ?_
    refine AllReadyH.cons rfl (fun K hK => ?_) (AllReadyH.nil)
    go_simp
    refine (C2 _ L16c (by omega)).mono ?_
    rintro e V17 ⟨uO, rfl, O2, b17⟩
    have L17c := L16c.on b17
    have Y1cc := Y1c.on b17 Y1c.lt; have hNY1cc := hNY1c
    have RD := RD.on b17
    have MD := MD.on b17
    have P2 := P2.on b17
    go_simp
    refine hK.out _ _ L17c.cells (fun _ => ?_)
    clear hK K
    try simp only [Act.put, List.setIfInBounds_toArray, List.set_cons_zero, List.set_cons_succ]
    refine wpAnyH_ready (rs := [5]) (by kernel_rfl) (by simp) ?_
    refine AllReadyH.cons rfl (fun K hK => ?_) (AllReadyH.nil)
    go_simp
    refine (C3 _ L17c hG.out).mono ?_
    rintro e V18 ⟨uc, um, rfl, T2, b18⟩
    have L18c := L17c.on b18
    have Y1ccc := Y1cc.on b18 Y1cc.lt; have hNY1ccc := hNY1cc
    have RD := RD.on b18
    have MD := MD.on b18
    have P2 := P2.on b18
    have O2 := O2.on b18 (Nat.le_refl _)
    go_simp
    refine hK.out _ _ L18c.cells (fun _ => ?_)
    clear hK K
    try simp only [Act.put, List.setIfInBounds_toArray, List.set_cons_zero, List.set_cons_succ]
    refine wpAnyH_ready (rs := [6]) (by kernel_rfl) (by simp) ?_
    refine AllReadyH.cons rfl (fun K hK => ?_) (AllReadyH.nil)
    go_simp
    refine (IM _ _ _ _ _ _ _ P2.seesP O2.sees T2.sees (Nat.le_refl _) hF.out (by omega)).mono ?_
    rintro e V19 ⟨q2, vr, vq, vy, rfl, hq2, R1, R2, d1, d2, b19⟩
    have L19c := L18c.on b19
    have Y1cccc := Y1ccc.on b19 Y1ccc.lt; have hNY1cccc := hNY1ccc
    have RD := RD.on b19
    have MD := MD.on b19
    have P2 := P2.on b19
    have O2 := O2.on b19 (Nat.le_refl _)
    have T2 := T2.on b19
    obtain rfl := hq.unique hq2
    have hz := L18c.b.size
    obtain ⟨ar2, cr2, rfl⟩ := R1.form
    obtain ⟨aq2, cq2, rfl⟩ := R2.c.form
    obtain ⟨ay2, cy2, rfl⟩ := R2.m.form
    clear P2 O2 T2 hq2
    go_simp
    refine hK.out _ _ L19c.cells (fun _ => ?_)
    clear hK K
    try simp only [Act.put, List.setIfInBounds_toArray, List.set_cons_zero, List.set_cons_succ]
    have y20 := fun i => Y1cccc.cell i; have yf20 := fun i => Y1cccc.froz i
    refine wpAnyH_ready (rs := [8]) (by kernel_rfl) (by simp) ?_
    refine AllReadyH.cons rfl (fun K hK => ?_) AllReadyH.nil
    go_simp
    have hS20 := L19c.five hNY1cccc (.int .i64 qq.out) (.slice ar2 qq.r.length cr2) (.slice aq2 qq.t.c.length cq2) (.slice ay2 qq.t.m.length cy2) (.int .i64 qq.t.n)
    have hY20 := RunAt.stored Y1cccc (R1.mono hz) (R2.mono hz) d1 d2
    have hR20 := RD.five Y1cccc (Nat.ne_of_lt hNR) (.int .i64 qq.out) (.slice ar2 qq.r.length cr2) (.slice aq2 qq.t.c.length cq2) (.slice ay2 qq.t.m.length cy2) (.int .i64 qq.t.n)
    have hM20 := MD.five Y1cccc (Nat.ne_of_lt hNM) (.int .i64 qq.out) (.slice ar2 qq.r.length cr2) (.slice aq2 qq.t.c.length cq2) (.slice ay2 qq.t.m.length cy2) (.int .i64 qq.t.n)
    refine hK.out _ _ hS20.cells (fun _ => ?_)
    clear hK K
    refine wpAnyH_done (by kernel_rfl) ?_ _
    have HL := hS20; have HY := hY20; have HR := hR20; have HM := hM20
    clear hS20 hY20 hR20 hM20 Y1cccc RD MD R1 R2
    obtain ⟨WF, hWF⟩ : ∃ W, (((((V19.setCell ⟨N1, 0, none⟩ (.int .i64 qq.out)).setCell ⟨N1, 1, none⟩ (.slice ar2 qq.r.length cr2)).setCell ⟨N1, 2, none⟩ (.slice aq2 qq.t.c.length cq2)).setCell ⟨N1, 3, none⟩ (.slice ay2 qq.t.m.length cy2)).setCell ⟨N1, 4, none⟩ (.int .i64 qq.t.n)) = W := ⟨_, rfl⟩
    rw [hWF] at HL HY HR HM ⊢
    clear hWF
    have y0 := fun i => HY.y.cell i; have r0 := fun i => HR.y.cell i
    go_wp2_with fail
    clear y0 r0
    refine (eqRunC _ _ _ _ _ _ _ qq.r qq.t _ WF HY.r.sees HR.r.sees HY.t.sees HR.t.sees (Nat.le_refl _)).mono ?_
    rintro e w20 ⟨rfl, b⟩
    replace HL := HL.on b; replace HM := HM.on b
    clear b HY HR
    have g0 := fun i => HM.y.cell i
    go_wp2_with fail
    clear g0
    refine (heldRunC _ _ _ _ _ qq.r.length qq.t.c.length qq.t.m.length 1 (by omega) (by omega) _ w20 HM.r.sees HM.c.sees HM.m.sees (Nat.le_refl _) (by omega) (by omega) (by omega)).mono ?_
    rintro e w21 ⟨rfl, b⟩
    replace HL := HL.on b
    have q1n : ¬ (1 + (qq.r.length : Int) + (qq.t.c.length : Int) + (qq.t.m.length : Int) < 0) := by omega
    go_wp2
    go_ret
    exact ⟨rfl, HL.b⟩
end Ops
end Go.Proofs.Ytajbmokidcdfnaa
