/- Several texts of one proof, in build order: CommitLaw4. -/
import Derived.Test.YtppikpdphcfomaaDoorCB7
import Derived.Test.YtppikpdphcfomaaDoorCB21
/- The walk of FnExactCommitStep, given what both functions answer. -/
set_option linter.unusedVariables false
set_option linter.unusedSimpArgs false
namespace Go.Proofs.YtppikpdphcfomaaDoor
open Go.RowKit
namespace Commits
open Bas Flat Logs
open Words (W3 Err)

set_option maxRecDepth 100000 in
set_option maxHeartbeats 25600000 in
theorem walkStep (mc who rv ph at' wv : Int) (vM vP vR : Value) (ws : List W3) (ps : List R2) (rs : List Int) (w : World) (bE : Addr) (hM : Words.Sees w.heap.size w vM ws) (hC : SeeC w.heap.size w vP vR ps rs) (hE : Err w bE) (Z : Ot) (hZ : Z.ws.length = ws.length)
    (cS : ∀ (W : World) (B : Nat) (uM uP uR : Value), Words.Sees B W uM ws → SeeC B W uP uR ps rs → B ≤ W.heap.size → ws.length ≤ 1048576 → ps.length ≤ 1048576 → rs.length ≤ 1048576 → Calls Tryd.prog 6 #[.agg #[.int .i64 mc, uM], .agg #[.int .i64 who, .int .i64 rv, .int .i64 ph, .int .i64 at', .int .i64 wv, uP, uR]] W fun e w' => StepTold who rv ps rs Z W e w')
    (cI : ∀ (W : World) (B : Nat) (uM uP uR : Value), Words.Sees B W uM ws → SeeC B W uP uR ps rs → Err W bE → B ≤ W.heap.size → ws.length ≤ 1048576 → ps.length ≤ 1048576 → rs.length ≤ 1048576 → Calls Tryd.prog 9 #[.agg #[.int .i64 mc, uM], .agg #[.int .i64 who, .int .i64 rv, .int .i64 ph, .int .i64 at', .int .i64 wv, uP, uR]] W fun e w' => StepTold who rv ps rs Z W e w') :
    Calls Tryd.prog 3 #[.agg #[.int .i64 mc, vM], .agg #[.int .i64 who, .int .i64 rv, .int .i64 ph, .int .i64 at', .int .i64 wv, vP, vR]] w fun e w' => e = .returned (.bool true) ∧ Below w.heap.size w w' := by
  obtain ⟨am, km, rfl⟩ := hM.form
  obtain ⟨ap, kp, rfl⟩ := hC.p.form
  obtain ⟨ar, kr, rfl⟩ := hC.r.form
  have L0 := LA.new w mc who rv ph at' wv _ _ _ ws ps rs bE hM hC hE
  by_cases f0 : ws.length ≤ 1048576
  case neg =>
    have cZ := Words.szMem_gt mc _ ws _ _ L0.m f0
    obtain ⟨n, hn⟩ : ∃ n, ws.length = n := ⟨_, rfl⟩
    obtain ⟨np, hp⟩ : ∃ n, ps.length = n := ⟨_, rfl⟩
    obtain ⟨nr, hr⟩ : ∃ n, rs.length = n := ⟨_, rfl⟩
    rw [hn, hp, hr] at L0 cZ
    rw [hn, hp, hr]
    obtain ⟨W0, hW0⟩ : ∃ W, (w.alloc (.cells #[.int .i64 mc, .slice am n km] 24)).alloc (.cells #[.int .i64 who, .int .i64 rv, .int .i64 ph, .int .i64 at', .int .i64 wv, .slice ap np kp, .slice ar nr kr] 28) = W := ⟨_, rfl⟩
    rw [hW0] at L0 cZ
    have k0 := L0.x.cell 0; have k1 := L0.x.cell 1
    go_enter Tryd.func3, Tryd.ntmps3
    go_wp2_with fail
    clear hW0 k0 k1
    refine cZ.mono ?_
    rintro e w1 ⟨rfl, b1⟩
    clear cZ
    go_wp2
    go_ret
    exact ⟨rfl, (L0.on b1).b⟩
  have Z1 := fun W (L : LA w W mc who rv ph at' wv (.slice am ws.length km) (.slice ap ps.length kp) (.slice ar rs.length kr) ws ps rs bE) => Words.szMem_le mc (.slice am ws.length km) ws _ W L.m f0
  have Z2 := fun W (left : Int) (L : LA w W mc who rv ph at' wv (.slice am ws.length km) (.slice ap ps.length kp) (.slice ar rs.length kr) ws ps rs bE) (h0 : 0 ≤ left) (h1 : left ≤ 1048576) => szE who rv ph at' wv ps rs (.slice ap ps.length kp) (.slice ar rs.length kr) left _ W L.c h0 h1
  have C1 := fun W (L : LA w W mc who rv ph at' wv (.slice am ws.length km) (.slice ap ps.length kp) (.slice ar rs.length kr) ws ps rs bE) => L.toM f0
  have C3' := fun W (L : LA w W mc who rv ph at' wv (.slice am ws.length km) (.slice ap ps.length kp) (.slice ar rs.length kr) ws ps rs bE) (h1 : ps.length ≤ 1048576) (h2 : rs.length ≤ 1048576) => L.toC h1 h2
  obtain ⟨n, hn⟩ : ∃ n, ws.length = n := ⟨_, rfl⟩
  obtain ⟨np, hp⟩ : ∃ n, ps.length = n := ⟨_, rfl⟩
  obtain ⟨nr, hr⟩ : ∃ n, rs.length = n := ⟨_, rfl⟩
  have hZn : Z.ws.length = n := hZ.trans hn
  have HN := (show Hid _ from hn); have HP := (show Hid _ from hp); have HR := (show Hid _ from hr); have HZ := (show Hid _ from hZn)
  have HS := (show Hid _ from cS); have HI := (show Hid _ from cI); have F0 := (show Hid _ from f0)
  rw [hn, hp, hr] at L0
  rw [hn] at f0
  simp only [hn, hp, hr] at Z1 Z2 C1 C3'
  rw [hn, hp, hr]
  obtain ⟨W0, hW0⟩ : ∃ W, (w.alloc (.cells #[.int .i64 mc, .slice am n km] 24)).alloc (.cells #[.int .i64 who, .int .i64 rv, .int .i64 ph, .int .i64 at', .int .i64 wv, .slice ap np kp, .slice ar nr kr] 28) = W := ⟨_, rfl⟩
  rw [hW0] at L0
  have cZ := Z1 W0 L0
  obtain ⟨q1, hq1⟩ : ∃ q, 1048576 - (n : Int) = q := ⟨_, rfl⟩
  rw [hq1] at cZ
  have p0 : 0 ≤ q1 := by omega
  have p1 : q1 ≤ 1048576 := by omega
  have p2 : ¬ q1 < 0 := by omega
  clear cS cI hZ hZn hn hp hr hM hC hE hq1 Z1
  have k0 := L0.x.cell 0; have k1 := L0.x.cell 1
  go_enter Tryd.func3, Tryd.ntmps3
  go_wp2_with fail
  clear hW0 k0 k1
  refine cZ.mono ?_
  rintro e w1 ⟨rfl, b1⟩
  clear cZ
  have L1 := L0.on b1
  clear b1 L0
  have cZ := Z2 w1 q1 L1 p0 p1
  clear Z2
  have j0 := L1.y.cell 0; have j1 := L1.y.cell 1; have j2 := L1.y.cell 2; have j3 := L1.y.cell 3; have j4 := L1.y.cell 4; have j5 := L1.y.cell 5; have j6 := L1.y.cell 6
  go_wp2_with fail
  clear j0 j1 j2 j3 j4 j5 j6
  refine cZ.mono ?_
  rintro e w2 ⟨q2, rfl, hq2, b2⟩
  clear cZ
  have L2 := L1.on b2
  clear b2 L1
  by_cases hn2 : q2 < 0
  · clear hq2
    go_wp2
    go_ret
    exact ⟨rfl, L2.b⟩
  obtain ⟨f1, f2⟩ : np ≤ 1048576 ∧ nr ≤ 1048576 := by
    rcases hq2 with hq | hq
    · exact absurd hq hn2
    · exact hq.2.2
  clear hq2 p0 p1
  have C3 := fun W L => C3' W L f1 f2
  clear C3'
  have SP := fun W B uM uP uR h1 h2 h3 => HS.out W B uM uP uR h1 h2 h3 F0.out (by rw [HP.out]; exact f1) (by rw [HR.out]; exact f2)
  have IM := fun W B uM uP uR h1 h2 hE h3 => HI.out W B uM uP uR h1 h2 hE h3 F0.out (by rw [HP.out]; exact f1) (by rw [HR.out]; exact f2)
  simp only [StepTold, HZ.out, HP.out, HR.out] at SP IM
  clear HS HI
  go_wp2_with fail
  obtain ⟨h0, hh0'⟩ : ∃ h, w2.heap.size = h := ⟨_, rfl⟩
  refine Code.wp_mono (Q := fun e a' W' => e = .normal ∧ ∃ N1 N2 hi mv kv av cv dv lv x0 x1 x4 x5 x17 x18 x19 x20 x21 x22 x23 x24 x25 x26 x27 x28 x29 x30 x31 x32 x33 x34, a' = ⟨#[x0, x1, .pointer (some ⟨w.heap.size, 0, none⟩), .pointer (some ⟨w.heap.size + 1, 0, none⟩), x4, x5, .pointer (some ⟨N1, 0, none⟩), .pointer (some ⟨N2, 0, none⟩), undef, undef, undef, undef, undef, undef, undef, undef, undef, x17, x18, x19, x20, x21, x22, x23, x24, x25, x26, x27, x28, x29, x30, x31, x32, x33, x34, undef, undef, undef, undef, undef, undef, undef, undef, undef, undef, undef, undef, undef, undef, undef, undef, undef, undef, undef, undef, undef, undef, undef, undef, undef, undef, undef, undef, undef, undef, undef, undef, undef, undef, undef, undef, undef, undef, undef, undef, undef, undef, undef, undef, undef, undef, undef, undef, undef, undef, undef, undef, undef, undef, undef, undef, undef, undef, undef, undef, undef, undef, undef, undef, undef, undef, undef, undef, undef, undef, undef, undef, undef, undef, undef, undef, undef, undef, undef, undef, undef, undef, undef, undef, undef, undef, undef, undef, undef, undef, undef, undef, undef, undef, undef, undef, undef, undef, undef, undef], []⟩ ∧ Below h0 w2 W' ∧ RP h0 hi W' N1 N2 who rv ps rs Z (.slice mv n kv) (.slice av np cv) (.slice dv nr lv)) ?_ ?_
  rotate_left
  · have LD := L2
    have bD : Below h0 w2 w2.drew := by rw [← hh0']; exact ⟨rfl, rfl, rfl, Nat.le_refl _, fun _ _ => rfl⟩
    have hL : w.heap.size + 2 ≤ h0 := by rw [← hh0']; exact L2.big
    refine wp_region_held_drew (S := fun W => (W.cell? ⟨w.heap.size, 0, none⟩ = some (.int .i64 mc) ∧ W.cell? ⟨w.heap.size, 1, none⟩ = some (.slice am n km)) ∧ W.cell? ⟨w.heap.size + 1, 0, none⟩ = some (.int .i64 who) ∧ W.cell? ⟨w.heap.size + 1, 1, none⟩ = some (.int .i64 rv) ∧ W.cell? ⟨w.heap.size + 1, 2, none⟩ = some (.int .i64 ph) ∧ W.cell? ⟨w.heap.size + 1, 3, none⟩ = some (.int .i64 at') ∧ W.cell? ⟨w.heap.size + 1, 4, none⟩ = some (.int .i64 wv) ∧ W.cell? ⟨w.heap.size + 1, 5, none⟩ = some (.slice ap np kp) ∧ W.cell? ⟨w.heap.size + 1, 6, none⟩ = some (.slice ar nr kr)) (by kernel_rfl) L2.drew.cells (fun hHeld => ?_)
    obtain ⟨WD, hWD⟩ : ∃ WD, w2.drew = WD := ⟨_, rfl⟩
    rw [hWD] at bD hHeld ⊢
    clear hWD
    refine takeH (i := 0) (some 28) (.agg #[.int .i64 mc, .slice am n km]) rfl rfl (by kernel_rfl) (by kernel_rfl) (by kernel_rfl) (fun _ _ _ h => by cases h.1) (Or.inl ⟨by rfl, fun w hSw => by (try dsimp only at hSw); go_simp⟩) (by assumption) ?_
    simp only [Act.put, List.setIfInBounds_toArray, List.set_cons_zero, List.set_cons_succ]
    refine takeH (i := 2) (some 30) (.agg #[.int .i64 who, .int .i64 rv, .int .i64 ph, .int .i64 at', .int .i64 wv, .slice ap np kp, .slice ar nr kr]) rfl rfl (by kernel_rfl) (by kernel_rfl) (by kernel_rfl) (fun _ _ _ h => by cases h.1) (Or.inl ⟨by rfl, fun w hSw => by (try dsimp only at hSw); go_simp⟩) (by assumption) ?_
    simp only [Act.put, List.setIfInBounds_toArray, List.set_cons_zero, List.set_cons_succ]
    refine wpAnyH_ready (rs := [1, 8, 9]) (by kernel_rfl) (by simp) ?_
    refine AllReadyH.cons rfl (fun K hK => ?_) (AllReadyH.cons rfl (fun K hK => ?_) (AllReadyH.cons rfl (fun K hK => ?_) (AllReadyH.nil)))
    · go_simp
      refine (C1 WD (LD.low (bD.mono hL))).mono ?_
      rintro e V1 ⟨a1, k1, rfl, O1, c1⟩
      have hw := bD.size
      rw [hh0'] at hw
      have b1c := bD.trans (c1.mono hw)
      clear hw c1
      go_simp
      refine hK.out _ _ (LD.low (b1c.mono hL)).cells (fun _ => ?_)
      clear hK K
      try simp only [Act.put, List.setIfInBounds_toArray, List.set_cons_zero, List.set_cons_succ]
      refine wpAnyH_ready (rs := [3, 8, 9]) (by kernel_rfl) (by simp) ?_
      refine AllReadyH.cons rfl (fun K hK => ?_) (AllReadyH.cons rfl (fun K hK => ?_) (AllReadyH.cons rfl (fun K hK => ?_) (AllReadyH.nil)))
      · go_simp
        refine (C3 V1 (LD.low (b1c.mono hL))).mono ?_
        rintro e V2 ⟨a3, k3, d3, l3, rfl, O3, c2⟩
        have hw := b1c.size
        rw [hh0'] at hw
        have b2c := b1c.trans (c2.mono hw)
        have O1 := O1.on c2 (Nat.le_refl _)
        clear hw c2
        go_simp
        refine hK.out _ _ (LD.low (b2c.mono hL)).cells (fun _ => ?_)
        clear hK K
        try simp only [Act.put, List.setIfInBounds_toArray, List.set_cons_zero, List.set_cons_succ]
        refine wpAnyH_ready (rs := [4, 8, 9]) (by kernel_rfl) (by simp) ?_
        refine AllReadyH.cons rfl (fun K hK => ?_) (AllReadyH.cons rfl (fun K hK => ?_) (AllReadyH.cons rfl (fun K hK => ?_) (AllReadyH.nil)))
        · go_simp
          refine (SP V2 V2.heap.size _ _ _ O1.sees O3.sees (Nat.le_refl _)).mono ?_
          rintro e V3 ⟨mv, kv, av, cv, dv, lv, rfl, R1, R3, c3⟩
          have hw := b2c.size
          rw [hh0'] at hw
          have b3c := b2c.trans (c3.mono hw)
          have hz0 := hw
          clear O1 O3
          clear hw c3
          go_simp
          refine hK.out _ _ (LD.low (b3c.mono hL)).cells (fun _ => ?_)
          clear hK K
          try simp only [Act.put, List.setIfInBounds_toArray, List.set_cons_zero, List.set_cons_succ]
          refine takeH (i := 5) (some 27) (.tuple #[.agg #[.int .i64 Z.mc, .slice mv n kv], .agg #[.int .i64 who, .int .i64 rv, .int .i64 Z.ph, .int .i64 Z.at', .int .i64 Z.wv, .slice av np cv, .slice dv nr lv]]) rfl rfl (by kernel_rfl) (by kernel_rfl) (by kernel_rfl) (fun _ _ _ h => by cases h.1) (Or.inl ⟨by rfl, fun w hSw => by (try dsimp only at hSw); go_simp⟩) (by assumption) ?_
          try simp only [Act.put, List.setIfInBounds_toArray, List.set_cons_zero, List.set_cons_succ]
          refine takeH (i := 6) (some 33) (.agg #[.int .i64 Z.mc, .slice mv n kv]) rfl rfl (by kernel_rfl) (by kernel_rfl) (by kernel_rfl) (fun _ _ _ h => by cases h.1) (Or.inl ⟨by rfl, fun w hSw => by (try dsimp only at hSw); go_simp⟩) (by assumption) ?_
          try simp only [Act.put, List.setIfInBounds_toArray, List.set_cons_zero, List.set_cons_succ]
          refine takeH (i := 7) (some 34) (.agg #[.int .i64 who, .int .i64 rv, .int .i64 Z.ph, .int .i64 Z.at', .int .i64 Z.wv, .slice av np cv, .slice dv nr lv]) rfl rfl (by kernel_rfl) (by kernel_rfl) (by kernel_rfl) (fun _ _ _ h => by cases h.1) (Or.inl ⟨by rfl, fun w hSw => by (try dsimp only at hSw); go_simp⟩) (by assumption) ?_
          try simp only [Act.put, List.setIfInBounds_toArray, List.set_cons_zero, List.set_cons_succ]
          refine wpAnyH_ready (rs := [8, 9]) (by kernel_rfl) (by simp) ?_
          refine AllReadyH.cons rfl (fun K hK => ?_) (AllReadyH.cons rfl (fun K hK => ?_) (AllReadyH.nil))
          · go_simp
            have A := alloc_below V3 (.cells #[.int .i64 0, .slice none 0 0] 33)
            have Y4q8 := Blk.new V3 #[.int .i64 0, .slice none 0 0] 33
            have hw := b3c.size
            rw [hh0'] at hw
            have l4q8 : h0 ≤ V3.heap.size := hw
            clear hw
            have b4q8 := b3c.trans (A.mono l4q8)
            have R1 := R1.on A (Nat.le_refl _)
            have R3 := R3.on A (Nat.le_refl _)
            refine hK.out _ _ (LD.low (b4q8.mono hL)).cells (fun _ => ?_)
            clear hK K A
            try simp only [Act.put, List.setIfInBounds_toArray, List.set_cons_zero, List.set_cons_succ]
            obtain ⟨W4q8, hW⟩ : ∃ W, V3.alloc (.cells #[.int .i64 0, .slice none 0 0] 33) = W := ⟨_, rfl⟩
            have uY4q8 : V3.heap.size + 1 = W4q8.heap.size := by rw [← hW]; simp
            obtain ⟨N4q8, hN⟩ : ∃ N, V3.heap.size = N := ⟨_, rfl⟩
            rw [hW] at Y4q8 b4q8 R1 R3 ⊢
            rw [hN] at Y4q8 l4q8 uY4q8 ⊢
            clear hW hN
            refine wpAnyH_ready (rs := [9]) (by kernel_rfl) (by simp) ?_
            refine AllReadyH.cons rfl (fun K hK => ?_) (AllReadyH.nil)
            go_simp
            have A := alloc_below W4q8 (.cells #[.int .i64 0, .int .i64 0, .int .i64 0, .int .i64 0, .int .i64 0, .slice none 0 0, .slice none 0 0] 36)
            have Y5q9 := Blk.new W4q8 #[.int .i64 0, .int .i64 0, .int .i64 0, .int .i64 0, .int .i64 0, .slice none 0 0, .slice none 0 0] 36
            have hw := b4q8.size
            rw [hh0'] at hw
            have l5q9 : h0 ≤ W4q8.heap.size := hw
            clear hw
            have b5q9 := b4q8.trans (A.mono l5q9)
            have R1 := R1.on A (Nat.le_refl _)
            have R3 := R3.on A (Nat.le_refl _)
            have Y4q8 := Y4q8.on A Y4q8.lt
            refine hK.out _ _ (LD.low (b5q9.mono hL)).cells (fun _ => ?_)
            clear hK K A
            try simp only [Act.put, List.setIfInBounds_toArray, List.set_cons_zero, List.set_cons_succ]
            obtain ⟨W5q9, hW⟩ : ∃ W, W4q8.alloc (.cells #[.int .i64 0, .int .i64 0, .int .i64 0, .int .i64 0, .int .i64 0, .slice none 0 0, .slice none 0 0] 36) = W := ⟨_, rfl⟩
            have uY5q9 : W4q8.heap.size + 1 = W5q9.heap.size := by rw [← hW]; simp
            obtain ⟨N5q9, hN⟩ : ∃ N, W4q8.heap.size = N := ⟨_, rfl⟩
            rw [hW] at Y5q9 b5q9 R1 R3 Y4q8 ⊢
            rw [hN] at Y5q9 l5q9 uY5q9 ⊢
            clear hW hN
            have y6 := fun i => Y4q8.cell i; have yf6 := fun i => Y4q8.froz i
            refine wpAnyH_ready (rs := [10]) (by kernel_rfl) (by simp) ?_
            refine AllReadyH.cons rfl (fun K hK => ?_) AllReadyH.nil
            go_simp
            clear y6 yf6
            refine hK.out _ _ (LD.low (((b5q9.setCell (p := ⟨N4q8, 0, none⟩) l4q8 (.int .i64 Z.mc)).setCell (p := ⟨N4q8, 1, none⟩) l4q8 (.slice mv n kv)).mono hL)).cells (fun _ => ?_)
            clear hK K
            try simp only [Act.put, List.setIfInBounds_toArray, List.set_cons_zero, List.set_cons_succ]
            have hne6 : N5q9 ≠ N4q8 := blkNe Y5q9 Y4q8 (by decide)
            have Q6 := (Y5q9.other hne6 0 (.int .i64 Z.mc)).other hne6 1 (.slice mv n kv)
            have y6 := fun i => Q6.cell i; have yf6 := fun i => Q6.froz i
            refine wpAnyH_ready (rs := [11]) (by kernel_rfl) (by simp) ?_
            refine AllReadyH.cons rfl (fun K hK => ?_) AllReadyH.nil
            go_simp
            clear y6 yf6
            have bN6 := nine_below b5q9 l4q8 l5q9 (.int .i64 Z.mc) (.slice mv n kv) (.int .i64 who) (.int .i64 rv) (.int .i64 Z.ph) (.int .i64 Z.at') (.int .i64 Z.wv) (.slice av np cv) (.slice dv nr lv)
            have RN6 := RP.stored (who := who) (rv := rv) (Z := Z) Y4q8 Y5q9 (R1.mono hz0) (R3.mono hz0) l4q8 l5q9
            refine hK.out _ _ (LD.low (bN6.mono hL)).cells (fun _ => ?_)
            clear hK K
            refine wpAnyH_done (by kernel_rfl) ?_ _
            exact ⟨rfl, _, _, _, mv, kv, av, cv, dv, lv, _, _, _, _, _, _, _, _, _, _, _, _, _, _, _, _, _, _, _, _, _, _, rfl, bN6, RN6⟩
          · go_simp
            have A := alloc_below V3 (.cells #[.int .i64 0, .int .i64 0, .int .i64 0, .int .i64 0, .int .i64 0, .slice none 0 0, .slice none 0 0] 36)
            have Y4q9 := Blk.new V3 #[.int .i64 0, .int .i64 0, .int .i64 0, .int .i64 0, .int .i64 0, .slice none 0 0, .slice none 0 0] 36
            have hw := b3c.size
            rw [hh0'] at hw
            have l4q9 : h0 ≤ V3.heap.size := hw
            clear hw
            have b4q9 := b3c.trans (A.mono l4q9)
            have R1 := R1.on A (Nat.le_refl _)
            have R3 := R3.on A (Nat.le_refl _)
            refine hK.out _ _ (LD.low (b4q9.mono hL)).cells (fun _ => ?_)
            clear hK K A
            try simp only [Act.put, List.setIfInBounds_toArray, List.set_cons_zero, List.set_cons_succ]
            obtain ⟨W4q9, hW⟩ : ∃ W, V3.alloc (.cells #[.int .i64 0, .int .i64 0, .int .i64 0, .int .i64 0, .int .i64 0, .slice none 0 0, .slice none 0 0] 36) = W := ⟨_, rfl⟩
            have uY4q9 : V3.heap.size + 1 = W4q9.heap.size := by rw [← hW]; simp
            obtain ⟨N4q9, hN⟩ : ∃ N, V3.heap.size = N := ⟨_, rfl⟩
            rw [hW] at Y4q9 b4q9 R1 R3 ⊢
            rw [hN] at Y4q9 l4q9 uY4q9 ⊢
            clear hW hN
            refine wpAnyH_ready (rs := [8]) (by kernel_rfl) (by simp) ?_
            refine AllReadyH.cons rfl (fun K hK => ?_) (AllReadyH.nil)
            go_simp
            have A := alloc_below W4q9 (.cells #[.int .i64 0, .slice none 0 0] 33)
            have Y7q8 := Blk.new W4q9 #[.int .i64 0, .slice none 0 0] 33
            have hw := b4q9.size
            rw [hh0'] at hw
            have l7q8 : h0 ≤ W4q9.heap.size := hw
            clear hw
            have b7q8 := b4q9.trans (A.mono l7q8)
            have R1 := R1.on A (Nat.le_refl _)
            have R3 := R3.on A (Nat.le_refl _)
            have Y4q9 := Y4q9.on A Y4q9.lt
            refine hK.out _ _ (LD.low (b7q8.mono hL)).cells (fun _ => ?_)
            clear hK K A
            try simp only [Act.put, List.setIfInBounds_toArray, List.set_cons_zero, List.set_cons_succ]
            obtain ⟨W7q8, hW⟩ : ∃ W, W4q9.alloc (.cells #[.int .i64 0, .slice none 0 0] 33) = W := ⟨_, rfl⟩
            have uY7q8 : W4q9.heap.size + 1 = W7q8.heap.size := by rw [← hW]; simp
            obtain ⟨N7q8, hN⟩ : ∃ N, W4q9.heap.size = N := ⟨_, rfl⟩
            rw [hW] at Y7q8 b7q8 R1 R3 Y4q9 ⊢
            rw [hN] at Y7q8 l7q8 uY7q8 ⊢
            clear hW hN
            have y8 := fun i => Y7q8.cell i; have yf8 := fun i => Y7q8.froz i
            refine wpAnyH_ready (rs := [10]) (by kernel_rfl) (by simp) ?_
            refine AllReadyH.cons rfl (fun K hK => ?_) AllReadyH.nil
            go_simp
            clear y8 yf8
            refine hK.out _ _ (LD.low (((b7q8.setCell (p := ⟨N7q8, 0, none⟩) l7q8 (.int .i64 Z.mc)).setCell (p := ⟨N7q8, 1, none⟩) l7q8 (.slice mv n kv)).mono hL)).cells (fun _ => ?_)
            clear hK K
            try simp only [Act.put, List.setIfInBounds_toArray, List.set_cons_zero, List.set_cons_succ]
            have hne8 : N4q9 ≠ N7q8 := blkNe Y4q9 Y7q8 (by decide)
            have Q8 := (Y4q9.other hne8 0 (.int .i64 Z.mc)).other hne8 1 (.slice mv n kv)
            have y8 := fun i => Q8.cell i; have yf8 := fun i => Q8.froz i
            refine wpAnyH_ready (rs := [11]) (by kernel_rfl) (by simp) ?_
            refine AllReadyH.cons rfl (fun K hK => ?_) AllReadyH.nil
            go_simp
            clear y8 yf8
            have bN8 := nine_below b7q8 l7q8 l4q9 (.int .i64 Z.mc) (.slice mv n kv) (.int .i64 who) (.int .i64 rv) (.int .i64 Z.ph) (.int .i64 Z.at') (.int .i64 Z.wv) (.slice av np cv) (.slice dv nr lv)
            have RN8 := RP.stored (who := who) (rv := rv) (Z := Z) Y7q8 Y4q9 (R1.mono hz0) (R3.mono hz0) l7q8 l4q9
            refine hK.out _ _ (LD.low (bN8.mono hL)).cells (fun _ => ?_)
            clear hK K
            refine wpAnyH_done (by kernel_rfl) ?_ _
            exact ⟨rfl, _, _, _, mv, kv, av, cv, dv, lv, _, _, _, _, _, _, _, _, _, _, _, _, _, _, _, _, _, _, _, _, _, _, rfl, bN8, RN8⟩
        · go_simp
          have A := alloc_below V2 (.cells #[.int .i64 0, .slice none 0 0] 33)
          have Y3q8 := Blk.new V2 #[.int .i64 0, .slice none 0 0] 33
          have hw := b2c.size
          rw [hh0'] at hw
          have l3q8 : h0 ≤ V2.heap.size := hw
          clear hw
          have b3q8 := b2c.trans (A.mono l3q8)
          have O1 := O1.on A (Nat.le_refl _)
          have O3 := O3.on A (Nat.le_refl _)
          refine hK.out _ _ (LD.low (b3q8.mono hL)).cells (fun _ => ?_)
          clear hK K A
          try simp only [Act.put, List.setIfInBounds_toArray, List.set_cons_zero, List.set_cons_succ]
          obtain ⟨W3q8, hW⟩ : ∃ W, V2.alloc (.cells #[.int .i64 0, .slice none 0 0] 33) = W := ⟨_, rfl⟩
          have uY3q8 : V2.heap.size + 1 = W3q8.heap.size := by rw [← hW]; simp
          obtain ⟨N3q8, hN⟩ : ∃ N, V2.heap.size = N := ⟨_, rfl⟩
          rw [hW] at Y3q8 b3q8 O1 O3 ⊢
          rw [hN] at Y3q8 l3q8 uY3q8 ⊢
          clear hW hN
          refine wpAnyH_ready (rs := [4, 9]) (by kernel_rfl) (by simp) ?_
          refine AllReadyH.cons rfl (fun K hK => ?_) (AllReadyH.cons rfl (fun K hK => ?_) (AllReadyH.nil))
          · go_simp
            refine (SP W3q8 W3q8.heap.size _ _ _ O1.sees O3.sees (Nat.le_refl _)).mono ?_
            rintro e V9 ⟨mv, kv, av, cv, dv, lv, rfl, R1, R3, c9⟩
            have hw := b3q8.size
            rw [hh0'] at hw
            have b9c := b3q8.trans (c9.mono hw)
            have hz0 := hw
            clear O1 O3
            have Y3q8 := Y3q8.on c9 Y3q8.lt
            clear hw c9
            go_simp
            refine hK.out _ _ (LD.low (b9c.mono hL)).cells (fun _ => ?_)
            clear hK K
            try simp only [Act.put, List.setIfInBounds_toArray, List.set_cons_zero, List.set_cons_succ]
            refine takeH (i := 5) (some 27) (.tuple #[.agg #[.int .i64 Z.mc, .slice mv n kv], .agg #[.int .i64 who, .int .i64 rv, .int .i64 Z.ph, .int .i64 Z.at', .int .i64 Z.wv, .slice av np cv, .slice dv nr lv]]) rfl rfl (by kernel_rfl) (by kernel_rfl) (by kernel_rfl) (fun _ _ _ h => by cases h.1) (Or.inl ⟨by rfl, fun w hSw => by (try dsimp only at hSw); go_simp⟩) (by assumption) ?_
            try simp only [Act.put, List.setIfInBounds_toArray, List.set_cons_zero, List.set_cons_succ]
            refine takeH (i := 6) (some 33) (.agg #[.int .i64 Z.mc, .slice mv n kv]) rfl rfl (by kernel_rfl) (by kernel_rfl) (by kernel_rfl) (fun _ _ _ h => by cases h.1) (Or.inl ⟨by rfl, fun w hSw => by (try dsimp only at hSw); go_simp⟩) (by assumption) ?_
            try simp only [Act.put, List.setIfInBounds_toArray, List.set_cons_zero, List.set_cons_succ]
            refine takeH (i := 7) (some 34) (.agg #[.int .i64 who, .int .i64 rv, .int .i64 Z.ph, .int .i64 Z.at', .int .i64 Z.wv, .slice av np cv, .slice dv nr lv]) rfl rfl (by kernel_rfl) (by kernel_rfl) (by kernel_rfl) (fun _ _ _ h => by cases h.1) (Or.inl ⟨by rfl, fun w hSw => by (try dsimp only at hSw); go_simp⟩) (by assumption) ?_
            try simp only [Act.put, List.setIfInBounds_toArray, List.set_cons_zero, List.set_cons_succ]
            refine wpAnyH_ready (rs := [9]) (by kernel_rfl) (by simp) ?_
            refine AllReadyH.cons rfl (fun K hK => ?_) (AllReadyH.nil)
            go_simp
            have A := alloc_below V9 (.cells #[.int .i64 0, .int .i64 0, .int .i64 0, .int .i64 0, .int .i64 0, .slice none 0 0, .slice none 0 0] 36)
            have Y10q9 := Blk.new V9 #[.int .i64 0, .int .i64 0, .int .i64 0, .int .i64 0, .int .i64 0, .slice none 0 0, .slice none 0 0] 36
            have hw := b9c.size
            rw [hh0'] at hw
            have l10q9 : h0 ≤ V9.heap.size := hw
            clear hw
            have b10q9 := b9c.trans (A.mono l10q9)
            have Y3q8 := Y3q8.on A Y3q8.lt
            have R1 := R1.on A (Nat.le_refl _)
            have R3 := R3.on A (Nat.le_refl _)
            refine hK.out _ _ (LD.low (b10q9.mono hL)).cells (fun _ => ?_)
            clear hK K A
            try simp only [Act.put, List.setIfInBounds_toArray, List.set_cons_zero, List.set_cons_succ]
            obtain ⟨W10q9, hW⟩ : ∃ W, V9.alloc (.cells #[.int .i64 0, .int .i64 0, .int .i64 0, .int .i64 0, .int .i64 0, .slice none 0 0, .slice none 0 0] 36) = W := ⟨_, rfl⟩
            have uY10q9 : V9.heap.size + 1 = W10q9.heap.size := by rw [← hW]; simp
            obtain ⟨N10q9, hN⟩ : ∃ N, V9.heap.size = N := ⟨_, rfl⟩
            rw [hW] at Y10q9 b10q9 Y3q8 R1 R3 ⊢
            rw [hN] at Y10q9 l10q9 uY10q9 ⊢
            clear hW hN
            have y11 := fun i => Y3q8.cell i; have yf11 := fun i => Y3q8.froz i
            refine wpAnyH_ready (rs := [10]) (by kernel_rfl) (by simp) ?_
            refine AllReadyH.cons rfl (fun K hK => ?_) AllReadyH.nil
            go_simp
            clear y11 yf11
            refine hK.out _ _ (LD.low (((b10q9.setCell (p := ⟨N3q8, 0, none⟩) l3q8 (.int .i64 Z.mc)).setCell (p := ⟨N3q8, 1, none⟩) l3q8 (.slice mv n kv)).mono hL)).cells (fun _ => ?_)
            clear hK K
            try simp only [Act.put, List.setIfInBounds_toArray, List.set_cons_zero, List.set_cons_succ]
            have hne11 : N10q9 ≠ N3q8 := blkNe Y10q9 Y3q8 (by decide)
            have Q11 := (Y10q9.other hne11 0 (.int .i64 Z.mc)).other hne11 1 (.slice mv n kv)
            have y11 := fun i => Q11.cell i; have yf11 := fun i => Q11.froz i
            refine wpAnyH_ready (rs := [11]) (by kernel_rfl) (by simp) ?_
            refine AllReadyH.cons rfl (fun K hK => ?_) AllReadyH.nil
            go_simp
            clear y11 yf11
            have bN11 := nine_below b10q9 l3q8 l10q9 (.int .i64 Z.mc) (.slice mv n kv) (.int .i64 who) (.int .i64 rv) (.int .i64 Z.ph) (.int .i64 Z.at') (.int .i64 Z.wv) (.slice av np cv) (.slice dv nr lv)
            have RN11 := RP.stored (who := who) (rv := rv) (Z := Z) Y3q8 Y10q9 (R1.mono hz0) (R3.mono hz0) l3q8 l10q9
            refine hK.out _ _ (LD.low (bN11.mono hL)).cells (fun _ => ?_)
            clear hK K
            refine wpAnyH_done (by kernel_rfl) ?_ _
            exact ⟨rfl, _, _, _, mv, kv, av, cv, dv, lv, _, _, _, _, _, _, _, _, _, _, _, _, _, _, _, _, _, _, _, _, _, _, rfl, bN11, RN11⟩
          · go_simp
            have A := alloc_below W3q8 (.cells #[.int .i64 0, .int .i64 0, .int .i64 0, .int .i64 0, .int .i64 0, .slice none 0 0, .slice none 0 0] 36)
            have Y9q9 := Blk.new W3q8 #[.int .i64 0, .int .i64 0, .int .i64 0, .int .i64 0, .int .i64 0, .slice none 0 0, .slice none 0 0] 36
            have hw := b3q8.size
            rw [hh0'] at hw
            have l9q9 : h0 ≤ W3q8.heap.size := hw
            clear hw
            have b9q9 := b3q8.trans (A.mono l9q9)
            have O1 := O1.on A (Nat.le_refl _)
            have O3 := O3.on A (Nat.le_refl _)
            have Y3q8 := Y3q8.on A Y3q8.lt
            refine hK.out _ _ (LD.low (b9q9.mono hL)).cells (fun _ => ?_)
            clear hK K A
            try simp only [Act.put, List.setIfInBounds_toArray, List.set_cons_zero, List.set_cons_succ]
            obtain ⟨W9q9, hW⟩ : ∃ W, W3q8.alloc (.cells #[.int .i64 0, .int .i64 0, .int .i64 0, .int .i64 0, .int .i64 0, .slice none 0 0, .slice none 0 0] 36) = W := ⟨_, rfl⟩
            have uY9q9 : W3q8.heap.size + 1 = W9q9.heap.size := by rw [← hW]; simp
            obtain ⟨N9q9, hN⟩ : ∃ N, W3q8.heap.size = N := ⟨_, rfl⟩
            rw [hW] at Y9q9 b9q9 O1 O3 Y3q8 ⊢
            rw [hN] at Y9q9 l9q9 uY9q9 ⊢
            clear hW hN
            refine wpAnyH_ready (rs := [4]) (by kernel_rfl) (by simp) ?_
            refine AllReadyH.cons rfl (fun K hK => ?_) (AllReadyH.nil)
            go_simp
            refine (SP W9q9 W9q9.heap.size _ _ _ O1.sees O3.sees (Nat.le_refl _)).mono ?_
            rintro e V12 ⟨mv, kv, av, cv, dv, lv, rfl, R1, R3, c12⟩
            have hw := b9q9.size
            rw [hh0'] at hw
            have b12c := b9q9.trans (c12.mono hw)
            have hz0 := hw
            clear O1 O3
            have Y3q8 := Y3q8.on c12 Y3q8.lt
            have Y9q9 := Y9q9.on c12 Y9q9.lt
            clear hw c12
            go_simp
            refine hK.out _ _ (LD.low (b12c.mono hL)).cells (fun _ => ?_)
            clear hK K
            try simp only [Act.put, List.setIfInBounds_toArray, List.set_cons_zero, List.set_cons_succ]
            refine takeH (i := 5) (some 27) (.tuple #[.agg #[.int .i64 Z.mc, .slice mv n kv], .agg #[.int .i64 who, .int .i64 rv, .int .i64 Z.ph, .int .i64 Z.at', .int .i64 Z.wv, .slice av np cv, .slice dv nr lv]]) rfl rfl (by kernel_rfl) (by kernel_rfl) (by kernel_rfl) (fun _ _ _ h => by cases h.1) (Or.inl ⟨by rfl, fun w hSw => by (try dsimp only at hSw); go_simp⟩) (by assumption) ?_
            try simp only [Act.put, List.setIfInBounds_toArray, List.set_cons_zero, List.set_cons_succ]
            refine takeH (i := 6) (some 33) (.agg #[.int .i64 Z.mc, .slice mv n kv]) rfl rfl (by kernel_rfl) (by kernel_rfl) (by kernel_rfl) (fun _ _ _ h => by cases h.1) (Or.inl ⟨by rfl, fun w hSw => by (try dsimp only at hSw); go_simp⟩) (by assumption) ?_
            try simp only [Act.put, List.setIfInBounds_toArray, List.set_cons_zero, List.set_cons_succ]
            refine takeH (i := 7) (some 34) (.agg #[.int .i64 who, .int .i64 rv, .int .i64 Z.ph, .int .i64 Z.at', .int .i64 Z.wv, .slice av np cv, .slice dv nr lv]) rfl rfl (by kernel_rfl) (by kernel_rfl) (by kernel_rfl) (fun _ _ _ h => by cases h.1) (Or.inl ⟨by rfl, fun w hSw => by (try dsimp only at hSw); go_simp⟩) (by assumption) ?_
            try simp only [Act.put, List.setIfInBounds_toArray, List.set_cons_zero, List.set_cons_succ]
            have y13 := fun i => Y3q8.cell i; have yf13 := fun i => Y3q8.froz i
            refine wpAnyH_ready (rs := [10]) (by kernel_rfl) (by simp) ?_
            refine AllReadyH.cons rfl (fun K hK => ?_) AllReadyH.nil
            go_simp
            clear y13 yf13
            refine hK.out _ _ (LD.low (((b12c.setCell (p := ⟨N3q8, 0, none⟩) l3q8 (.int .i64 Z.mc)).setCell (p := ⟨N3q8, 1, none⟩) l3q8 (.slice mv n kv)).mono hL)).cells (fun _ => ?_)
            clear hK K
            try simp only [Act.put, List.setIfInBounds_toArray, List.set_cons_zero, List.set_cons_succ]
            have hne13 : N9q9 ≠ N3q8 := blkNe Y9q9 Y3q8 (by decide)
            have Q13 := (Y9q9.other hne13 0 (.int .i64 Z.mc)).other hne13 1 (.slice mv n kv)
            have y13 := fun i => Q13.cell i; have yf13 := fun i => Q13.froz i
            refine wpAnyH_ready (rs := [11]) (by kernel_rfl) (by simp) ?_
            refine AllReadyH.cons rfl (fun K hK => ?_) AllReadyH.nil
            go_simp
            clear y13 yf13
            have bN13 := nine_below b12c l3q8 l9q9 (.int .i64 Z.mc) (.slice mv n kv) (.int .i64 who) (.int .i64 rv) (.int .i64 Z.ph) (.int .i64 Z.at') (.int .i64 Z.wv) (.slice av np cv) (.slice dv nr lv)
            have RN13 := RP.stored (who := who) (rv := rv) (Z := Z) Y3q8 Y9q9 (R1.mono hz0) (R3.mono hz0) l3q8 l9q9
            refine hK.out _ _ (LD.low (bN13.mono hL)).cells (fun _ => ?_)
            clear hK K
            refine wpAnyH_done (by kernel_rfl) ?_ _
            exact ⟨rfl, _, _, _, mv, kv, av, cv, dv, lv, _, _, _, _, _, _, _, _, _, _, _, _, _, _, _, _, _, _, _, _, _, _, rfl, bN13, RN13⟩
        · go_simp
          have A := alloc_below V2 (.cells #[.int .i64 0, .int .i64 0, .int .i64 0, .int .i64 0, .int .i64 0, .slice none 0 0, .slice none 0 0] 36)
          have Y3q9 := Blk.new V2 #[.int .i64 0, .int .i64 0, .int .i64 0, .int .i64 0, .int .i64 0, .slice none 0 0, .slice none 0 0] 36
          have hw := b2c.size
          rw [hh0'] at hw
          have l3q9 : h0 ≤ V2.heap.size := hw
          clear hw
          have b3q9 := b2c.trans (A.mono l3q9)
          have O1 := O1.on A (Nat.le_refl _)
          have O3 := O3.on A (Nat.le_refl _)
          refine hK.out _ _ (LD.low (b3q9.mono hL)).cells (fun _ => ?_)
          clear hK K A
          try simp only [Act.put, List.setIfInBounds_toArray, List.set_cons_zero, List.set_cons_succ]
          obtain ⟨W3q9, hW⟩ : ∃ W, V2.alloc (.cells #[.int .i64 0, .int .i64 0, .int .i64 0, .int .i64 0, .int .i64 0, .slice none 0 0, .slice none 0 0] 36) = W := ⟨_, rfl⟩
          have uY3q9 : V2.heap.size + 1 = W3q9.heap.size := by rw [← hW]; simp
          obtain ⟨N3q9, hN⟩ : ∃ N, V2.heap.size = N := ⟨_, rfl⟩
          rw [hW] at Y3q9 b3q9 O1 O3 ⊢
          rw [hN] at Y3q9 l3q9 uY3q9 ⊢
          clear hW hN
          refine wpAnyH_ready (rs := [4, 8]) (by kernel_rfl) (by simp) ?_
          refine AllReadyH.cons rfl (fun K hK => ?_) (AllReadyH.cons rfl (fun K hK => ?_) (AllReadyH.nil))
          · go_simp
            refine (SP W3q9 W3q9.heap.size _ _ _ O1.sees O3.sees (Nat.le_refl _)).mono ?_
            rintro e V14 ⟨mv, kv, av, cv, dv, lv, rfl, R1, R3, c14⟩
            have hw := b3q9.size
            rw [hh0'] at hw
            have b14c := b3q9.trans (c14.mono hw)
            have hz0 := hw
            clear O1 O3
            have Y3q9 := Y3q9.on c14 Y3q9.lt
            clear hw c14
            go_simp
            refine hK.out _ _ (LD.low (b14c.mono hL)).cells (fun _ => ?_)
            clear hK K
            try simp only [Act.put, List.setIfInBounds_toArray, List.set_cons_zero, List.set_cons_succ]
            refine takeH (i := 5) (some 27) (.tuple #[.agg #[.int .i64 Z.mc, .slice mv n kv], .agg #[.int .i64 who, .int .i64 rv, .int .i64 Z.ph, .int .i64 Z.at', .int .i64 Z.wv, .slice av np cv, .slice dv nr lv]]) rfl rfl (by kernel_rfl) (by kernel_rfl) (by kernel_rfl) (fun _ _ _ h => by cases h.1) (Or.inl ⟨by rfl, fun w hSw => by (try dsimp only at hSw); go_simp⟩) (by assumption) ?_
            try simp only [Act.put, List.setIfInBounds_toArray, List.set_cons_zero, List.set_cons_succ]
            refine takeH (i := 6) (some 33) (.agg #[.int .i64 Z.mc, .slice mv n kv]) rfl rfl (by kernel_rfl) (by kernel_rfl) (by kernel_rfl) (fun _ _ _ h => by cases h.1) (Or.inl ⟨by rfl, fun w hSw => by (try dsimp only at hSw); go_simp⟩) (by assumption) ?_
            try simp only [Act.put, List.setIfInBounds_toArray, List.set_cons_zero, List.set_cons_succ]
            refine takeH (i := 7) (some 34) (.agg #[.int .i64 who, .int .i64 rv, .int .i64 Z.ph, .int .i64 Z.at', .int .i64 Z.wv, .slice av np cv, .slice dv nr lv]) rfl rfl (by kernel_rfl) (by kernel_rfl) (by kernel_rfl) (fun _ _ _ h => by cases h.1) (Or.inl ⟨by rfl, fun w hSw => by (try dsimp only at hSw); go_simp⟩) (by assumption) ?_
            try simp only [Act.put, List.setIfInBounds_toArray, List.set_cons_zero, List.set_cons_succ]
            refine wpAnyH_ready (rs := [8]) (by kernel_rfl) (by simp) ?_
            refine AllReadyH.cons rfl (fun K hK => ?_) (AllReadyH.nil)
            go_simp
            have A := alloc_below V14 (.cells #[.int .i64 0, .slice none 0 0] 33)
            have Y15q8 := Blk.new V14 #[.int .i64 0, .slice none 0 0] 33
            have hw := b14c.size
            rw [hh0'] at hw
            have l15q8 : h0 ≤ V14.heap.size := hw
            clear hw
            have b15q8 := b14c.trans (A.mono l15q8)
            have Y3q9 := Y3q9.on A Y3q9.lt
            have R1 := R1.on A (Nat.le_refl _)
            have R3 := R3.on A (Nat.le_refl _)
            refine hK.out _ _ (LD.low (b15q8.mono hL)).cells (fun _ => ?_)
            clear hK K A
            try simp only [Act.put, List.setIfInBounds_toArray, List.set_cons_zero, List.set_cons_succ]
            obtain ⟨W15q8, hW⟩ : ∃ W, V14.alloc (.cells #[.int .i64 0, .slice none 0 0] 33) = W := ⟨_, rfl⟩
            have uY15q8 : V14.heap.size + 1 = W15q8.heap.size := by rw [← hW]; simp
            obtain ⟨N15q8, hN⟩ : ∃ N, V14.heap.size = N := ⟨_, rfl⟩
            rw [hW] at Y15q8 b15q8 Y3q9 R1 R3 ⊢
            rw [hN] at Y15q8 l15q8 uY15q8 ⊢
            clear hW hN
            have y16 := fun i => Y15q8.cell i; have yf16 := fun i => Y15q8.froz i
            refine wpAnyH_ready (rs := [10]) (by kernel_rfl) (by simp) ?_
            refine AllReadyH.cons rfl (fun K hK => ?_) AllReadyH.nil
            go_simp
            clear y16 yf16
            refine hK.out _ _ (LD.low (((b15q8.setCell (p := ⟨N15q8, 0, none⟩) l15q8 (.int .i64 Z.mc)).setCell (p := ⟨N15q8, 1, none⟩) l15q8 (.slice mv n kv)).mono hL)).cells (fun _ => ?_)
            clear hK K
            try simp only [Act.put, List.setIfInBounds_toArray, List.set_cons_zero, List.set_cons_succ]
            have hne16 : N3q9 ≠ N15q8 := blkNe Y3q9 Y15q8 (by decide)
            have Q16 := (Y3q9.other hne16 0 (.int .i64 Z.mc)).other hne16 1 (.slice mv n kv)
            have y16 := fun i => Q16.cell i; have yf16 := fun i => Q16.froz i
            refine wpAnyH_ready (rs := [11]) (by kernel_rfl) (by simp) ?_
            refine AllReadyH.cons rfl (fun K hK => ?_) AllReadyH.nil
            go_simp
            clear y16 yf16
            have bN16 := nine_below b15q8 l15q8 l3q9 (.int .i64 Z.mc) (.slice mv n kv) (.int .i64 who) (.int .i64 rv) (.int .i64 Z.ph) (.int .i64 Z.at') (.int .i64 Z.wv) (.slice av np cv) (.slice dv nr lv)
            have RN16 := RP.stored (who := who) (rv := rv) (Z := Z) Y15q8 Y3q9 (R1.mono hz0) (R3.mono hz0) l15q8 l3q9
            refine hK.out _ _ (LD.low (bN16.mono hL)).cells (fun _ => ?_)
            clear hK K
            refine wpAnyH_done (by kernel_rfl) ?_ _
            exact ⟨rfl, _, _, _, mv, kv, av, cv, dv, lv, _, _, _, _, _, _, _, _, _, _, _, _, _, _, _, _, _, _, _, _, _, _, rfl, bN16, RN16⟩
          · go_simp
            have A := alloc_below W3q9 (.cells #[.int .i64 0, .slice none 0 0] 33)
            have Y14q8 := Blk.new W3q9 #[.int .i64 0, .slice none 0 0] 33
            have hw := b3q9.size
            rw [hh0'] at hw
            have l14q8 : h0 ≤ W3q9.heap.size := hw
            clear hw
            have b14q8 := b3q9.trans (A.mono l14q8)
            have O1 := O1.on A (Nat.le_refl _)
            have O3 := O3.on A (Nat.le_refl _)
            have Y3q9 := Y3q9.on A Y3q9.lt
            refine hK.out _ _ (LD.low (b14q8.mono hL)).cells (fun _ => ?_)
            clear hK K A
            try simp only [Act.put, List.setIfInBounds_toArray, List.set_cons_zero, List.set_cons_succ]
            obtain ⟨W14q8, hW⟩ : ∃ W, W3q9.alloc (.cells #[.int .i64 0, .slice none 0 0] 33) = W := ⟨_, rfl⟩
            have uY14q8 : W3q9.heap.size + 1 = W14q8.heap.size := by rw [← hW]; simp
            obtain ⟨N14q8, hN⟩ : ∃ N, W3q9.heap.size = N := ⟨_, rfl⟩
            rw [hW] at Y14q8 b14q8 O1 O3 Y3q9 ⊢
            rw [hN] at Y14q8 l14q8 uY14q8 ⊢
            clear hW hN
            refine wpAnyH_ready (rs := [4]) (by kernel_rfl) (by simp) ?_
            refine AllReadyH.cons rfl (fun K hK => ?_) (AllReadyH.nil)
            go_simp
            refine (SP W14q8 W14q8.heap.size _ _ _ O1.sees O3.sees (Nat.le_refl _)).mono ?_
            rintro e V17 ⟨mv, kv, av, cv, dv, lv, rfl, R1, R3, c17⟩
            have hw := b14q8.size
            rw [hh0'] at hw
            have b17c := b14q8.trans (c17.mono hw)
            have hz0 := hw
            clear O1 O3
            have Y3q9 := Y3q9.on c17 Y3q9.lt
            have Y14q8 := Y14q8.on c17 Y14q8.lt
            clear hw c17
            go_simp
            refine hK.out _ _ (LD.low (b17c.mono hL)).cells (fun _ => ?_)
            clear hK K
            try simp only [Act.put, List.setIfInBounds_toArray, List.set_cons_zero, List.set_cons_succ]
            refine takeH (i := 5) (some 27) (.tuple #[.agg #[.int .i64 Z.mc, .slice mv n kv], .agg #[.int .i64 who, .int .i64 rv, .int .i64 Z.ph, .int .i64 Z.at', .int .i64 Z.wv, .slice av np cv, .slice dv nr lv]]) rfl rfl (by kernel_rfl) (by kernel_rfl) (by kernel_rfl) (fun _ _ _ h => by cases h.1) (Or.inl ⟨by rfl, fun w hSw => by (try dsimp only at hSw); go_simp⟩) (by assumption) ?_
            try simp only [Act.put, List.setIfInBounds_toArray, List.set_cons_zero, List.set_cons_succ]
            refine takeH (i := 6) (some 33) (.agg #[.int .i64 Z.mc, .slice mv n kv]) rfl rfl (by kernel_rfl) (by kernel_rfl) (by kernel_rfl) (fun _ _ _ h => by cases h.1) (Or.inl ⟨by rfl, fun w hSw => by (try dsimp only at hSw); go_simp⟩) (by assumption) ?_
            try simp only [Act.put, List.setIfInBounds_toArray, List.set_cons_zero, List.set_cons_succ]
            refine takeH (i := 7) (some 34) (.agg #[.int .i64 who, .int .i64 rv, .int .i64 Z.ph, .int .i64 Z.at', .int .i64 Z.wv, .slice av np cv, .slice dv nr lv]) rfl rfl (by kernel_rfl) (by kernel_rfl) (by kernel_rfl) (fun _ _ _ h => by cases h.1) (Or.inl ⟨by rfl, fun w hSw => by (try dsimp only at hSw); go_simp⟩) (by assumption) ?_
            try simp only [Act.put, List.setIfInBounds_toArray, List.set_cons_zero, List.set_cons_succ]
            have y18 := fun i => Y14q8.cell i; have yf18 := fun i => Y14q8.froz i
            refine wpAnyH_ready (rs := [10]) (by kernel_rfl) (by simp) ?_
            refine AllReadyH.cons rfl (fun K hK => ?_) AllReadyH.nil
            go_simp
            clear y18 yf18
            refine hK.out _ _ (LD.low (((b17c.setCell (p := ⟨N14q8, 0, none⟩) l14q8 (.int .i64 Z.mc)).setCell (p := ⟨N14q8, 1, none⟩) l14q8 (.slice mv n kv)).mono hL)).cells (fun _ => ?_)
            clear hK K
            try simp only [Act.put, List.setIfInBounds_toArray, List.set_cons_zero, List.set_cons_succ]
            have hne18 : N3q9 ≠ N14q8 := blkNe Y3q9 Y14q8 (by decide)
            have Q18 := (Y3q9.other hne18 0 (.int .i64 Z.mc)).other hne18 1 (.slice mv n kv)
            have y18 := fun i => Q18.cell i; have yf18 := fun i => Q18.froz i
            refine wpAnyH_ready (rs := [11]) (by kernel_rfl) (by simp) ?_
            refine AllReadyH.cons rfl (fun K hK => ?_) AllReadyH.nil
            go_simp
            clear y18 yf18
            have bN18 := nine_below b17c l14q8 l3q9 (.int .i64 Z.mc) (.slice mv n kv) (.int .i64 who) (.int .i64 rv) (.int .i64 Z.ph) (.int .i64 Z.at') (.int .i64 Z.wv) (.slice av np cv) (.slice dv nr lv)
            have RN18 := RP.stored (who := who) (rv := rv) (Z := Z) Y14q8 Y3q9 (R1.mono hz0) (R3.mono hz0) l14q8 l3q9
            refine hK.out _ _ (LD.low (bN18.mono hL)).cells (fun _ => ?_)
            clear hK K
            refine wpAnyH_done (by kernel_rfl) ?_ _
            exact ⟨rfl, _, _, _, mv, kv, av, cv, dv, lv, _, _, _, _, _, _, _, _, _, _, _, _, _, _, _, _, _, _, _, _, _, _, rfl, bN18, RN18⟩
      · go_simp
        have A := alloc_below V1 (.cells #[.int .i64 0, .slice none 0 0] 33)
        have Y2q8 := Blk.new V1 #[.int .i64 0, .slice none 0 0] 33
        have hw := b1c.size
        rw [hh0'] at hw
        have l2q8 : h0 ≤ V1.heap.size := hw
        clear hw
        have b2q8 := b1c.trans (A.mono l2q8)
        have O1 := O1.on A (Nat.le_refl _)
        refine hK.out _ _ (LD.low (b2q8.mono hL)).cells (fun _ => ?_)
        clear hK K A
        try simp only [Act.put, List.setIfInBounds_toArray, List.set_cons_zero, List.set_cons_succ]
        obtain ⟨W2q8, hW⟩ : ∃ W, V1.alloc (.cells #[.int .i64 0, .slice none 0 0] 33) = W := ⟨_, rfl⟩
        have uY2q8 : V1.heap.size + 1 = W2q8.heap.size := by rw [← hW]; simp
        obtain ⟨N2q8, hN⟩ : ∃ N, V1.heap.size = N := ⟨_, rfl⟩
        rw [hW] at Y2q8 b2q8 O1 ⊢
        rw [hN] at Y2q8 l2q8 uY2q8 ⊢
        clear hW hN
        refine wpAnyH_ready (rs := [3, 9]) (by kernel_rfl) (by simp) ?_
        refine AllReadyH.cons rfl (fun K hK => ?_) (AllReadyH.cons rfl (fun K hK => ?_) (AllReadyH.nil))
        · go_simp
          refine (C3 W2q8 (LD.low (b2q8.mono hL))).mono ?_
          rintro e V19 ⟨a3, k3, d3, l3, rfl, O3, c19⟩
          have hw := b2q8.size
          rw [hh0'] at hw
          have b19c := b2q8.trans (c19.mono hw)
          have O1 := O1.on c19 (Nat.le_refl _)
          have Y2q8 := Y2q8.on c19 Y2q8.lt
          clear hw c19
          go_simp
          refine hK.out _ _ (LD.low (b19c.mono hL)).cells (fun _ => ?_)
          clear hK K
          try simp only [Act.put, List.setIfInBounds_toArray, List.set_cons_zero, List.set_cons_succ]
          refine wpAnyH_ready (rs := [4, 9]) (by kernel_rfl) (by simp) ?_
          refine AllReadyH.cons rfl (fun K hK => ?_) (AllReadyH.cons rfl (fun K hK => ?_) (AllReadyH.nil))
          · go_simp
            refine (SP V19 V19.heap.size _ _ _ O1.sees O3.sees (Nat.le_refl _)).mono ?_
            rintro e V20 ⟨mv, kv, av, cv, dv, lv, rfl, R1, R3, c20⟩
            have hw := b19c.size
            rw [hh0'] at hw
            have b20c := b19c.trans (c20.mono hw)
            have hz0 := hw
            clear O1 O3
            have Y2q8 := Y2q8.on c20 Y2q8.lt
            clear hw c20
            go_simp
            refine hK.out _ _ (LD.low (b20c.mono hL)).cells (fun _ => ?_)
            clear hK K
            try simp only [Act.put, List.setIfInBounds_toArray, List.set_cons_zero, List.set_cons_succ]
            refine takeH (i := 5) (some 27) (.tuple #[.agg #[.int .i64 Z.mc, .slice mv n kv], .agg #[.int .i64 who, .int .i64 rv, .int .i64 Z.ph, .int .i64 Z.at', .int .i64 Z.wv, .slice av np cv, .slice dv nr lv]]) rfl rfl (by kernel_rfl) (by kernel_rfl) (by kernel_rfl) (fun _ _ _ h => by cases h.1) (Or.inl ⟨by rfl, fun w hSw => by (try dsimp only at hSw); go_simp⟩) (by assumption) ?_
            try simp only [Act.put, List.setIfInBounds_toArray, List.set_cons_zero, List.set_cons_succ]
            refine takeH (i := 6) (some 33) (.agg #[.int .i64 Z.mc, .slice mv n kv]) rfl rfl (by kernel_rfl) (by kernel_rfl) (by kernel_rfl) (fun _ _ _ h => by cases h.1) (Or.inl ⟨by rfl, fun w hSw => by (try dsimp only at hSw); go_simp⟩) (by assumption) ?_
            try simp only [Act.put, List.setIfInBounds_toArray, List.set_cons_zero, List.set_cons_succ]
            refine takeH (i := 7) (some 34) (.agg #[.int .i64 who, .int .i64 rv, .int .i64 Z.ph, .int .i64 Z.at', .int .i64 Z.wv, .slice av np cv, .slice dv nr lv]) rfl rfl (by kernel_rfl) (by kernel_rfl) (by kernel_rfl) (fun _ _ _ h => by cases h.1) (Or.inl ⟨by rfl, fun w hSw => by (try dsimp only at hSw); go_simp⟩) (by assumption) ?_
            try simp only [Act.put, List.setIfInBounds_toArray, List.set_cons_zero, List.set_cons_succ]
            refine wpAnyH_ready (rs := [9]) (by kernel_rfl) (by simp) ?_
            refine AllReadyH.cons rfl (fun K hK => ?_) (AllReadyH.nil)
            go_simp
            have A := alloc_below V20 (.cells #[.int .i64 0, .int .i64 0, .int .i64 0, .int .i64 0, .int .i64 0, .slice none 0 0, .slice none 0 0] 36)
            have Y21q9 := Blk.new V20 #[.int .i64 0, .int .i64 0, .int .i64 0, .int .i64 0, .int .i64 0, .slice none 0 0, .slice none 0 0] 36
            have hw := b20c.size
            rw [hh0'] at hw
            have l21q9 : h0 ≤ V20.heap.size := hw
            clear hw
            have b21q9 := b20c.trans (A.mono l21q9)
            have Y2q8 := Y2q8.on A Y2q8.lt
            have R1 := R1.on A (Nat.le_refl _)
            have R3 := R3.on A (Nat.le_refl _)
            refine hK.out _ _ (LD.low (b21q9.mono hL)).cells (fun _ => ?_)
            clear hK K A
            try simp only [Act.put, List.setIfInBounds_toArray, List.set_cons_zero, List.set_cons_succ]
            obtain ⟨W21q9, hW⟩ : ∃ W, V20.alloc (.cells #[.int .i64 0, .int .i64 0, .int .i64 0, .int .i64 0, .int .i64 0, .slice none 0 0, .slice none 0 0] 36) = W := ⟨_, rfl⟩
            have uY21q9 : V20.heap.size + 1 = W21q9.heap.size := by rw [← hW]; simp
            obtain ⟨N21q9, hN⟩ : ∃ N, V20.heap.size = N := ⟨_, rfl⟩
            rw [hW] at Y21q9 b21q9 Y2q8 R1 R3 ⊢
            rw [hN] at Y21q9 l21q9 uY21q9 ⊢
            clear hW hN
            have y22 := fun i => Y2q8.cell i; have yf22 := fun i => Y2q8.froz i
            refine wpAnyH_ready (rs := [10]) (by kernel_rfl) (by simp) ?_
            refine AllReadyH.cons rfl (fun K hK => ?_) AllReadyH.nil
            go_simp
            clear y22 yf22
            refine hK.out _ _ (LD.low (((b21q9.setCell (p := ⟨N2q8, 0, none⟩) l2q8 (.int .i64 Z.mc)).setCell (p := ⟨N2q8, 1, none⟩) l2q8 (.slice mv n kv)).mono hL)).cells (fun _ => ?_)
            clear hK K
            try simp only [Act.put, List.setIfInBounds_toArray, List.set_cons_zero, List.set_cons_succ]
            have hne22 : N21q9 ≠ N2q8 := blkNe Y21q9 Y2q8 (by decide)
            have Q22 := (Y21q9.other hne22 0 (.int .i64 Z.mc)).other hne22 1 (.slice mv n kv)
            have y22 := fun i => Q22.cell i; have yf22 := fun i => Q22.froz i
            refine wpAnyH_ready (rs := [11]) (by kernel_rfl) (by simp) ?_
            refine AllReadyH.cons rfl (fun K hK => ?_) AllReadyH.nil
            go_simp
            clear y22 yf22
            have bN22 := nine_below b21q9 l2q8 l21q9 (.int .i64 Z.mc) (.slice mv n kv) (.int .i64 who) (.int .i64 rv) (.int .i64 Z.ph) (.int .i64 Z.at') (.int .i64 Z.wv) (.slice av np cv) (.slice dv nr lv)
            have RN22 := RP.stored (who := who) (rv := rv) (Z := Z) Y2q8 Y21q9 (R1.mono hz0) (R3.mono hz0) l2q8 l21q9
            refine hK.out _ _ (LD.low (bN22.mono hL)).cells (fun _ => ?_)
            clear hK K
            refine wpAnyH_done (by kernel_rfl) ?_ _
            exact ⟨rfl, _, _, _, mv, kv, av, cv, dv, lv, _, _, _, _, _, _, _, _, _, _, _, _, _, _, _, _, _, _, _, _, _, _, rfl, bN22, RN22⟩
          · go_simp
            have A := alloc_below V19 (.cells #[.int .i64 0, .int .i64 0, .int .i64 0, .int .i64 0, .int .i64 0, .slice none 0 0, .slice none 0 0] 36)
            have Y20q9 := Blk.new V19 #[.int .i64 0, .int .i64 0, .int .i64 0, .int .i64 0, .int .i64 0, .slice none 0 0, .slice none 0 0] 36
            have hw := b19c.size
            rw [hh0'] at hw
            have l20q9 : h0 ≤ V19.heap.size := hw
            clear hw
            have b20q9 := b19c.trans (A.mono l20q9)
            have O1 := O1.on A (Nat.le_refl _)
            have Y2q8 := Y2q8.on A Y2q8.lt
            have O3 := O3.on A (Nat.le_refl _)
            refine hK.out _ _ (LD.low (b20q9.mono hL)).cells (fun _ => ?_)
            clear hK K A
            try simp only [Act.put, List.setIfInBounds_toArray, List.set_cons_zero, List.set_cons_succ]
            obtain ⟨W20q9, hW⟩ : ∃ W, V19.alloc (.cells #[.int .i64 0, .int .i64 0, .int .i64 0, .int .i64 0, .int .i64 0, .slice none 0 0, .slice none 0 0] 36) = W := ⟨_, rfl⟩
            have uY20q9 : V19.heap.size + 1 = W20q9.heap.size := by rw [← hW]; simp
            obtain ⟨N20q9, hN⟩ : ∃ N, V19.heap.size = N := ⟨_, rfl⟩
            rw [hW] at Y20q9 b20q9 O1 Y2q8 O3 ⊢
            rw [hN] at Y20q9 l20q9 uY20q9 ⊢
            clear hW hN
            refine wpAnyH_ready (rs := [4]) (by kernel_rfl) (by simp) ?_
            refine AllReadyH.cons rfl (fun K hK => ?_) (AllReadyH.nil)
            go_simp
            refine (SP W20q9 W20q9.heap.size _ _ _ O1.sees O3.sees (Nat.le_refl _)).mono ?_
            rintro e V23 ⟨mv, kv, av, cv, dv, lv, rfl, R1, R3, c23⟩
            have hw := b20q9.size
            rw [hh0'] at hw
            have b23c := b20q9.trans (c23.mono hw)
            have hz0 := hw
            clear O1 O3
            have Y2q8 := Y2q8.on c23 Y2q8.lt
            have Y20q9 := Y20q9.on c23 Y20q9.lt
            clear hw c23
            go_simp
            refine hK.out _ _ (LD.low (b23c.mono hL)).cells (fun _ => ?_)
            clear hK K
            try simp only [Act.put, List.setIfInBounds_toArray, List.set_cons_zero, List.set_cons_succ]
            refine takeH (i := 5) (some 27) (.tuple #[.agg #[.int .i64 Z.mc, .slice mv n kv], .agg #[.int .i64 who, .int .i64 rv, .int .i64 Z.ph, .int .i64 Z.at', .int .i64 Z.wv, .slice av np cv, .slice dv nr lv]]) rfl rfl (by kernel_rfl) (by kernel_rfl) (by kernel_rfl) (fun _ _ _ h => by cases h.1) (Or.inl ⟨by rfl, fun w hSw => by (try dsimp only at hSw); go_simp⟩) (by assumption) ?_
            try simp only [Act.put, List.setIfInBounds_toArray, List.set_cons_zero, List.set_cons_succ]
            refine takeH (i := 6) (some 33) (.agg #[.int .i64 Z.mc, .slice mv n kv]) rfl rfl (by kernel_rfl) (by kernel_rfl) (by kernel_rfl) (fun _ _ _ h => by cases h.1) (Or.inl ⟨by rfl, fun w hSw => by (try dsimp only at hSw); go_simp⟩) (by assumption) ?_
            try simp only [Act.put, List.setIfInBounds_toArray, List.set_cons_zero, List.set_cons_succ]
            refine takeH (i := 7) (some 34) (.agg #[.int .i64 who, .int .i64 rv, .int .i64 Z.ph, .int .i64 Z.at', .int .i64 Z.wv, .slice av np cv, .slice dv nr lv]) rfl rfl (by kernel_rfl) (by kernel_rfl) (by kernel_rfl) (fun _ _ _ h => by cases h.1) (Or.inl ⟨by rfl, fun w hSw => by (try dsimp only at hSw); go_simp⟩) (by assumption) ?_
            try simp only [Act.put, List.setIfInBounds_toArray, List.set_cons_zero, List.set_cons_succ]
            have y24 := fun i => Y2q8.cell i; have yf24 := fun i => Y2q8.froz i
            refine wpAnyH_ready (rs := [10]) (by kernel_rfl) (by simp) ?_
            refine AllReadyH.cons rfl (fun K hK => ?_) AllReadyH.nil
            go_simp
            clear y24 yf24
            refine hK.out _ _ (LD.low (((b23c.setCell (p := ⟨N2q8, 0, none⟩) l2q8 (.int .i64 Z.mc)).setCell (p := ⟨N2q8, 1, none⟩) l2q8 (.slice mv n kv)).mono hL)).cells (fun _ => ?_)
            clear hK K
            try simp only [Act.put, List.setIfInBounds_toArray, List.set_cons_zero, List.set_cons_succ]
            have hne24 : N20q9 ≠ N2q8 := blkNe Y20q9 Y2q8 (by decide)
            have Q24 := (Y20q9.other hne24 0 (.int .i64 Z.mc)).other hne24 1 (.slice mv n kv)
            have y24 := fun i => Q24.cell i; have yf24 := fun i => Q24.froz i
            refine wpAnyH_ready (rs := [11]) (by kernel_rfl) (by simp) ?_
            refine AllReadyH.cons rfl (fun K hK => ?_) AllReadyH.nil
            go_simp
            clear y24 yf24
            have bN24 := nine_below b23c l2q8 l20q9 (.int .i64 Z.mc) (.slice mv n kv) (.int .i64 who) (.int .i64 rv) (.int .i64 Z.ph) (.int .i64 Z.at') (.int .i64 Z.wv) (.slice av np cv) (.slice dv nr lv)
            have RN24 := RP.stored (who := who) (rv := rv) (Z := Z) Y2q8 Y20q9 (R1.mono hz0) (R3.mono hz0) l2q8 l20q9
            refine hK.out _ _ (LD.low (bN24.mono hL)).cells (fun _ => ?_)
            clear hK K
            refine wpAnyH_done (by kernel_rfl) ?_ _
            exact ⟨rfl, _, _, _, mv, kv, av, cv, dv, lv, _, _, _, _, _, _, _, _, _, _, _, _, _, _, _, _, _, _, _, _, _, _, rfl, bN24, RN24⟩
        · go_simp
          have A := alloc_below W2q8 (.cells #[.int .i64 0, .int .i64 0, .int .i64 0, .int .i64 0, .int .i64 0, .slice none 0 0, .slice none 0 0] 36)
          have Y19q9 := Blk.new W2q8 #[.int .i64 0, .int .i64 0, .int .i64 0, .int .i64 0, .int .i64 0, .slice none 0 0, .slice none 0 0] 36
          have hw := b2q8.size
          rw [hh0'] at hw
          have l19q9 : h0 ≤ W2q8.heap.size := hw
          clear hw
          have b19q9 := b2q8.trans (A.mono l19q9)
          have O1 := O1.on A (Nat.le_refl _)
          have Y2q8 := Y2q8.on A Y2q8.lt
          refine hK.out _ _ (LD.low (b19q9.mono hL)).cells (fun _ => ?_)
          clear hK K A
          try simp only [Act.put, List.setIfInBounds_toArray, List.set_cons_zero, List.set_cons_succ]
          obtain ⟨W19q9, hW⟩ : ∃ W, W2q8.alloc (.cells #[.int .i64 0, .int .i64 0, .int .i64 0, .int .i64 0, .int .i64 0, .slice none 0 0, .slice none 0 0] 36) = W := ⟨_, rfl⟩
          have uY19q9 : W2q8.heap.size + 1 = W19q9.heap.size := by rw [← hW]; simp
          obtain ⟨N19q9, hN⟩ : ∃ N, W2q8.heap.size = N := ⟨_, rfl⟩
          rw [hW] at Y19q9 b19q9 O1 Y2q8 ⊢
          rw [hN] at Y19q9 l19q9 uY19q9 ⊢
          clear hW hN
          refine wpAnyH_ready (rs := [3]) (by kernel_rfl) (by simp) ?_
          refine AllReadyH.cons rfl (fun K hK => ?_) (AllReadyH.nil)
          go_simp
          refine (C3 W19q9 (LD.low (b19q9.mono hL))).mono ?_
          rintro e V25 ⟨a3, k3, d3, l3, rfl, O3, c25⟩
          have hw := b19q9.size
          rw [hh0'] at hw
          have b25c := b19q9.trans (c25.mono hw)
          have O1 := O1.on c25 (Nat.le_refl _)
          have Y2q8 := Y2q8.on c25 Y2q8.lt
          have Y19q9 := Y19q9.on c25 Y19q9.lt
          clear hw c25
          go_simp
          refine hK.out _ _ (LD.low (b25c.mono hL)).cells (fun _ => ?_)
          clear hK K
          try simp only [Act.put, List.setIfInBounds_toArray, List.set_cons_zero, List.set_cons_succ]
          refine wpAnyH_ready (rs := [4]) (by kernel_rfl) (by simp) ?_
          refine AllReadyH.cons rfl (fun K hK => ?_) (AllReadyH.nil)
          go_simp
          refine (SP V25 V25.heap.size _ _ _ O1.sees O3.sees (Nat.le_refl _)).mono ?_
          rintro e V26 ⟨mv, kv, av, cv, dv, lv, rfl, R1, R3, c26⟩
          have hw := b25c.size
          rw [hh0'] at hw
          have b26c := b25c.trans (c26.mono hw)
          have hz0 := hw
          clear O1 O3
          have Y2q8 := Y2q8.on c26 Y2q8.lt
          have Y19q9 := Y19q9.on c26 Y19q9.lt
          clear hw c26
          go_simp
          refine hK.out _ _ (LD.low (b26c.mono hL)).cells (fun _ => ?_)
          clear hK K
          try simp only [Act.put, List.setIfInBounds_toArray, List.set_cons_zero, List.set_cons_succ]
          refine takeH (i := 5) (some 27) (.tuple #[.agg #[.int .i64 Z.mc, .slice mv n kv], .agg #[.int .i64 who, .int .i64 rv, .int .i64 Z.ph, .int .i64 Z.at', .int .i64 Z.wv, .slice av np cv, .slice dv nr lv]]) rfl rfl (by kernel_rfl) (by kernel_rfl) (by kernel_rfl) (fun _ _ _ h => by cases h.1) (Or.inl ⟨by rfl, fun w hSw => by (try dsimp only at hSw); go_simp⟩) (by assumption) ?_
          try simp only [Act.put, List.setIfInBounds_toArray, List.set_cons_zero, List.set_cons_succ]
          refine takeH (i := 6) (some 33) (.agg #[.int .i64 Z.mc, .slice mv n kv]) rfl rfl (by kernel_rfl) (by kernel_rfl) (by kernel_rfl) (fun _ _ _ h => by cases h.1) (Or.inl ⟨by rfl, fun w hSw => by (try dsimp only at hSw); go_simp⟩) (by assumption) ?_
          try simp only [Act.put, List.setIfInBounds_toArray, List.set_cons_zero, List.set_cons_succ]
          refine takeH (i := 7) (some 34) (.agg #[.int .i64 who, .int .i64 rv, .int .i64 Z.ph, .int .i64 Z.at', .int .i64 Z.wv, .slice av np cv, .slice dv nr lv]) rfl rfl (by kernel_rfl) (by kernel_rfl) (by kernel_rfl) (fun _ _ _ h => by cases h.1) (Or.inl ⟨by rfl, fun w hSw => by (try dsimp only at hSw); go_simp⟩) (by assumption) ?_
          try simp only [Act.put, List.setIfInBounds_toArray, List.set_cons_zero, List.set_cons_succ]
          have y27 := fun i => Y2q8.cell i; have yf27 := fun i => Y2q8.froz i
          refine wpAnyH_ready (rs := [10]) (by kernel_rfl) (by simp) ?_
          refine AllReadyH.cons rfl (fun K hK => ?_) AllReadyH.nil
          go_simp
          clear y27 yf27
          refine hK.out _ _ (LD.low (((b26c.setCell (p := ⟨N2q8, 0, none⟩) l2q8 (.int .i64 Z.mc)).setCell (p := ⟨N2q8, 1, none⟩) l2q8 (.slice mv n kv)).mono hL)).cells (fun _ => ?_)
          clear hK K
          try simp only [Act.put, List.setIfInBounds_toArray, List.set_cons_zero, List.set_cons_succ]
          have hne27 : N19q9 ≠ N2q8 := blkNe Y19q9 Y2q8 (by decide)
          have Q27 := (Y19q9.other hne27 0 (.int .i64 Z.mc)).other hne27 1 (.slice mv n kv)
          have y27 := fun i => Q27.cell i; have yf27 := fun i => Q27.froz i
          refine wpAnyH_ready (rs := [11]) (by kernel_rfl) (by simp) ?_
          refine AllReadyH.cons rfl (fun K hK => ?_) AllReadyH.nil
          go_simp
          clear y27 yf27
          have bN27 := nine_below b26c l2q8 l19q9 (.int .i64 Z.mc) (.slice mv n kv) (.int .i64 who) (.int .i64 rv) (.int .i64 Z.ph) (.int .i64 Z.at') (.int .i64 Z.wv) (.slice av np cv) (.slice dv nr lv)
          have RN27 := RP.stored (who := who) (rv := rv) (Z := Z) Y2q8 Y19q9 (R1.mono hz0) (R3.mono hz0) l2q8 l19q9
          refine hK.out _ _ (LD.low (bN27.mono hL)).cells (fun _ => ?_)
          clear hK K
          refine wpAnyH_done (by kernel_rfl) ?_ _
          exact ⟨rfl, _, _, _, mv, kv, av, cv, dv, lv, _, _, _, _, _, _, _, _, _, _, _, _, _, _, _, _, _, _, _, _, _, _, rfl, bN27, RN27⟩
      · go_simp
        have A := alloc_below V1 (.cells #[.int .i64 0, .int .i64 0, .int .i64 0, .int .i64 0, .int .i64 0, .slice none 0 0, .slice none 0 0] 36)
        have Y2q9 := Blk.new V1 #[.int .i64 0, .int .i64 0, .int .i64 0, .int .i64 0, .int .i64 0, .slice none 0 0, .slice none 0 0] 36
        have hw := b1c.size
        rw [hh0'] at hw
        have l2q9 : h0 ≤ V1.heap.size := hw
        clear hw
        have b2q9 := b1c.trans (A.mono l2q9)
        have O1 := O1.on A (Nat.le_refl _)
        refine hK.out _ _ (LD.low (b2q9.mono hL)).cells (fun _ => ?_)
        clear hK K A
        try simp only [Act.put, List.setIfInBounds_toArray, List.set_cons_zero, List.set_cons_succ]
        obtain ⟨W2q9, hW⟩ : ∃ W, V1.alloc (.cells #[.int .i64 0, .int .i64 0, .int .i64 0, .int .i64 0, .int .i64 0, .slice none 0 0, .slice none 0 0] 36) = W := ⟨_, rfl⟩
        have uY2q9 : V1.heap.size + 1 = W2q9.heap.size := by rw [← hW]; simp
        obtain ⟨N2q9, hN⟩ : ∃ N, V1.heap.size = N := ⟨_, rfl⟩
        rw [hW] at Y2q9 b2q9 O1 ⊢
        rw [hN] at Y2q9 l2q9 uY2q9 ⊢
        clear hW hN
        refine wpAnyH_ready (rs := [3, 8]) (by kernel_rfl) (by simp) ?_
        refine AllReadyH.cons rfl (fun K hK => ?_) (AllReadyH.cons rfl (fun K hK => ?_) (AllReadyH.nil))
        · go_simp
          refine (C3 W2q9 (LD.low (b2q9.mono hL))).mono ?_
          rintro e V28 ⟨a3, k3, d3, l3, rfl, O3, c28⟩
          have hw := b2q9.size
          rw [hh0'] at hw
          have b28c := b2q9.trans (c28.mono hw)
          have O1 := O1.on c28 (Nat.le_refl _)
          have Y2q9 := Y2q9.on c28 Y2q9.lt
          clear hw c28
          go_simp
          refine hK.out _ _ (LD.low (b28c.mono hL)).cells (fun _ => ?_)
          clear hK K
          try simp only [Act.put, List.setIfInBounds_toArray, List.set_cons_zero, List.set_cons_succ]
          refine wpAnyH_ready (rs := [4, 8]) (by kernel_rfl) (by simp) ?_
          refine AllReadyH.cons rfl (fun K hK => ?_) (AllReadyH.cons rfl (fun K hK => ?_) (AllReadyH.nil))
          · go_simp
            refine (SP V28 V28.heap.size _ _ _ O1.sees O3.sees (Nat.le_refl _)).mono ?_
            rintro e V29 ⟨mv, kv, av, cv, dv, lv, rfl, R1, R3, c29⟩
            have hw := b28c.size
            rw [hh0'] at hw
            have b29c := b28c.trans (c29.mono hw)
            have hz0 := hw
            clear O1 O3
            have Y2q9 := Y2q9.on c29 Y2q9.lt
            clear hw c29
            go_simp
            refine hK.out _ _ (LD.low (b29c.mono hL)).cells (fun _ => ?_)
            clear hK K
            try simp only [Act.put, List.setIfInBounds_toArray, List.set_cons_zero, List.set_cons_succ]
            refine takeH (i := 5) (some 27) (.tuple #[.agg #[.int .i64 Z.mc, .slice mv n kv], .agg #[.int .i64 who, .int .i64 rv, .int .i64 Z.ph, .int .i64 Z.at', .int .i64 Z.wv, .slice av np cv, .slice dv nr lv]]) rfl rfl (by kernel_rfl) (by kernel_rfl) (by kernel_rfl) (fun _ _ _ h => by cases h.1) (Or.inl ⟨by rfl, fun w hSw => by (try dsimp only at hSw); go_simp⟩) (by assumption) ?_
            try simp only [Act.put, List.setIfInBounds_toArray, List.set_cons_zero, List.set_cons_succ]
            refine takeH (i := 6) (some 33) (.agg #[.int .i64 Z.mc, .slice mv n kv]) rfl rfl (by kernel_rfl) (by kernel_rfl) (by kernel_rfl) (fun _ _ _ h => by cases h.1) (Or.inl ⟨by rfl, fun w hSw => by (try dsimp only at hSw); go_simp⟩) (by assumption) ?_
            try simp only [Act.put, List.setIfInBounds_toArray, List.set_cons_zero, List.set_cons_succ]
            refine takeH (i := 7) (some 34) (.agg #[.int .i64 who, .int .i64 rv, .int .i64 Z.ph, .int .i64 Z.at', .int .i64 Z.wv, .slice av np cv, .slice dv nr lv]) rfl rfl (by kernel_rfl) (by kernel_rfl) (by kernel_rfl) (fun _ _ _ h => by cases h.1) (Or.inl ⟨by rfl, fun w hSw => by (try dsimp only at hSw); go_simp⟩) (by assumption) ?_
            try simp only [Act.put, List.setIfInBounds_toArray, List.set_cons_zero, List.set_cons_succ]
            refine wpAnyH_ready (rs := [8]) (by kernel_rfl) (by simp) ?_
            refine AllReadyH.cons rfl (fun K hK => ?_) (AllReadyH.nil)
            go_simp
            have A := alloc_below V29 (.cells #[.int .i64 0, .slice none 0 0] 33)
            have Y30q8 := Blk.new V29 #[.int .i64 0, .slice none 0 0] 33
            have hw := b29c.size
            rw [hh0'] at hw
            have l30q8 : h0 ≤ V29.heap.size := hw
            clear hw
            have b30q8 := b29c.trans (A.mono l30q8)
            have Y2q9 := Y2q9.on A Y2q9.lt
            have R1 := R1.on A (Nat.le_refl _)
            have R3 := R3.on A (Nat.le_refl _)
            refine hK.out _ _ (LD.low (b30q8.mono hL)).cells (fun _ => ?_)
            clear hK K A
            try simp only [Act.put, List.setIfInBounds_toArray, List.set_cons_zero, List.set_cons_succ]
            obtain ⟨W30q8, hW⟩ : ∃ W, V29.alloc (.cells #[.int .i64 0, .slice none 0 0] 33) = W := ⟨_, rfl⟩
            have uY30q8 : V29.heap.size + 1 = W30q8.heap.size := by rw [← hW]; simp
            obtain ⟨N30q8, hN⟩ : ∃ N, V29.heap.size = N := ⟨_, rfl⟩
            rw [hW] at Y30q8 b30q8 Y2q9 R1 R3 ⊢
            rw [hN] at Y30q8 l30q8 uY30q8 ⊢
            clear hW hN
            have y31 := fun i => Y30q8.cell i; have yf31 := fun i => Y30q8.froz i
            refine wpAnyH_ready (rs := [10]) (by kernel_rfl) (by simp) ?_
            refine AllReadyH.cons rfl (fun K hK => ?_) AllReadyH.nil
            go_simp
            clear y31 yf31
            refine hK.out _ _ (LD.low (((b30q8.setCell (p := ⟨N30q8, 0, none⟩) l30q8 (.int .i64 Z.mc)).setCell (p := ⟨N30q8, 1, none⟩) l30q8 (.slice mv n kv)).mono hL)).cells (fun _ => ?_)
            clear hK K
            try simp only [Act.put, List.setIfInBounds_toArray, List.set_cons_zero, List.set_cons_succ]
            have hne31 : N2q9 ≠ N30q8 := blkNe Y2q9 Y30q8 (by decide)
            have Q31 := (Y2q9.other hne31 0 (.int .i64 Z.mc)).other hne31 1 (.slice mv n kv)
            have y31 := fun i => Q31.cell i; have yf31 := fun i => Q31.froz i
            refine wpAnyH_ready (rs := [11]) (by kernel_rfl) (by simp) ?_
            refine AllReadyH.cons rfl (fun K hK => ?_) AllReadyH.nil
            go_simp
            clear y31 yf31
            have bN31 := nine_below b30q8 l30q8 l2q9 (.int .i64 Z.mc) (.slice mv n kv) (.int .i64 who) (.int .i64 rv) (.int .i64 Z.ph) (.int .i64 Z.at') (.int .i64 Z.wv) (.slice av np cv) (.slice dv nr lv)
            have RN31 := RP.stored (who := who) (rv := rv) (Z := Z) Y30q8 Y2q9 (R1.mono hz0) (R3.mono hz0) l30q8 l2q9
            refine hK.out _ _ (LD.low (bN31.mono hL)).cells (fun _ => ?_)
            clear hK K
            refine wpAnyH_done (by kernel_rfl) ?_ _
            exact ⟨rfl, _, _, _, mv, kv, av, cv, dv, lv, _, _, _, _, _, _, _, _, _, _, _, _, _, _, _, _, _, _, _, _, _, _, rfl, bN31, RN31⟩
          · go_simp
            have A := alloc_below V28 (.cells #[.int .i64 0, .slice none 0 0] 33)
            have Y29q8 := Blk.new V28 #[.int .i64 0, .slice none 0 0] 33
            have hw := b28c.size
            rw [hh0'] at hw
            have l29q8 : h0 ≤ V28.heap.size := hw
            clear hw
            have b29q8 := b28c.trans (A.mono l29q8)
            have O1 := O1.on A (Nat.le_refl _)
            have Y2q9 := Y2q9.on A Y2q9.lt
            have O3 := O3.on A (Nat.le_refl _)
            refine hK.out _ _ (LD.low (b29q8.mono hL)).cells (fun _ => ?_)
            clear hK K A
            try simp only [Act.put, List.setIfInBounds_toArray, List.set_cons_zero, List.set_cons_succ]
            obtain ⟨W29q8, hW⟩ : ∃ W, V28.alloc (.cells #[.int .i64 0, .slice none 0 0] 33) = W := ⟨_, rfl⟩
            have uY29q8 : V28.heap.size + 1 = W29q8.heap.size := by rw [← hW]; simp
            obtain ⟨N29q8, hN⟩ : ∃ N, V28.heap.size = N := ⟨_, rfl⟩
            rw [hW] at Y29q8 b29q8 O1 Y2q9 O3 ⊢
            rw [hN] at Y29q8 l29q8 uY29q8 ⊢
            clear hW hN
            refine wpAnyH_ready (rs := [4]) (by kernel_rfl) (by simp) ?_
            refine AllReadyH.cons rfl (fun K hK => ?_) (AllReadyH.nil)
            go_simp
            refine (SP W29q8 W29q8.heap.size _ _ _ O1.sees O3.sees (Nat.le_refl _)).mono ?_
            rintro e V32 ⟨mv, kv, av, cv, dv, lv, rfl, R1, R3, c32⟩
            have hw := b29q8.size
            rw [hh0'] at hw
            have b32c := b29q8.trans (c32.mono hw)
            have hz0 := hw
            clear O1 O3
            have Y2q9 := Y2q9.on c32 Y2q9.lt
            have Y29q8 := Y29q8.on c32 Y29q8.lt
            clear hw c32
            go_simp
            refine hK.out _ _ (LD.low (b32c.mono hL)).cells (fun _ => ?_)
            clear hK K
            try simp only [Act.put, List.setIfInBounds_toArray, List.set_cons_zero, List.set_cons_succ]
            refine takeH (i := 5) (some 27) (.tuple #[.agg #[.int .i64 Z.mc, .slice mv n kv], .agg #[.int .i64 who, .int .i64 rv, .int .i64 Z.ph, .int .i64 Z.at', .int .i64 Z.wv, .slice av np cv, .slice dv nr lv]]) rfl rfl (by kernel_rfl) (by kernel_rfl) (by kernel_rfl) (fun _ _ _ h => by cases h.1) (Or.inl ⟨by rfl, fun w hSw => by (try dsimp only at hSw); go_simp⟩) (by assumption) ?_
            try simp only [Act.put, List.setIfInBounds_toArray, List.set_cons_zero, List.set_cons_succ]
            refine takeH (i := 6) (some 33) (.agg #[.int .i64 Z.mc, .slice mv n kv]) rfl rfl (by kernel_rfl) (by kernel_rfl) (by kernel_rfl) (fun _ _ _ h => by cases h.1) (Or.inl ⟨by rfl, fun w hSw => by (try dsimp only at hSw); go_simp⟩) (by assumption) ?_
            try simp only [Act.put, List.setIfInBounds_toArray, List.set_cons_zero, List.set_cons_succ]
            refine takeH (i := 7) (some 34) (.agg #[.int .i64 who, .int .i64 rv, .int .i64 Z.ph, .int .i64 Z.at', .int .i64 Z.wv, .slice av np cv, .slice dv nr lv]) rfl rfl (by kernel_rfl) (by kernel_rfl) (by kernel_rfl) (fun _ _ _ h => by cases h.1) (Or.inl ⟨by rfl, fun w hSw => by (try dsimp only at hSw); go_simp⟩) (by assumption) ?_
            try simp only [Act.put, List.setIfInBounds_toArray, List.set_cons_zero, List.set_cons_succ]
            have y33 := fun i => Y29q8.cell i; have yf33 := fun i => Y29q8.froz i
            refine wpAnyH_ready (rs := [10]) (by kernel_rfl) (by simp) ?_
            refine AllReadyH.cons rfl (fun K hK => ?_) AllReadyH.nil
            go_simp
            clear y33 yf33
            refine hK.out _ _ (LD.low (((b32c.setCell (p := ⟨N29q8, 0, none⟩) l29q8 (.int .i64 Z.mc)).setCell (p := ⟨N29q8, 1, none⟩) l29q8 (.slice mv n kv)).mono hL)).cells (fun _ => ?_)
            clear hK K
            try simp only [Act.put, List.setIfInBounds_toArray, List.set_cons_zero, List.set_cons_succ]
            have hne33 : N2q9 ≠ N29q8 := blkNe Y2q9 Y29q8 (by decide)
            have Q33 := (Y2q9.other hne33 0 (.int .i64 Z.mc)).other hne33 1 (.slice mv n kv)
            have y33 := fun i => Q33.cell i; have yf33 := fun i => Q33.froz i
            refine wpAnyH_ready (rs := [11]) (by kernel_rfl) (by simp) ?_
            refine AllReadyH.cons rfl (fun K hK => ?_) AllReadyH.nil
            go_simp
            clear y33 yf33
            have bN33 := nine_below b32c l29q8 l2q9 (.int .i64 Z.mc) (.slice mv n kv) (.int .i64 who) (.int .i64 rv) (.int .i64 Z.ph) (.int .i64 Z.at') (.int .i64 Z.wv) (.slice av np cv) (.slice dv nr lv)
            have RN33 := RP.stored (who := who) (rv := rv) (Z := Z) Y29q8 Y2q9 (R1.mono hz0) (R3.mono hz0) l29q8 l2q9
            refine hK.out _ _ (LD.low (bN33.mono hL)).cells (fun _ => ?_)
            clear hK K
            refine wpAnyH_done (by kernel_rfl) ?_ _
            exact ⟨rfl, _, _, _, mv, kv, av, cv, dv, lv, _, _, _, _, _, _, _, _, _, _, _, _, _, _, _, _, _, _, _, _, _, _, rfl, bN33, RN33⟩
        · go_simp
          have A := alloc_below W2q9 (.cells #[.int .i64 0, .slice none 0 0] 33)
          have Y28q8 := Blk.new W2q9 #[.int .i64 0, .slice none 0 0] 33
          have hw := b2q9.size
          rw [hh0'] at hw
          have l28q8 : h0 ≤ W2q9.heap.size := hw
          clear hw
          have b28q8 := b2q9.trans (A.mono l28q8)
          have O1 := O1.on A (Nat.le_refl _)
          have Y2q9 := Y2q9.on A Y2q9.lt
          refine hK.out _ _ (LD.low (b28q8.mono hL)).cells (fun _ => ?_)
          clear hK K A
          try simp only [Act.put, List.setIfInBounds_toArray, List.set_cons_zero, List.set_cons_succ]
          obtain ⟨W28q8, hW⟩ : ∃ W, W2q9.alloc (.cells #[.int .i64 0, .slice none 0 0] 33) = W := ⟨_, rfl⟩
          have uY28q8 : W2q9.heap.size + 1 = W28q8.heap.size := by rw [← hW]; simp
          obtain ⟨N28q8, hN⟩ : ∃ N, W2q9.heap.size = N := ⟨_, rfl⟩
          rw [hW] at Y28q8 b28q8 O1 Y2q9 ⊢
          rw [hN] at Y28q8 l28q8 uY28q8 ⊢
          clear hW hN
          refine wpAnyH_ready (rs := [3]) (by kernel_rfl) (by simp) ?_
          refine AllReadyH.cons rfl (fun K hK => ?_) (AllReadyH.nil)
          go_simp
          refine (C3 W28q8 (LD.low (b28q8.mono hL))).mono ?_
          rintro e V34 ⟨a3, k3, d3, l3, rfl, O3, c34⟩
          have hw := b28q8.size
          rw [hh0'] at hw
          have b34c := b28q8.trans (c34.mono hw)
          have O1 := O1.on c34 (Nat.le_refl _)
          have Y2q9 := Y2q9.on c34 Y2q9.lt
          have Y28q8 := Y28q8.on c34 Y28q8.lt
          clear hw c34
          go_simp
          refine hK.out _ _ (LD.low (b34c.mono hL)).cells (fun _ => ?_)
          clear hK K
          try simp only [Act.put, List.setIfInBounds_toArray, List.set_cons_zero, List.set_cons_succ]
          refine wpAnyH_ready (rs := [4]) (by kernel_rfl) (by simp) ?_
          refine AllReadyH.cons rfl (fun K hK => ?_) (AllReadyH.nil)
          go_simp
          refine (SP V34 V34.heap.size _ _ _ O1.sees O3.sees (Nat.le_refl _)).mono ?_
          rintro e V35 ⟨mv, kv, av, cv, dv, lv, rfl, R1, R3, c35⟩
          have hw := b34c.size
          rw [hh0'] at hw
          have b35c := b34c.trans (c35.mono hw)
          have hz0 := hw
          clear O1 O3
          have Y2q9 := Y2q9.on c35 Y2q9.lt
          have Y28q8 := Y28q8.on c35 Y28q8.lt
          clear hw c35
          go_simp
          refine hK.out _ _ (LD.low (b35c.mono hL)).cells (fun _ => ?_)
          clear hK K
          try simp only [Act.put, List.setIfInBounds_toArray, List.set_cons_zero, List.set_cons_succ]
          refine takeH (i := 5) (some 27) (.tuple #[.agg #[.int .i64 Z.mc, .slice mv n kv], .agg #[.int .i64 who, .int .i64 rv, .int .i64 Z.ph, .int .i64 Z.at', .int .i64 Z.wv, .slice av np cv, .slice dv nr lv]]) rfl rfl (by kernel_rfl) (by kernel_rfl) (by kernel_rfl) (fun _ _ _ h => by cases h.1) (Or.inl ⟨by rfl, fun w hSw => by (try dsimp only at hSw); go_simp⟩) (by assumption) ?_
          try simp only [Act.put, List.setIfInBounds_toArray, List.set_cons_zero, List.set_cons_succ]
          refine takeH (i := 6) (some 33) (.agg #[.int .i64 Z.mc, .slice mv n kv]) rfl rfl (by kernel_rfl) (by kernel_rfl) (by kernel_rfl) (fun _ _ _ h => by cases h.1) (Or.inl ⟨by rfl, fun w hSw => by (try dsimp only at hSw); go_simp⟩) (by assumption) ?_
          try simp only [Act.put, List.setIfInBounds_toArray, List.set_cons_zero, List.set_cons_succ]
          refine takeH (i := 7) (some 34) (.agg #[.int .i64 who, .int .i64 rv, .int .i64 Z.ph, .int .i64 Z.at', .int .i64 Z.wv, .slice av np cv, .slice dv nr lv]) rfl rfl (by kernel_rfl) (by kernel_rfl) (by kernel_rfl) (fun _ _ _ h => by cases h.1) (Or.inl ⟨by rfl, fun w hSw => by (try dsimp only at hSw); go_simp⟩) (by assumption) ?_
          try simp only [Act.put, List.setIfInBounds_toArray, List.set_cons_zero, List.set_cons_succ]
          have y36 := fun i => Y28q8.cell i; have yf36 := fun i => Y28q8.froz i
          refine wpAnyH_ready (rs := [10]) (by kernel_rfl) (by simp) ?_
          refine AllReadyH.cons rfl (fun K hK => ?_) AllReadyH.nil
          go_simp
          clear y36 yf36
          refine hK.out _ _ (LD.low (((b35c.setCell (p := ⟨N28q8, 0, none⟩) l28q8 (.int .i64 Z.mc)).setCell (p := ⟨N28q8, 1, none⟩) l28q8 (.slice mv n kv)).mono hL)).cells (fun _ => ?_)
          clear hK K
          try simp only [Act.put, List.setIfInBounds_toArray, List.set_cons_zero, List.set_cons_succ]
          have hne36 : N2q9 ≠ N28q8 := blkNe Y2q9 Y28q8 (by decide)
          have Q36 := (Y2q9.other hne36 0 (.int .i64 Z.mc)).other hne36 1 (.slice mv n kv)
          have y36 := fun i => Q36.cell i; have yf36 := fun i => Q36.froz i
          refine wpAnyH_ready (rs := [11]) (by kernel_rfl) (by simp) ?_
          refine AllReadyH.cons rfl (fun K hK => ?_) AllReadyH.nil
          go_simp
          clear y36 yf36
          have bN36 := nine_below b35c l28q8 l2q9 (.int .i64 Z.mc) (.slice mv n kv) (.int .i64 who) (.int .i64 rv) (.int .i64 Z.ph) (.int .i64 Z.at') (.int .i64 Z.wv) (.slice av np cv) (.slice dv nr lv)
          have RN36 := RP.stored (who := who) (rv := rv) (Z := Z) Y28q8 Y2q9 (R1.mono hz0) (R3.mono hz0) l28q8 l2q9
          refine hK.out _ _ (LD.low (bN36.mono hL)).cells (fun _ => ?_)
          clear hK K
          refine wpAnyH_done (by kernel_rfl) ?_ _
          exact ⟨rfl, _, _, _, mv, kv, av, cv, dv, lv, _, _, _, _, _, _, _, _, _, _, _, _, _, _, _, _, _, _, _, _, _, _, rfl, bN36, RN36⟩
    · go_simp
      have A := alloc_below WD (.cells #[.int .i64 0, .slice none 0 0] 33)
      have Y1q8 := Blk.new WD #[.int .i64 0, .slice none 0 0] 33
      have hw := bD.size
      rw [hh0'] at hw
      have l1q8 : h0 ≤ WD.heap.size := hw
      clear hw
      have b1q8 := bD.trans (A.mono l1q8)
      refine hK.out _ _ (LD.low (b1q8.mono hL)).cells (fun _ => ?_)
      clear hK K A
      try simp only [Act.put, List.setIfInBounds_toArray, List.set_cons_zero, List.set_cons_succ]
      obtain ⟨W1q8, hW⟩ : ∃ W, WD.alloc (.cells #[.int .i64 0, .slice none 0 0] 33) = W := ⟨_, rfl⟩
      have uY1q8 : WD.heap.size + 1 = W1q8.heap.size := by rw [← hW]; simp
      obtain ⟨N1q8, hN⟩ : ∃ N, WD.heap.size = N := ⟨_, rfl⟩
      rw [hW] at Y1q8 b1q8 ⊢
      rw [hN] at Y1q8 l1q8 uY1q8 ⊢
      clear hW hN
      refine wpAnyH_ready (rs := [1, 9]) (by kernel_rfl) (by simp) ?_
      refine AllReadyH.cons rfl (fun K hK => ?_) (AllReadyH.cons rfl (fun K hK => ?_) (AllReadyH.nil))
      · go_simp
        refine (C1 W1q8 (LD.low (b1q8.mono hL))).mono ?_
        rintro e V37 ⟨a1, k1, rfl, O1, c37⟩
        have hw := b1q8.size
        rw [hh0'] at hw
        have b37c := b1q8.trans (c37.mono hw)
        have Y1q8 := Y1q8.on c37 Y1q8.lt
        clear hw c37
        go_simp
        refine hK.out _ _ (LD.low (b37c.mono hL)).cells (fun _ => ?_)
        clear hK K
        try simp only [Act.put, List.setIfInBounds_toArray, List.set_cons_zero, List.set_cons_succ]
        refine wpAnyH_ready (rs := [3, 9]) (by kernel_rfl) (by simp) ?_
        refine AllReadyH.cons rfl (fun K hK => ?_) (AllReadyH.cons rfl (fun K hK => ?_) (AllReadyH.nil))
        · go_simp
          refine (C3 V37 (LD.low (b37c.mono hL))).mono ?_
          rintro e V38 ⟨a3, k3, d3, l3, rfl, O3, c38⟩
          have hw := b37c.size
          rw [hh0'] at hw
          have b38c := b37c.trans (c38.mono hw)
          have Y1q8 := Y1q8.on c38 Y1q8.lt
          have O1 := O1.on c38 (Nat.le_refl _)
          clear hw c38
          go_simp
          refine hK.out _ _ (LD.low (b38c.mono hL)).cells (fun _ => ?_)
          clear hK K
          try simp only [Act.put, List.setIfInBounds_toArray, List.set_cons_zero, List.set_cons_succ]
          refine wpAnyH_ready (rs := [4, 9]) (by kernel_rfl) (by simp) ?_
          refine AllReadyH.cons rfl (fun K hK => ?_) (AllReadyH.cons rfl (fun K hK => ?_) (AllReadyH.nil))
          · go_simp
            refine (SP V38 V38.heap.size _ _ _ O1.sees O3.sees (Nat.le_refl _)).mono ?_
            rintro e V39 ⟨mv, kv, av, cv, dv, lv, rfl, R1, R3, c39⟩
            have hw := b38c.size
            rw [hh0'] at hw
            have b39c := b38c.trans (c39.mono hw)
            have hz0 := hw
            clear O1 O3
            have Y1q8 := Y1q8.on c39 Y1q8.lt
            clear hw c39
            go_simp
            refine hK.out _ _ (LD.low (b39c.mono hL)).cells (fun _ => ?_)
            clear hK K
            try simp only [Act.put, List.setIfInBounds_toArray, List.set_cons_zero, List.set_cons_succ]
            refine takeH (i := 5) (some 27) (.tuple #[.agg #[.int .i64 Z.mc, .slice mv n kv], .agg #[.int .i64 who, .int .i64 rv, .int .i64 Z.ph, .int .i64 Z.at', .int .i64 Z.wv, .slice av np cv, .slice dv nr lv]]) rfl rfl (by kernel_rfl) (by kernel_rfl) (by kernel_rfl) (fun _ _ _ h => by cases h.1) (Or.inl ⟨by rfl, fun w hSw => by (try dsimp only at hSw); go_simp⟩) (by assumption) ?_
            try simp only [Act.put, List.setIfInBounds_toArray, List.set_cons_zero, List.set_cons_succ]
            refine takeH (i := 6) (some 33) (.agg #[.int .i64 Z.mc, .slice mv n kv]) rfl rfl (by kernel_rfl) (by kernel_rfl) (by kernel_rfl) (fun _ _ _ h => by cases h.1) (Or.inl ⟨by rfl, fun w hSw => by (try dsimp only at hSw); go_simp⟩) (by assumption) ?_
            try simp only [Act.put, List.setIfInBounds_toArray, List.set_cons_zero, List.set_cons_succ]
            refine takeH (i := 7) (some 34) (.agg #[.int .i64 who, .int .i64 rv, .int .i64 Z.ph, .int .i64 Z.at', .int .i64 Z.wv, .slice av np cv, .slice dv nr lv]) rfl rfl (by kernel_rfl) (by kernel_rfl) (by kernel_rfl) (fun _ _ _ h => by cases h.1) (Or.inl ⟨by rfl, fun w hSw => by (try dsimp only at hSw); go_simp⟩) (by assumption) ?_
            try simp only [Act.put, List.setIfInBounds_toArray, List.set_cons_zero, List.set_cons_succ]
            refine wpAnyH_ready (rs := [9]) (by kernel_rfl) (by simp) ?_
            refine AllReadyH.cons rfl (fun K hK => ?_) (AllReadyH.nil)
            go_simp
            have A := alloc_below V39 (.cells #[.int .i64 0, .int .i64 0, .int .i64 0, .int .i64 0, .int .i64 0, .slice none 0 0, .slice none 0 0] 36)
            have Y40q9 := Blk.new V39 #[.int .i64 0, .int .i64 0, .int .i64 0, .int .i64 0, .int .i64 0, .slice none 0 0, .slice none 0 0] 36
            have hw := b39c.size
            rw [hh0'] at hw
            have l40q9 : h0 ≤ V39.heap.size := hw
            clear hw
            have b40q9 := b39c.trans (A.mono l40q9)
            have Y1q8 := Y1q8.on A Y1q8.lt
            have R1 := R1.on A (Nat.le_refl _)
            have R3 := R3.on A (Nat.le_refl _)
            refine hK.out _ _ (LD.low (b40q9.mono hL)).cells (fun _ => ?_)
            clear hK K A
            try simp only [Act.put, List.setIfInBounds_toArray, List.set_cons_zero, List.set_cons_succ]
            obtain ⟨W40q9, hW⟩ : ∃ W, V39.alloc (.cells #[.int .i64 0, .int .i64 0, .int .i64 0, .int .i64 0, .int .i64 0, .slice none 0 0, .slice none 0 0] 36) = W := ⟨_, rfl⟩
            have uY40q9 : V39.heap.size + 1 = W40q9.heap.size := by rw [← hW]; simp
            obtain ⟨N40q9, hN⟩ : ∃ N, V39.heap.size = N := ⟨_, rfl⟩
            rw [hW] at Y40q9 b40q9 Y1q8 R1 R3 ⊢
            rw [hN] at Y40q9 l40q9 uY40q9 ⊢
            clear hW hN
            have y41 := fun i => Y1q8.cell i; have yf41 := fun i => Y1q8.froz i
            refine wpAnyH_ready (rs := [10]) (by kernel_rfl) (by simp) ?_
            refine AllReadyH.cons rfl (fun K hK => ?_) AllReadyH.nil
            go_simp
            clear y41 yf41
            refine hK.out _ _ (LD.low (((b40q9.setCell (p := ⟨N1q8, 0, none⟩) l1q8 (.int .i64 Z.mc)).setCell (p := ⟨N1q8, 1, none⟩) l1q8 (.slice mv n kv)).mono hL)).cells (fun _ => ?_)
            clear hK K
            try simp only [Act.put, List.setIfInBounds_toArray, List.set_cons_zero, List.set_cons_succ]
            have hne41 : N40q9 ≠ N1q8 := blkNe Y40q9 Y1q8 (by decide)
            have Q41 := (Y40q9.other hne41 0 (.int .i64 Z.mc)).other hne41 1 (.slice mv n kv)
            have y41 := fun i => Q41.cell i; have yf41 := fun i => Q41.froz i
            refine wpAnyH_ready (rs := [11]) (by kernel_rfl) (by simp) ?_
            refine AllReadyH.cons rfl (fun K hK => ?_) AllReadyH.nil
            go_simp
            clear y41 yf41
            have bN41 := nine_below b40q9 l1q8 l40q9 (.int .i64 Z.mc) (.slice mv n kv) (.int .i64 who) (.int .i64 rv) (.int .i64 Z.ph) (.int .i64 Z.at') (.int .i64 Z.wv) (.slice av np cv) (.slice dv nr lv)
            have RN41 := RP.stored (who := who) (rv := rv) (Z := Z) Y1q8 Y40q9 (R1.mono hz0) (R3.mono hz0) l1q8 l40q9
            refine hK.out _ _ (LD.low (bN41.mono hL)).cells (fun _ => ?_)
            clear hK K
            refine wpAnyH_done (by kernel_rfl) ?_ _
            exact ⟨rfl, _, _, _, mv, kv, av, cv, dv, lv, _, _, _, _, _, _, _, _, _, _, _, _, _, _, _, _, _, _, _, _, _, _, rfl, bN41, RN41⟩
          · go_simp
            have A := alloc_below V38 (.cells #[.int .i64 0, .int .i64 0, .int .i64 0, .int .i64 0, .int .i64 0, .slice none 0 0, .slice none 0 0] 36)
            have Y39q9 := Blk.new V38 #[.int .i64 0, .int .i64 0, .int .i64 0, .int .i64 0, .int .i64 0, .slice none 0 0, .slice none 0 0] 36
            have hw := b38c.size
            rw [hh0'] at hw
            have l39q9 : h0 ≤ V38.heap.size := hw
            clear hw
            have b39q9 := b38c.trans (A.mono l39q9)
            have Y1q8 := Y1q8.on A Y1q8.lt
            have O1 := O1.on A (Nat.le_refl _)
            have O3 := O3.on A (Nat.le_refl _)
            refine hK.out _ _ (LD.low (b39q9.mono hL)).cells (fun _ => ?_)
            clear hK K A
            try simp only [Act.put, List.setIfInBounds_toArray, List.set_cons_zero, List.set_cons_succ]
            obtain ⟨W39q9, hW⟩ : ∃ W, V38.alloc (.cells #[.int .i64 0, .int .i64 0, .int .i64 0, .int .i64 0, .int .i64 0, .slice none 0 0, .slice none 0 0] 36) = W := ⟨_, rfl⟩
            have uY39q9 : V38.heap.size + 1 = W39q9.heap.size := by rw [← hW]; simp
            obtain ⟨N39q9, hN⟩ : ∃ N, V38.heap.size = N := ⟨_, rfl⟩
            rw [hW] at Y39q9 b39q9 Y1q8 O1 O3 ⊢
            rw [hN] at Y39q9 l39q9 uY39q9 ⊢
            clear hW hN
            refine wpAnyH_ready (rs := [4]) (by kernel_rfl) (by simp) ?_
            refine AllReadyH.cons rfl (fun K hK => ?_) (AllReadyH.nil)
            go_simp
            refine (SP W39q9 W39q9.heap.size _ _ _ O1.sees O3.sees (Nat.le_refl _)).mono ?_
            rintro e V42 ⟨mv, kv, av, cv, dv, lv, rfl, R1, R3, c42⟩
            have hw := b39q9.size
            rw [hh0'] at hw
            have b42c := b39q9.trans (c42.mono hw)
            have hz0 := hw
            clear O1 O3
            have Y1q8 := Y1q8.on c42 Y1q8.lt
            have Y39q9 := Y39q9.on c42 Y39q9.lt
            clear hw c42
            go_simp
            refine hK.out _ _ (LD.low (b42c.mono hL)).cells (fun _ => ?_)
            clear hK K
            try simp only [Act.put, List.setIfInBounds_toArray, List.set_cons_zero, List.set_cons_succ]
            refine takeH (i := 5) (some 27) (.tuple #[.agg #[.int .i64 Z.mc, .slice mv n kv], .agg #[.int .i64 who, .int .i64 rv, .int .i64 Z.ph, .int .i64 Z.at', .int .i64 Z.wv, .slice av np cv, .slice dv nr lv]]) rfl rfl (by kernel_rfl) (by kernel_rfl) (by kernel_rfl) (fun _ _ _ h => by cases h.1) (Or.inl ⟨by rfl, fun w hSw => by (try dsimp only at hSw); go_simp⟩) (by assumption) ?_
            try simp only [Act.put, List.setIfInBounds_toArray, List.set_cons_zero, List.set_cons_succ]
            refine takeH (i := 6) (some 33) (.agg #[.int .i64 Z.mc, .slice mv n kv]) rfl rfl (by kernel_rfl) (by kernel_rfl) (by kernel_rfl) (fun _ _ _ h => by cases h.1) (Or.inl ⟨by rfl, fun w hSw => by (try dsimp only at hSw); go_simp⟩) (by assumption) ?_
            try simp only [Act.put, List.setIfInBounds_toArray, List.set_cons_zero, List.set_cons_succ]
            refine takeH (i := 7) (some 34) (.agg #[.int .i64 who, .int .i64 rv, .int .i64 Z.ph, .int .i64 Z.at', .int .i64 Z.wv, .slice av np cv, .slice dv nr lv]) rfl rfl (by kernel_rfl) (by kernel_rfl) (by kernel_rfl) (fun _ _ _ h => by cases h.1) (Or.inl ⟨by rfl, fun w hSw => by (try dsimp only at hSw); go_simp⟩) (by assumption) ?_
            try simp only [Act.put, List.setIfInBounds_toArray, List.set_cons_zero, List.set_cons_succ]
            have y43 := fun i => Y1q8.cell i; have yf43 := fun i => Y1q8.froz i
            refine wpAnyH_ready (rs := [10]) (by kernel_rfl) (by simp) ?_
            refine AllReadyH.cons rfl (fun K hK => ?_) AllReadyH.nil
            go_simp
            clear y43 yf43
            refine hK.out _ _ (LD.low (((b42c.setCell (p := ⟨N1q8, 0, none⟩) l1q8 (.int .i64 Z.mc)).setCell (p := ⟨N1q8, 1, none⟩) l1q8 (.slice mv n kv)).mono hL)).cells (fun _ => ?_)
            clear hK K
            try simp only [Act.put, List.setIfInBounds_toArray, List.set_cons_zero, List.set_cons_succ]
            have hne43 : N39q9 ≠ N1q8 := blkNe Y39q9 Y1q8 (by decide)
            have Q43 := (Y39q9.other hne43 0 (.int .i64 Z.mc)).other hne43 1 (.slice mv n kv)
            have y43 := fun i => Q43.cell i; have yf43 := fun i => Q43.froz i
            refine wpAnyH_ready (rs := [11]) (by kernel_rfl) (by simp) ?_
            refine AllReadyH.cons rfl (fun K hK => ?_) AllReadyH.nil
            go_simp
            clear y43 yf43
            have bN43 := nine_below b42c l1q8 l39q9 (.int .i64 Z.mc) (.slice mv n kv) (.int .i64 who) (.int .i64 rv) (.int .i64 Z.ph) (.int .i64 Z.at') (.int .i64 Z.wv) (.slice av np cv) (.slice dv nr lv)
            have RN43 := RP.stored (who := who) (rv := rv) (Z := Z) Y1q8 Y39q9 (R1.mono hz0) (R3.mono hz0) l1q8 l39q9
            refine hK.out _ _ (LD.low (bN43.mono hL)).cells (fun _ => ?_)
            clear hK K
            refine wpAnyH_done (by kernel_rfl) ?_ _
            exact ⟨rfl, _, _, _, mv, kv, av, cv, dv, lv, _, _, _, _, _, _, _, _, _, _, _, _, _, _, _, _, _, _, _, _, _, _, rfl, bN43, RN43⟩
        · go_simp
          have A := alloc_below V37 (.cells #[.int .i64 0, .int .i64 0, .int .i64 0, .int .i64 0, .int .i64 0, .slice none 0 0, .slice none 0 0] 36)
          have Y38q9 := Blk.new V37 #[.int .i64 0, .int .i64 0, .int .i64 0, .int .i64 0, .int .i64 0, .slice none 0 0, .slice none 0 0] 36
          have hw := b37c.size
          rw [hh0'] at hw
          have l38q9 : h0 ≤ V37.heap.size := hw
          clear hw
          have b38q9 := b37c.trans (A.mono l38q9)
          have Y1q8 := Y1q8.on A Y1q8.lt
          have O1 := O1.on A (Nat.le_refl _)
          refine hK.out _ _ (LD.low (b38q9.mono hL)).cells (fun _ => ?_)
          clear hK K A
          try simp only [Act.put, List.setIfInBounds_toArray, List.set_cons_zero, List.set_cons_succ]
          obtain ⟨W38q9, hW⟩ : ∃ W, V37.alloc (.cells #[.int .i64 0, .int .i64 0, .int .i64 0, .int .i64 0, .int .i64 0, .slice none 0 0, .slice none 0 0] 36) = W := ⟨_, rfl⟩
          have uY38q9 : V37.heap.size + 1 = W38q9.heap.size := by rw [← hW]; simp
          obtain ⟨N38q9, hN⟩ : ∃ N, V37.heap.size = N := ⟨_, rfl⟩
          rw [hW] at Y38q9 b38q9 Y1q8 O1 ⊢
          rw [hN] at Y38q9 l38q9 uY38q9 ⊢
          clear hW hN
          refine wpAnyH_ready (rs := [3]) (by kernel_rfl) (by simp) ?_
          refine AllReadyH.cons rfl (fun K hK => ?_) (AllReadyH.nil)
          go_simp
          refine (C3 W38q9 (LD.low (b38q9.mono hL))).mono ?_
          rintro e V44 ⟨a3, k3, d3, l3, rfl, O3, c44⟩
          have hw := b38q9.size
          rw [hh0'] at hw
          have b44c := b38q9.trans (c44.mono hw)
          have Y1q8 := Y1q8.on c44 Y1q8.lt
          have O1 := O1.on c44 (Nat.le_refl _)
          have Y38q9 := Y38q9.on c44 Y38q9.lt
          clear hw c44
          go_simp
          refine hK.out _ _ (LD.low (b44c.mono hL)).cells (fun _ => ?_)
          clear hK K
          try simp only [Act.put, List.setIfInBounds_toArray, List.set_cons_zero, List.set_cons_succ]
          refine wpAnyH_ready (rs := [4]) (by kernel_rfl) (by simp) ?_
          refine AllReadyH.cons rfl (fun K hK => ?_) (AllReadyH.nil)
          go_simp
          refine (SP V44 V44.heap.size _ _ _ O1.sees O3.sees (Nat.le_refl _)).mono ?_
          rintro e V45 ⟨mv, kv, av, cv, dv, lv, rfl, R1, R3, c45⟩
          have hw := b44c.size
          rw [hh0'] at hw
          have b45c := b44c.trans (c45.mono hw)
          have hz0 := hw
          clear O1 O3
          have Y1q8 := Y1q8.on c45 Y1q8.lt
          have Y38q9 := Y38q9.on c45 Y38q9.lt
          clear hw c45
          go_simp
          refine hK.out _ _ (LD.low (b45c.mono hL)).cells (fun _ => ?_)
          clear hK K
          try simp only [Act.put, List.setIfInBounds_toArray, List.set_cons_zero, List.set_cons_succ]
          refine takeH (i := 5) (some 27) (.tuple #[.agg #[.int .i64 Z.mc, .slice mv n kv], .agg #[.int .i64 who, .int .i64 rv, .int .i64 Z.ph, .int .i64 Z.at', .int .i64 Z.wv, .slice av np cv, .slice dv nr lv]]) rfl rfl (by kernel_rfl) (by kernel_rfl) (by kernel_rfl) (fun _ _ _ h => by cases h.1) (Or.inl ⟨by rfl, fun w hSw => by (try dsimp only at hSw); go_simp⟩) (by assumption) ?_
          try simp only [Act.put, List.setIfInBounds_toArray, List.set_cons_zero, List.set_cons_succ]
          refine takeH (i := 6) (some 33) (.agg #[.int .i64 Z.mc, .slice mv n kv]) rfl rfl (by kernel_rfl) (by kernel_rfl) (by kernel_rfl) (fun _ _ _ h => by cases h.1) (Or.inl ⟨by rfl, fun w hSw => by (try dsimp only at hSw); go_simp⟩) (by assumption) ?_
          try simp only [Act.put, List.setIfInBounds_toArray, List.set_cons_zero, List.set_cons_succ]
          refine takeH (i := 7) (some 34) (.agg #[.int .i64 who, .int .i64 rv, .int .i64 Z.ph, .int .i64 Z.at', .int .i64 Z.wv, .slice av np cv, .slice dv nr lv]) rfl rfl (by kernel_rfl) (by kernel_rfl) (by kernel_rfl) (fun _ _ _ h => by cases h.1) (Or.inl ⟨by rfl, fun w hSw => by (try dsimp only at hSw); go_simp⟩) (by assumption) ?_
          try simp only [Act.put, List.setIfInBounds_toArray, List.set_cons_zero, List.set_cons_succ]
          have y46 := fun i => Y1q8.cell i; have yf46 := fun i => Y1q8.froz i
          refine wpAnyH_ready (rs := [10]) (by kernel_rfl) (by simp) ?_
          refine AllReadyH.cons rfl (fun K hK => ?_) AllReadyH.nil
          go_simp
          clear y46 yf46
          refine hK.out _ _ (LD.low (((b45c.setCell (p := ⟨N1q8, 0, none⟩) l1q8 (.int .i64 Z.mc)).setCell (p := ⟨N1q8, 1, none⟩) l1q8 (.slice mv n kv)).mono hL)).cells (fun _ => ?_)
          clear hK K
          try simp only [Act.put, List.setIfInBounds_toArray, List.set_cons_zero, List.set_cons_succ]
          have hne46 : N38q9 ≠ N1q8 := blkNe Y38q9 Y1q8 (by decide)
          have Q46 := (Y38q9.other hne46 0 (.int .i64 Z.mc)).other hne46 1 (.slice mv n kv)
          have y46 := fun i => Q46.cell i; have yf46 := fun i => Q46.froz i
          refine wpAnyH_ready (rs := [11]) (by kernel_rfl) (by simp) ?_
          refine AllReadyH.cons rfl (fun K hK => ?_) AllReadyH.nil
          go_simp
          clear y46 yf46
          have bN46 := nine_below b45c l1q8 l38q9 (.int .i64 Z.mc) (.slice mv n kv) (.int .i64 who) (.int .i64 rv) (.int .i64 Z.ph) (.int .i64 Z.at') (.int .i64 Z.wv) (.slice av np cv) (.slice dv nr lv)
          have RN46 := RP.stored (who := who) (rv := rv) (Z := Z) Y1q8 Y38q9 (R1.mono hz0) (R3.mono hz0) l1q8 l38q9
          refine hK.out _ _ (LD.low (bN46.mono hL)).cells (fun _ => ?_)
          clear hK K
          refine wpAnyH_done (by kernel_rfl) ?_ _
          exact ⟨rfl, _, _, _, mv, kv, av, cv, dv, lv, _, _, _, _, _, _, _, _, _, _, _, _, _, _, _, _, _, _, _, _, _, _, rfl, bN46, RN46⟩
      · go_simp
        have A := alloc_below W1q8 (.cells #[.int .i64 0, .int .i64 0, .int .i64 0, .int .i64 0, .int .i64 0, .slice none 0 0, .slice none 0 0] 36)
        have Y37q9 := Blk.new W1q8 #[.int .i64 0, .int .i64 0, .int .i64 0, .int .i64 0, .int .i64 0, .slice none 0 0, .slice none 0 0] 36
        have hw := b1q8.size
        rw [hh0'] at hw
        have l37q9 : h0 ≤ W1q8.heap.size := hw
        clear hw
        have b37q9 := b1q8.trans (A.mono l37q9)
        have Y1q8 := Y1q8.on A Y1q8.lt
        refine hK.out _ _ (LD.low (b37q9.mono hL)).cells (fun _ => ?_)
        clear hK K A
        try simp only [Act.put, List.setIfInBounds_toArray, List.set_cons_zero, List.set_cons_succ]
        obtain ⟨W37q9, hW⟩ : ∃ W, W1q8.alloc (.cells #[.int .i64 0, .int .i64 0, .int .i64 0, .int .i64 0, .int .i64 0, .slice none 0 0, .slice none 0 0] 36) = W := ⟨_, rfl⟩
        have uY37q9 : W1q8.heap.size + 1 = W37q9.heap.size := by rw [← hW]; simp
        obtain ⟨N37q9, hN⟩ : ∃ N, W1q8.heap.size = N := ⟨_, rfl⟩
        rw [hW] at Y37q9 b37q9 Y1q8 ⊢
        rw [hN] at Y37q9 l37q9 uY37q9 ⊢
        clear hW hN
        refine wpAnyH_ready (rs := [1]) (by kernel_rfl) (by simp) ?_
        refine AllReadyH.cons rfl (fun K hK => ?_) (AllReadyH.nil)
        go_simp
        refine (C1 W37q9 (LD.low (b37q9.mono hL))).mono ?_
        rintro e V47 ⟨a1, k1, rfl, O1, c47⟩
        have hw := b37q9.size
        rw [hh0'] at hw
        have b47c := b37q9.trans (c47.mono hw)
        have Y1q8 := Y1q8.on c47 Y1q8.lt
        have Y37q9 := Y37q9.on c47 Y37q9.lt
        clear hw c47
        go_simp
        refine hK.out _ _ (LD.low (b47c.mono hL)).cells (fun _ => ?_)
        clear hK K
        try simp only [Act.put, List.setIfInBounds_toArray, List.set_cons_zero, List.set_cons_succ]
        refine wpAnyH_ready (rs := [3]) (by kernel_rfl) (by simp) ?_
        refine AllReadyH.cons rfl (fun K hK => ?_) (AllReadyH.nil)
        go_simp
        refine (C3 V47 (LD.low (b47c.mono hL))).mono ?_
        rintro e V48 ⟨a3, k3, d3, l3, rfl, O3, c48⟩
        have hw := b47c.size
        rw [hh0'] at hw
        have b48c := b47c.trans (c48.mono hw)
        have Y1q8 := Y1q8.on c48 Y1q8.lt
        have Y37q9 := Y37q9.on c48 Y37q9.lt
        have O1 := O1.on c48 (Nat.le_refl _)
        clear hw c48
        go_simp
        refine hK.out _ _ (LD.low (b48c.mono hL)).cells (fun _ => ?_)
        clear hK K
        try simp only [Act.put, List.setIfInBounds_toArray, List.set_cons_zero, List.set_cons_succ]
        refine wpAnyH_ready (rs := [4]) (by kernel_rfl) (by simp) ?_
        refine AllReadyH.cons rfl (fun K hK => ?_) (AllReadyH.nil)
        go_simp
        refine (SP V48 V48.heap.size _ _ _ O1.sees O3.sees (Nat.le_refl _)).mono ?_
        rintro e V49 ⟨mv, kv, av, cv, dv, lv, rfl, R1, R3, c49⟩
        have hw := b48c.size
        rw [hh0'] at hw
        have b49c := b48c.trans (c49.mono hw)
        have hz0 := hw
        clear O1 O3
        have Y1q8 := Y1q8.on c49 Y1q8.lt
        have Y37q9 := Y37q9.on c49 Y37q9.lt
        clear hw c49
        go_simp
        refine hK.out _ _ (LD.low (b49c.mono hL)).cells (fun _ => ?_)
        clear hK K
        try simp only [Act.put, List.setIfInBounds_toArray, List.set_cons_zero, List.set_cons_succ]
        refine takeH (i := 5) (some 27) (.tuple #[.agg #[.int .i64 Z.mc, .slice mv n kv], .agg #[.int .i64 who, .int .i64 rv, .int .i64 Z.ph, .int .i64 Z.at', .int .i64 Z.wv, .slice av np cv, .slice dv nr lv]]) rfl rfl (by kernel_rfl) (by kernel_rfl) (by kernel_rfl) (fun _ _ _ h => by cases h.1) (Or.inl ⟨by rfl, fun w hSw => by (try dsimp only at hSw); go_simp⟩) (by assumption) ?_
        try simp only [Act.put, List.setIfInBounds_toArray, List.set_cons_zero, List.set_cons_succ]
        refine takeH (i := 6) (some 33) (.agg #[.int .i64 Z.mc, .slice mv n kv]) rfl rfl (by kernel_rfl) (by kernel_rfl) (by kernel_rfl) (fun _ _ _ h => by cases h.1) (Or.inl ⟨by rfl, fun w hSw => by (try dsimp only at hSw); go_simp⟩) (by assumption) ?_
        try simp only [Act.put, List.setIfInBounds_toArray, List.set_cons_zero, List.set_cons_succ]
        refine takeH (i := 7) (some 34) (.agg #[.int .i64 who, .int .i64 rv, .int .i64 Z.ph, .int .i64 Z.at', .int .i64 Z.wv, .slice av np cv, .slice dv nr lv]) rfl rfl (by kernel_rfl) (by kernel_rfl) (by kernel_rfl) (fun _ _ _ h => by cases h.1) (Or.inl ⟨by rfl, fun w hSw => by (try dsimp only at hSw); go_simp⟩) (by assumption) ?_
        try simp only [Act.put, List.setIfInBounds_toArray, List.set_cons_zero, List.set_cons_succ]
        have y50 := fun i => Y1q8.cell i; have yf50 := fun i => Y1q8.froz i
        refine wpAnyH_ready (rs := [10]) (by kernel_rfl) (by simp) ?_
        refine AllReadyH.cons rfl (fun K hK => ?_) AllReadyH.nil
        go_simp
        clear y50 yf50
        refine hK.out _ _ (LD.low (((b49c.setCell (p := ⟨N1q8, 0, none⟩) l1q8 (.int .i64 Z.mc)).setCell (p := ⟨N1q8, 1, none⟩) l1q8 (.slice mv n kv)).mono hL)).cells (fun _ => ?_)
        clear hK K
        try simp only [Act.put, List.setIfInBounds_toArray, List.set_cons_zero, List.set_cons_succ]
        have hne50 : N37q9 ≠ N1q8 := blkNe Y37q9 Y1q8 (by decide)
        have Q50 := (Y37q9.other hne50 0 (.int .i64 Z.mc)).other hne50 1 (.slice mv n kv)
        have y50 := fun i => Q50.cell i; have yf50 := fun i => Q50.froz i
        refine wpAnyH_ready (rs := [11]) (by kernel_rfl) (by simp) ?_
        refine AllReadyH.cons rfl (fun K hK => ?_) AllReadyH.nil
        go_simp
        clear y50 yf50
        have bN50 := nine_below b49c l1q8 l37q9 (.int .i64 Z.mc) (.slice mv n kv) (.int .i64 who) (.int .i64 rv) (.int .i64 Z.ph) (.int .i64 Z.at') (.int .i64 Z.wv) (.slice av np cv) (.slice dv nr lv)
        have RN50 := RP.stored (who := who) (rv := rv) (Z := Z) Y1q8 Y37q9 (R1.mono hz0) (R3.mono hz0) l1q8 l37q9
        refine hK.out _ _ (LD.low (bN50.mono hL)).cells (fun _ => ?_)
        clear hK K
        refine wpAnyH_done (by kernel_rfl) ?_ _
        exact ⟨rfl, _, _, _, mv, kv, av, cv, dv, lv, _, _, _, _, _, _, _, _, _, _, _, _, _, _, _, _, _, _, _, _, _, _, rfl, bN50, RN50⟩
    · go_simp
      have A := alloc_below WD (.cells #[.int .i64 0, .int .i64 0, .int .i64 0, .int .i64 0, .int .i64 0, .slice none 0 0, .slice none 0 0] 36)
      have Y1q9 := Blk.new WD #[.int .i64 0, .int .i64 0, .int .i64 0, .int .i64 0, .int .i64 0, .slice none 0 0, .slice none 0 0] 36
      have hw := bD.size
      rw [hh0'] at hw
      have l1q9 : h0 ≤ WD.heap.size := hw
      clear hw
      have b1q9 := bD.trans (A.mono l1q9)
      refine hK.out _ _ (LD.low (b1q9.mono hL)).cells (fun _ => ?_)
      clear hK K A
      try simp only [Act.put, List.setIfInBounds_toArray, List.set_cons_zero, List.set_cons_succ]
      obtain ⟨W1q9, hW⟩ : ∃ W, WD.alloc (.cells #[.int .i64 0, .int .i64 0, .int .i64 0, .int .i64 0, .int .i64 0, .slice none 0 0, .slice none 0 0] 36) = W := ⟨_, rfl⟩
      have uY1q9 : WD.heap.size + 1 = W1q9.heap.size := by rw [← hW]; simp
      obtain ⟨N1q9, hN⟩ : ∃ N, WD.heap.size = N := ⟨_, rfl⟩
      rw [hW] at Y1q9 b1q9 ⊢
      rw [hN] at Y1q9 l1q9 uY1q9 ⊢
      clear hW hN
      refine wpAnyH_ready (rs := [1, 8]) (by kernel_rfl) (by simp) ?_
      refine AllReadyH.cons rfl (fun K hK => ?_) (AllReadyH.cons rfl (fun K hK => ?_) (AllReadyH.nil))
      · go_simp
        refine (C1 W1q9 (LD.low (b1q9.mono hL))).mono ?_
        rintro e V51 ⟨a1, k1, rfl, O1, c51⟩
        have hw := b1q9.size
        rw [hh0'] at hw
        have b51c := b1q9.trans (c51.mono hw)
        have Y1q9 := Y1q9.on c51 Y1q9.lt
        clear hw c51
        go_simp
        refine hK.out _ _ (LD.low (b51c.mono hL)).cells (fun _ => ?_)
        clear hK K
        try simp only [Act.put, List.setIfInBounds_toArray, List.set_cons_zero, List.set_cons_succ]
        refine wpAnyH_ready (rs := [3, 8]) (by kernel_rfl) (by simp) ?_
        refine AllReadyH.cons rfl (fun K hK => ?_) (AllReadyH.cons rfl (fun K hK => ?_) (AllReadyH.nil))
        · go_simp
          refine (C3 V51 (LD.low (b51c.mono hL))).mono ?_
          rintro e V52 ⟨a3, k3, d3, l3, rfl, O3, c52⟩
          have hw := b51c.size
          rw [hh0'] at hw
          have b52c := b51c.trans (c52.mono hw)
          have Y1q9 := Y1q9.on c52 Y1q9.lt
          have O1 := O1.on c52 (Nat.le_refl _)
          clear hw c52
          go_simp
          refine hK.out _ _ (LD.low (b52c.mono hL)).cells (fun _ => ?_)
          clear hK K
          try simp only [Act.put, List.setIfInBounds_toArray, List.set_cons_zero, List.set_cons_succ]
          refine wpAnyH_ready (rs := [4, 8]) (by kernel_rfl) (by simp) ?_
          refine AllReadyH.cons rfl (fun K hK => ?_) (AllReadyH.cons rfl (fun K hK => ?_) (AllReadyH.nil))
          · go_simp
            refine (SP V52 V52.heap.size _ _ _ O1.sees O3.sees (Nat.le_refl _)).mono ?_
            rintro e V53 ⟨mv, kv, av, cv, dv, lv, rfl, R1, R3, c53⟩
            have hw := b52c.size
            rw [hh0'] at hw
            have b53c := b52c.trans (c53.mono hw)
            have hz0 := hw
            clear O1 O3
            have Y1q9 := Y1q9.on c53 Y1q9.lt
            clear hw c53
            go_simp
            refine hK.out _ _ (LD.low (b53c.mono hL)).cells (fun _ => ?_)
            clear hK K
            try simp only [Act.put, List.setIfInBounds_toArray, List.set_cons_zero, List.set_cons_succ]
            refine takeH (i := 5) (some 27) (.tuple #[.agg #[.int .i64 Z.mc, .slice mv n kv], .agg #[.int .i64 who, .int .i64 rv, .int .i64 Z.ph, .int .i64 Z.at', .int .i64 Z.wv, .slice av np cv, .slice dv nr lv]]) rfl rfl (by kernel_rfl) (by kernel_rfl) (by kernel_rfl) (fun _ _ _ h => by cases h.1) (Or.inl ⟨by rfl, fun w hSw => by (try dsimp only at hSw); go_simp⟩) (by assumption) ?_
            try simp only [Act.put, List.setIfInBounds_toArray, List.set_cons_zero, List.set_cons_succ]
            refine takeH (i := 6) (some 33) (.agg #[.int .i64 Z.mc, .slice mv n kv]) rfl rfl (by kernel_rfl) (by kernel_rfl) (by kernel_rfl) (fun _ _ _ h => by cases h.1) (Or.inl ⟨by rfl, fun w hSw => by (try dsimp only at hSw); go_simp⟩) (by assumption) ?_
            try simp only [Act.put, List.setIfInBounds_toArray, List.set_cons_zero, List.set_cons_succ]
            refine takeH (i := 7) (some 34) (.agg #[.int .i64 who, .int .i64 rv, .int .i64 Z.ph, .int .i64 Z.at', .int .i64 Z.wv, .slice av np cv, .slice dv nr lv]) rfl rfl (by kernel_rfl) (by kernel_rfl) (by kernel_rfl) (fun _ _ _ h => by cases h.1) (Or.inl ⟨by rfl, fun w hSw => by (try dsimp only at hSw); go_simp⟩) (by assumption) ?_
            try simp only [Act.put, List.setIfInBounds_toArray, List.set_cons_zero, List.set_cons_succ]
            refine wpAnyH_ready (rs := [8]) (by kernel_rfl) (by simp) ?_
            refine AllReadyH.cons rfl (fun K hK => ?_) (AllReadyH.nil)
            go_simp
            have A := alloc_below V53 (.cells #[.int .i64 0, .slice none 0 0] 33)
            have Y54q8 := Blk.new V53 #[.int .i64 0, .slice none 0 0] 33
            have hw := b53c.size
            rw [hh0'] at hw
            have l54q8 : h0 ≤ V53.heap.size := hw
            clear hw
            have b54q8 := b53c.trans (A.mono l54q8)
            have Y1q9 := Y1q9.on A Y1q9.lt
            have R1 := R1.on A (Nat.le_refl _)
            have R3 := R3.on A (Nat.le_refl _)
            refine hK.out _ _ (LD.low (b54q8.mono hL)).cells (fun _ => ?_)
            clear hK K A
            try simp only [Act.put, List.setIfInBounds_toArray, List.set_cons_zero, List.set_cons_succ]
            obtain ⟨W54q8, hW⟩ : ∃ W, V53.alloc (.cells #[.int .i64 0, .slice none 0 0] 33) = W := ⟨_, rfl⟩
            have uY54q8 : V53.heap.size + 1 = W54q8.heap.size := by rw [← hW]; simp
            obtain ⟨N54q8, hN⟩ : ∃ N, V53.heap.size = N := ⟨_, rfl⟩
            rw [hW] at Y54q8 b54q8 Y1q9 R1 R3 ⊢
            rw [hN] at Y54q8 l54q8 uY54q8 ⊢
            clear hW hN
            have y55 := fun i => Y54q8.cell i; have yf55 := fun i => Y54q8.froz i
            refine wpAnyH_ready (rs := [10]) (by kernel_rfl) (by simp) ?_
            refine AllReadyH.cons rfl (fun K hK => ?_) AllReadyH.nil
            go_simp
            clear y55 yf55
            refine hK.out _ _ (LD.low (((b54q8.setCell (p := ⟨N54q8, 0, none⟩) l54q8 (.int .i64 Z.mc)).setCell (p := ⟨N54q8, 1, none⟩) l54q8 (.slice mv n kv)).mono hL)).cells (fun _ => ?_)
            clear hK K
            try simp only [Act.put, List.setIfInBounds_toArray, List.set_cons_zero, List.set_cons_succ]
            have hne55 : N1q9 ≠ N54q8 := blkNe Y1q9 Y54q8 (by decide)
            have Q55 := (Y1q9.other hne55 0 (.int .i64 Z.mc)).other hne55 1 (.slice mv n kv)
            have y55 := fun i => Q55.cell i; have yf55 := fun i => Q55.froz i
            refine wpAnyH_ready (rs := [11]) (by kernel_rfl) (by simp) ?_
            refine AllReadyH.cons rfl (fun K hK => ?_) AllReadyH.nil
            go_simp
            clear y55 yf55
            have bN55 := nine_below b54q8 l54q8 l1q9 (.int .i64 Z.mc) (.slice mv n kv) (.int .i64 who) (.int .i64 rv) (.int .i64 Z.ph) (.int .i64 Z.at') (.int .i64 Z.wv) (.slice av np cv) (.slice dv nr lv)
            have RN55 := RP.stored (who := who) (rv := rv) (Z := Z) Y54q8 Y1q9 (R1.mono hz0) (R3.mono hz0) l54q8 l1q9
            refine hK.out _ _ (LD.low (bN55.mono hL)).cells (fun _ => ?_)
            clear hK K
            refine wpAnyH_done (by kernel_rfl) ?_ _
            exact ⟨rfl, _, _, _, mv, kv, av, cv, dv, lv, _, _, _, _, _, _, _, _, _, _, _, _, _, _, _, _, _, _, _, _, _, _, rfl, bN55, RN55⟩
          · go_simp
            have A := alloc_below V52 (.cells #[.int .i64 0, .slice none 0 0] 33)
            have Y53q8 := Blk.new V52 #[.int .i64 0, .slice none 0 0] 33
            have hw := b52c.size
            rw [hh0'] at hw
            have l53q8 : h0 ≤ V52.heap.size := hw
            clear hw
            have b53q8 := b52c.trans (A.mono l53q8)
            have Y1q9 := Y1q9.on A Y1q9.lt
            have O1 := O1.on A (Nat.le_refl _)
            have O3 := O3.on A (Nat.le_refl _)
            refine hK.out _ _ (LD.low (b53q8.mono hL)).cells (fun _ => ?_)
            clear hK K A
            try simp only [Act.put, List.setIfInBounds_toArray, List.set_cons_zero, List.set_cons_succ]
            obtain ⟨W53q8, hW⟩ : ∃ W, V52.alloc (.cells #[.int .i64 0, .slice none 0 0] 33) = W := ⟨_, rfl⟩
            have uY53q8 : V52.heap.size + 1 = W53q8.heap.size := by rw [← hW]; simp
            obtain ⟨N53q8, hN⟩ : ∃ N, V52.heap.size = N := ⟨_, rfl⟩
            rw [hW] at Y53q8 b53q8 Y1q9 O1 O3 ⊢
            rw [hN] at Y53q8 l53q8 uY53q8 ⊢
            clear hW hN
            refine wpAnyH_ready (rs := [4]) (by kernel_rfl) (by simp) ?_
            refine AllReadyH.cons rfl (fun K hK => ?_) (AllReadyH.nil)
            go_simp
            refine (SP W53q8 W53q8.heap.size _ _ _ O1.sees O3.sees (Nat.le_refl _)).mono ?_
            rintro e V56 ⟨mv, kv, av, cv, dv, lv, rfl, R1, R3, c56⟩
            have hw := b53q8.size
            rw [hh0'] at hw
            have b56c := b53q8.trans (c56.mono hw)
            have hz0 := hw
            clear O1 O3
            have Y1q9 := Y1q9.on c56 Y1q9.lt
            have Y53q8 := Y53q8.on c56 Y53q8.lt
            clear hw c56
            go_simp
            refine hK.out _ _ (LD.low (b56c.mono hL)).cells (fun _ => ?_)
            clear hK K
            try simp only [Act.put, List.setIfInBounds_toArray, List.set_cons_zero, List.set_cons_succ]
            refine takeH (i := 5) (some 27) (.tuple #[.agg #[.int .i64 Z.mc, .slice mv n kv], .agg #[.int .i64 who, .int .i64 rv, .int .i64 Z.ph, .int .i64 Z.at', .int .i64 Z.wv, .slice av np cv, .slice dv nr lv]]) rfl rfl (by kernel_rfl) (by kernel_rfl) (by kernel_rfl) (fun _ _ _ h => by cases h.1) (Or.inl ⟨by rfl, fun w hSw => by (try dsimp only at hSw); go_simp⟩) (by assumption) ?_
            try simp only [Act.put, List.setIfInBounds_toArray, List.set_cons_zero, List.set_cons_succ]
            refine takeH (i := 6) (some 33) (.agg #[.int .i64 Z.mc, .slice mv n kv]) rfl rfl (by kernel_rfl) (by kernel_rfl) (by kernel_rfl) (fun _ _ _ h => by cases h.1) (Or.inl ⟨by rfl, fun w hSw => by (try dsimp only at hSw); go_simp⟩) (by assumption) ?_
            try simp only [Act.put, List.setIfInBounds_toArray, List.set_cons_zero, List.set_cons_succ]
            refine takeH (i := 7) (some 34) (.agg #[.int .i64 who, .int .i64 rv, .int .i64 Z.ph, .int .i64 Z.at', .int .i64 Z.wv, .slice av np cv, .slice dv nr lv]) rfl rfl (by kernel_rfl) (by kernel_rfl) (by kernel_rfl) (fun _ _ _ h => by cases h.1) (Or.inl ⟨by rfl, fun w hSw => by (try dsimp only at hSw); go_simp⟩) (by assumption) ?_
            try simp only [Act.put, List.setIfInBounds_toArray, List.set_cons_zero, List.set_cons_succ]
            have y57 := fun i => Y53q8.cell i; have yf57 := fun i => Y53q8.froz i
            refine wpAnyH_ready (rs := [10]) (by kernel_rfl) (by simp) ?_
            refine AllReadyH.cons rfl (fun K hK => ?_) AllReadyH.nil
            go_simp
            clear y57 yf57
            refine hK.out _ _ (LD.low (((b56c.setCell (p := ⟨N53q8, 0, none⟩) l53q8 (.int .i64 Z.mc)).setCell (p := ⟨N53q8, 1, none⟩) l53q8 (.slice mv n kv)).mono hL)).cells (fun _ => ?_)
            clear hK K
            try simp only [Act.put, List.setIfInBounds_toArray, List.set_cons_zero, List.set_cons_succ]
            have hne57 : N1q9 ≠ N53q8 := blkNe Y1q9 Y53q8 (by decide)
            have Q57 := (Y1q9.other hne57 0 (.int .i64 Z.mc)).other hne57 1 (.slice mv n kv)
            have y57 := fun i => Q57.cell i; have yf57 := fun i => Q57.froz i
            refine wpAnyH_ready (rs := [11]) (by kernel_rfl) (by simp) ?_
            refine AllReadyH.cons rfl (fun K hK => ?_) AllReadyH.nil
            go_simp
            clear y57 yf57
            have bN57 := nine_below b56c l53q8 l1q9 (.int .i64 Z.mc) (.slice mv n kv) (.int .i64 who) (.int .i64 rv) (.int .i64 Z.ph) (.int .i64 Z.at') (.int .i64 Z.wv) (.slice av np cv) (.slice dv nr lv)
            have RN57 := RP.stored (who := who) (rv := rv) (Z := Z) Y53q8 Y1q9 (R1.mono hz0) (R3.mono hz0) l53q8 l1q9
            refine hK.out _ _ (LD.low (bN57.mono hL)).cells (fun _ => ?_)
            clear hK K
            refine wpAnyH_done (by kernel_rfl) ?_ _
            exact ⟨rfl, _, _, _, mv, kv, av, cv, dv, lv, _, _, _, _, _, _, _, _, _, _, _, _, _, _, _, _, _, _, _, _, _, _, rfl, bN57, RN57⟩
        · go_simp
          have A := alloc_below V51 (.cells #[.int .i64 0, .slice none 0 0] 33)
          have Y52q8 := Blk.new V51 #[.int .i64 0, .slice none 0 0] 33
          have hw := b51c.size
          rw [hh0'] at hw
          have l52q8 : h0 ≤ V51.heap.size := hw
          clear hw
          have b52q8 := b51c.trans (A.mono l52q8)
          have Y1q9 := Y1q9.on A Y1q9.lt
          have O1 := O1.on A (Nat.le_refl _)
          refine hK.out _ _ (LD.low (b52q8.mono hL)).cells (fun _ => ?_)
          clear hK K A
          try simp only [Act.put, List.setIfInBounds_toArray, List.set_cons_zero, List.set_cons_succ]
          obtain ⟨W52q8, hW⟩ : ∃ W, V51.alloc (.cells #[.int .i64 0, .slice none 0 0] 33) = W := ⟨_, rfl⟩
          have uY52q8 : V51.heap.size + 1 = W52q8.heap.size := by rw [← hW]; simp
          obtain ⟨N52q8, hN⟩ : ∃ N, V51.heap.size = N := ⟨_, rfl⟩
          rw [hW] at Y52q8 b52q8 Y1q9 O1 ⊢
          rw [hN] at Y52q8 l52q8 uY52q8 ⊢
          clear hW hN
          refine wpAnyH_ready (rs := [3]) (by kernel_rfl) (by simp) ?_
          refine AllReadyH.cons rfl (fun K hK => ?_) (AllReadyH.nil)
          go_simp
          refine (C3 W52q8 (LD.low (b52q8.mono hL))).mono ?_
          rintro e V58 ⟨a3, k3, d3, l3, rfl, O3, c58⟩
          have hw := b52q8.size
          rw [hh0'] at hw
          have b58c := b52q8.trans (c58.mono hw)
          have Y1q9 := Y1q9.on c58 Y1q9.lt
          have O1 := O1.on c58 (Nat.le_refl _)
          have Y52q8 := Y52q8.on c58 Y52q8.lt
          clear hw c58
          go_simp
          refine hK.out _ _ (LD.low (b58c.mono hL)).cells (fun _ => ?_)
          clear hK K
          try simp only [Act.put, List.setIfInBounds_toArray, List.set_cons_zero, List.set_cons_succ]
          refine wpAnyH_ready (rs := [4]) (by kernel_rfl) (by simp) ?_
          refine AllReadyH.cons rfl (fun K hK => ?_) (AllReadyH.nil)
          go_simp
          refine (SP V58 V58.heap.size _ _ _ O1.sees O3.sees (Nat.le_refl _)).mono ?_
          rintro e V59 ⟨mv, kv, av, cv, dv, lv, rfl, R1, R3, c59⟩
          have hw := b58c.size
          rw [hh0'] at hw
          have b59c := b58c.trans (c59.mono hw)
          have hz0 := hw
          clear O1 O3
          have Y1q9 := Y1q9.on c59 Y1q9.lt
          have Y52q8 := Y52q8.on c59 Y52q8.lt
          clear hw c59
          go_simp
          refine hK.out _ _ (LD.low (b59c.mono hL)).cells (fun _ => ?_)
          clear hK K
          try simp only [Act.put, List.setIfInBounds_toArray, List.set_cons_zero, List.set_cons_succ]
          refine takeH (i := 5) (some 27) (.tuple #[.agg #[.int .i64 Z.mc, .slice mv n kv], .agg #[.int .i64 who, .int .i64 rv, .int .i64 Z.ph, .int .i64 Z.at', .int .i64 Z.wv, .slice av np cv, .slice dv nr lv]]) rfl rfl (by kernel_rfl) (by kernel_rfl) (by kernel_rfl) (fun _ _ _ h => by cases h.1) (Or.inl ⟨by rfl, fun w hSw => by (try dsimp only at hSw); go_simp⟩) (by assumption) ?_
          try simp only [Act.put, List.setIfInBounds_toArray, List.set_cons_zero, List.set_cons_succ]
          refine takeH (i := 6) (some 33) (.agg #[.int .i64 Z.mc, .slice mv n kv]) rfl rfl (by kernel_rfl) (by kernel_rfl) (by kernel_rfl) (fun _ _ _ h => by cases h.1) (Or.inl ⟨by rfl, fun w hSw => by (try dsimp only at hSw); go_simp⟩) (by assumption) ?_
          try simp only [Act.put, List.setIfInBounds_toArray, List.set_cons_zero, List.set_cons_succ]
          refine takeH (i := 7) (some 34) (.agg #[.int .i64 who, .int .i64 rv, .int .i64 Z.ph, .int .i64 Z.at', .int .i64 Z.wv, .slice av np cv, .slice dv nr lv]) rfl rfl (by kernel_rfl) (by kernel_rfl) (by kernel_rfl) (fun _ _ _ h => by cases h.1) (Or.inl ⟨by rfl, fun w hSw => by (try dsimp only at hSw); go_simp⟩) (by assumption) ?_
          try simp only [Act.put, List.setIfInBounds_toArray, List.set_cons_zero, List.set_cons_succ]
          have y60 := fun i => Y52q8.cell i; have yf60 := fun i => Y52q8.froz i
          refine wpAnyH_ready (rs := [10]) (by kernel_rfl) (by simp) ?_
          refine AllReadyH.cons rfl (fun K hK => ?_) AllReadyH.nil
          go_simp
          clear y60 yf60
          refine hK.out _ _ (LD.low (((b59c.setCell (p := ⟨N52q8, 0, none⟩) l52q8 (.int .i64 Z.mc)).setCell (p := ⟨N52q8, 1, none⟩) l52q8 (.slice mv n kv)).mono hL)).cells (fun _ => ?_)
          clear hK K
          try simp only [Act.put, List.setIfInBounds_toArray, List.set_cons_zero, List.set_cons_succ]
          have hne60 : N1q9 ≠ N52q8 := blkNe Y1q9 Y52q8 (by decide)
          have Q60 := (Y1q9.other hne60 0 (.int .i64 Z.mc)).other hne60 1 (.slice mv n kv)
          have y60 := fun i => Q60.cell i; have yf60 := fun i => Q60.froz i
          refine wpAnyH_ready (rs := [11]) (by kernel_rfl) (by simp) ?_
          refine AllReadyH.cons rfl (fun K hK => ?_) AllReadyH.nil
          go_simp
          clear y60 yf60
          have bN60 := nine_below b59c l52q8 l1q9 (.int .i64 Z.mc) (.slice mv n kv) (.int .i64 who) (.int .i64 rv) (.int .i64 Z.ph) (.int .i64 Z.at') (.int .i64 Z.wv) (.slice av np cv) (.slice dv nr lv)
          have RN60 := RP.stored (who := who) (rv := rv) (Z := Z) Y52q8 Y1q9 (R1.mono hz0) (R3.mono hz0) l52q8 l1q9
          refine hK.out _ _ (LD.low (bN60.mono hL)).cells (fun _ => ?_)
          clear hK K
          refine wpAnyH_done (by kernel_rfl) ?_ _
          exact ⟨rfl, _, _, _, mv, kv, av, cv, dv, lv, _, _, _, _, _, _, _, _, _, _, _, _, _, _, _, _, _, _, _, _, _, _, rfl, bN60, RN60⟩
      · go_simp
        have A := alloc_below W1q9 (.cells #[.int .i64 0, .slice none 0 0] 33)
        have Y51q8 := Blk.new W1q9 #[.int .i64 0, .slice none 0 0] 33
        have hw := b1q9.size
        rw [hh0'] at hw
        have l51q8 : h0 ≤ W1q9.heap.size := hw
        clear hw
        have b51q8 := b1q9.trans (A.mono l51q8)
        have Y1q9 := Y1q9.on A Y1q9.lt
        refine hK.out _ _ (LD.low (b51q8.mono hL)).cells (fun _ => ?_)
        clear hK K A
        try simp only [Act.put, List.setIfInBounds_toArray, List.set_cons_zero, List.set_cons_succ]
        obtain ⟨W51q8, hW⟩ : ∃ W, W1q9.alloc (.cells #[.int .i64 0, .slice none 0 0] 33) = W := ⟨_, rfl⟩
        have uY51q8 : W1q9.heap.size + 1 = W51q8.heap.size := by rw [← hW]; simp
        obtain ⟨N51q8, hN⟩ : ∃ N, W1q9.heap.size = N := ⟨_, rfl⟩
        rw [hW] at Y51q8 b51q8 Y1q9 ⊢
        rw [hN] at Y51q8 l51q8 uY51q8 ⊢
        clear hW hN
        refine wpAnyH_ready (rs := [1]) (by kernel_rfl) (by simp) ?_
        refine AllReadyH.cons rfl (fun K hK => ?_) (AllReadyH.nil)
        go_simp
        refine (C1 W51q8 (LD.low (b51q8.mono hL))).mono ?_
        rintro e V61 ⟨a1, k1, rfl, O1, c61⟩
        have hw := b51q8.size
        rw [hh0'] at hw
        have b61c := b51q8.trans (c61.mono hw)
        have Y1q9 := Y1q9.on c61 Y1q9.lt
        have Y51q8 := Y51q8.on c61 Y51q8.lt
        clear hw c61
        go_simp
        refine hK.out _ _ (LD.low (b61c.mono hL)).cells (fun _ => ?_)
        clear hK K
        try simp only [Act.put, List.setIfInBounds_toArray, List.set_cons_zero, List.set_cons_succ]
        refine wpAnyH_ready (rs := [3]) (by kernel_rfl) (by simp) ?_
        refine AllReadyH.cons rfl (fun K hK => ?_) (AllReadyH.nil)
        go_simp
        refine (C3 V61 (LD.low (b61c.mono hL))).mono ?_
        rintro e V62 ⟨a3, k3, d3, l3, rfl, O3, c62⟩
        have hw := b61c.size
        rw [hh0'] at hw
        have b62c := b61c.trans (c62.mono hw)
        have Y1q9 := Y1q9.on c62 Y1q9.lt
        have Y51q8 := Y51q8.on c62 Y51q8.lt
        have O1 := O1.on c62 (Nat.le_refl _)
        clear hw c62
        go_simp
        refine hK.out _ _ (LD.low (b62c.mono hL)).cells (fun _ => ?_)
        clear hK K
        try simp only [Act.put, List.setIfInBounds_toArray, List.set_cons_zero, List.set_cons_succ]
        refine wpAnyH_ready (rs := [4]) (by kernel_rfl) (by simp) ?_
        refine AllReadyH.cons rfl (fun K hK => ?_) (AllReadyH.nil)
        go_simp
        refine (SP V62 V62.heap.size _ _ _ O1.sees O3.sees (Nat.le_refl _)).mono ?_
        rintro e V63 ⟨mv, kv, av, cv, dv, lv, rfl, R1, R3, c63⟩
        have hw := b62c.size
        rw [hh0'] at hw
        have b63c := b62c.trans (c63.mono hw)
        have hz0 := hw
        clear O1 O3
        have Y1q9 := Y1q9.on c63 Y1q9.lt
        have Y51q8 := Y51q8.on c63 Y51q8.lt
        clear hw c63
        go_simp
        refine hK.out _ _ (LD.low (b63c.mono hL)).cells (fun _ => ?_)
        clear hK K
        try simp only [Act.put, List.setIfInBounds_toArray, List.set_cons_zero, List.set_cons_succ]
        refine takeH (i := 5) (some 27) (.tuple #[.agg #[.int .i64 Z.mc, .slice mv n kv], .agg #[.int .i64 who, .int .i64 rv, .int .i64 Z.ph, .int .i64 Z.at', .int .i64 Z.wv, .slice av np cv, .slice dv nr lv]]) rfl rfl (by kernel_rfl) (by kernel_rfl) (by kernel_rfl) (fun _ _ _ h => by cases h.1) (Or.inl ⟨by rfl, fun w hSw => by (try dsimp only at hSw); go_simp⟩) (by assumption) ?_
        try simp only [Act.put, List.setIfInBounds_toArray, List.set_cons_zero, List.set_cons_succ]
        refine takeH (i := 6) (some 33) (.agg #[.int .i64 Z.mc, .slice mv n kv]) rfl rfl (by kernel_rfl) (by kernel_rfl) (by kernel_rfl) (fun _ _ _ h => by cases h.1) (Or.inl ⟨by rfl, fun w hSw => by (try dsimp only at hSw); go_simp⟩) (by assumption) ?_
        try simp only [Act.put, List.setIfInBounds_toArray, List.set_cons_zero, List.set_cons_succ]
        refine takeH (i := 7) (some 34) (.agg #[.int .i64 who, .int .i64 rv, .int .i64 Z.ph, .int .i64 Z.at', .int .i64 Z.wv, .slice av np cv, .slice dv nr lv]) rfl rfl (by kernel_rfl) (by kernel_rfl) (by kernel_rfl) (fun _ _ _ h => by cases h.1) (Or.inl ⟨by rfl, fun w hSw => by (try dsimp only at hSw); go_simp⟩) (by assumption) ?_
        try simp only [Act.put, List.setIfInBounds_toArray, List.set_cons_zero, List.set_cons_succ]
        have y64 := fun i => Y51q8.cell i; have yf64 := fun i => Y51q8.froz i
        refine wpAnyH_ready (rs := [10]) (by kernel_rfl) (by simp) ?_
        refine AllReadyH.cons rfl (fun K hK => ?_) AllReadyH.nil
        go_simp
        clear y64 yf64
        refine hK.out _ _ (LD.low (((b63c.setCell (p := ⟨N51q8, 0, none⟩) l51q8 (.int .i64 Z.mc)).setCell (p := ⟨N51q8, 1, none⟩) l51q8 (.slice mv n kv)).mono hL)).cells (fun _ => ?_)
        clear hK K
        try simp only [Act.put, List.setIfInBounds_toArray, List.set_cons_zero, List.set_cons_succ]
        have hne64 : N1q9 ≠ N51q8 := blkNe Y1q9 Y51q8 (by decide)
        have Q64 := (Y1q9.other hne64 0 (.int .i64 Z.mc)).other hne64 1 (.slice mv n kv)
        have y64 := fun i => Q64.cell i; have yf64 := fun i => Q64.froz i
        refine wpAnyH_ready (rs := [11]) (by kernel_rfl) (by simp) ?_
        refine AllReadyH.cons rfl (fun K hK => ?_) AllReadyH.nil
        go_simp
        clear y64 yf64
        have bN64 := nine_below b63c l51q8 l1q9 (.int .i64 Z.mc) (.slice mv n kv) (.int .i64 who) (.int .i64 rv) (.int .i64 Z.ph) (.int .i64 Z.at') (.int .i64 Z.wv) (.slice av np cv) (.slice dv nr lv)
        have RN64 := RP.stored (who := who) (rv := rv) (Z := Z) Y51q8 Y1q9 (R1.mono hz0) (R3.mono hz0) l51q8 l1q9
        refine hK.out _ _ (LD.low (bN64.mono hL)).cells (fun _ => ?_)
        clear hK K
        refine wpAnyH_done (by kernel_rfl) ?_ _
        exact ⟨rfl, _, _, _, mv, kv, av, cv, dv, lv, _, _, _, _, _, _, _, _, _, _, _, _, _, _, _, _, _, _, _, _, _, _, rfl, bN64, RN64⟩
  rintro e a' W3 ⟨rfl, N1, N2, hi, mv, kv, av, cv, dv, lv, x0, x1, x4, x5, x17, x18, x19, x20, x21, x22, x23, x24, x25, x26, x27, x28, x29, x30, x31, x32, x33, x34, rfl, bW, RW⟩
  have hLx0 : w.heap.size + 2 ≤ h0 := by rw [← hh0']; exact L2.big
  have hLx1 := bW.size
  rw [hh0'] at hLx1
  have RWh := RW.hh
  have L3 := L2.low (bW.mono (by rw [← hh0']; exact L2.big))
  clear L2 bW hh0' SP
  have k0 := L3.x.cell 0; have k1 := L3.x.cell 1
  go_wp2_with fail
  clear k0 k1
  refine (C1 W3 L3).mono ?_
  rintro e w4 ⟨a4, k4, rfl, O4, b4⟩
  have L4 := L3.on b4; replace RW := RW.on b4
  have hlx := b4.size
  obtain ⟨lx, hlx'⟩ : ∃ l, W3.heap.size = l := ⟨_, rfl⟩
  have hWx : hi ≤ lx := by rw [← hlx']; exact RWh
  have hLx : w.heap.size + 2 ≤ lx := by omega
  rw [hlx'] at O4 hlx
  clear hLx0 hLx1
  clear b4 L3 hlx' RWh
  have b5 := alloc_below w4 (.cells #[.int .i64 mc, .slice a4 n k4] 33)
  have X5 := Blk.new w4 #[.int .i64 mc, .slice a4 n k4] 33
  have L5 := L4.on b5; replace RW := RW.on b5
  have hz5 : (w4.alloc (.cells #[.int .i64 mc, .slice a4 n k4] 33)).heap.size = w4.heap.size + 1 := by simp
  have cC := C3 _ L5
  rw [hz5] at cC
  obtain ⟨W5, hW5⟩ : ∃ W, w4.alloc (.cells #[.int .i64 mc, .slice a4 n k4] 33) = W := ⟨_, rfl⟩
  have HW5 := (show Hid _ from hW5)
  rw [hW5] at X5 L5 RW cC
  have i0 := X5.cell 0; have i1 := X5.cell 1
  have if0 := fun i => X5.froz i
  have j0 := L5.y.cell 0; have j1 := L5.y.cell 1; have j2 := L5.y.cell 2; have j3 := L5.y.cell 3; have j4 := L5.y.cell 4; have j5 := L5.y.cell 5; have j6 := L5.y.cell 6
  clear L4 b5 hz5
  go_wp2_with fail
  clear i0 i1 if0 j0 j1 j2 j3 j4 j5 j6 hW5 X5
  refine cC.mono ?_
  rintro e w6 ⟨a6, k6, d6, l6, rfl, O6, b6⟩
  clear cC
  rw [← HW5.out] at b6
  have RX := RP.two (who := who) (rv := rv) (ph := ph) (at' := at') (wv := wv) O4 hlx O6 b6
  rw [HW5.out] at b6
  have hz5 : W5.heap.size = w4.heap.size + 1 := by rw [← HW5.out]; simp
  rw [← hz5] at b6
  have b7 := alloc_below w6 (.cells #[.int .i64 who, .int .i64 rv, .int .i64 ph, .int .i64 at', .int .i64 wv, .slice a6 np k6, .slice d6 nr l6] 36)
  have L7 := (L5.on b6).on b7; replace RW := (RW.on b6).on b7
  clear L5 b6 b7 O4 O6 HW5 hlx hz5
  obtain ⟨W7, hW7⟩ : ∃ W, w6.alloc (.cells #[.int .i64 who, .int .i64 rv, .int .i64 ph, .int .i64 at', .int .i64 wv, .slice a6 np k6, .slice d6 nr l6] 36) = W := ⟨_, rfl⟩
  obtain ⟨hx, hhx⟩ : ∃ h, w6.heap.size + 1 = h := ⟨_, rfl⟩
  obtain ⟨pX, hpX⟩ : ∃ p, w4.heap.size = p := ⟨_, rfl⟩
  obtain ⟨pY, hpY⟩ : ∃ p, w6.heap.size = p := ⟨_, rfl⟩
  rw [hW7, hhx] at RX
  rw [hpX, hpY] at RX
  rw [hW7] at L7 RW
  have x0 := fun i => RX.x.cell i; have y0 := fun i => RX.y.cell i
  have xf := fun i => RX.x.froz i; have yf := fun i => RX.y.froz i
  clear hhx
  go_wp2_with fail
  clear x0 y0 xf yf
  refine (IM W7 W7.heap.size _ _ _ RX.m.sees RX.c.sees L7.e (Nat.le_refl _)).mono ?_
  rintro e w8 ⟨mg, kg, ag, cg, dg, lg, rfl, OG, OC, b8⟩
  have RX7 : hx ≤ W7.heap.size := RX.hh
  have L8 := L7.on b8; replace RW := RW.on b8; replace RX := RX.on b8
  have RG := RP.pair (who := who) (rv := rv) (Z := Z) OG OC b8.size
  have a9 := alloc_below w8 (.cells #[.int .i64 Z.mc, .slice mg n kg] 33)
  have a10 := alloc_below (w8.alloc (.cells #[.int .i64 Z.mc, .slice mg n kg] 33)) (.cells #[.int .i64 who, .int .i64 rv, .int .i64 Z.ph, .int .i64 Z.at', .int .i64 Z.wv, .slice ag np cg, .slice dg nr lg] 36)
  have hXg := RX7
  have hxg : lx ≤ W7.heap.size := by have := RX.l1; have := RX.u1; omega
  have L := (L8.on a9).on a10; replace RW := (RW.on a9).on a10; replace RX := (RX.on a9).on a10
  clear L8 L7 a9 a10 OG OC b8 RX7
  obtain ⟨W9, hW9⟩ : ∃ W, (w8.alloc (.cells #[.int .i64 Z.mc, .slice mg n kg] 33)).alloc (.cells #[.int .i64 who, .int .i64 rv, .int .i64 Z.ph, .int .i64 Z.at', .int .i64 Z.wv, .slice ag np cg, .slice dg nr lg] 36) = W := ⟨_, rfl⟩
  obtain ⟨hg, hhg⟩ : ∃ h, w8.heap.size + 2 = h := ⟨_, rfl⟩
  obtain ⟨pG, hpG⟩ : ∃ p, w8.heap.size = p := ⟨_, rfl⟩
  obtain ⟨lgg, hlgg⟩ : ∃ p, W7.heap.size = p := ⟨_, rfl⟩
  rw [hW9, hhg] at RG
  rw [hpG, hlgg] at RG
  rw [hlgg] at hXg hxg
  rw [hW9] at L RW RX
  obtain ⟨K1, hK1⟩ : ∃ k, 1 + 3 * (n : Int) = k := ⟨_, rfl⟩
  obtain ⟨K2, hK2⟩ : ∃ k, K1 + 2 * (np : Int) + (nr : Int) = k := ⟨_, rfl⟩
  have hk1 : 0 ≤ K1 := by omega
  have hk1' : K1 ≤ 500000000 := by omega
  have hk1n : ¬ K1 < 0 := by omega
  have hk2n : ¬ K2 < 0 := by omega
  have HK1 := (show Hid _ from hK1); have HK2 := (show Hid _ from hK2)
  clear hK1 hK2 hlgg hhg
  have g0 := fun i => RG.x.cell i; have g1 := fun i => RG.y.cell i; have gf0 := fun i => RG.x.froz i; have gf1 := fun i => RG.y.froz i
  have s0 := fun i => RW.x.cell i; have s1 := fun i => RW.y.cell i
  go_wp2_with fail
  clear hW9 hpG g0 g1 gf0 gf1 s0 s1
  refine (Words.eqMemC Z.mc _ _ Z.ws _ W9 RG.m.sees RW.m.sees (Nat.le_refl _)).mono ?_
  rintro e w10 ⟨rfl, b⟩
  replace L := L.on b
  replace RG := RG.on b
  replace RW := RW.on b
  replace RX := RX.on b
  clear b
  have g0 := fun i => RG.x.cell i; have g1 := fun i => RG.y.cell i; have gf0 := fun i => RG.x.froz i; have gf1 := fun i => RG.y.froz i
  have s0 := fun i => RW.x.cell i; have s1 := fun i => RW.y.cell i
  go_wp2_with fail
  clear g0 g1 gf0 gf1 s0 s1
  refine (eqE who rv Z.ph Z.at' Z.wv ps rs _ _ _ _ _ w10 RG.c.sees RW.c.sees (Nat.le_refl _)).mono ?_
  rintro e w11 ⟨rfl, b⟩
  replace L := L.on b
  replace RG := RG.on b
  replace RW := RW.on b
  replace RX := RX.on b
  clear b
  have hcells : (w11.cell? ⟨pX, 0, none⟩ = some (.int .i64 mc) ∧ w11.cell? ⟨pX, 1, none⟩ = some (.slice a4 n k4)) ∧ (w11.cell? ⟨w.heap.size, 0, none⟩ = some (.int .i64 mc) ∧ w11.cell? ⟨w.heap.size, 1, none⟩ = some (.slice am n km)) := ⟨⟨RX.x.cell 0, RX.x.cell 1⟩, L.x.cell 0, L.x.cell 1⟩
  go_wp2_with fail
  replace L := L.drew
  replace RG := RG.drew
  replace RW := RW.drew
  replace RX := RX.drew
  obtain ⟨WD, hWD⟩ : ∃ WD, w11.drew = WD := ⟨_, rfl⟩
  refine wp_region_held_drew (S := fun W => (W.cell? ⟨pX, 0, none⟩ = some (.int .i64 mc) ∧ W.cell? ⟨pX, 1, none⟩ = some (.slice a4 n k4)) ∧ (W.cell? ⟨w.heap.size, 0, none⟩ = some (.int .i64 mc) ∧ W.cell? ⟨w.heap.size, 1, none⟩ = some (.slice am n km))) (by kernel_rfl) hcells (fun hHeld => ?_)
  rw [hWD] at L RG RW RX hHeld ⊢
  clear hWD hcells
  refine takeH (i := 0) (some 55) (.agg #[.int .i64 mc, .slice a4 n k4]) rfl rfl (by kernel_rfl) (by kernel_rfl) (by kernel_rfl) (fun _ _ _ h => h) (Or.inl ⟨by rfl, fun w hSw => by (try dsimp only at hSw); go_simp⟩) (by assumption) ?_
  simp only [Act.put, List.setIfInBounds_toArray, List.set_cons_zero, List.set_cons_succ]
  refine takeH (i := 1) (some 56) (.agg #[.int .i64 mc, .slice am n km]) rfl rfl (by kernel_rfl) (by kernel_rfl) (by kernel_rfl) (fun _ _ _ h => h) (Or.inl ⟨by rfl, fun w hSw => by (try dsimp only at hSw); go_simp⟩) (by assumption) ?_
  simp only [Act.put, List.setIfInBounds_toArray, List.set_cons_zero, List.set_cons_succ]
  refine wpAnyH_ready (rs := [2]) (by kernel_rfl) (by simp) ?_
  refine AllReadyH.cons rfl (fun K hK => ?_) AllReadyH.nil
  go_simp
  refine (C1 WD L).mono ?_
  rintro e V0 ⟨a12, k12, rfl, QQ, b⟩
  replace L := L.on b
  replace RG := RG.on b
  replace RW := RW.on b
  replace RX := RX.on b
  clear b
  go_simp
  refine hK.out _ _ ⟨⟨RX.x.cell 0, RX.x.cell 1⟩, L.x.cell 0, L.x.cell 1⟩ (fun _ => ?_)
  clear hK K
  try simp only [Act.put, List.setIfInBounds_toArray, List.set_cons_zero, List.set_cons_succ]
  refine wpAnyH_ready (rs := [3]) (by kernel_rfl) (by simp) ?_
  refine AllReadyH.cons rfl (fun K hK => ?_) AllReadyH.nil
  go_simp
  refine (Words.eqMemC mc _ _ ws _ V0 RX.m.sees QQ.sees (Nat.le_refl _)).mono ?_
  rintro e V1 ⟨rfl, b⟩
  replace L := L.on b
  replace RG := RG.on b
  replace RW := RW.on b
  replace RX := RX.on b
  clear b
  go_simp
  refine hK.out _ _ ⟨⟨RX.x.cell 0, RX.x.cell 1⟩, L.x.cell 0, L.x.cell 1⟩ (fun _ => ?_)
  clear hK K
  try simp only [Act.put, List.setIfInBounds_toArray, List.set_cons_zero, List.set_cons_succ]
  refine takeH (i := 4) (some 59) (.bool false) rfl rfl (by kernel_rfl) (by kernel_rfl) (by kernel_rfl) (fun _ _ _ h => h) (Or.inl ⟨by rfl, fun w hSw => by (try dsimp only at hSw); go_simp⟩) (by assumption) ?_
  try simp only [Act.put, List.setIfInBounds_toArray, List.set_cons_zero, List.set_cons_succ]
  refine wpAnyH_done (by kernel_rfl) ?_ _
  clear hHeld QQ
  have hcells : (V1.cell? ⟨pY, 0, none⟩ = some (.int .i64 who) ∧ V1.cell? ⟨pY, 1, none⟩ = some (.int .i64 rv) ∧ V1.cell? ⟨pY, 2, none⟩ = some (.int .i64 ph) ∧ V1.cell? ⟨pY, 3, none⟩ = some (.int .i64 at') ∧ V1.cell? ⟨pY, 4, none⟩ = some (.int .i64 wv) ∧ V1.cell? ⟨pY, 5, none⟩ = some (.slice a6 np k6) ∧ V1.cell? ⟨pY, 6, none⟩ = some (.slice d6 nr l6)) ∧ (V1.cell? ⟨w.heap.size + 1, 0, none⟩ = some (.int .i64 who) ∧ V1.cell? ⟨w.heap.size + 1, 1, none⟩ = some (.int .i64 rv) ∧ V1.cell? ⟨w.heap.size + 1, 2, none⟩ = some (.int .i64 ph) ∧ V1.cell? ⟨w.heap.size + 1, 3, none⟩ = some (.int .i64 at') ∧ V1.cell? ⟨w.heap.size + 1, 4, none⟩ = some (.int .i64 wv) ∧ V1.cell? ⟨w.heap.size + 1, 5, none⟩ = some (.slice ap np kp) ∧ V1.cell? ⟨w.heap.size + 1, 6, none⟩ = some (.slice ar nr kr)) := ⟨⟨RX.y.cell 0, RX.y.cell 1, RX.y.cell 2, RX.y.cell 3, RX.y.cell 4, RX.y.cell 5, RX.y.cell 6⟩, L.y.cell 0, L.y.cell 1, L.y.cell 2, L.y.cell 3, L.y.cell 4, L.y.cell 5, L.y.cell 6⟩
  go_wp2_with fail
  replace L := L.drew
  replace RG := RG.drew
  replace RW := RW.drew
  replace RX := RX.drew
  obtain ⟨WD, hWD⟩ : ∃ WD, V1.drew = WD := ⟨_, rfl⟩
  refine wp_region_held_drew (S := fun W => (W.cell? ⟨pY, 0, none⟩ = some (.int .i64 who) ∧ W.cell? ⟨pY, 1, none⟩ = some (.int .i64 rv) ∧ W.cell? ⟨pY, 2, none⟩ = some (.int .i64 ph) ∧ W.cell? ⟨pY, 3, none⟩ = some (.int .i64 at') ∧ W.cell? ⟨pY, 4, none⟩ = some (.int .i64 wv) ∧ W.cell? ⟨pY, 5, none⟩ = some (.slice a6 np k6) ∧ W.cell? ⟨pY, 6, none⟩ = some (.slice d6 nr l6)) ∧ (W.cell? ⟨w.heap.size + 1, 0, none⟩ = some (.int .i64 who) ∧ W.cell? ⟨w.heap.size + 1, 1, none⟩ = some (.int .i64 rv) ∧ W.cell? ⟨w.heap.size + 1, 2, none⟩ = some (.int .i64 ph) ∧ W.cell? ⟨w.heap.size + 1, 3, none⟩ = some (.int .i64 at') ∧ W.cell? ⟨w.heap.size + 1, 4, none⟩ = some (.int .i64 wv) ∧ W.cell? ⟨w.heap.size + 1, 5, none⟩ = some (.slice ap np kp) ∧ W.cell? ⟨w.heap.size + 1, 6, none⟩ = some (.slice ar nr kr))) (by kernel_rfl) hcells (fun hHeld => ?_)
  rw [hWD] at L RG RW RX hHeld ⊢
  clear hWD hcells
  refine takeH (i := 0) (some 60) (.agg #[.int .i64 who, .int .i64 rv, .int .i64 ph, .int .i64 at', .int .i64 wv, .slice a6 np k6, .slice d6 nr l6]) rfl rfl (by kernel_rfl) (by kernel_rfl) (by kernel_rfl) (fun _ _ _ h => h) (Or.inl ⟨by rfl, fun w hSw => by (try dsimp only at hSw); go_simp⟩) (by assumption) ?_
  simp only [Act.put, List.setIfInBounds_toArray, List.set_cons_zero, List.set_cons_succ]
  refine takeH (i := 1) (some 61) (.agg #[.int .i64 who, .int .i64 rv, .int .i64 ph, .int .i64 at', .int .i64 wv, .slice ap np kp, .slice ar nr kr]) rfl rfl (by kernel_rfl) (by kernel_rfl) (by kernel_rfl) (fun _ _ _ h => h) (Or.inl ⟨by rfl, fun w hSw => by (try dsimp only at hSw); go_simp⟩) (by assumption) ?_
  simp only [Act.put, List.setIfInBounds_toArray, List.set_cons_zero, List.set_cons_succ]
  refine wpAnyH_ready (rs := [2]) (by kernel_rfl) (by simp) ?_
  refine AllReadyH.cons rfl (fun K hK => ?_) AllReadyH.nil
  go_simp
  refine (C3 WD L).mono ?_
  rintro e V2 ⟨a13, k13, d13, l13, rfl, QQ, b⟩
  replace L := L.on b
  replace RG := RG.on b
  replace RW := RW.on b
  replace RX := RX.on b
  clear b
  go_simp
  refine hK.out _ _ ⟨⟨RX.y.cell 0, RX.y.cell 1, RX.y.cell 2, RX.y.cell 3, RX.y.cell 4, RX.y.cell 5, RX.y.cell 6⟩, L.y.cell 0, L.y.cell 1, L.y.cell 2, L.y.cell 3, L.y.cell 4, L.y.cell 5, L.y.cell 6⟩ (fun _ => ?_)
  clear hK K
  try simp only [Act.put, List.setIfInBounds_toArray, List.set_cons_zero, List.set_cons_succ]
  refine wpAnyH_ready (rs := [3]) (by kernel_rfl) (by simp) ?_
  refine AllReadyH.cons rfl (fun K hK => ?_) AllReadyH.nil
  go_simp
  refine (eqE who rv ph at' wv ps rs _ _ _ _ _ V2 RX.c.sees QQ.sees (Nat.le_refl _)).mono ?_
  rintro e V3 ⟨rfl, b⟩
  replace L := L.on b
  replace RG := RG.on b
  replace RW := RW.on b
  replace RX := RX.on b
  clear b
  go_simp
  refine hK.out _ _ ⟨⟨RX.y.cell 0, RX.y.cell 1, RX.y.cell 2, RX.y.cell 3, RX.y.cell 4, RX.y.cell 5, RX.y.cell 6⟩, L.y.cell 0, L.y.cell 1, L.y.cell 2, L.y.cell 3, L.y.cell 4, L.y.cell 5, L.y.cell 6⟩ (fun _ => ?_)
  clear hK K
  try simp only [Act.put, List.setIfInBounds_toArray, List.set_cons_zero, List.set_cons_succ]
  refine takeH (i := 4) (some 64) (.bool false) rfl rfl (by kernel_rfl) (by kernel_rfl) (by kernel_rfl) (fun _ _ _ h => h) (Or.inl ⟨by rfl, fun w hSw => by (try dsimp only at hSw); go_simp⟩) (by assumption) ?_
  try simp only [Act.put, List.setIfInBounds_toArray, List.set_cons_zero, List.set_cons_succ]
  refine wpAnyH_done (by kernel_rfl) ?_ _
  clear hHeld QQ
  have x0 := fun i => RX.x.cell i
  go_wp2_with fail
  clear x0
  refine (Words.markMemC mc _ ws _ _ RX.m F0.out).mono ?_
  rintro e w14 ⟨rfl, M, gM⟩
  have hc := Chg.grown (S := fun k => (Value.slice a4 n k4).ownBlock = some k) gM (fun k hk => hk)
  replace L := L.chg hc (fun k hk => by have := (RX.inM k hk).1; omega)
  replace RW := RW.chg hc (fun k hk => .inl (by have := (RX.inM k hk).1; omega))
  replace RG := RG.chg hc (fun k hk => .inr (by have := (RX.inM k hk).2; omega))
  replace RX := RX.markM gM M
  clear hc gM M
  rw [HN.out, HK1.out]
  have y0 := fun i => RX.y.cell i
  go_wp2_with fail
  clear y0
  refine (markE who rv ph at' wv ps rs _ _ K1 hk1 hk1' _ w14 RX.c (by rw [HP.out]; exact f1) (by rw [HR.out]; exact f2)).mono ?_
  rintro e w15 ⟨rfl, -, hc⟩
  replace L := L.chg hc (fun k hk => by have := (RX.inC k hk).1; omega)
  replace RW := RW.chg hc (fun k hk => .inl (by have := (RX.inC k hk).1; omega))
  replace RG := RG.chg hc (fun k hk => .inr (by have := (RX.inC k hk).2; omega))
  clear hc RX
  rw [HP.out, HR.out, HK2.out]
  have g0 := fun i => RG.x.cell i; have g1 := fun i => RG.y.cell i; have gf0 := fun i => RG.x.froz i; have gf1 := fun i => RG.y.froz i
  have s0 := fun i => RW.x.cell i; have s1 := fun i => RW.y.cell i
  go_wp2_with fail
  clear g0 g1 gf0 gf1 s0 s1
  refine (Words.eqMemC Z.mc _ _ Z.ws _ w15 RG.m.sees RW.m.sees (Nat.le_refl _)).mono ?_
  rintro e w16 ⟨rfl, b⟩
  replace L := L.on b
  replace RG := RG.on b
  replace RW := RW.on b
  clear b
  have g0 := fun i => RG.x.cell i; have g1 := fun i => RG.y.cell i; have gf0 := fun i => RG.x.froz i; have gf1 := fun i => RG.y.froz i
  have s0 := fun i => RW.x.cell i; have s1 := fun i => RW.y.cell i
  go_wp2_with fail
  clear g0 g1 gf0 gf1 s0 s1
  refine (eqE who rv Z.ph Z.at' Z.wv ps rs _ _ _ _ _ w16 RG.c.sees RW.c.sees (Nat.le_refl _)).mono ?_
  rintro e w17 ⟨rfl, b⟩
  replace L := L.on b
  replace RG := RG.on b
  replace RW := RW.on b
  clear b
  have g0 := fun i => RG.x.cell i
  go_wp2_with fail
  clear g0
  refine (Words.markMemC Z.mc _ Z.ws _ w17 RG.m (by rw [HZ.out]; exact f0)).mono ?_
  rintro e w18 ⟨rfl, M, gM⟩
  rw [HZ.out] at M
  have hc := Chg.grown (S := fun k => (Value.slice mg n kg).ownBlock = some k) gM (fun k hk => hk)
  replace L := L.chg hc (fun k hk => by have := (RG.inM k hk).1; omega)
  replace RW := RW.chg hc (fun k hk => .inl (by have := (RG.inM k hk).1; omega))
  replace RG := RG.markM gM M
  clear hc gM M
  rw [HZ.out, HK1.out]
  have g0 := fun i => RG.y.cell i
  go_wp2_with fail
  clear g0
  refine (markE who rv Z.ph Z.at' Z.wv ps rs _ _ K1 hk1 hk1' _ w18 RG.c (by rw [HP.out]; exact f1) (by rw [HR.out]; exact f2)).mono ?_
  rintro e w19 ⟨rfl, M, hc⟩
  rw [HP.out, HR.out] at M
  replace L := L.chg hc (fun k hk => by have := (RG.inC k hk).1; omega)
  replace RW := RW.chg hc (fun k hk => .inl (by have := (RG.inC k hk).1; omega))
  replace RG := RG.markC hc M
  clear hc M
  rw [HP.out, HR.out, HK2.out]
  have g0 := fun i => RG.x.cell i
  go_wp2_with fail
  clear g0
  refine (Words.heldMemC Z.mc _ n _ w19 RG.m f0).mono ?_
  rintro e w20 ⟨rfl, b⟩
  replace L := L.on b
  replace RG := RG.on b
  replace RW := RW.on b
  clear b
  rw [HK1.out]
  have g0 := fun i => RG.y.cell i
  go_wp2_with fail
  clear g0
  refine (heldCommitC who rv Z.ph Z.at' Z.wv _ _ np nr K1 hk1 hk1' _ w20 RG.c.sees (Nat.le_refl _) f1 f2).mono ?_
  rintro e w21 ⟨rfl, b⟩
  replace L := L.on b
  replace RG := RG.on b
  replace RW := RW.on b
  clear b
  rw [HK2.out]
  go_wp2_with fail
  obtain ⟨h0', hh1'⟩ : ∃ h, w21.heap.size = h := ⟨_, rfl⟩
  refine Code.wp_mono (Q := fun e a' W' => e = .normal ∧ ∃ N3 N4 hi2 mh kh ah ch dh lh, a' = ⟨#[dd a' 0, dd a' 1, dd a' 2, dd a' 3, dd a' 4, dd a' 5, .pointer (some ⟨N1, 0, none⟩), .pointer (some ⟨N2, 0, none⟩), dd a' 8, dd a' 9, .pointer (some ⟨pG, 0, none⟩), .pointer (some ⟨pG + 1, 0, none⟩), dd a' 12, .int .i64 K2, dd a' 14, .pointer (some ⟨N3, 0, none⟩), .pointer (some ⟨N4, 0, none⟩), dd a' 17, dd a' 18, dd a' 19, dd a' 20, dd a' 21, dd a' 22, dd a' 23, dd a' 24, dd a' 25, dd a' 26, dd a' 27, dd a' 28, dd a' 29, dd a' 30, dd a' 31, dd a' 32, dd a' 33, dd a' 34, dd a' 35, dd a' 36, dd a' 37, dd a' 38, dd a' 39, dd a' 40, dd a' 41, dd a' 42, dd a' 43, dd a' 44, dd a' 45, dd a' 46, dd a' 47, dd a' 48, dd a' 49, dd a' 50, dd a' 51, dd a' 52, dd a' 53, dd a' 54, dd a' 55, dd a' 56, dd a' 57, dd a' 58, dd a' 59, dd a' 60, dd a' 61, dd a' 62, dd a' 63, dd a' 64, dd a' 65, dd a' 66, dd a' 67, dd a' 68, dd a' 69, dd a' 70, dd a' 71, dd a' 72, dd a' 73, dd a' 74, dd a' 75, dd a' 76, dd a' 77, dd a' 78, dd a' 79, dd a' 80, dd a' 81, dd a' 82, dd a' 83, dd a' 84, dd a' 85, dd a' 86, dd a' 87, dd a' 88, dd a' 89, dd a' 90, dd a' 91, dd a' 92, dd a' 93, dd a' 94, dd a' 95, dd a' 96, dd a' 97, dd a' 98, dd a' 99, dd a' 100, dd a' 101, dd a' 102, dd a' 103, dd a' 104, dd a' 105, dd a' 106, dd a' 107, dd a' 108, dd a' 109, dd a' 110, dd a' 111, undef, undef, undef, undef, undef, undef, undef, undef, undef, undef, undef, undef, undef, undef, undef, undef, undef, undef, undef, undef, undef, undef, undef], []⟩ ∧ Below h0' w21 W' ∧ RP h0' hi2 W' N3 N4 who rv ps rs Z (.slice mh n kh) (.slice ah np ch) (.slice dh nr lh)) ?_ ?_
  rotate_left
  · have LD := L
    have bD : Below h0' w21 w21.drew := by rw [← hh1']; exact ⟨rfl, rfl, rfl, Nat.le_refl _, fun _ _ => rfl⟩
    have hL : w.heap.size + 2 ≤ h0' := by rw [← hh1']; exact L.big
    refine wp_region_held_drew (S := fun W => (W.cell? ⟨w.heap.size, 0, none⟩ = some (.int .i64 mc) ∧ W.cell? ⟨w.heap.size, 1, none⟩ = some (.slice am n km)) ∧ W.cell? ⟨w.heap.size + 1, 0, none⟩ = some (.int .i64 who) ∧ W.cell? ⟨w.heap.size + 1, 1, none⟩ = some (.int .i64 rv) ∧ W.cell? ⟨w.heap.size + 1, 2, none⟩ = some (.int .i64 ph) ∧ W.cell? ⟨w.heap.size + 1, 3, none⟩ = some (.int .i64 at') ∧ W.cell? ⟨w.heap.size + 1, 4, none⟩ = some (.int .i64 wv) ∧ W.cell? ⟨w.heap.size + 1, 5, none⟩ = some (.slice ap np kp) ∧ W.cell? ⟨w.heap.size + 1, 6, none⟩ = some (.slice ar nr kr)) (by kernel_rfl) L.drew.cells (fun hHeld => ?_)
    obtain ⟨WD, hWD⟩ : ∃ WD, w21.drew = WD := ⟨_, rfl⟩
    rw [hWD] at bD hHeld ⊢
    clear hWD
    refine takeH (i := 0) (some 105) (.agg #[.int .i64 mc, .slice am n km]) rfl rfl (by kernel_rfl) (by kernel_rfl) (by kernel_rfl) (fun _ _ _ h => by cases h.1) (Or.inl ⟨by rfl, fun w hSw => by (try dsimp only at hSw); go_simp⟩) (by assumption) ?_
    simp only [Act.put, List.setIfInBounds_toArray, List.set_cons_zero, List.set_cons_succ]
    refine takeH (i := 2) (some 107) (.agg #[.int .i64 who, .int .i64 rv, .int .i64 ph, .int .i64 at', .int .i64 wv, .slice ap np kp, .slice ar nr kr]) rfl rfl (by kernel_rfl) (by kernel_rfl) (by kernel_rfl) (fun _ _ _ h => by cases h.1) (Or.inl ⟨by rfl, fun w hSw => by (try dsimp only at hSw); go_simp⟩) (by assumption) ?_
    simp only [Act.put, List.setIfInBounds_toArray, List.set_cons_zero, List.set_cons_succ]
    refine wpAnyH_ready (rs := [1, 8, 9]) (by kernel_rfl) (by simp) ?_
    refine AllReadyH.cons rfl (fun K hK => ?_) (AllReadyH.cons rfl (fun K hK => ?_) (AllReadyH.cons rfl (fun K hK => ?_) (AllReadyH.nil)))
    · go_simp
      refine (C1 WD (LD.low (bD.mono hL))).mono ?_
      rintro e V1 ⟨a1, k1, rfl, O1, c1⟩
      have hw := bD.size
      rw [hh1'] at hw
      have b1c := bD.trans (c1.mono hw)
      clear hw c1
      go_simp
      refine hK.out _ _ (LD.low (b1c.mono hL)).cells (fun _ => ?_)
      clear hK K
      try simp only [Act.put, List.setIfInBounds_toArray, List.set_cons_zero, List.set_cons_succ]
      refine wpAnyH_ready (rs := [3, 8, 9]) (by kernel_rfl) (by simp) ?_
      refine AllReadyH.cons rfl (fun K hK => ?_) (AllReadyH.cons rfl (fun K hK => ?_) (AllReadyH.cons rfl (fun K hK => ?_) (AllReadyH.nil)))
      · go_simp
        refine (C3 V1 (LD.low (b1c.mono hL))).mono ?_
        rintro e V2 ⟨a3, k3, d3, l3, rfl, O3, c2⟩
        have hw := b1c.size
        rw [hh1'] at hw
        have b2c := b1c.trans (c2.mono hw)
        have O1 := O1.on c2 (Nat.le_refl _)
        clear hw c2
        go_simp
        refine hK.out _ _ (LD.low (b2c.mono hL)).cells (fun _ => ?_)
        clear hK K
        try simp only [Act.put, List.setIfInBounds_toArray, List.set_cons_zero, List.set_cons_succ]
        refine wpAnyH_ready (rs := [4, 8, 9]) (by kernel_rfl) (by simp) ?_
        refine AllReadyH.cons rfl (fun K hK => ?_) (AllReadyH.cons rfl (fun K hK => ?_) (AllReadyH.cons rfl (fun K hK => ?_) (AllReadyH.nil)))
        · go_simp
          refine (IM V2 V2.heap.size _ _ _ O1.sees O3.sees (LD.low (b2c.mono hL)).e (Nat.le_refl _)).mono ?_
          rintro e V3 ⟨mv, kv, av, cv, dv, lv, rfl, R1, R3, c3⟩
          have hw := b2c.size
          rw [hh1'] at hw
          have b3c := b2c.trans (c3.mono hw)
          have hz0 := hw
          clear O1 O3
          clear hw c3
          go_simp
          refine hK.out _ _ (LD.low (b3c.mono hL)).cells (fun _ => ?_)
          clear hK K
          try simp only [Act.put, List.setIfInBounds_toArray, List.set_cons_zero, List.set_cons_succ]
          refine takeH (i := 5) (some 104) (.tuple #[.agg #[.int .i64 Z.mc, .slice mv n kv], .agg #[.int .i64 who, .int .i64 rv, .int .i64 Z.ph, .int .i64 Z.at', .int .i64 Z.wv, .slice av np cv, .slice dv nr lv]]) rfl rfl (by kernel_rfl) (by kernel_rfl) (by kernel_rfl) (fun _ _ _ h => by cases h.1) (Or.inl ⟨by rfl, fun w hSw => by (try dsimp only at hSw); go_simp⟩) (by assumption) ?_
          try simp only [Act.put, List.setIfInBounds_toArray, List.set_cons_zero, List.set_cons_succ]
          refine takeH (i := 6) (some 110) (.agg #[.int .i64 Z.mc, .slice mv n kv]) rfl rfl (by kernel_rfl) (by kernel_rfl) (by kernel_rfl) (fun _ _ _ h => by cases h.1) (Or.inl ⟨by rfl, fun w hSw => by (try dsimp only at hSw); go_simp⟩) (by assumption) ?_
          try simp only [Act.put, List.setIfInBounds_toArray, List.set_cons_zero, List.set_cons_succ]
          refine takeH (i := 7) (some 111) (.agg #[.int .i64 who, .int .i64 rv, .int .i64 Z.ph, .int .i64 Z.at', .int .i64 Z.wv, .slice av np cv, .slice dv nr lv]) rfl rfl (by kernel_rfl) (by kernel_rfl) (by kernel_rfl) (fun _ _ _ h => by cases h.1) (Or.inl ⟨by rfl, fun w hSw => by (try dsimp only at hSw); go_simp⟩) (by assumption) ?_
          try simp only [Act.put, List.setIfInBounds_toArray, List.set_cons_zero, List.set_cons_succ]
          refine wpAnyH_ready (rs := [8, 9]) (by kernel_rfl) (by simp) ?_
          refine AllReadyH.cons rfl (fun K hK => ?_) (AllReadyH.cons rfl (fun K hK => ?_) (AllReadyH.nil))
          · go_simp
            have A := alloc_below V3 (.cells #[.int .i64 0, .slice none 0 0] 33)
            have Y4q8 := Blk.new V3 #[.int .i64 0, .slice none 0 0] 33
            have hw := b3c.size
            rw [hh1'] at hw
            have l4q8 : h0' ≤ V3.heap.size := hw
            clear hw
            have b4q8 := b3c.trans (A.mono l4q8)
            have R1 := R1.on A (Nat.le_refl _)
            have R3 := R3.on A (Nat.le_refl _)
            refine hK.out _ _ (LD.low (b4q8.mono hL)).cells (fun _ => ?_)
            clear hK K A
            try simp only [Act.put, List.setIfInBounds_toArray, List.set_cons_zero, List.set_cons_succ]
            obtain ⟨W4q8, hW⟩ : ∃ W, V3.alloc (.cells #[.int .i64 0, .slice none 0 0] 33) = W := ⟨_, rfl⟩
            have uY4q8 : V3.heap.size + 1 = W4q8.heap.size := by rw [← hW]; simp
            obtain ⟨N4q8, hN⟩ : ∃ N, V3.heap.size = N := ⟨_, rfl⟩
            rw [hW] at Y4q8 b4q8 R1 R3 ⊢
            rw [hN] at Y4q8 l4q8 uY4q8 ⊢
            clear hW hN
            refine wpAnyH_ready (rs := [9]) (by kernel_rfl) (by simp) ?_
            refine AllReadyH.cons rfl (fun K hK => ?_) (AllReadyH.nil)
            go_simp
            have A := alloc_below W4q8 (.cells #[.int .i64 0, .int .i64 0, .int .i64 0, .int .i64 0, .int .i64 0, .slice none 0 0, .slice none 0 0] 36)
            have Y5q9 := Blk.new W4q8 #[.int .i64 0, .int .i64 0, .int .i64 0, .int .i64 0, .int .i64 0, .slice none 0 0, .slice none 0 0] 36
            have hw := b4q8.size
            rw [hh1'] at hw
            have l5q9 : h0' ≤ W4q8.heap.size := hw
            clear hw
            have b5q9 := b4q8.trans (A.mono l5q9)
            have R1 := R1.on A (Nat.le_refl _)
            have R3 := R3.on A (Nat.le_refl _)
            have Y4q8 := Y4q8.on A Y4q8.lt
            refine hK.out _ _ (LD.low (b5q9.mono hL)).cells (fun _ => ?_)
            clear hK K A
            try simp only [Act.put, List.setIfInBounds_toArray, List.set_cons_zero, List.set_cons_succ]
            obtain ⟨W5q9, hW⟩ : ∃ W, W4q8.alloc (.cells #[.int .i64 0, .int .i64 0, .int .i64 0, .int .i64 0, .int .i64 0, .slice none 0 0, .slice none 0 0] 36) = W := ⟨_, rfl⟩
            have uY5q9 : W4q8.heap.size + 1 = W5q9.heap.size := by rw [← hW]; simp
            obtain ⟨N5q9, hN⟩ : ∃ N, W4q8.heap.size = N := ⟨_, rfl⟩
            rw [hW] at Y5q9 b5q9 R1 R3 Y4q8 ⊢
            rw [hN] at Y5q9 l5q9 uY5q9 ⊢
            clear hW hN
            have y6 := fun i => Y4q8.cell i; have yf6 := fun i => Y4q8.froz i
            refine wpAnyH_ready (rs := [10]) (by kernel_rfl) (by simp) ?_
            refine AllReadyH.cons rfl (fun K hK => ?_) AllReadyH.nil
            go_simp
            clear y6 yf6
            refine hK.out _ _ (LD.low (((b5q9.setCell (p := ⟨N4q8, 0, none⟩) l4q8 (.int .i64 Z.mc)).setCell (p := ⟨N4q8, 1, none⟩) l4q8 (.slice mv n kv)).mono hL)).cells (fun _ => ?_)
            clear hK K
            try simp only [Act.put, List.setIfInBounds_toArray, List.set_cons_zero, List.set_cons_succ]
            have hne6 : N5q9 ≠ N4q8 := blkNe Y5q9 Y4q8 (by decide)
            have Q6 := (Y5q9.other hne6 0 (.int .i64 Z.mc)).other hne6 1 (.slice mv n kv)
            have y6 := fun i => Q6.cell i; have yf6 := fun i => Q6.froz i
            refine wpAnyH_ready (rs := [11]) (by kernel_rfl) (by simp) ?_
            refine AllReadyH.cons rfl (fun K hK => ?_) AllReadyH.nil
            go_simp
            clear y6 yf6
            have bN6 := nine_below b5q9 l4q8 l5q9 (.int .i64 Z.mc) (.slice mv n kv) (.int .i64 who) (.int .i64 rv) (.int .i64 Z.ph) (.int .i64 Z.at') (.int .i64 Z.wv) (.slice av np cv) (.slice dv nr lv)
            have RN6 := RP.stored (who := who) (rv := rv) (Z := Z) Y4q8 Y5q9 (R1.mono hz0) (R3.mono hz0) l4q8 l5q9
            refine hK.out _ _ (LD.low (bN6.mono hL)).cells (fun _ => ?_)
            clear hK K
            refine wpAnyH_done (by kernel_rfl) ?_ _
            exact ⟨rfl, _, _, _, mv, kv, av, cv, dv, lv, rfl, bN6, RN6⟩
          · go_simp
            have A := alloc_below V3 (.cells #[.int .i64 0, .int .i64 0, .int .i64 0, .int .i64 0, .int .i64 0, .slice none 0 0, .slice none 0 0] 36)
            have Y4q9 := Blk.new V3 #[.int .i64 0, .int .i64 0, .int .i64 0, .int .i64 0, .int .i64 0, .slice none 0 0, .slice none 0 0] 36
            have hw := b3c.size
            rw [hh1'] at hw
            have l4q9 : h0' ≤ V3.heap.size := hw
            clear hw
            have b4q9 := b3c.trans (A.mono l4q9)
            have R1 := R1.on A (Nat.le_refl _)
            have R3 := R3.on A (Nat.le_refl _)
            refine hK.out _ _ (LD.low (b4q9.mono hL)).cells (fun _ => ?_)
            clear hK K A
            try simp only [Act.put, List.setIfInBounds_toArray, List.set_cons_zero, List.set_cons_succ]
            obtain ⟨W4q9, hW⟩ : ∃ W, V3.alloc (.cells #[.int .i64 0, .int .i64 0, .int .i64 0, .int .i64 0, .int .i64 0, .slice none 0 0, .slice none 0 0] 36) = W := ⟨_, rfl⟩
            have uY4q9 : V3.heap.size + 1 = W4q9.heap.size := by rw [← hW]; simp
            obtain ⟨N4q9, hN⟩ : ∃ N, V3.heap.size = N := ⟨_, rfl⟩
            rw [hW] at Y4q9 b4q9 R1 R3 ⊢
            rw [hN] at Y4q9 l4q9 uY4q9 ⊢
            clear hW hN
            refine wpAnyH_ready (rs := [8]) (by kernel_rfl) (by simp) ?_
            refine AllReadyH.cons rfl (fun K hK => ?_) (AllReadyH.nil)
            go_simp
            have A := alloc_below W4q9 (.cells #[.int .i64 0, .slice none 0 0] 33)
            have Y7q8 := Blk.new W4q9 #[.int .i64 0, .slice none 0 0] 33
            have hw := b4q9.size
            rw [hh1'] at hw
            have l7q8 : h0' ≤ W4q9.heap.size := hw
            clear hw
            have b7q8 := b4q9.trans (A.mono l7q8)
            have R1 := R1.on A (Nat.le_refl _)
            have R3 := R3.on A (Nat.le_refl _)
            have Y4q9 := Y4q9.on A Y4q9.lt
            refine hK.out _ _ (LD.low (b7q8.mono hL)).cells (fun _ => ?_)
            clear hK K A
            try simp only [Act.put, List.setIfInBounds_toArray, List.set_cons_zero, List.set_cons_succ]
            obtain ⟨W7q8, hW⟩ : ∃ W, W4q9.alloc (.cells #[.int .i64 0, .slice none 0 0] 33) = W := ⟨_, rfl⟩
            have uY7q8 : W4q9.heap.size + 1 = W7q8.heap.size := by rw [← hW]; simp
            obtain ⟨N7q8, hN⟩ : ∃ N, W4q9.heap.size = N := ⟨_, rfl⟩
            rw [hW] at Y7q8 b7q8 R1 R3 Y4q9 ⊢
            rw [hN] at Y7q8 l7q8 uY7q8 ⊢
            clear hW hN
            have y8 := fun i => Y7q8.cell i; have yf8 := fun i => Y7q8.froz i
            refine wpAnyH_ready (rs := [10]) (by kernel_rfl) (by simp) ?_
            refine AllReadyH.cons rfl (fun K hK => ?_) AllReadyH.nil
            go_simp
            clear y8 yf8
            refine hK.out _ _ (LD.low (((b7q8.setCell (p := ⟨N7q8, 0, none⟩) l7q8 (.int .i64 Z.mc)).setCell (p := ⟨N7q8, 1, none⟩) l7q8 (.slice mv n kv)).mono hL)).cells (fun _ => ?_)
            clear hK K
            try simp only [Act.put, List.setIfInBounds_toArray, List.set_cons_zero, List.set_cons_succ]
            have hne8 : N4q9 ≠ N7q8 := blkNe Y4q9 Y7q8 (by decide)
            have Q8 := (Y4q9.other hne8 0 (.int .i64 Z.mc)).other hne8 1 (.slice mv n kv)
            have y8 := fun i => Q8.cell i; have yf8 := fun i => Q8.froz i
            refine wpAnyH_ready (rs := [11]) (by kernel_rfl) (by simp) ?_
            refine AllReadyH.cons rfl (fun K hK => ?_) AllReadyH.nil
            go_simp
            clear y8 yf8
            have bN8 := nine_below b7q8 l7q8 l4q9 (.int .i64 Z.mc) (.slice mv n kv) (.int .i64 who) (.int .i64 rv) (.int .i64 Z.ph) (.int .i64 Z.at') (.int .i64 Z.wv) (.slice av np cv) (.slice dv nr lv)
            have RN8 := RP.stored (who := who) (rv := rv) (Z := Z) Y7q8 Y4q9 (R1.mono hz0) (R3.mono hz0) l7q8 l4q9
            refine hK.out _ _ (LD.low (bN8.mono hL)).cells (fun _ => ?_)
            clear hK K
            refine wpAnyH_done (by kernel_rfl) ?_ _
            exact ⟨rfl, _, _, _, mv, kv, av, cv, dv, lv, rfl, bN8, RN8⟩
        · go_simp
          have A := alloc_below V2 (.cells #[.int .i64 0, .slice none 0 0] 33)
          have Y3q8 := Blk.new V2 #[.int .i64 0, .slice none 0 0] 33
          have hw := b2c.size
          rw [hh1'] at hw
          have l3q8 : h0' ≤ V2.heap.size := hw
          clear hw
          have b3q8 := b2c.trans (A.mono l3q8)
          have O1 := O1.on A (Nat.le_refl _)
          have O3 := O3.on A (Nat.le_refl _)
          refine hK.out _ _ (LD.low (b3q8.mono hL)).cells (fun _ => ?_)
          clear hK K A
          try simp only [Act.put, List.setIfInBounds_toArray, List.set_cons_zero, List.set_cons_succ]
          obtain ⟨W3q8, hW⟩ : ∃ W, V2.alloc (.cells #[.int .i64 0, .slice none 0 0] 33) = W := ⟨_, rfl⟩
          have uY3q8 : V2.heap.size + 1 = W3q8.heap.size := by rw [← hW]; simp
          obtain ⟨N3q8, hN⟩ : ∃ N, V2.heap.size = N := ⟨_, rfl⟩
          rw [hW] at Y3q8 b3q8 O1 O3 ⊢
          rw [hN] at Y3q8 l3q8 uY3q8 ⊢
          clear hW hN
          refine wpAnyH_ready (rs := [4, 9]) (by kernel_rfl) (by simp) ?_
          refine AllReadyH.cons rfl (fun K hK => ?_) (AllReadyH.cons rfl (fun K hK => ?_) (AllReadyH.nil))
          · go_simp
            refine (IM W3q8 W3q8.heap.size _ _ _ O1.sees O3.sees (LD.low (b3q8.mono hL)).e (Nat.le_refl _)).mono ?_
            rintro e V9 ⟨mv, kv, av, cv, dv, lv, rfl, R1, R3, c9⟩
            have hw := b3q8.size
            rw [hh1'] at hw
            have b9c := b3q8.trans (c9.mono hw)
            have hz0 := hw
            clear O1 O3
            have Y3q8 := Y3q8.on c9 Y3q8.lt
            clear hw c9
            go_simp
            refine hK.out _ _ (LD.low (b9c.mono hL)).cells (fun _ => ?_)
            clear hK K
            try simp only [Act.put, List.setIfInBounds_toArray, List.set_cons_zero, List.set_cons_succ]
            refine takeH (i := 5) (some 104) (.tuple #[.agg #[.int .i64 Z.mc, .slice mv n kv], .agg #[.int .i64 who, .int .i64 rv, .int .i64 Z.ph, .int .i64 Z.at', .int .i64 Z.wv, .slice av np cv, .slice dv nr lv]]) rfl rfl (by kernel_rfl) (by kernel_rfl) (by kernel_rfl) (fun _ _ _ h => by cases h.1) (Or.inl ⟨by rfl, fun w hSw => by (try dsimp only at hSw); go_simp⟩) (by assumption) ?_
            try simp only [Act.put, List.setIfInBounds_toArray, List.set_cons_zero, List.set_cons_succ]
            refine takeH (i := 6) (some 110) (.agg #[.int .i64 Z.mc, .slice mv n kv]) rfl rfl (by kernel_rfl) (by kernel_rfl) (by kernel_rfl) (fun _ _ _ h => by cases h.1) (Or.inl ⟨by rfl, fun w hSw => by (try dsimp only at hSw); go_simp⟩) (by assumption) ?_
            try simp only [Act.put, List.setIfInBounds_toArray, List.set_cons_zero, List.set_cons_succ]
            refine takeH (i := 7) (some 111) (.agg #[.int .i64 who, .int .i64 rv, .int .i64 Z.ph, .int .i64 Z.at', .int .i64 Z.wv, .slice av np cv, .slice dv nr lv]) rfl rfl (by kernel_rfl) (by kernel_rfl) (by kernel_rfl) (fun _ _ _ h => by cases h.1) (Or.inl ⟨by rfl, fun w hSw => by (try dsimp only at hSw); go_simp⟩) (by assumption) ?_
            try simp only [Act.put, List.setIfInBounds_toArray, List.set_cons_zero, List.set_cons_succ]
            refine wpAnyH_ready (rs := [9]) (by kernel_rfl) (by simp) ?_
            refine AllReadyH.cons rfl (fun K hK => ?_) (AllReadyH.nil)
            go_simp
            have A := alloc_below V9 (.cells #[.int .i64 0, .int .i64 0, .int .i64 0, .int .i64 0, .int .i64 0, .slice none 0 0, .slice none 0 0] 36)
            have Y10q9 := Blk.new V9 #[.int .i64 0, .int .i64 0, .int .i64 0, .int .i64 0, .int .i64 0, .slice none 0 0, .slice none 0 0] 36
            have hw := b9c.size
            rw [hh1'] at hw
            have l10q9 : h0' ≤ V9.heap.size := hw
            clear hw
            have b10q9 := b9c.trans (A.mono l10q9)
            have Y3q8 := Y3q8.on A Y3q8.lt
            have R1 := R1.on A (Nat.le_refl _)
            have R3 := R3.on A (Nat.le_refl _)
            refine hK.out _ _ (LD.low (b10q9.mono hL)).cells (fun _ => ?_)
            clear hK K A
            try simp only [Act.put, List.setIfInBounds_toArray, List.set_cons_zero, List.set_cons_succ]
            obtain ⟨W10q9, hW⟩ : ∃ W, V9.alloc (.cells #[.int .i64 0, .int .i64 0, .int .i64 0, .int .i64 0, .int .i64 0, .slice none 0 0, .slice none 0 0] 36) = W := ⟨_, rfl⟩
            have uY10q9 : V9.heap.size + 1 = W10q9.heap.size := by rw [← hW]; simp
            obtain ⟨N10q9, hN⟩ : ∃ N, V9.heap.size = N := ⟨_, rfl⟩
            rw [hW] at Y10q9 b10q9 Y3q8 R1 R3 ⊢
            rw [hN] at Y10q9 l10q9 uY10q9 ⊢
            clear hW hN
            have y11 := fun i => Y3q8.cell i; have yf11 := fun i => Y3q8.froz i
            refine wpAnyH_ready (rs := [10]) (by kernel_rfl) (by simp) ?_
            refine AllReadyH.cons rfl (fun K hK => ?_) AllReadyH.nil
            go_simp
            clear y11 yf11
            refine hK.out _ _ (LD.low (((b10q9.setCell (p := ⟨N3q8, 0, none⟩) l3q8 (.int .i64 Z.mc)).setCell (p := ⟨N3q8, 1, none⟩) l3q8 (.slice mv n kv)).mono hL)).cells (fun _ => ?_)
            clear hK K
            try simp only [Act.put, List.setIfInBounds_toArray, List.set_cons_zero, List.set_cons_succ]
            have hne11 : N10q9 ≠ N3q8 := blkNe Y10q9 Y3q8 (by decide)
            have Q11 := (Y10q9.other hne11 0 (.int .i64 Z.mc)).other hne11 1 (.slice mv n kv)
            have y11 := fun i => Q11.cell i; have yf11 := fun i => Q11.froz i
            refine wpAnyH_ready (rs := [11]) (by kernel_rfl) (by simp) ?_
            refine AllReadyH.cons rfl (fun K hK => ?_) AllReadyH.nil
            go_simp
            clear y11 yf11
            have bN11 := nine_below b10q9 l3q8 l10q9 (.int .i64 Z.mc) (.slice mv n kv) (.int .i64 who) (.int .i64 rv) (.int .i64 Z.ph) (.int .i64 Z.at') (.int .i64 Z.wv) (.slice av np cv) (.slice dv nr lv)
            have RN11 := RP.stored (who := who) (rv := rv) (Z := Z) Y3q8 Y10q9 (R1.mono hz0) (R3.mono hz0) l3q8 l10q9
            refine hK.out _ _ (LD.low (bN11.mono hL)).cells (fun _ => ?_)
            clear hK K
            refine wpAnyH_done (by kernel_rfl) ?_ _
            exact ⟨rfl, _, _, _, mv, kv, av, cv, dv, lv, rfl, bN11, RN11⟩
          · go_simp
            have A := alloc_below W3q8 (.cells #[.int .i64 0, .int .i64 0, .int .i64 0, .int .i64 0, .int .i64 0, .slice none 0 0, .slice none 0 0] 36)
            have Y9q9 := Blk.new W3q8 #[.int .i64 0, .int .i64 0, .int .i64 0, .int .i64 0, .int .i64 0, .slice none 0 0, .slice none 0 0] 36
            have hw := b3q8.size
            rw [hh1'] at hw
            have l9q9 : h0' ≤ W3q8.heap.size := hw
            clear hw
            have b9q9 := b3q8.trans (A.mono l9q9)
            have O1 := O1.on A (Nat.le_refl _)
            have O3 := O3.on A (Nat.le_refl _)
            have Y3q8 := Y3q8.on A Y3q8.lt
            refine hK.out _ _ (LD.low (b9q9.mono hL)).cells (fun _ => ?_)
            clear hK K A
            try simp only [Act.put, List.setIfInBounds_toArray, List.set_cons_zero, List.set_cons_succ]
            obtain ⟨W9q9, hW⟩ : ∃ W, W3q8.alloc (.cells #[.int .i64 0, .int .i64 0, .int .i64 0, .int .i64 0, .int .i64 0, .slice none 0 0, .slice none 0 0] 36) = W := ⟨_, rfl⟩
            have uY9q9 : W3q8.heap.size + 1 = W9q9.heap.size := by rw [← hW]; simp
            obtain ⟨N9q9, hN⟩ : ∃ N, W3q8.heap.size = N := ⟨_, rfl⟩
            rw [hW] at Y9q9 b9q9 O1 O3 Y3q8 ⊢
            rw [hN] at Y9q9 l9q9 uY9q9 ⊢
            clear hW hN
            refine wpAnyH_ready (rs := [4]) (by kernel_rfl) (by simp) ?_
            refine AllReadyH.cons rfl (fun K hK => ?_) (AllReadyH.nil)
            go_simp
            refine (IM W9q9 W9q9.heap.size _ _ _ O1.sees O3.sees (LD.low (b9q9.mono hL)).e (Nat.le_refl _)).mono ?_
            rintro e V12 ⟨mv, kv, av, cv, dv, lv, rfl, R1, R3, c12⟩
            have hw := b9q9.size
            rw [hh1'] at hw
            have b12c := b9q9.trans (c12.mono hw)
            have hz0 := hw
            clear O1 O3
            have Y3q8 := Y3q8.on c12 Y3q8.lt
            have Y9q9 := Y9q9.on c12 Y9q9.lt
            clear hw c12
            go_simp
            refine hK.out _ _ (LD.low (b12c.mono hL)).cells (fun _ => ?_)
            clear hK K
            try simp only [Act.put, List.setIfInBounds_toArray, List.set_cons_zero, List.set_cons_succ]
            refine takeH (i := 5) (some 104) (.tuple #[.agg #[.int .i64 Z.mc, .slice mv n kv], .agg #[.int .i64 who, .int .i64 rv, .int .i64 Z.ph, .int .i64 Z.at', .int .i64 Z.wv, .slice av np cv, .slice dv nr lv]]) rfl rfl (by kernel_rfl) (by kernel_rfl) (by kernel_rfl) (fun _ _ _ h => by cases h.1) (Or.inl ⟨by rfl, fun w hSw => by (try dsimp only at hSw); go_simp⟩) (by assumption) ?_
            try simp only [Act.put, List.setIfInBounds_toArray, List.set_cons_zero, List.set_cons_succ]
            refine takeH (i := 6) (some 110) (.agg #[.int .i64 Z.mc, .slice mv n kv]) rfl rfl (by kernel_rfl) (by kernel_rfl) (by kernel_rfl) (fun _ _ _ h => by cases h.1) (Or.inl ⟨by rfl, fun w hSw => by (try dsimp only at hSw); go_simp⟩) (by assumption) ?_
            try simp only [Act.put, List.setIfInBounds_toArray, List.set_cons_zero, List.set_cons_succ]
            refine takeH (i := 7) (some 111) (.agg #[.int .i64 who, .int .i64 rv, .int .i64 Z.ph, .int .i64 Z.at', .int .i64 Z.wv, .slice av np cv, .slice dv nr lv]) rfl rfl (by kernel_rfl) (by kernel_rfl) (by kernel_rfl) (fun _ _ _ h => by cases h.1) (Or.inl ⟨by rfl, fun w hSw => by (try dsimp only at hSw); go_simp⟩) (by assumption) ?_
            try simp only [Act.put, List.setIfInBounds_toArray, List.set_cons_zero, List.set_cons_succ]
            have y13 := fun i => Y3q8.cell i; have yf13 := fun i => Y3q8.froz i
            refine wpAnyH_ready (rs := [10]) (by kernel_rfl) (by simp) ?_
            refine AllReadyH.cons rfl (fun K hK => ?_) AllReadyH.nil
            go_simp
            clear y13 yf13
            refine hK.out _ _ (LD.low (((b12c.setCell (p := ⟨N3q8, 0, none⟩) l3q8 (.int .i64 Z.mc)).setCell (p := ⟨N3q8, 1, none⟩) l3q8 (.slice mv n kv)).mono hL)).cells (fun _ => ?_)
            clear hK K
            try simp only [Act.put, List.setIfInBounds_toArray, List.set_cons_zero, List.set_cons_succ]
            have hne13 : N9q9 ≠ N3q8 := blkNe Y9q9 Y3q8 (by decide)
            have Q13 := (Y9q9.other hne13 0 (.int .i64 Z.mc)).other hne13 1 (.slice mv n kv)
            have y13 := fun i => Q13.cell i; have yf13 := fun i => Q13.froz i
            refine wpAnyH_ready (rs := [11]) (by kernel_rfl) (by simp) ?_
            refine AllReadyH.cons rfl (fun K hK => ?_) AllReadyH.nil
            go_simp
            clear y13 yf13
            have bN13 := nine_below b12c l3q8 l9q9 (.int .i64 Z.mc) (.slice mv n kv) (.int .i64 who) (.int .i64 rv) (.int .i64 Z.ph) (.int .i64 Z.at') (.int .i64 Z.wv) (.slice av np cv) (.slice dv nr lv)
            have RN13 := RP.stored (who := who) (rv := rv) (Z := Z) Y3q8 Y9q9 (R1.mono hz0) (R3.mono hz0) l3q8 l9q9
            refine hK.out _ _ (LD.low (bN13.mono hL)).cells (fun _ => ?_)
            clear hK K
            refine wpAnyH_done (by kernel_rfl) ?_ _
            exact ⟨rfl, _, _, _, mv, kv, av, cv, dv, lv, rfl, bN13, RN13⟩
        · go_simp
          have A := alloc_below V2 (.cells #[.int .i64 0, .int .i64 0, .int .i64 0, .int .i64 0, .int .i64 0, .slice none 0 0, .slice none 0 0] 36)
          have Y3q9 := Blk.new V2 #[.int .i64 0, .int .i64 0, .int .i64 0, .int .i64 0, .int .i64 0, .slice none 0 0, .slice none 0 0] 36
          have hw := b2c.size
          rw [hh1'] at hw
          have l3q9 : h0' ≤ V2.heap.size := hw
          clear hw
          have b3q9 := b2c.trans (A.mono l3q9)
          have O1 := O1.on A (Nat.le_refl _)
          have O3 := O3.on A (Nat.le_refl _)
          refine hK.out _ _ (LD.low (b3q9.mono hL)).cells (fun _ => ?_)
          clear hK K A
          try simp only [Act.put, List.setIfInBounds_toArray, List.set_cons_zero, List.set_cons_succ]
          obtain ⟨W3q9, hW⟩ : ∃ W, V2.alloc (.cells #[.int .i64 0, .int .i64 0, .int .i64 0, .int .i64 0, .int .i64 0, .slice none 0 0, .slice none 0 0] 36) = W := ⟨_, rfl⟩
          have uY3q9 : V2.heap.size + 1 = W3q9.heap.size := by rw [← hW]; simp
          obtain ⟨N3q9, hN⟩ : ∃ N, V2.heap.size = N := ⟨_, rfl⟩
          rw [hW] at Y3q9 b3q9 O1 O3 ⊢
          rw [hN] at Y3q9 l3q9 uY3q9 ⊢
          clear hW hN
          refine wpAnyH_ready (rs := [4, 8]) (by kernel_rfl) (by simp) ?_
          refine AllReadyH.cons rfl (fun K hK => ?_) (AllReadyH.cons rfl (fun K hK => ?_) (AllReadyH.nil))
          · go_simp
            refine (IM W3q9 W3q9.heap.size _ _ _ O1.sees O3.sees (LD.low (b3q9.mono hL)).e (Nat.le_refl _)).mono ?_
            rintro e V14 ⟨mv, kv, av, cv, dv, lv, rfl, R1, R3, c14⟩
            have hw := b3q9.size
            rw [hh1'] at hw
            have b14c := b3q9.trans (c14.mono hw)
            have hz0 := hw
            clear O1 O3
            have Y3q9 := Y3q9.on c14 Y3q9.lt
            clear hw c14
            go_simp
            refine hK.out _ _ (LD.low (b14c.mono hL)).cells (fun _ => ?_)
            clear hK K
            try simp only [Act.put, List.setIfInBounds_toArray, List.set_cons_zero, List.set_cons_succ]
            refine takeH (i := 5) (some 104) (.tuple #[.agg #[.int .i64 Z.mc, .slice mv n kv], .agg #[.int .i64 who, .int .i64 rv, .int .i64 Z.ph, .int .i64 Z.at', .int .i64 Z.wv, .slice av np cv, .slice dv nr lv]]) rfl rfl (by kernel_rfl) (by kernel_rfl) (by kernel_rfl) (fun _ _ _ h => by cases h.1) (Or.inl ⟨by rfl, fun w hSw => by (try dsimp only at hSw); go_simp⟩) (by assumption) ?_
            try simp only [Act.put, List.setIfInBounds_toArray, List.set_cons_zero, List.set_cons_succ]
            refine takeH (i := 6) (some 110) (.agg #[.int .i64 Z.mc, .slice mv n kv]) rfl rfl (by kernel_rfl) (by kernel_rfl) (by kernel_rfl) (fun _ _ _ h => by cases h.1) (Or.inl ⟨by rfl, fun w hSw => by (try dsimp only at hSw); go_simp⟩) (by assumption) ?_
            try simp only [Act.put, List.setIfInBounds_toArray, List.set_cons_zero, List.set_cons_succ]
            refine takeH (i := 7) (some 111) (.agg #[.int .i64 who, .int .i64 rv, .int .i64 Z.ph, .int .i64 Z.at', .int .i64 Z.wv, .slice av np cv, .slice dv nr lv]) rfl rfl (by kernel_rfl) (by kernel_rfl) (by kernel_rfl) (fun _ _ _ h => by cases h.1) (Or.inl ⟨by rfl, fun w hSw => by (try dsimp only at hSw); go_simp⟩) (by assumption) ?_
            try simp only [Act.put, List.setIfInBounds_toArray, List.set_cons_zero, List.set_cons_succ]
            refine wpAnyH_ready (rs := [8]) (by kernel_rfl) (by simp) ?_
            refine AllReadyH.cons rfl (fun K hK => ?_) (AllReadyH.nil)
            go_simp
            have A := alloc_below V14 (.cells #[.int .i64 0, .slice none 0 0] 33)
            have Y15q8 := Blk.new V14 #[.int .i64 0, .slice none 0 0] 33
            have hw := b14c.size
            rw [hh1'] at hw
            have l15q8 : h0' ≤ V14.heap.size := hw
            clear hw
            have b15q8 := b14c.trans (A.mono l15q8)
            have Y3q9 := Y3q9.on A Y3q9.lt
            have R1 := R1.on A (Nat.le_refl _)
            have R3 := R3.on A (Nat.le_refl _)
            refine hK.out _ _ (LD.low (b15q8.mono hL)).cells (fun _ => ?_)
            clear hK K A
            try simp only [Act.put, List.setIfInBounds_toArray, List.set_cons_zero, List.set_cons_succ]
            obtain ⟨W15q8, hW⟩ : ∃ W, V14.alloc (.cells #[.int .i64 0, .slice none 0 0] 33) = W := ⟨_, rfl⟩
            have uY15q8 : V14.heap.size + 1 = W15q8.heap.size := by rw [← hW]; simp
            obtain ⟨N15q8, hN⟩ : ∃ N, V14.heap.size = N := ⟨_, rfl⟩
            rw [hW] at Y15q8 b15q8 Y3q9 R1 R3 ⊢
            rw [hN] at Y15q8 l15q8 uY15q8 ⊢
            clear hW hN
            have y16 := fun i => Y15q8.cell i; have yf16 := fun i => Y15q8.froz i
            refine wpAnyH_ready (rs := [10]) (by kernel_rfl) (by simp) ?_
            refine AllReadyH.cons rfl (fun K hK => ?_) AllReadyH.nil
            go_simp
            clear y16 yf16
            refine hK.out _ _ (LD.low (((b15q8.setCell (p := ⟨N15q8, 0, none⟩) l15q8 (.int .i64 Z.mc)).setCell (p := ⟨N15q8, 1, none⟩) l15q8 (.slice mv n kv)).mono hL)).cells (fun _ => ?_)
            clear hK K
            try simp only [Act.put, List.setIfInBounds_toArray, List.set_cons_zero, List.set_cons_succ]
            have hne16 : N3q9 ≠ N15q8 := blkNe Y3q9 Y15q8 (by decide)
            have Q16 := (Y3q9.other hne16 0 (.int .i64 Z.mc)).other hne16 1 (.slice mv n kv)
            have y16 := fun i => Q16.cell i; have yf16 := fun i => Q16.froz i
            refine wpAnyH_ready (rs := [11]) (by kernel_rfl) (by simp) ?_
            refine AllReadyH.cons rfl (fun K hK => ?_) AllReadyH.nil
            go_simp
            clear y16 yf16
            have bN16 := nine_below b15q8 l15q8 l3q9 (.int .i64 Z.mc) (.slice mv n kv) (.int .i64 who) (.int .i64 rv) (.int .i64 Z.ph) (.int .i64 Z.at') (.int .i64 Z.wv) (.slice av np cv) (.slice dv nr lv)
            have RN16 := RP.stored (who := who) (rv := rv) (Z := Z) Y15q8 Y3q9 (R1.mono hz0) (R3.mono hz0) l15q8 l3q9
            refine hK.out _ _ (LD.low (bN16.mono hL)).cells (fun _ => ?_)
            clear hK K
            refine wpAnyH_done (by kernel_rfl) ?_ _
            exact ⟨rfl, _, _, _, mv, kv, av, cv, dv, lv, rfl, bN16, RN16⟩
          · go_simp
            have A := alloc_below W3q9 (.cells #[.int .i64 0, .slice none 0 0] 33)
            have Y14q8 := Blk.new W3q9 #[.int .i64 0, .slice none 0 0] 33
            have hw := b3q9.size
            rw [hh1'] at hw
            have l14q8 : h0' ≤ W3q9.heap.size := hw
            clear hw
            have b14q8 := b3q9.trans (A.mono l14q8)
            have O1 := O1.on A (Nat.le_refl _)
            have O3 := O3.on A (Nat.le_refl _)
            have Y3q9 := Y3q9.on A Y3q9.lt
            refine hK.out _ _ (LD.low (b14q8.mono hL)).cells (fun _ => ?_)
            clear hK K A
            try simp only [Act.put, List.setIfInBounds_toArray, List.set_cons_zero, List.set_cons_succ]
            obtain ⟨W14q8, hW⟩ : ∃ W, W3q9.alloc (.cells #[.int .i64 0, .slice none 0 0] 33) = W := ⟨_, rfl⟩
            have uY14q8 : W3q9.heap.size + 1 = W14q8.heap.size := by rw [← hW]; simp
            obtain ⟨N14q8, hN⟩ : ∃ N, W3q9.heap.size = N := ⟨_, rfl⟩
            rw [hW] at Y14q8 b14q8 O1 O3 Y3q9 ⊢
            rw [hN] at Y14q8 l14q8 uY14q8 ⊢
            clear hW hN
            refine wpAnyH_ready (rs := [4]) (by kernel_rfl) (by simp) ?_
            refine AllReadyH.cons rfl (fun K hK => ?_) (AllReadyH.nil)
            go_simp
            refine (IM W14q8 W14q8.heap.size _ _ _ O1.sees O3.sees (LD.low (b14q8.mono hL)).e (Nat.le_refl _)).mono ?_
            rintro e V17 ⟨mv, kv, av, cv, dv, lv, rfl, R1, R3, c17⟩
            have hw := b14q8.size
            rw [hh1'] at hw
            have b17c := b14q8.trans (c17.mono hw)
            have hz0 := hw
            clear O1 O3
            have Y3q9 := Y3q9.on c17 Y3q9.lt
            have Y14q8 := Y14q8.on c17 Y14q8.lt
            clear hw c17
            go_simp
            refine hK.out _ _ (LD.low (b17c.mono hL)).cells (fun _ => ?_)
            clear hK K
            try simp only [Act.put, List.setIfInBounds_toArray, List.set_cons_zero, List.set_cons_succ]
            refine takeH (i := 5) (some 104) (.tuple #[.agg #[.int .i64 Z.mc, .slice mv n kv], .agg #[.int .i64 who, .int .i64 rv, .int .i64 Z.ph, .int .i64 Z.at', .int .i64 Z.wv, .slice av np cv, .slice dv nr lv]]) rfl rfl (by kernel_rfl) (by kernel_rfl) (by kernel_rfl) (fun _ _ _ h => by cases h.1) (Or.inl ⟨by rfl, fun w hSw => by (try dsimp only at hSw); go_simp⟩) (by assumption) ?_
            try simp only [Act.put, List.setIfInBounds_toArray, List.set_cons_zero, List.set_cons_succ]
            refine takeH (i := 6) (some 110) (.agg #[.int .i64 Z.mc, .slice mv n kv]) rfl rfl (by kernel_rfl) (by kernel_rfl) (by kernel_rfl) (fun _ _ _ h => by cases h.1) (Or.inl ⟨by rfl, fun w hSw => by (try dsimp only at hSw); go_simp⟩) (by assumption) ?_
            try simp only [Act.put, List.setIfInBounds_toArray, List.set_cons_zero, List.set_cons_succ]
            refine takeH (i := 7) (some 111) (.agg #[.int .i64 who, .int .i64 rv, .int .i64 Z.ph, .int .i64 Z.at', .int .i64 Z.wv, .slice av np cv, .slice dv nr lv]) rfl rfl (by kernel_rfl) (by kernel_rfl) (by kernel_rfl) (fun _ _ _ h => by cases h.1) (Or.inl ⟨by rfl, fun w hSw => by (try dsimp only at hSw); go_simp⟩) (by assumption) ?_
            try simp only [Act.put, List.setIfInBounds_toArray, List.set_cons_zero, List.set_cons_succ]
            have y18 := fun i => Y14q8.cell i; have yf18 := fun i => Y14q8.froz i
            refine wpAnyH_ready (rs := [10]) (by kernel_rfl) (by simp) ?_
            refine AllReadyH.cons rfl (fun K hK => ?_) AllReadyH.nil
            go_simp
            clear y18 yf18
            refine hK.out _ _ (LD.low (((b17c.setCell (p := ⟨N14q8, 0, none⟩) l14q8 (.int .i64 Z.mc)).setCell (p := ⟨N14q8, 1, none⟩) l14q8 (.slice mv n kv)).mono hL)).cells (fun _ => ?_)
            clear hK K
            try simp only [Act.put, List.setIfInBounds_toArray, List.set_cons_zero, List.set_cons_succ]
            have hne18 : N3q9 ≠ N14q8 := blkNe Y3q9 Y14q8 (by decide)
            have Q18 := (Y3q9.other hne18 0 (.int .i64 Z.mc)).other hne18 1 (.slice mv n kv)
            have y18 := fun i => Q18.cell i; have yf18 := fun i => Q18.froz i
            refine wpAnyH_ready (rs := [11]) (by kernel_rfl) (by simp) ?_
            refine AllReadyH.cons rfl (fun K hK => ?_) AllReadyH.nil
            go_simp
            clear y18 yf18
            have bN18 := nine_below b17c l14q8 l3q9 (.int .i64 Z.mc) (.slice mv n kv) (.int .i64 who) (.int .i64 rv) (.int .i64 Z.ph) (.int .i64 Z.at') (.int .i64 Z.wv) (.slice av np cv) (.slice dv nr lv)
            have RN18 := RP.stored (who := who) (rv := rv) (Z := Z) Y14q8 Y3q9 (R1.mono hz0) (R3.mono hz0) l14q8 l3q9
            refine hK.out _ _ (LD.low (bN18.mono hL)).cells (fun _ => ?_)
            clear hK K
            refine wpAnyH_done (by kernel_rfl) ?_ _
            exact ⟨rfl, _, _, _, mv, kv, av, cv, dv, lv, rfl, bN18, RN18⟩
      · go_simp
        have A := alloc_below V1 (.cells #[.int .i64 0, .slice none 0 0] 33)
        have Y2q8 := Blk.new V1 #[.int .i64 0, .slice none 0 0] 33
        have hw := b1c.size
        rw [hh1'] at hw
        have l2q8 : h0' ≤ V1.heap.size := hw
        clear hw
        have b2q8 := b1c.trans (A.mono l2q8)
        have O1 := O1.on A (Nat.le_refl _)
        refine hK.out _ _ (LD.low (b2q8.mono hL)).cells (fun _ => ?_)
        clear hK K A
        try simp only [Act.put, List.setIfInBounds_toArray, List.set_cons_zero, List.set_cons_succ]
        obtain ⟨W2q8, hW⟩ : ∃ W, V1.alloc (.cells #[.int .i64 0, .slice none 0 0] 33) = W := ⟨_, rfl⟩
        have uY2q8 : V1.heap.size + 1 = W2q8.heap.size := by rw [← hW]; simp
        obtain ⟨N2q8, hN⟩ : ∃ N, V1.heap.size = N := ⟨_, rfl⟩
        rw [hW] at Y2q8 b2q8 O1 ⊢
        rw [hN] at Y2q8 l2q8 uY2q8 ⊢
        clear hW hN
        refine wpAnyH_ready (rs := [3, 9]) (by kernel_rfl) (by simp) ?_
        refine AllReadyH.cons rfl (fun K hK => ?_) (AllReadyH.cons rfl (fun K hK => ?_) (AllReadyH.nil))
        · go_simp
          refine (C3 W2q8 (LD.low (b2q8.mono hL))).mono ?_
          rintro e V19 ⟨a3, k3, d3, l3, rfl, O3, c19⟩
          have hw := b2q8.size
          rw [hh1'] at hw
          have b19c := b2q8.trans (c19.mono hw)
          have O1 := O1.on c19 (Nat.le_refl _)
          have Y2q8 := Y2q8.on c19 Y2q8.lt
          clear hw c19
          go_simp
          refine hK.out _ _ (LD.low (b19c.mono hL)).cells (fun _ => ?_)
          clear hK K
          try simp only [Act.put, List.setIfInBounds_toArray, List.set_cons_zero, List.set_cons_succ]
          refine wpAnyH_ready (rs := [4, 9]) (by kernel_rfl) (by simp) ?_
          refine AllReadyH.cons rfl (fun K hK => ?_) (AllReadyH.cons rfl (fun K hK => ?_) (AllReadyH.nil))
          · go_simp
            refine (IM V19 V19.heap.size _ _ _ O1.sees O3.sees (LD.low (b19c.mono hL)).e (Nat.le_refl _)).mono ?_
            rintro e V20 ⟨mv, kv, av, cv, dv, lv, rfl, R1, R3, c20⟩
            have hw := b19c.size
            rw [hh1'] at hw
            have b20c := b19c.trans (c20.mono hw)
            have hz0 := hw
            clear O1 O3
            have Y2q8 := Y2q8.on c20 Y2q8.lt
            clear hw c20
            go_simp
            refine hK.out _ _ (LD.low (b20c.mono hL)).cells (fun _ => ?_)
            clear hK K
            try simp only [Act.put, List.setIfInBounds_toArray, List.set_cons_zero, List.set_cons_succ]
            refine takeH (i := 5) (some 104) (.tuple #[.agg #[.int .i64 Z.mc, .slice mv n kv], .agg #[.int .i64 who, .int .i64 rv, .int .i64 Z.ph, .int .i64 Z.at', .int .i64 Z.wv, .slice av np cv, .slice dv nr lv]]) rfl rfl (by kernel_rfl) (by kernel_rfl) (by kernel_rfl) (fun _ _ _ h => by cases h.1) (Or.inl ⟨by rfl, fun w hSw => by (try dsimp only at hSw); go_simp⟩) (by assumption) ?_
            try simp only [Act.put, List.setIfInBounds_toArray, List.set_cons_zero, List.set_cons_succ]
            refine takeH (i := 6) (some 110) (.agg #[.int .i64 Z.mc, .slice mv n kv]) rfl rfl (by kernel_rfl) (by kernel_rfl) (by kernel_rfl) (fun _ _ _ h => by cases h.1) (Or.inl ⟨by rfl, fun w hSw => by (try dsimp only at hSw); go_simp⟩) (by assumption) ?_
            try simp only [Act.put, List.setIfInBounds_toArray, List.set_cons_zero, List.set_cons_succ]
            refine takeH (i := 7) (some 111) (.agg #[.int .i64 who, .int .i64 rv, .int .i64 Z.ph, .int .i64 Z.at', .int .i64 Z.wv, .slice av np cv, .slice dv nr lv]) rfl rfl (by kernel_rfl) (by kernel_rfl) (by kernel_rfl) (fun _ _ _ h => by cases h.1) (Or.inl ⟨by rfl, fun w hSw => by (try dsimp only at hSw); go_simp⟩) (by assumption) ?_
            try simp only [Act.put, List.setIfInBounds_toArray, List.set_cons_zero, List.set_cons_succ]
            refine wpAnyH_ready (rs := [9]) (by kernel_rfl) (by simp) ?_
            refine AllReadyH.cons rfl (fun K hK => ?_) (AllReadyH.nil)
            go_simp
            have A := alloc_below V20 (.cells #[.int .i64 0, .int .i64 0, .int .i64 0, .int .i64 0, .int .i64 0, .slice none 0 0, .slice none 0 0] 36)
            have Y21q9 := Blk.new V20 #[.int .i64 0, .int .i64 0, .int .i64 0, .int .i64 0, .int .i64 0, .slice none 0 0, .slice none 0 0] 36
            have hw := b20c.size
            rw [hh1'] at hw
            have l21q9 : h0' ≤ V20.heap.size := hw
            clear hw
            have b21q9 := b20c.trans (A.mono l21q9)
            have Y2q8 := Y2q8.on A Y2q8.lt
            have R1 := R1.on A (Nat.le_refl _)
            have R3 := R3.on A (Nat.le_refl _)
            refine hK.out _ _ (LD.low (b21q9.mono hL)).cells (fun _ => ?_)
            clear hK K A
            try simp only [Act.put, List.setIfInBounds_toArray, List.set_cons_zero, List.set_cons_succ]
            obtain ⟨W21q9, hW⟩ : ∃ W, V20.alloc (.cells #[.int .i64 0, .int .i64 0, .int .i64 0, .int .i64 0, .int .i64 0, .slice none 0 0, .slice none 0 0] 36) = W := ⟨_, rfl⟩
            have uY21q9 : V20.heap.size + 1 = W21q9.heap.size := by rw [← hW]; simp
            obtain ⟨N21q9, hN⟩ : ∃ N, V20.heap.size = N := ⟨_, rfl⟩
            rw [hW] at Y21q9 b21q9 Y2q8 R1 R3 ⊢
            rw [hN] at Y21q9 l21q9 uY21q9 ⊢
            clear hW hN
            have y22 := fun i => Y2q8.cell i; have yf22 := fun i => Y2q8.froz i
            refine wpAnyH_ready (rs := [10]) (by kernel_rfl) (by simp) ?_
            refine AllReadyH.cons rfl (fun K hK => ?_) AllReadyH.nil
            go_simp
            clear y22 yf22
            refine hK.out _ _ (LD.low (((b21q9.setCell (p := ⟨N2q8, 0, none⟩) l2q8 (.int .i64 Z.mc)).setCell (p := ⟨N2q8, 1, none⟩) l2q8 (.slice mv n kv)).mono hL)).cells (fun _ => ?_)
            clear hK K
            try simp only [Act.put, List.setIfInBounds_toArray, List.set_cons_zero, List.set_cons_succ]
            have hne22 : N21q9 ≠ N2q8 := blkNe Y21q9 Y2q8 (by decide)
            have Q22 := (Y21q9.other hne22 0 (.int .i64 Z.mc)).other hne22 1 (.slice mv n kv)
            have y22 := fun i => Q22.cell i; have yf22 := fun i => Q22.froz i
            refine wpAnyH_ready (rs := [11]) (by kernel_rfl) (by simp) ?_
            refine AllReadyH.cons rfl (fun K hK => ?_) AllReadyH.nil
            go_simp
            clear y22 yf22
            have bN22 := nine_below b21q9 l2q8 l21q9 (.int .i64 Z.mc) (.slice mv n kv) (.int .i64 who) (.int .i64 rv) (.int .i64 Z.ph) (.int .i64 Z.at') (.int .i64 Z.wv) (.slice av np cv) (.slice dv nr lv)
            have RN22 := RP.stored (who := who) (rv := rv) (Z := Z) Y2q8 Y21q9 (R1.mono hz0) (R3.mono hz0) l2q8 l21q9
            refine hK.out _ _ (LD.low (bN22.mono hL)).cells (fun _ => ?_)
            clear hK K
            refine wpAnyH_done (by kernel_rfl) ?_ _
            exact ⟨rfl, _, _, _, mv, kv, av, cv, dv, lv, rfl, bN22, RN22⟩
          · go_simp
            have A := alloc_below V19 (.cells #[.int .i64 0, .int .i64 0, .int .i64 0, .int .i64 0, .int .i64 0, .slice none 0 0, .slice none 0 0] 36)
            have Y20q9 := Blk.new V19 #[.int .i64 0, .int .i64 0, .int .i64 0, .int .i64 0, .int .i64 0, .slice none 0 0, .slice none 0 0] 36
            have hw := b19c.size
            rw [hh1'] at hw
            have l20q9 : h0' ≤ V19.heap.size := hw
            clear hw
            have b20q9 := b19c.trans (A.mono l20q9)
            have O1 := O1.on A (Nat.le_refl _)
            have Y2q8 := Y2q8.on A Y2q8.lt
            have O3 := O3.on A (Nat.le_refl _)
            refine hK.out _ _ (LD.low (b20q9.mono hL)).cells (fun _ => ?_)
            clear hK K A
            try simp only [Act.put, List.setIfInBounds_toArray, List.set_cons_zero, List.set_cons_succ]
            obtain ⟨W20q9, hW⟩ : ∃ W, V19.alloc (.cells #[.int .i64 0, .int .i64 0, .int .i64 0, .int .i64 0, .int .i64 0, .slice none 0 0, .slice none 0 0] 36) = W := ⟨_, rfl⟩
            have uY20q9 : V19.heap.size + 1 = W20q9.heap.size := by rw [← hW]; simp
            obtain ⟨N20q9, hN⟩ : ∃ N, V19.heap.size = N := ⟨_, rfl⟩
            rw [hW] at Y20q9 b20q9 O1 Y2q8 O3 ⊢
            rw [hN] at Y20q9 l20q9 uY20q9 ⊢
            clear hW hN
            refine wpAnyH_ready (rs := [4]) (by kernel_rfl) (by simp) ?_
            refine AllReadyH.cons rfl (fun K hK => ?_) (AllReadyH.nil)
            go_simp
            refine (IM W20q9 W20q9.heap.size _ _ _ O1.sees O3.sees (LD.low (b20q9.mono hL)).e (Nat.le_refl _)).mono ?_
            rintro e V23 ⟨mv, kv, av, cv, dv, lv, rfl, R1, R3, c23⟩
            have hw := b20q9.size
            rw [hh1'] at hw
            have b23c := b20q9.trans (c23.mono hw)
            have hz0 := hw
            clear O1 O3
            have Y2q8 := Y2q8.on c23 Y2q8.lt
            have Y20q9 := Y20q9.on c23 Y20q9.lt
            clear hw c23
            go_simp
            refine hK.out _ _ (LD.low (b23c.mono hL)).cells (fun _ => ?_)
            clear hK K
            try simp only [Act.put, List.setIfInBounds_toArray, List.set_cons_zero, List.set_cons_succ]
            refine takeH (i := 5) (some 104) (.tuple #[.agg #[.int .i64 Z.mc, .slice mv n kv], .agg #[.int .i64 who, .int .i64 rv, .int .i64 Z.ph, .int .i64 Z.at', .int .i64 Z.wv, .slice av np cv, .slice dv nr lv]]) rfl rfl (by kernel_rfl) (by kernel_rfl) (by kernel_rfl) (fun _ _ _ h => by cases h.1) (Or.inl ⟨by rfl, fun w hSw => by (try dsimp only at hSw); go_simp⟩) (by assumption) ?_
            try simp only [Act.put, List.setIfInBounds_toArray, List.set_cons_zero, List.set_cons_succ]
            refine takeH (i := 6) (some 110) (.agg #[.int .i64 Z.mc, .slice mv n kv]) rfl rfl (by kernel_rfl) (by kernel_rfl) (by kernel_rfl) (fun _ _ _ h => by cases h.1) (Or.inl ⟨by rfl, fun w hSw => by (try dsimp only at hSw); go_simp⟩) (by assumption) ?_
            try simp only [Act.put, List.setIfInBounds_toArray, List.set_cons_zero, List.set_cons_succ]
            refine takeH (i := 7) (some 111) (.agg #[.int .i64 who, .int .i64 rv, .int .i64 Z.ph, .int .i64 Z.at', .int .i64 Z.wv, .slice av np cv, .slice dv nr lv]) rfl rfl (by kernel_rfl) (by kernel_rfl) (by kernel_rfl) (fun _ _ _ h => by cases h.1) (Or.inl ⟨by rfl, fun w hSw => by (try dsimp only at hSw); go_simp⟩) (by assumption) ?_
            try simp only [Act.put, List.setIfInBounds_toArray, List.set_cons_zero, List.set_cons_succ]
            have y24 := fun i => Y2q8.cell i; have yf24 := fun i => Y2q8.froz i
            refine wpAnyH_ready (rs := [10]) (by kernel_rfl) (by simp) ?_
            refine AllReadyH.cons rfl (fun K hK => ?_) AllReadyH.nil
            go_simp
            clear y24 yf24
            refine hK.out _ _ (LD.low (((b23c.setCell (p := ⟨N2q8, 0, none⟩) l2q8 (.int .i64 Z.mc)).setCell (p := ⟨N2q8, 1, none⟩) l2q8 (.slice mv n kv)).mono hL)).cells (fun _ => ?_)
            clear hK K
            try simp only [Act.put, List.setIfInBounds_toArray, List.set_cons_zero, List.set_cons_succ]
            have hne24 : N20q9 ≠ N2q8 := blkNe Y20q9 Y2q8 (by decide)
            have Q24 := (Y20q9.other hne24 0 (.int .i64 Z.mc)).other hne24 1 (.slice mv n kv)
            have y24 := fun i => Q24.cell i; have yf24 := fun i => Q24.froz i
            refine wpAnyH_ready (rs := [11]) (by kernel_rfl) (by simp) ?_
            refine AllReadyH.cons rfl (fun K hK => ?_) AllReadyH.nil
            go_simp
            clear y24 yf24
            have bN24 := nine_below b23c l2q8 l20q9 (.int .i64 Z.mc) (.slice mv n kv) (.int .i64 who) (.int .i64 rv) (.int .i64 Z.ph) (.int .i64 Z.at') (.int .i64 Z.wv) (.slice av np cv) (.slice dv nr lv)
            have RN24 := RP.stored (who := who) (rv := rv) (Z := Z) Y2q8 Y20q9 (R1.mono hz0) (R3.mono hz0) l2q8 l20q9
            refine hK.out _ _ (LD.low (bN24.mono hL)).cells (fun _ => ?_)
            clear hK K
            refine wpAnyH_done (by kernel_rfl) ?_ _
            exact ⟨rfl, _, _, _, mv, kv, av, cv, dv, lv, rfl, bN24, RN24⟩
        · go_simp
          have A := alloc_below W2q8 (.cells #[.int .i64 0, .int .i64 0, .int .i64 0, .int .i64 0, .int .i64 0, .slice none 0 0, .slice none 0 0] 36)
          have Y19q9 := Blk.new W2q8 #[.int .i64 0, .int .i64 0, .int .i64 0, .int .i64 0, .int .i64 0, .slice none 0 0, .slice none 0 0] 36
          have hw := b2q8.size
          rw [hh1'] at hw
          have l19q9 : h0' ≤ W2q8.heap.size := hw
          clear hw
          have b19q9 := b2q8.trans (A.mono l19q9)
          have O1 := O1.on A (Nat.le_refl _)
          have Y2q8 := Y2q8.on A Y2q8.lt
          refine hK.out _ _ (LD.low (b19q9.mono hL)).cells (fun _ => ?_)
          clear hK K A
          try simp only [Act.put, List.setIfInBounds_toArray, List.set_cons_zero, List.set_cons_succ]
          obtain ⟨W19q9, hW⟩ : ∃ W, W2q8.alloc (.cells #[.int .i64 0, .int .i64 0, .int .i64 0, .int .i64 0, .int .i64 0, .slice none 0 0, .slice none 0 0] 36) = W := ⟨_, rfl⟩
          have uY19q9 : W2q8.heap.size + 1 = W19q9.heap.size := by rw [← hW]; simp
          obtain ⟨N19q9, hN⟩ : ∃ N, W2q8.heap.size = N := ⟨_, rfl⟩
          rw [hW] at Y19q9 b19q9 O1 Y2q8 ⊢
          rw [hN] at Y19q9 l19q9 uY19q9 ⊢
          clear hW hN
          refine wpAnyH_ready (rs := [3]) (by kernel_rfl) (by simp) ?_
          refine AllReadyH.cons rfl (fun K hK => ?_) (AllReadyH.nil)
          go_simp
          refine (C3 W19q9 (LD.low (b19q9.mono hL))).mono ?_
          rintro e V25 ⟨a3, k3, d3, l3, rfl, O3, c25⟩
          have hw := b19q9.size
          rw [hh1'] at hw
          have b25c := b19q9.trans (c25.mono hw)
          have O1 := O1.on c25 (Nat.le_refl _)
          have Y2q8 := Y2q8.on c25 Y2q8.lt
          have Y19q9 := Y19q9.on c25 Y19q9.lt
          clear hw c25
          go_simp
          refine hK.out _ _ (LD.low (b25c.mono hL)).cells (fun _ => ?_)
          clear hK K
          try simp only [Act.put, List.setIfInBounds_toArray, List.set_cons_zero, List.set_cons_succ]
          refine wpAnyH_ready (rs := [4]) (by kernel_rfl) (by simp) ?_
          refine AllReadyH.cons rfl (fun K hK => ?_) (AllReadyH.nil)
          go_simp
          refine (IM V25 V25.heap.size _ _ _ O1.sees O3.sees (LD.low (b25c.mono hL)).e (Nat.le_refl _)).mono ?_
          rintro e V26 ⟨mv, kv, av, cv, dv, lv, rfl, R1, R3, c26⟩
          have hw := b25c.size
          rw [hh1'] at hw
          have b26c := b25c.trans (c26.mono hw)
          have hz0 := hw
          clear O1 O3
          have Y2q8 := Y2q8.on c26 Y2q8.lt
          have Y19q9 := Y19q9.on c26 Y19q9.lt
          clear hw c26
          go_simp
          refine hK.out _ _ (LD.low (b26c.mono hL)).cells (fun _ => ?_)
          clear hK K
          try simp only [Act.put, List.setIfInBounds_toArray, List.set_cons_zero, List.set_cons_succ]
          refine takeH (i := 5) (some 104) (.tuple #[.agg #[.int .i64 Z.mc, .slice mv n kv], .agg #[.int .i64 who, .int .i64 rv, .int .i64 Z.ph, .int .i64 Z.at', .int .i64 Z.wv, .slice av np cv, .slice dv nr lv]]) rfl rfl (by kernel_rfl) (by kernel_rfl) (by kernel_rfl) (fun _ _ _ h => by cases h.1) (Or.inl ⟨by rfl, fun w hSw => by (try dsimp only at hSw); go_simp⟩) (by assumption) ?_
          try simp only [Act.put, List.setIfInBounds_toArray, List.set_cons_zero, List.set_cons_succ]
          refine takeH (i := 6) (some 110) (.agg #[.int .i64 Z.mc, .slice mv n kv]) rfl rfl (by kernel_rfl) (by kernel_rfl) (by kernel_rfl) (fun _ _ _ h => by cases h.1) (Or.inl ⟨by rfl, fun w hSw => by (try dsimp only at hSw); go_simp⟩) (by assumption) ?_
          try simp only [Act.put, List.setIfInBounds_toArray, List.set_cons_zero, List.set_cons_succ]
          refine takeH (i := 7) (some 111) (.agg #[.int .i64 who, .int .i64 rv, .int .i64 Z.ph, .int .i64 Z.at', .int .i64 Z.wv, .slice av np cv, .slice dv nr lv]) rfl rfl (by kernel_rfl) (by kernel_rfl) (by kernel_rfl) (fun _ _ _ h => by cases h.1) (Or.inl ⟨by rfl, fun w hSw => by (try dsimp only at hSw); go_simp⟩) (by assumption) ?_
          try simp only [Act.put, List.setIfInBounds_toArray, List.set_cons_zero, List.set_cons_succ]
          have y27 := fun i => Y2q8.cell i; have yf27 := fun i => Y2q8.froz i
          refine wpAnyH_ready (rs := [10]) (by kernel_rfl) (by simp) ?_
          refine AllReadyH.cons rfl (fun K hK => ?_) AllReadyH.nil
          go_simp
          clear y27 yf27
          refine hK.out _ _ (LD.low (((b26c.setCell (p := ⟨N2q8, 0, none⟩) l2q8 (.int .i64 Z.mc)).setCell (p := ⟨N2q8, 1, none⟩) l2q8 (.slice mv n kv)).mono hL)).cells (fun _ => ?_)
          clear hK K
          try simp only [Act.put, List.setIfInBounds_toArray, List.set_cons_zero, List.set_cons_succ]
          have hne27 : N19q9 ≠ N2q8 := blkNe Y19q9 Y2q8 (by decide)
          have Q27 := (Y19q9.other hne27 0 (.int .i64 Z.mc)).other hne27 1 (.slice mv n kv)
          have y27 := fun i => Q27.cell i; have yf27 := fun i => Q27.froz i
          refine wpAnyH_ready (rs := [11]) (by kernel_rfl) (by simp) ?_
          refine AllReadyH.cons rfl (fun K hK => ?_) AllReadyH.nil
          go_simp
          clear y27 yf27
          have bN27 := nine_below b26c l2q8 l19q9 (.int .i64 Z.mc) (.slice mv n kv) (.int .i64 who) (.int .i64 rv) (.int .i64 Z.ph) (.int .i64 Z.at') (.int .i64 Z.wv) (.slice av np cv) (.slice dv nr lv)
          have RN27 := RP.stored (who := who) (rv := rv) (Z := Z) Y2q8 Y19q9 (R1.mono hz0) (R3.mono hz0) l2q8 l19q9
          refine hK.out _ _ (LD.low (bN27.mono hL)).cells (fun _ => ?_)
          clear hK K
          refine wpAnyH_done (by kernel_rfl) ?_ _
          exact ⟨rfl, _, _, _, mv, kv, av, cv, dv, lv, rfl, bN27, RN27⟩
      · go_simp
        have A := alloc_below V1 (.cells #[.int .i64 0, .int .i64 0, .int .i64 0, .int .i64 0, .int .i64 0, .slice none 0 0, .slice none 0 0] 36)
        have Y2q9 := Blk.new V1 #[.int .i64 0, .int .i64 0, .int .i64 0, .int .i64 0, .int .i64 0, .slice none 0 0, .slice none 0 0] 36
        have hw := b1c.size
        rw [hh1'] at hw
        have l2q9 : h0' ≤ V1.heap.size := hw
        clear hw
        have b2q9 := b1c.trans (A.mono l2q9)
        have O1 := O1.on A (Nat.le_refl _)
        refine hK.out _ _ (LD.low (b2q9.mono hL)).cells (fun _ => ?_)
        clear hK K A
        try simp only [Act.put, List.setIfInBounds_toArray, List.set_cons_zero, List.set_cons_succ]
        obtain ⟨W2q9, hW⟩ : ∃ W, V1.alloc (.cells #[.int .i64 0, .int .i64 0, .int .i64 0, .int .i64 0, .int .i64 0, .slice none 0 0, .slice none 0 0] 36) = W := ⟨_, rfl⟩
        have uY2q9 : V1.heap.size + 1 = W2q9.heap.size := by rw [← hW]; simp
        obtain ⟨N2q9, hN⟩ : ∃ N, V1.heap.size = N := ⟨_, rfl⟩
        rw [hW] at Y2q9 b2q9 O1 ⊢
        rw [hN] at Y2q9 l2q9 uY2q9 ⊢
        clear hW hN
        refine wpAnyH_ready (rs := [3, 8]) (by kernel_rfl) (by simp) ?_
        refine AllReadyH.cons rfl (fun K hK => ?_) (AllReadyH.cons rfl (fun K hK => ?_) (AllReadyH.nil))
        · go_simp
          refine (C3 W2q9 (LD.low (b2q9.mono hL))).mono ?_
          rintro e V28 ⟨a3, k3, d3, l3, rfl, O3, c28⟩
          have hw := b2q9.size
          rw [hh1'] at hw
          have b28c := b2q9.trans (c28.mono hw)
          have O1 := O1.on c28 (Nat.le_refl _)
          have Y2q9 := Y2q9.on c28 Y2q9.lt
          clear hw c28
          go_simp
          refine hK.out _ _ (LD.low (b28c.mono hL)).cells (fun _ => ?_)
          clear hK K
          try simp only [Act.put, List.setIfInBounds_toArray, List.set_cons_zero, List.set_cons_succ]
          refine wpAnyH_ready (rs := [4, 8]) (by kernel_rfl) (by simp) ?_
          refine AllReadyH.cons rfl (fun K hK => ?_) (AllReadyH.cons rfl (fun K hK => ?_) (AllReadyH.nil))
          · go_simp
            refine (IM V28 V28.heap.size _ _ _ O1.sees O3.sees (LD.low (b28c.mono hL)).e (Nat.le_refl _)).mono ?_
            rintro e V29 ⟨mv, kv, av, cv, dv, lv, rfl, R1, R3, c29⟩
            have hw := b28c.size
            rw [hh1'] at hw
            have b29c := b28c.trans (c29.mono hw)
            have hz0 := hw
            clear O1 O3
            have Y2q9 := Y2q9.on c29 Y2q9.lt
            clear hw c29
            go_simp
            refine hK.out _ _ (LD.low (b29c.mono hL)).cells (fun _ => ?_)
            clear hK K
            try simp only [Act.put, List.setIfInBounds_toArray, List.set_cons_zero, List.set_cons_succ]
            refine takeH (i := 5) (some 104) (.tuple #[.agg #[.int .i64 Z.mc, .slice mv n kv], .agg #[.int .i64 who, .int .i64 rv, .int .i64 Z.ph, .int .i64 Z.at', .int .i64 Z.wv, .slice av np cv, .slice dv nr lv]]) rfl rfl (by kernel_rfl) (by kernel_rfl) (by kernel_rfl) (fun _ _ _ h => by cases h.1) (Or.inl ⟨by rfl, fun w hSw => by (try dsimp only at hSw); go_simp⟩) (by assumption) ?_
            try simp only [Act.put, List.setIfInBounds_toArray, List.set_cons_zero, List.set_cons_succ]
            refine takeH (i := 6) (some 110) (.agg #[.int .i64 Z.mc, .slice mv n kv]) rfl rfl (by kernel_rfl) (by kernel_rfl) (by kernel_rfl) (fun _ _ _ h => by cases h.1) (Or.inl ⟨by rfl, fun w hSw => by (try dsimp only at hSw); go_simp⟩) (by assumption) ?_
            try simp only [Act.put, List.setIfInBounds_toArray, List.set_cons_zero, List.set_cons_succ]
            refine takeH (i := 7) (some 111) (.agg #[.int .i64 who, .int .i64 rv, .int .i64 Z.ph, .int .i64 Z.at', .int .i64 Z.wv, .slice av np cv, .slice dv nr lv]) rfl rfl (by kernel_rfl) (by kernel_rfl) (by kernel_rfl) (fun _ _ _ h => by cases h.1) (Or.inl ⟨by rfl, fun w hSw => by (try dsimp only at hSw); go_simp⟩) (by assumption) ?_
            try simp only [Act.put, List.setIfInBounds_toArray, List.set_cons_zero, List.set_cons_succ]
            refine wpAnyH_ready (rs := [8]) (by kernel_rfl) (by simp) ?_
            refine AllReadyH.cons rfl (fun K hK => ?_) (AllReadyH.nil)
            go_simp
            have A := alloc_below V29 (.cells #[.int .i64 0, .slice none 0 0] 33)
            have Y30q8 := Blk.new V29 #[.int .i64 0, .slice none 0 0] 33
            have hw := b29c.size
            rw [hh1'] at hw
            have l30q8 : h0' ≤ V29.heap.size := hw
            clear hw
            have b30q8 := b29c.trans (A.mono l30q8)
            have Y2q9 := Y2q9.on A Y2q9.lt
            have R1 := R1.on A (Nat.le_refl _)
            have R3 := R3.on A (Nat.le_refl _)
            refine hK.out _ _ (LD.low (b30q8.mono hL)).cells (fun _ => ?_)
            clear hK K A
            try simp only [Act.put, List.setIfInBounds_toArray, List.set_cons_zero, List.set_cons_succ]
            obtain ⟨W30q8, hW⟩ : ∃ W, V29.alloc (.cells #[.int .i64 0, .slice none 0 0] 33) = W := ⟨_, rfl⟩
            have uY30q8 : V29.heap.size + 1 = W30q8.heap.size := by rw [← hW]; simp
            obtain ⟨N30q8, hN⟩ : ∃ N, V29.heap.size = N := ⟨_, rfl⟩
            rw [hW] at Y30q8 b30q8 Y2q9 R1 R3 ⊢
            rw [hN] at Y30q8 l30q8 uY30q8 ⊢
            clear hW hN
            have y31 := fun i => Y30q8.cell i; have yf31 := fun i => Y30q8.froz i
            refine wpAnyH_ready (rs := [10]) (by kernel_rfl) (by simp) ?_
            refine AllReadyH.cons rfl (fun K hK => ?_) AllReadyH.nil
            go_simp
            clear y31 yf31
            refine hK.out _ _ (LD.low (((b30q8.setCell (p := ⟨N30q8, 0, none⟩) l30q8 (.int .i64 Z.mc)).setCell (p := ⟨N30q8, 1, none⟩) l30q8 (.slice mv n kv)).mono hL)).cells (fun _ => ?_)
            clear hK K
            try simp only [Act.put, List.setIfInBounds_toArray, List.set_cons_zero, List.set_cons_succ]
            have hne31 : N2q9 ≠ N30q8 := blkNe Y2q9 Y30q8 (by decide)
            have Q31 := (Y2q9.other hne31 0 (.int .i64 Z.mc)).other hne31 1 (.slice mv n kv)
            have y31 := fun i => Q31.cell i; have yf31 := fun i => Q31.froz i
            refine wpAnyH_ready (rs := [11]) (by kernel_rfl) (by simp) ?_
            refine AllReadyH.cons rfl (fun K hK => ?_) AllReadyH.nil
            go_simp
            clear y31 yf31
            have bN31 := nine_below b30q8 l30q8 l2q9 (.int .i64 Z.mc) (.slice mv n kv) (.int .i64 who) (.int .i64 rv) (.int .i64 Z.ph) (.int .i64 Z.at') (.int .i64 Z.wv) (.slice av np cv) (.slice dv nr lv)
            have RN31 := RP.stored (who := who) (rv := rv) (Z := Z) Y30q8 Y2q9 (R1.mono hz0) (R3.mono hz0) l30q8 l2q9
            refine hK.out _ _ (LD.low (bN31.mono hL)).cells (fun _ => ?_)
            clear hK K
            refine wpAnyH_done (by kernel_rfl) ?_ _
            exact ⟨rfl, _, _, _, mv, kv, av, cv, dv, lv, rfl, bN31, RN31⟩
          · go_simp
            have A := alloc_below V28 (.cells #[.int .i64 0, .slice none 0 0] 33)
            have Y29q8 := Blk.new V28 #[.int .i64 0, .slice none 0 0] 33
            have hw := b28c.size
            rw [hh1'] at hw
            have l29q8 : h0' ≤ V28.heap.size := hw
            clear hw
            have b29q8 := b28c.trans (A.mono l29q8)
            have O1 := O1.on A (Nat.le_refl _)
            have Y2q9 := Y2q9.on A Y2q9.lt
            have O3 := O3.on A (Nat.le_refl _)
            refine hK.out _ _ (LD.low (b29q8.mono hL)).cells (fun _ => ?_)
            clear hK K A
            try simp only [Act.put, List.setIfInBounds_toArray, List.set_cons_zero, List.set_cons_succ]
            obtain ⟨W29q8, hW⟩ : ∃ W, V28.alloc (.cells #[.int .i64 0, .slice none 0 0] 33) = W := ⟨_, rfl⟩
            have uY29q8 : V28.heap.size + 1 = W29q8.heap.size := by rw [← hW]; simp
            obtain ⟨N29q8, hN⟩ : ∃ N, V28.heap.size = N := ⟨_, rfl⟩
            rw [hW] at Y29q8 b29q8 O1 Y2q9 O3 ⊢
            rw [hN] at Y29q8 l29q8 uY29q8 ⊢
            clear hW hN
            refine wpAnyH_ready (rs := [4]) (by kernel_rfl) (by simp) ?_
            refine AllReadyH.cons rfl (fun K hK => ?_) (AllReadyH.nil)
            go_simp
            refine (IM W29q8 W29q8.heap.size _ _ _ O1.sees O3.sees (LD.low (b29q8.mono hL)).e (Nat.le_refl _)).mono ?_
            rintro e V32 ⟨mv, kv, av, cv, dv, lv, rfl, R1, R3, c32⟩
            have hw := b29q8.size
            rw [hh1'] at hw
            have b32c := b29q8.trans (c32.mono hw)
            have hz0 := hw
            clear O1 O3
            have Y2q9 := Y2q9.on c32 Y2q9.lt
            have Y29q8 := Y29q8.on c32 Y29q8.lt
            clear hw c32
            go_simp
            refine hK.out _ _ (LD.low (b32c.mono hL)).cells (fun _ => ?_)
            clear hK K
            try simp only [Act.put, List.setIfInBounds_toArray, List.set_cons_zero, List.set_cons_succ]
            refine takeH (i := 5) (some 104) (.tuple #[.agg #[.int .i64 Z.mc, .slice mv n kv], .agg #[.int .i64 who, .int .i64 rv, .int .i64 Z.ph, .int .i64 Z.at', .int .i64 Z.wv, .slice av np cv, .slice dv nr lv]]) rfl rfl (by kernel_rfl) (by kernel_rfl) (by kernel_rfl) (fun _ _ _ h => by cases h.1) (Or.inl ⟨by rfl, fun w hSw => by (try dsimp only at hSw); go_simp⟩) (by assumption) ?_
            try simp only [Act.put, List.setIfInBounds_toArray, List.set_cons_zero, List.set_cons_succ]
            refine takeH (i := 6) (some 110) (.agg #[.int .i64 Z.mc, .slice mv n kv]) rfl rfl (by kernel_rfl) (by kernel_rfl) (by kernel_rfl) (fun _ _ _ h => by cases h.1) (Or.inl ⟨by rfl, fun w hSw => by (try dsimp only at hSw); go_simp⟩) (by assumption) ?_
            try simp only [Act.put, List.setIfInBounds_toArray, List.set_cons_zero, List.set_cons_succ]
            refine takeH (i := 7) (some 111) (.agg #[.int .i64 who, .int .i64 rv, .int .i64 Z.ph, .int .i64 Z.at', .int .i64 Z.wv, .slice av np cv, .slice dv nr lv]) rfl rfl (by kernel_rfl) (by kernel_rfl) (by kernel_rfl) (fun _ _ _ h => by cases h.1) (Or.inl ⟨by rfl, fun w hSw => by (try dsimp only at hSw); go_simp⟩) (by assumption) ?_
            try simp only [Act.put, List.setIfInBounds_toArray, List.set_cons_zero, List.set_cons_succ]
            have y33 := fun i => Y29q8.cell i; have yf33 := fun i => Y29q8.froz i
            refine wpAnyH_ready (rs := [10]) (by kernel_rfl) (by simp) ?_
            refine AllReadyH.cons rfl (fun K hK => ?_) AllReadyH.nil
            go_simp
            clear y33 yf33
            refine hK.out _ _ (LD.low (((b32c.setCell (p := ⟨N29q8, 0, none⟩) l29q8 (.int .i64 Z.mc)).setCell (p := ⟨N29q8, 1, none⟩) l29q8 (.slice mv n kv)).mono hL)).cells (fun _ => ?_)
            clear hK K
            try simp only [Act.put, List.setIfInBounds_toArray, List.set_cons_zero, List.set_cons_succ]
            have hne33 : N2q9 ≠ N29q8 := blkNe Y2q9 Y29q8 (by decide)
            have Q33 := (Y2q9.other hne33 0 (.int .i64 Z.mc)).other hne33 1 (.slice mv n kv)
            have y33 := fun i => Q33.cell i; have yf33 := fun i => Q33.froz i
            refine wpAnyH_ready (rs := [11]) (by kernel_rfl) (by simp) ?_
            refine AllReadyH.cons rfl (fun K hK => ?_) AllReadyH.nil
            go_simp
            clear y33 yf33
            have bN33 := nine_below b32c l29q8 l2q9 (.int .i64 Z.mc) (.slice mv n kv) (.int .i64 who) (.int .i64 rv) (.int .i64 Z.ph) (.int .i64 Z.at') (.int .i64 Z.wv) (.slice av np cv) (.slice dv nr lv)
            have RN33 := RP.stored (who := who) (rv := rv) (Z := Z) Y29q8 Y2q9 (R1.mono hz0) (R3.mono hz0) l29q8 l2q9
            refine hK.out _ _ (LD.low (bN33.mono hL)).cells (fun _ => ?_)
            clear hK K
            refine wpAnyH_done (by kernel_rfl) ?_ _
            exact ⟨rfl, _, _, _, mv, kv, av, cv, dv, lv, rfl, bN33, RN33⟩
        · go_simp
          have A := alloc_below W2q9 (.cells #[.int .i64 0, .slice none 0 0] 33)
          have Y28q8 := Blk.new W2q9 #[.int .i64 0, .slice none 0 0] 33
          have hw := b2q9.size
          rw [hh1'] at hw
          have l28q8 : h0' ≤ W2q9.heap.size := hw
          clear hw
          have b28q8 := b2q9.trans (A.mono l28q8)
          have O1 := O1.on A (Nat.le_refl _)
          have Y2q9 := Y2q9.on A Y2q9.lt
          refine hK.out _ _ (LD.low (b28q8.mono hL)).cells (fun _ => ?_)
          clear hK K A
          try simp only [Act.put, List.setIfInBounds_toArray, List.set_cons_zero, List.set_cons_succ]
          obtain ⟨W28q8, hW⟩ : ∃ W, W2q9.alloc (.cells #[.int .i64 0, .slice none 0 0] 33) = W := ⟨_, rfl⟩
          have uY28q8 : W2q9.heap.size + 1 = W28q8.heap.size := by rw [← hW]; simp
          obtain ⟨N28q8, hN⟩ : ∃ N, W2q9.heap.size = N := ⟨_, rfl⟩
          rw [hW] at Y28q8 b28q8 O1 Y2q9 ⊢
          rw [hN] at Y28q8 l28q8 uY28q8 ⊢
          clear hW hN
          refine wpAnyH_ready (rs := [3]) (by kernel_rfl) (by simp) ?_
          refine AllReadyH.cons rfl (fun K hK => ?_) (AllReadyH.nil)
          go_simp
          refine (C3 W28q8 (LD.low (b28q8.mono hL))).mono ?_
          rintro e V34 ⟨a3, k3, d3, l3, rfl, O3, c34⟩
          have hw := b28q8.size
          rw [hh1'] at hw
          have b34c := b28q8.trans (c34.mono hw)
          have O1 := O1.on c34 (Nat.le_refl _)
          have Y2q9 := Y2q9.on c34 Y2q9.lt
          have Y28q8 := Y28q8.on c34 Y28q8.lt
          clear hw c34
          go_simp
          refine hK.out _ _ (LD.low (b34c.mono hL)).cells (fun _ => ?_)
          clear hK K
          try simp only [Act.put, List.setIfInBounds_toArray, List.set_cons_zero, List.set_cons_succ]
          refine wpAnyH_ready (rs := [4]) (by kernel_rfl) (by simp) ?_
          refine AllReadyH.cons rfl (fun K hK => ?_) (AllReadyH.nil)
          go_simp
          refine (IM V34 V34.heap.size _ _ _ O1.sees O3.sees (LD.low (b34c.mono hL)).e (Nat.le_refl _)).mono ?_
          rintro e V35 ⟨mv, kv, av, cv, dv, lv, rfl, R1, R3, c35⟩
          have hw := b34c.size
          rw [hh1'] at hw
          have b35c := b34c.trans (c35.mono hw)
          have hz0 := hw
          clear O1 O3
          have Y2q9 := Y2q9.on c35 Y2q9.lt
          have Y28q8 := Y28q8.on c35 Y28q8.lt
          clear hw c35
          go_simp
          refine hK.out _ _ (LD.low (b35c.mono hL)).cells (fun _ => ?_)
          clear hK K
          try simp only [Act.put, List.setIfInBounds_toArray, List.set_cons_zero, List.set_cons_succ]
          refine takeH (i := 5) (some 104) (.tuple #[.agg #[.int .i64 Z.mc, .slice mv n kv], .agg #[.int .i64 who, .int .i64 rv, .int .i64 Z.ph, .int .i64 Z.at', .int .i64 Z.wv, .slice av np cv, .slice dv nr lv]]) rfl rfl (by kernel_rfl) (by kernel_rfl) (by kernel_rfl) (fun _ _ _ h => by cases h.1) (Or.inl ⟨by rfl, fun w hSw => by (try dsimp only at hSw); go_simp⟩) (by assumption) ?_
          try simp only [Act.put, List.setIfInBounds_toArray, List.set_cons_zero, List.set_cons_succ]
          refine takeH (i := 6) (some 110) (.agg #[.int .i64 Z.mc, .slice mv n kv]) rfl rfl (by kernel_rfl) (by kernel_rfl) (by kernel_rfl) (fun _ _ _ h => by cases h.1) (Or.inl ⟨by rfl, fun w hSw => by (try dsimp only at hSw); go_simp⟩) (by assumption) ?_
          try simp only [Act.put, List.setIfInBounds_toArray, List.set_cons_zero, List.set_cons_succ]
          refine takeH (i := 7) (some 111) (.agg #[.int .i64 who, .int .i64 rv, .int .i64 Z.ph, .int .i64 Z.at', .int .i64 Z.wv, .slice av np cv, .slice dv nr lv]) rfl rfl (by kernel_rfl) (by kernel_rfl) (by kernel_rfl) (fun _ _ _ h => by cases h.1) (Or.inl ⟨by rfl, fun w hSw => by (try dsimp only at hSw); go_simp⟩) (by assumption) ?_
          try simp only [Act.put, List.setIfInBounds_toArray, List.set_cons_zero, List.set_cons_succ]
          have y36 := fun i => Y28q8.cell i; have yf36 := fun i => Y28q8.froz i
          refine wpAnyH_ready (rs := [10]) (by kernel_rfl) (by simp) ?_
          refine AllReadyH.cons rfl (fun K hK => ?_) AllReadyH.nil
          go_simp
          clear y36 yf36
          refine hK.out _ _ (LD.low (((b35c.setCell (p := ⟨N28q8, 0, none⟩) l28q8 (.int .i64 Z.mc)).setCell (p := ⟨N28q8, 1, none⟩) l28q8 (.slice mv n kv)).mono hL)).cells (fun _ => ?_)
          clear hK K
          try simp only [Act.put, List.setIfInBounds_toArray, List.set_cons_zero, List.set_cons_succ]
          have hne36 : N2q9 ≠ N28q8 := blkNe Y2q9 Y28q8 (by decide)
          have Q36 := (Y2q9.other hne36 0 (.int .i64 Z.mc)).other hne36 1 (.slice mv n kv)
          have y36 := fun i => Q36.cell i; have yf36 := fun i => Q36.froz i
          refine wpAnyH_ready (rs := [11]) (by kernel_rfl) (by simp) ?_
          refine AllReadyH.cons rfl (fun K hK => ?_) AllReadyH.nil
          go_simp
          clear y36 yf36
          have bN36 := nine_below b35c l28q8 l2q9 (.int .i64 Z.mc) (.slice mv n kv) (.int .i64 who) (.int .i64 rv) (.int .i64 Z.ph) (.int .i64 Z.at') (.int .i64 Z.wv) (.slice av np cv) (.slice dv nr lv)
          have RN36 := RP.stored (who := who) (rv := rv) (Z := Z) Y28q8 Y2q9 (R1.mono hz0) (R3.mono hz0) l28q8 l2q9
          refine hK.out _ _ (LD.low (bN36.mono hL)).cells (fun _ => ?_)
          clear hK K
          refine wpAnyH_done (by kernel_rfl) ?_ _
          exact ⟨rfl, _, _, _, mv, kv, av, cv, dv, lv, rfl, bN36, RN36⟩
    · go_simp
      have A := alloc_below WD (.cells #[.int .i64 0, .slice none 0 0] 33)
      have Y1q8 := Blk.new WD #[.int .i64 0, .slice none 0 0] 33
      have hw := bD.size
      rw [hh1'] at hw
      have l1q8 : h0' ≤ WD.heap.size := hw
      clear hw
      have b1q8 := bD.trans (A.mono l1q8)
      refine hK.out _ _ (LD.low (b1q8.mono hL)).cells (fun _ => ?_)
      clear hK K A
      try simp only [Act.put, List.setIfInBounds_toArray, List.set_cons_zero, List.set_cons_succ]
      obtain ⟨W1q8, hW⟩ : ∃ W, WD.alloc (.cells #[.int .i64 0, .slice none 0 0] 33) = W := ⟨_, rfl⟩
      have uY1q8 : WD.heap.size + 1 = W1q8.heap.size := by rw [← hW]; simp
      obtain ⟨N1q8, hN⟩ : ∃ N, WD.heap.size = N := ⟨_, rfl⟩
      rw [hW] at Y1q8 b1q8 ⊢
      rw [hN] at Y1q8 l1q8 uY1q8 ⊢
      clear hW hN
      refine wpAnyH_ready (rs := [1, 9]) (by kernel_rfl) (by simp) ?_
      refine AllReadyH.cons rfl (fun K hK => ?_) (AllReadyH.cons rfl (fun K hK => ?_) (AllReadyH.nil))
      · go_simp
        refine (C1 W1q8 (LD.low (b1q8.mono hL))).mono ?_
        rintro e V37 ⟨a1, k1, rfl, O1, c37⟩
        have hw := b1q8.size
        rw [hh1'] at hw
        have b37c := b1q8.trans (c37.mono hw)
        have Y1q8 := Y1q8.on c37 Y1q8.lt
        clear hw c37
        go_simp
        refine hK.out _ _ (LD.low (b37c.mono hL)).cells (fun _ => ?_)
        clear hK K
        try simp only [Act.put, List.setIfInBounds_toArray, List.set_cons_zero, List.set_cons_succ]
        refine wpAnyH_ready (rs := [3, 9]) (by kernel_rfl) (by simp) ?_
        refine AllReadyH.cons rfl (fun K hK => ?_) (AllReadyH.cons rfl (fun K hK => ?_) (AllReadyH.nil))
        · go_simp
          refine (C3 V37 (LD.low (b37c.mono hL))).mono ?_
          rintro e V38 ⟨a3, k3, d3, l3, rfl, O3, c38⟩
          have hw := b37c.size
          rw [hh1'] at hw
          have b38c := b37c.trans (c38.mono hw)
          have Y1q8 := Y1q8.on c38 Y1q8.lt
          have O1 := O1.on c38 (Nat.le_refl _)
          clear hw c38
          go_simp
          refine hK.out _ _ (LD.low (b38c.mono hL)).cells (fun _ => ?_)
          clear hK K
          try simp only [Act.put, List.setIfInBounds_toArray, List.set_cons_zero, List.set_cons_succ]
          refine wpAnyH_ready (rs := [4, 9]) (by kernel_rfl) (by simp) ?_
          refine AllReadyH.cons rfl (fun K hK => ?_) (AllReadyH.cons rfl (fun K hK => ?_) (AllReadyH.nil))
          · go_simp
            refine (IM V38 V38.heap.size _ _ _ O1.sees O3.sees (LD.low (b38c.mono hL)).e (Nat.le_refl _)).mono ?_
            rintro e V39 ⟨mv, kv, av, cv, dv, lv, rfl, R1, R3, c39⟩
            have hw := b38c.size
            rw [hh1'] at hw
            have b39c := b38c.trans (c39.mono hw)
            have hz0 := hw
            clear O1 O3
            have Y1q8 := Y1q8.on c39 Y1q8.lt
            clear hw c39
            go_simp
            refine hK.out _ _ (LD.low (b39c.mono hL)).cells (fun _ => ?_)
            clear hK K
            try simp only [Act.put, List.setIfInBounds_toArray, List.set_cons_zero, List.set_cons_succ]
            refine takeH (i := 5) (some 104) (.tuple #[.agg #[.int .i64 Z.mc, .slice mv n kv], .agg #[.int .i64 who, .int .i64 rv, .int .i64 Z.ph, .int .i64 Z.at', .int .i64 Z.wv, .slice av np cv, .slice dv nr lv]]) rfl rfl (by kernel_rfl) (by kernel_rfl) (by kernel_rfl) (fun _ _ _ h => by cases h.1) (Or.inl ⟨by rfl, fun w hSw => by (try dsimp only at hSw); go_simp⟩) (by assumption) ?_
            try simp only [Act.put, List.setIfInBounds_toArray, List.set_cons_zero, List.set_cons_succ]
            refine takeH (i := 6) (some 110) (.agg #[.int .i64 Z.mc, .slice mv n kv]) rfl rfl (by kernel_rfl) (by kernel_rfl) (by kernel_rfl) (fun _ _ _ h => by cases h.1) (Or.inl ⟨by rfl, fun w hSw => by (try dsimp only at hSw); go_simp⟩) (by assumption) ?_
            try simp only [Act.put, List.setIfInBounds_toArray, List.set_cons_zero, List.set_cons_succ]
            refine takeH (i := 7) (some 111) (.agg #[.int .i64 who, .int .i64 rv, .int .i64 Z.ph, .int .i64 Z.at', .int .i64 Z.wv, .slice av np cv, .slice dv nr lv]) rfl rfl (by kernel_rfl) (by kernel_rfl) (by kernel_rfl) (fun _ _ _ h => by cases h.1) (Or.inl ⟨by rfl, fun w hSw => by (try dsimp only at hSw); go_simp⟩) (by assumption) ?_
            try simp only [Act.put, List.setIfInBounds_toArray, List.set_cons_zero, List.set_cons_succ]
            refine wpAnyH_ready (rs := [9]) (by kernel_rfl) (by simp) ?_
            refine AllReadyH.cons rfl (fun K hK => ?_) (AllReadyH.nil)
            go_simp
            have A := alloc_below V39 (.cells #[.int .i64 0, .int .i64 0, .int .i64 0, .int .i64 0, .int .i64 0, .slice none 0 0, .slice none 0 0] 36)
            have Y40q9 := Blk.new V39 #[.int .i64 0, .int .i64 0, .int .i64 0, .int .i64 0, .int .i64 0, .slice none 0 0, .slice none 0 0] 36
            have hw := b39c.size
            rw [hh1'] at hw
            have l40q9 : h0' ≤ V39.heap.size := hw
            clear hw
            have b40q9 := b39c.trans (A.mono l40q9)
            have Y1q8 := Y1q8.on A Y1q8.lt
            have R1 := R1.on A (Nat.le_refl _)
            have R3 := R3.on A (Nat.le_refl _)
            refine hK.out _ _ (LD.low (b40q9.mono hL)).cells (fun _ => ?_)
            clear hK K A
            try simp only [Act.put, List.setIfInBounds_toArray, List.set_cons_zero, List.set_cons_succ]
            obtain ⟨W40q9, hW⟩ : ∃ W, V39.alloc (.cells #[.int .i64 0, .int .i64 0, .int .i64 0, .int .i64 0, .int .i64 0, .slice none 0 0, .slice none 0 0] 36) = W := ⟨_, rfl⟩
            have uY40q9 : V39.heap.size + 1 = W40q9.heap.size := by rw [← hW]; simp
            obtain ⟨N40q9, hN⟩ : ∃ N, V39.heap.size = N := ⟨_, rfl⟩
            rw [hW] at Y40q9 b40q9 Y1q8 R1 R3 ⊢
            rw [hN] at Y40q9 l40q9 uY40q9 ⊢
            clear hW hN
            have y41 := fun i => Y1q8.cell i; have yf41 := fun i => Y1q8.froz i
            refine wpAnyH_ready (rs := [10]) (by kernel_rfl) (by simp) ?_
            refine AllReadyH.cons rfl (fun K hK => ?_) AllReadyH.nil
            go_simp
            clear y41 yf41
            refine hK.out _ _ (LD.low (((b40q9.setCell (p := ⟨N1q8, 0, none⟩) l1q8 (.int .i64 Z.mc)).setCell (p := ⟨N1q8, 1, none⟩) l1q8 (.slice mv n kv)).mono hL)).cells (fun _ => ?_)
            clear hK K
            try simp only [Act.put, List.setIfInBounds_toArray, List.set_cons_zero, List.set_cons_succ]
            have hne41 : N40q9 ≠ N1q8 := blkNe Y40q9 Y1q8 (by decide)
            have Q41 := (Y40q9.other hne41 0 (.int .i64 Z.mc)).other hne41 1 (.slice mv n kv)
            have y41 := fun i => Q41.cell i; have yf41 := fun i => Q41.froz i
            refine wpAnyH_ready (rs := [11]) (by kernel_rfl) (by simp) ?_
            refine AllReadyH.cons rfl (fun K hK => ?_) AllReadyH.nil
            go_simp
            clear y41 yf41
            have bN41 := nine_below b40q9 l1q8 l40q9 (.int .i64 Z.mc) (.slice mv n kv) (.int .i64 who) (.int .i64 rv) (.int .i64 Z.ph) (.int .i64 Z.at') (.int .i64 Z.wv) (.slice av np cv) (.slice dv nr lv)
            have RN41 := RP.stored (who := who) (rv := rv) (Z := Z) Y1q8 Y40q9 (R1.mono hz0) (R3.mono hz0) l1q8 l40q9
            refine hK.out _ _ (LD.low (bN41.mono hL)).cells (fun _ => ?_)
            clear hK K
            refine wpAnyH_done (by kernel_rfl) ?_ _
            exact ⟨rfl, _, _, _, mv, kv, av, cv, dv, lv, rfl, bN41, RN41⟩
          · go_simp
            have A := alloc_below V38 (.cells #[.int .i64 0, .int .i64 0, .int .i64 0, .int .i64 0, .int .i64 0, .slice none 0 0, .slice none 0 0] 36)
            have Y39q9 := Blk.new V38 #[.int .i64 0, .int .i64 0, .int .i64 0, .int .i64 0, .int .i64 0, .slice none 0 0, .slice none 0 0] 36
            have hw := b38c.size
            rw [hh1'] at hw
            have l39q9 : h0' ≤ V38.heap.size := hw
            clear hw
            have b39q9 := b38c.trans (A.mono l39q9)
            have Y1q8 := Y1q8.on A Y1q8.lt
            have O1 := O1.on A (Nat.le_refl _)
            have O3 := O3.on A (Nat.le_refl _)
            refine hK.out _ _ (LD.low (b39q9.mono hL)).cells (fun _ => ?_)
            clear hK K A
            try simp only [Act.put, List.setIfInBounds_toArray, List.set_cons_zero, List.set_cons_succ]
            obtain ⟨W39q9, hW⟩ : ∃ W, V38.alloc (.cells #[.int .i64 0, .int .i64 0, .int .i64 0, .int .i64 0, .int .i64 0, .slice none 0 0, .slice none 0 0] 36) = W := ⟨_, rfl⟩
            have uY39q9 : V38.heap.size + 1 = W39q9.heap.size := by rw [← hW]; simp
            obtain ⟨N39q9, hN⟩ : ∃ N, V38.heap.size = N := ⟨_, rfl⟩
            rw [hW] at Y39q9 b39q9 Y1q8 O1 O3 ⊢
            rw [hN] at Y39q9 l39q9 uY39q9 ⊢
            clear hW hN
            refine wpAnyH_ready (rs := [4]) (by kernel_rfl) (by simp) ?_
            refine AllReadyH.cons rfl (fun K hK => ?_) (AllReadyH.nil)
            go_simp
            refine (IM W39q9 W39q9.heap.size _ _ _ O1.sees O3.sees (LD.low (b39q9.mono hL)).e (Nat.le_refl _)).mono ?_
            rintro e V42 ⟨mv, kv, av, cv, dv, lv, rfl, R1, R3, c42⟩
            have hw := b39q9.size
            rw [hh1'] at hw
            have b42c := b39q9.trans (c42.mono hw)
            have hz0 := hw
            clear O1 O3
            have Y1q8 := Y1q8.on c42 Y1q8.lt
            have Y39q9 := Y39q9.on c42 Y39q9.lt
            clear hw c42
            go_simp
            refine hK.out _ _ (LD.low (b42c.mono hL)).cells (fun _ => ?_)
            clear hK K
            try simp only [Act.put, List.setIfInBounds_toArray, List.set_cons_zero, List.set_cons_succ]
            refine takeH (i := 5) (some 104) (.tuple #[.agg #[.int .i64 Z.mc, .slice mv n kv], .agg #[.int .i64 who, .int .i64 rv, .int .i64 Z.ph, .int .i64 Z.at', .int .i64 Z.wv, .slice av np cv, .slice dv nr lv]]) rfl rfl (by kernel_rfl) (by kernel_rfl) (by kernel_rfl) (fun _ _ _ h => by cases h.1) (Or.inl ⟨by rfl, fun w hSw => by (try dsimp only at hSw); go_simp⟩) (by assumption) ?_
            try simp only [Act.put, List.setIfInBounds_toArray, List.set_cons_zero, List.set_cons_succ]
            refine takeH (i := 6) (some 110) (.agg #[.int .i64 Z.mc, .slice mv n kv]) rfl rfl (by kernel_rfl) (by kernel_rfl) (by kernel_rfl) (fun _ _ _ h => by cases h.1) (Or.inl ⟨by rfl, fun w hSw => by (try dsimp only at hSw); go_simp⟩) (by assumption) ?_
            try simp only [Act.put, List.setIfInBounds_toArray, List.set_cons_zero, List.set_cons_succ]
            refine takeH (i := 7) (some 111) (.agg #[.int .i64 who, .int .i64 rv, .int .i64 Z.ph, .int .i64 Z.at', .int .i64 Z.wv, .slice av np cv, .slice dv nr lv]) rfl rfl (by kernel_rfl) (by kernel_rfl) (by kernel_rfl) (fun _ _ _ h => by cases h.1) (Or.inl ⟨by rfl, fun w hSw => by (try dsimp only at hSw); go_simp⟩) (by assumption) ?_
            try simp only [Act.put, List.setIfInBounds_toArray, List.set_cons_zero, List.set_cons_succ]
            have y43 := fun i => Y1q8.cell i; have yf43 := fun i => Y1q8.froz i
            refine wpAnyH_ready (rs := [10]) (by kernel_rfl) (by simp) ?_
            refine AllReadyH.cons rfl (fun K hK => ?_) AllReadyH.nil
            go_simp
            clear y43 yf43
            refine hK.out _ _ (LD.low (((b42c.setCell (p := ⟨N1q8, 0, none⟩) l1q8 (.int .i64 Z.mc)).setCell (p := ⟨N1q8, 1, none⟩) l1q8 (.slice mv n kv)).mono hL)).cells (fun _ => ?_)
            clear hK K
            try simp only [Act.put, List.setIfInBounds_toArray, List.set_cons_zero, List.set_cons_succ]
            have hne43 : N39q9 ≠ N1q8 := blkNe Y39q9 Y1q8 (by decide)
            have Q43 := (Y39q9.other hne43 0 (.int .i64 Z.mc)).other hne43 1 (.slice mv n kv)
            have y43 := fun i => Q43.cell i; have yf43 := fun i => Q43.froz i
            refine wpAnyH_ready (rs := [11]) (by kernel_rfl) (by simp) ?_
            refine AllReadyH.cons rfl (fun K hK => ?_) AllReadyH.nil
            go_simp
            clear y43 yf43
            have bN43 := nine_below b42c l1q8 l39q9 (.int .i64 Z.mc) (.slice mv n kv) (.int .i64 who) (.int .i64 rv) (.int .i64 Z.ph) (.int .i64 Z.at') (.int .i64 Z.wv) (.slice av np cv) (.slice dv nr lv)
            have RN43 := RP.stored (who := who) (rv := rv) (Z := Z) Y1q8 Y39q9 (R1.mono hz0) (R3.mono hz0) l1q8 l39q9
            refine hK.out _ _ (LD.low (bN43.mono hL)).cells (fun _ => ?_)
            clear hK K
            refine wpAnyH_done (by kernel_rfl) ?_ _
            exact ⟨rfl, _, _, _, mv, kv, av, cv, dv, lv, rfl, bN43, RN43⟩
        · go_simp
          have A := alloc_below V37 (.cells #[.int .i64 0, .int .i64 0, .int .i64 0, .int .i64 0, .int .i64 0, .slice none 0 0, .slice none 0 0] 36)
          have Y38q9 := Blk.new V37 #[.int .i64 0, .int .i64 0, .int .i64 0, .int .i64 0, .int .i64 0, .slice none 0 0, .slice none 0 0] 36
          have hw := b37c.size
          rw [hh1'] at hw
          have l38q9 : h0' ≤ V37.heap.size := hw
          clear hw
          have b38q9 := b37c.trans (A.mono l38q9)
          have Y1q8 := Y1q8.on A Y1q8.lt
          have O1 := O1.on A (Nat.le_refl _)
          refine hK.out _ _ (LD.low (b38q9.mono hL)).cells (fun _ => ?_)
          clear hK K A
          try simp only [Act.put, List.setIfInBounds_toArray, List.set_cons_zero, List.set_cons_succ]
          obtain ⟨W38q9, hW⟩ : ∃ W, V37.alloc (.cells #[.int .i64 0, .int .i64 0, .int .i64 0, .int .i64 0, .int .i64 0, .slice none 0 0, .slice none 0 0] 36) = W := ⟨_, rfl⟩
          have uY38q9 : V37.heap.size + 1 = W38q9.heap.size := by rw [← hW]; simp
          obtain ⟨N38q9, hN⟩ : ∃ N, V37.heap.size = N := ⟨_, rfl⟩
          rw [hW] at Y38q9 b38q9 Y1q8 O1 ⊢
          rw [hN] at Y38q9 l38q9 uY38q9 ⊢
          clear hW hN
          refine wpAnyH_ready (rs := [3]) (by kernel_rfl) (by simp) ?_
          refine AllReadyH.cons rfl (fun K hK => ?_) (AllReadyH.nil)
          go_simp
          refine (C3 W38q9 (LD.low (b38q9.mono hL))).mono ?_
          rintro e V44 ⟨a3, k3, d3, l3, rfl, O3, c44⟩
          have hw := b38q9.size
          rw [hh1'] at hw
          have b44c := b38q9.trans (c44.mono hw)
          have Y1q8 := Y1q8.on c44 Y1q8.lt
          have O1 := O1.on c44 (Nat.le_refl _)
          have Y38q9 := Y38q9.on c44 Y38q9.lt
          clear hw c44
          go_simp
          refine hK.out _ _ (LD.low (b44c.mono hL)).cells (fun _ => ?_)
          clear hK K
          try simp only [Act.put, List.setIfInBounds_toArray, List.set_cons_zero, List.set_cons_succ]
          refine wpAnyH_ready (rs := [4]) (by kernel_rfl) (by simp) ?_
          refine AllReadyH.cons rfl (fun K hK => ?_) (AllReadyH.nil)
          go_simp
          refine (IM V44 V44.heap.size _ _ _ O1.sees O3.sees (LD.low (b44c.mono hL)).e (Nat.le_refl _)).mono ?_
          rintro e V45 ⟨mv, kv, av, cv, dv, lv, rfl, R1, R3, c45⟩
          have hw := b44c.size
          rw [hh1'] at hw
          have b45c := b44c.trans (c45.mono hw)
          have hz0 := hw
          clear O1 O3
          have Y1q8 := Y1q8.on c45 Y1q8.lt
          have Y38q9 := Y38q9.on c45 Y38q9.lt
          clear hw c45
          go_simp
          refine hK.out _ _ (LD.low (b45c.mono hL)).cells (fun _ => ?_)
          clear hK K
          try simp only [Act.put, List.setIfInBounds_toArray, List.set_cons_zero, List.set_cons_succ]
          refine takeH (i := 5) (some 104) (.tuple #[.agg #[.int .i64 Z.mc, .slice mv n kv], .agg #[.int .i64 who, .int .i64 rv, .int .i64 Z.ph, .int .i64 Z.at', .int .i64 Z.wv, .slice av np cv, .slice dv nr lv]]) rfl rfl (by kernel_rfl) (by kernel_rfl) (by kernel_rfl) (fun _ _ _ h => by cases h.1) (Or.inl ⟨by rfl, fun w hSw => by (try dsimp only at hSw); go_simp⟩) (by assumption) ?_
          try simp only [Act.put, List.setIfInBounds_toArray, List.set_cons_zero, List.set_cons_succ]
          refine takeH (i := 6) (some 110) (.agg #[.int .i64 Z.mc, .slice mv n kv]) rfl rfl (by kernel_rfl) (by kernel_rfl) (by kernel_rfl) (fun _ _ _ h => by cases h.1) (Or.inl ⟨by rfl, fun w hSw => by (try dsimp only at hSw); go_simp⟩) (by assumption) ?_
          try simp only [Act.put, List.setIfInBounds_toArray, List.set_cons_zero, List.set_cons_succ]
          refine takeH (i := 7) (some 111) (.agg #[.int .i64 who, .int .i64 rv, .int .i64 Z.ph, .int .i64 Z.at', .int .i64 Z.wv, .slice av np cv, .slice dv nr lv]) rfl rfl (by kernel_rfl) (by kernel_rfl) (by kernel_rfl) (fun _ _ _ h => by cases h.1) (Or.inl ⟨by rfl, fun w hSw => by (try dsimp only at hSw); go_simp⟩) (by assumption) ?_
          try simp only [Act.put, List.setIfInBounds_toArray, List.set_cons_zero, List.set_cons_succ]
          have y46 := fun i => Y1q8.cell i; have yf46 := fun i => Y1q8.froz i
          refine wpAnyH_ready (rs := [10]) (by kernel_rfl) (by simp) ?_
          refine AllReadyH.cons rfl (fun K hK => ?_) AllReadyH.nil
          go_simp
          clear y46 yf46
          refine hK.out _ _ (LD.low (((b45c.setCell (p := ⟨N1q8, 0, none⟩) l1q8 (.int .i64 Z.mc)).setCell (p := ⟨N1q8, 1, none⟩) l1q8 (.slice mv n kv)).mono hL)).cells (fun _ => ?_)
          clear hK K
          try simp only [Act.put, List.setIfInBounds_toArray, List.set_cons_zero, List.set_cons_succ]
          have hne46 : N38q9 ≠ N1q8 := blkNe Y38q9 Y1q8 (by decide)
          have Q46 := (Y38q9.other hne46 0 (.int .i64 Z.mc)).other hne46 1 (.slice mv n kv)
          have y46 := fun i => Q46.cell i; have yf46 := fun i => Q46.froz i
          refine wpAnyH_ready (rs := [11]) (by kernel_rfl) (by simp) ?_
          refine AllReadyH.cons rfl (fun K hK => ?_) AllReadyH.nil
          go_simp
          clear y46 yf46
          have bN46 := nine_below b45c l1q8 l38q9 (.int .i64 Z.mc) (.slice mv n kv) (.int .i64 who) (.int .i64 rv) (.int .i64 Z.ph) (.int .i64 Z.at') (.int .i64 Z.wv) (.slice av np cv) (.slice dv nr lv)
          have RN46 := RP.stored (who := who) (rv := rv) (Z := Z) Y1q8 Y38q9 (R1.mono hz0) (R3.mono hz0) l1q8 l38q9
          refine hK.out _ _ (LD.low (bN46.mono hL)).cells (fun _ => ?_)
          clear hK K
          refine wpAnyH_done (by kernel_rfl) ?_ _
          exact ⟨rfl, _, _, _, mv, kv, av, cv, dv, lv, rfl, bN46, RN46⟩
      · go_simp
        have A := alloc_below W1q8 (.cells #[.int .i64 0, .int .i64 0, .int .i64 0, .int .i64 0, .int .i64 0, .slice none 0 0, .slice none 0 0] 36)
        have Y37q9 := Blk.new W1q8 #[.int .i64 0, .int .i64 0, .int .i64 0, .int .i64 0, .int .i64 0, .slice none 0 0, .slice none 0 0] 36
        have hw := b1q8.size
        rw [hh1'] at hw
        have l37q9 : h0' ≤ W1q8.heap.size := hw
        clear hw
        have b37q9 := b1q8.trans (A.mono l37q9)
        have Y1q8 := Y1q8.on A Y1q8.lt
        refine hK.out _ _ (LD.low (b37q9.mono hL)).cells (fun _ => ?_)
        clear hK K A
        try simp only [Act.put, List.setIfInBounds_toArray, List.set_cons_zero, List.set_cons_succ]
        obtain ⟨W37q9, hW⟩ : ∃ W, W1q8.alloc (.cells #[.int .i64 0, .int .i64 0, .int .i64 0, .int .i64 0, .int .i64 0, .slice none 0 0, .slice none 0 0] 36) = W := ⟨_, rfl⟩
        have uY37q9 : W1q8.heap.size + 1 = W37q9.heap.size := by rw [← hW]; simp
        obtain ⟨N37q9, hN⟩ : ∃ N, W1q8.heap.size = N := ⟨_, rfl⟩
        rw [hW] at Y37q9 b37q9 Y1q8 ⊢
        rw [hN] at Y37q9 l37q9 uY37q9 ⊢
        clear hW hN
        refine wpAnyH_ready (rs := [1]) (by kernel_rfl) (by simp) ?_
        refine AllReadyH.cons rfl (fun K hK => ?_) (AllReadyH.nil)
        go_simp
        refine (C1 W37q9 (LD.low (b37q9.mono hL))).mono ?_
        rintro e V47 ⟨a1, k1, rfl, O1, c47⟩
        have hw := b37q9.size
        rw [hh1'] at hw
        have b47c := b37q9.trans (c47.mono hw)
        have Y1q8 := Y1q8.on c47 Y1q8.lt
        have Y37q9 := Y37q9.on c47 Y37q9.lt
        clear hw c47
        go_simp
        refine hK.out _ _ (LD.low (b47c.mono hL)).cells (fun _ => ?_)
        clear hK K
        try simp only [Act.put, List.setIfInBounds_toArray, List.set_cons_zero, List.set_cons_succ]
        refine wpAnyH_ready (rs := [3]) (by kernel_rfl) (by simp) ?_
        refine AllReadyH.cons rfl (fun K hK => ?_) (AllReadyH.nil)
        go_simp
        refine (C3 V47 (LD.low (b47c.mono hL))).mono ?_
        rintro e V48 ⟨a3, k3, d3, l3, rfl, O3, c48⟩
        have hw := b47c.size
        rw [hh1'] at hw
        have b48c := b47c.trans (c48.mono hw)
        have Y1q8 := Y1q8.on c48 Y1q8.lt
        have Y37q9 := Y37q9.on c48 Y37q9.lt
        have O1 := O1.on c48 (Nat.le_refl _)
        clear hw c48
        go_simp
        refine hK.out _ _ (LD.low (b48c.mono hL)).cells (fun _ => ?_)
        clear hK K
        try simp only [Act.put, List.setIfInBounds_toArray, List.set_cons_zero, List.set_cons_succ]
        refine wpAnyH_ready (rs := [4]) (by kernel_rfl) (by simp) ?_
        refine AllReadyH.cons rfl (fun K hK => ?_) (AllReadyH.nil)
        go_simp
        refine (IM V48 V48.heap.size _ _ _ O1.sees O3.sees (LD.low (b48c.mono hL)).e (Nat.le_refl _)).mono ?_
        rintro e V49 ⟨mv, kv, av, cv, dv, lv, rfl, R1, R3, c49⟩
        have hw := b48c.size
        rw [hh1'] at hw
        have b49c := b48c.trans (c49.mono hw)
        have hz0 := hw
        clear O1 O3
        have Y1q8 := Y1q8.on c49 Y1q8.lt
        have Y37q9 := Y37q9.on c49 Y37q9.lt
        clear hw c49
        go_simp
        refine hK.out _ _ (LD.low (b49c.mono hL)).cells (fun _ => ?_)
        clear hK K
        try simp only [Act.put, List.setIfInBounds_toArray, List.set_cons_zero, List.set_cons_succ]
        refine takeH (i := 5) (some 104) (.tuple #[.agg #[.int .i64 Z.mc, .slice mv n kv], .agg #[.int .i64 who, .int .i64 rv, .int .i64 Z.ph, .int .i64 Z.at', .int .i64 Z.wv, .slice av np cv, .slice dv nr lv]]) rfl rfl (by kernel_rfl) (by kernel_rfl) (by kernel_rfl) (fun _ _ _ h => by cases h.1) (Or.inl ⟨by rfl, fun w hSw => by (try dsimp only at hSw); go_simp⟩) (by assumption) ?_
        try simp only [Act.put, List.setIfInBounds_toArray, List.set_cons_zero, List.set_cons_succ]
        refine takeH (i := 6) (some 110) (.agg #[.int .i64 Z.mc, .slice mv n kv]) rfl rfl (by kernel_rfl) (by kernel_rfl) (by kernel_rfl) (fun _ _ _ h => by cases h.1) (Or.inl ⟨by rfl, fun w hSw => by (try dsimp only at hSw); go_simp⟩) (by assumption) ?_
        try simp only [Act.put, List.setIfInBounds_toArray, List.set_cons_zero, List.set_cons_succ]
        refine takeH (i := 7) (some 111) (.agg #[.int .i64 who, .int .i64 rv, .int .i64 Z.ph, .int .i64 Z.at', .int .i64 Z.wv, .slice av np cv, .slice dv nr lv]) rfl rfl (by kernel_rfl) (by kernel_rfl) (by kernel_rfl) (fun _ _ _ h => by cases h.1) (Or.inl ⟨by rfl, fun w hSw => by (try dsimp only at hSw); go_simp⟩) (by assumption) ?_
        try simp only [Act.put, List.setIfInBounds_toArray, List.set_cons_zero, List.set_cons_succ]
        have y50 := fun i => Y1q8.cell i; have yf50 := fun i => Y1q8.froz i
        refine wpAnyH_ready (rs := [10]) (by kernel_rfl) (by simp) ?_
        refine AllReadyH.cons rfl (fun K hK => ?_) AllReadyH.nil
        go_simp
        clear y50 yf50
        refine hK.out _ _ (LD.low (((b49c.setCell (p := ⟨N1q8, 0, none⟩) l1q8 (.int .i64 Z.mc)).setCell (p := ⟨N1q8, 1, none⟩) l1q8 (.slice mv n kv)).mono hL)).cells (fun _ => ?_)
        clear hK K
        try simp only [Act.put, List.setIfInBounds_toArray, List.set_cons_zero, List.set_cons_succ]
        have hne50 : N37q9 ≠ N1q8 := blkNe Y37q9 Y1q8 (by decide)
        have Q50 := (Y37q9.other hne50 0 (.int .i64 Z.mc)).other hne50 1 (.slice mv n kv)
        have y50 := fun i => Q50.cell i; have yf50 := fun i => Q50.froz i
        refine wpAnyH_ready (rs := [11]) (by kernel_rfl) (by simp) ?_
        refine AllReadyH.cons rfl (fun K hK => ?_) AllReadyH.nil
        go_simp
        clear y50 yf50
        have bN50 := nine_below b49c l1q8 l37q9 (.int .i64 Z.mc) (.slice mv n kv) (.int .i64 who) (.int .i64 rv) (.int .i64 Z.ph) (.int .i64 Z.at') (.int .i64 Z.wv) (.slice av np cv) (.slice dv nr lv)
        have RN50 := RP.stored (who := who) (rv := rv) (Z := Z) Y1q8 Y37q9 (R1.mono hz0) (R3.mono hz0) l1q8 l37q9
        refine hK.out _ _ (LD.low (bN50.mono hL)).cells (fun _ => ?_)
        clear hK K
        refine wpAnyH_done (by kernel_rfl) ?_ _
        exact ⟨rfl, _, _, _, mv, kv, av, cv, dv, lv, rfl, bN50, RN50⟩
    · go_simp
      have A := alloc_below WD (.cells #[.int .i64 0, .int .i64 0, .int .i64 0, .int .i64 0, .int .i64 0, .slice none 0 0, .slice none 0 0] 36)
      have Y1q9 := Blk.new WD #[.int .i64 0, .int .i64 0, .int .i64 0, .int .i64 0, .int .i64 0, .slice none 0 0, .slice none 0 0] 36
      have hw := bD.size
      rw [hh1'] at hw
      have l1q9 : h0' ≤ WD.heap.size := hw
      clear hw
      have b1q9 := bD.trans (A.mono l1q9)
      refine hK.out _ _ (LD.low (b1q9.mono hL)).cells (fun _ => ?_)
      clear hK K A
      try simp only [Act.put, List.setIfInBounds_toArray, List.set_cons_zero, List.set_cons_succ]
      obtain ⟨W1q9, hW⟩ : ∃ W, WD.alloc (.cells #[.int .i64 0, .int .i64 0, .int .i64 0, .int .i64 0, .int .i64 0, .slice none 0 0, .slice none 0 0] 36) = W := ⟨_, rfl⟩
      have uY1q9 : WD.heap.size + 1 = W1q9.heap.size := by rw [← hW]; simp
      obtain ⟨N1q9, hN⟩ : ∃ N, WD.heap.size = N := ⟨_, rfl⟩
      rw [hW] at Y1q9 b1q9 ⊢
      rw [hN] at Y1q9 l1q9 uY1q9 ⊢
      clear hW hN
      refine wpAnyH_ready (rs := [1, 8]) (by kernel_rfl) (by simp) ?_
      refine AllReadyH.cons rfl (fun K hK => ?_) (AllReadyH.cons rfl (fun K hK => ?_) (AllReadyH.nil))
      · go_simp
        refine (C1 W1q9 (LD.low (b1q9.mono hL))).mono ?_
        rintro e V51 ⟨a1, k1, rfl, O1, c51⟩
        have hw := b1q9.size
        rw [hh1'] at hw
        have b51c := b1q9.trans (c51.mono hw)
        have Y1q9 := Y1q9.on c51 Y1q9.lt
        clear hw c51
        go_simp
        refine hK.out _ _ (LD.low (b51c.mono hL)).cells (fun _ => ?_)
        clear hK K
        try simp only [Act.put, List.setIfInBounds_toArray, List.set_cons_zero, List.set_cons_succ]
        refine wpAnyH_ready (rs := [3, 8]) (by kernel_rfl) (by simp) ?_
        refine AllReadyH.cons rfl (fun K hK => ?_) (AllReadyH.cons rfl (fun K hK => ?_) (AllReadyH.nil))
        · go_simp
          refine (C3 V51 (LD.low (b51c.mono hL))).mono ?_
          rintro e V52 ⟨a3, k3, d3, l3, rfl, O3, c52⟩
          have hw := b51c.size
          rw [hh1'] at hw
          have b52c := b51c.trans (c52.mono hw)
          have Y1q9 := Y1q9.on c52 Y1q9.lt
          have O1 := O1.on c52 (Nat.le_refl _)
          clear hw c52
          go_simp
          refine hK.out _ _ (LD.low (b52c.mono hL)).cells (fun _ => ?_)
          clear hK K
          try simp only [Act.put, List.setIfInBounds_toArray, List.set_cons_zero, List.set_cons_succ]
          refine wpAnyH_ready (rs := [4, 8]) (by kernel_rfl) (by simp) ?_
          refine AllReadyH.cons rfl (fun K hK => ?_) (AllReadyH.cons rfl (fun K hK => ?_) (AllReadyH.nil))
          · go_simp
            refine (IM V52 V52.heap.size _ _ _ O1.sees O3.sees (LD.low (b52c.mono hL)).e (Nat.le_refl _)).mono ?_
            rintro e V53 ⟨mv, kv, av, cv, dv, lv, rfl, R1, R3, c53⟩
            have hw := b52c.size
            rw [hh1'] at hw
            have b53c := b52c.trans (c53.mono hw)
            have hz0 := hw
            clear O1 O3
            have Y1q9 := Y1q9.on c53 Y1q9.lt
            clear hw c53
            go_simp
            refine hK.out _ _ (LD.low (b53c.mono hL)).cells (fun _ => ?_)
            clear hK K
            try simp only [Act.put, List.setIfInBounds_toArray, List.set_cons_zero, List.set_cons_succ]
            refine takeH (i := 5) (some 104) (.tuple #[.agg #[.int .i64 Z.mc, .slice mv n kv], .agg #[.int .i64 who, .int .i64 rv, .int .i64 Z.ph, .int .i64 Z.at', .int .i64 Z.wv, .slice av np cv, .slice dv nr lv]]) rfl rfl (by kernel_rfl) (by kernel_rfl) (by kernel_rfl) (fun _ _ _ h => by cases h.1) (Or.inl ⟨by rfl, fun w hSw => by (try dsimp only at hSw); go_simp⟩) (by assumption) ?_
            try simp only [Act.put, List.setIfInBounds_toArray, List.set_cons_zero, List.set_cons_succ]
            refine takeH (i := 6) (some 110) (.agg #[.int .i64 Z.mc, .slice mv n kv]) rfl rfl (by kernel_rfl) (by kernel_rfl) (by kernel_rfl) (fun _ _ _ h => by cases h.1) (Or.inl ⟨by rfl, fun w hSw => by (try dsimp only at hSw); go_simp⟩) (by assumption) ?_
            try simp only [Act.put, List.setIfInBounds_toArray, List.set_cons_zero, List.set_cons_succ]
            refine takeH (i := 7) (some 111) (.agg #[.int .i64 who, .int .i64 rv, .int .i64 Z.ph, .int .i64 Z.at', .int .i64 Z.wv, .slice av np cv, .slice dv nr lv]) rfl rfl (by kernel_rfl) (by kernel_rfl) (by kernel_rfl) (fun _ _ _ h => by cases h.1) (Or.inl ⟨by rfl, fun w hSw => by (try dsimp only at hSw); go_simp⟩) (by assumption) ?_
            try simp only [Act.put, List.setIfInBounds_toArray, List.set_cons_zero, List.set_cons_succ]
            refine wpAnyH_ready (rs := [8]) (by kernel_rfl) (by simp) ?_
            refine AllReadyH.cons rfl (fun K hK => ?_) (AllReadyH.nil)
            go_simp
            have A := alloc_below V53 (.cells #[.int .i64 0, .slice none 0 0] 33)
            have Y54q8 := Blk.new V53 #[.int .i64 0, .slice none 0 0] 33
            have hw := b53c.size
            rw [hh1'] at hw
            have l54q8 : h0' ≤ V53.heap.size := hw
            clear hw
            have b54q8 := b53c.trans (A.mono l54q8)
            have Y1q9 := Y1q9.on A Y1q9.lt
            have R1 := R1.on A (Nat.le_refl _)
            have R3 := R3.on A (Nat.le_refl _)
            refine hK.out _ _ (LD.low (b54q8.mono hL)).cells (fun _ => ?_)
            clear hK K A
            try simp only [Act.put, List.setIfInBounds_toArray, List.set_cons_zero, List.set_cons_succ]
            obtain ⟨W54q8, hW⟩ : ∃ W, V53.alloc (.cells #[.int .i64 0, .slice none 0 0] 33) = W := ⟨_, rfl⟩
            have uY54q8 : V53.heap.size + 1 = W54q8.heap.size := by rw [← hW]; simp
            obtain ⟨N54q8, hN⟩ : ∃ N, V53.heap.size = N := ⟨_, rfl⟩
            rw [hW] at Y54q8 b54q8 Y1q9 R1 R3 ⊢
            rw [hN] at Y54q8 l54q8 uY54q8 ⊢
            clear hW hN
            have y55 := fun i => Y54q8.cell i; have yf55 := fun i => Y54q8.froz i
            refine wpAnyH_ready (rs := [10]) (by kernel_rfl) (by simp) ?_
            refine AllReadyH.cons rfl (fun K hK => ?_) AllReadyH.nil
            go_simp
            clear y55 yf55
            refine hK.out _ _ (LD.low (((b54q8.setCell (p := ⟨N54q8, 0, none⟩) l54q8 (.int .i64 Z.mc)).setCell (p := ⟨N54q8, 1, none⟩) l54q8 (.slice mv n kv)).mono hL)).cells (fun _ => ?_)
            clear hK K
            try simp only [Act.put, List.setIfInBounds_toArray, List.set_cons_zero, List.set_cons_succ]
            have hne55 : N1q9 ≠ N54q8 := blkNe Y1q9 Y54q8 (by decide)
            have Q55 := (Y1q9.other hne55 0 (.int .i64 Z.mc)).other hne55 1 (.slice mv n kv)
            have y55 := fun i => Q55.cell i; have yf55 := fun i => Q55.froz i
            refine wpAnyH_ready (rs := [11]) (by kernel_rfl) (by simp) ?_
            refine AllReadyH.cons rfl (fun K hK => ?_) AllReadyH.nil
            go_simp
            clear y55 yf55
            have bN55 := nine_below b54q8 l54q8 l1q9 (.int .i64 Z.mc) (.slice mv n kv) (.int .i64 who) (.int .i64 rv) (.int .i64 Z.ph) (.int .i64 Z.at') (.int .i64 Z.wv) (.slice av np cv) (.slice dv nr lv)
            have RN55 := RP.stored (who := who) (rv := rv) (Z := Z) Y54q8 Y1q9 (R1.mono hz0) (R3.mono hz0) l54q8 l1q9
            refine hK.out _ _ (LD.low (bN55.mono hL)).cells (fun _ => ?_)
            clear hK K
            refine wpAnyH_done (by kernel_rfl) ?_ _
            exact ⟨rfl, _, _, _, mv, kv, av, cv, dv, lv, rfl, bN55, RN55⟩
          · go_simp
            have A := alloc_below V52 (.cells #[.int .i64 0, .slice none 0 0] 33)
            have Y53q8 := Blk.new V52 #[.int .i64 0, .slice none 0 0] 33
            have hw := b52c.size
            rw [hh1'] at hw
            have l53q8 : h0' ≤ V52.heap.size := hw
            clear hw
            have b53q8 := b52c.trans (A.mono l53q8)
            have Y1q9 := Y1q9.on A Y1q9.lt
            have O1 := O1.on A (Nat.le_refl _)
            have O3 := O3.on A (Nat.le_refl _)
            refine hK.out _ _ (LD.low (b53q8.mono hL)).cells (fun _ => ?_)
            clear hK K A
            try simp only [Act.put, List.setIfInBounds_toArray, List.set_cons_zero, List.set_cons_succ]
            obtain ⟨W53q8, hW⟩ : ∃ W, V52.alloc (.cells #[.int .i64 0, .slice none 0 0] 33) = W := ⟨_, rfl⟩
            have uY53q8 : V52.heap.size + 1 = W53q8.heap.size := by rw [← hW]; simp
            obtain ⟨N53q8, hN⟩ : ∃ N, V52.heap.size = N := ⟨_, rfl⟩
            rw [hW] at Y53q8 b53q8 Y1q9 O1 O3 ⊢
            rw [hN] at Y53q8 l53q8 uY53q8 ⊢
            clear hW hN
            refine wpAnyH_ready (rs := [4]) (by kernel_rfl) (by simp) ?_
            refine AllReadyH.cons rfl (fun K hK => ?_) (AllReadyH.nil)
            go_simp
            refine (IM W53q8 W53q8.heap.size _ _ _ O1.sees O3.sees (LD.low (b53q8.mono hL)).e (Nat.le_refl _)).mono ?_
            rintro e V56 ⟨mv, kv, av, cv, dv, lv, rfl, R1, R3, c56⟩
            have hw := b53q8.size
            rw [hh1'] at hw
            have b56c := b53q8.trans (c56.mono hw)
            have hz0 := hw
            clear O1 O3
            have Y1q9 := Y1q9.on c56 Y1q9.lt
            have Y53q8 := Y53q8.on c56 Y53q8.lt
            clear hw c56
            go_simp
            refine hK.out _ _ (LD.low (b56c.mono hL)).cells (fun _ => ?_)
            clear hK K
            try simp only [Act.put, List.setIfInBounds_toArray, List.set_cons_zero, List.set_cons_succ]
            refine takeH (i := 5) (some 104) (.tuple #[.agg #[.int .i64 Z.mc, .slice mv n kv], .agg #[.int .i64 who, .int .i64 rv, .int .i64 Z.ph, .int .i64 Z.at', .int .i64 Z.wv, .slice av np cv, .slice dv nr lv]]) rfl rfl (by kernel_rfl) (by kernel_rfl) (by kernel_rfl) (fun _ _ _ h => by cases h.1) (Or.inl ⟨by rfl, fun w hSw => by (try dsimp only at hSw); go_simp⟩) (by assumption) ?_
            try simp only [Act.put, List.setIfInBounds_toArray, List.set_cons_zero, List.set_cons_succ]
            refine takeH (i := 6) (some 110) (.agg #[.int .i64 Z.mc, .slice mv n kv]) rfl rfl (by kernel_rfl) (by kernel_rfl) (by kernel_rfl) (fun _ _ _ h => by cases h.1) (Or.inl ⟨by rfl, fun w hSw => by (try dsimp only at hSw); go_simp⟩) (by assumption) ?_
            try simp only [Act.put, List.setIfInBounds_toArray, List.set_cons_zero, List.set_cons_succ]
            refine takeH (i := 7) (some 111) (.agg #[.int .i64 who, .int .i64 rv, .int .i64 Z.ph, .int .i64 Z.at', .int .i64 Z.wv, .slice av np cv, .slice dv nr lv]) rfl rfl (by kernel_rfl) (by kernel_rfl) (by kernel_rfl) (fun _ _ _ h => by cases h.1) (Or.inl ⟨by rfl, fun w hSw => by (try dsimp only at hSw); go_simp⟩) (by assumption) ?_
            try simp only [Act.put, List.setIfInBounds_toArray, List.set_cons_zero, List.set_cons_succ]
            have y57 := fun i => Y53q8.cell i; have yf57 := fun i => Y53q8.froz i
            refine wpAnyH_ready (rs := [10]) (by kernel_rfl) (by simp) ?_
            refine AllReadyH.cons rfl (fun K hK => ?_) AllReadyH.nil
            go_simp
            clear y57 yf57
            refine hK.out _ _ (LD.low (((b56c.setCell (p := ⟨N53q8, 0, none⟩) l53q8 (.int .i64 Z.mc)).setCell (p := ⟨N53q8, 1, none⟩) l53q8 (.slice mv n kv)).mono hL)).cells (fun _ => ?_)
            clear hK K
            try simp only [Act.put, List.setIfInBounds_toArray, List.set_cons_zero, List.set_cons_succ]
            have hne57 : N1q9 ≠ N53q8 := blkNe Y1q9 Y53q8 (by decide)
            have Q57 := (Y1q9.other hne57 0 (.int .i64 Z.mc)).other hne57 1 (.slice mv n kv)
            have y57 := fun i => Q57.cell i; have yf57 := fun i => Q57.froz i
            refine wpAnyH_ready (rs := [11]) (by kernel_rfl) (by simp) ?_
            refine AllReadyH.cons rfl (fun K hK => ?_) AllReadyH.nil
            go_simp
            clear y57 yf57
            have bN57 := nine_below b56c l53q8 l1q9 (.int .i64 Z.mc) (.slice mv n kv) (.int .i64 who) (.int .i64 rv) (.int .i64 Z.ph) (.int .i64 Z.at') (.int .i64 Z.wv) (.slice av np cv) (.slice dv nr lv)
            have RN57 := RP.stored (who := who) (rv := rv) (Z := Z) Y53q8 Y1q9 (R1.mono hz0) (R3.mono hz0) l53q8 l1q9
            refine hK.out _ _ (LD.low (bN57.mono hL)).cells (fun _ => ?_)
            clear hK K
            refine wpAnyH_done (by kernel_rfl) ?_ _
            exact ⟨rfl, _, _, _, mv, kv, av, cv, dv, lv, rfl, bN57, RN57⟩
        · go_simp
          have A := alloc_below V51 (.cells #[.int .i64 0, .slice none 0 0] 33)
          have Y52q8 := Blk.new V51 #[.int .i64 0, .slice none 0 0] 33
          have hw := b51c.size
          rw [hh1'] at hw
          have l52q8 : h0' ≤ V51.heap.size := hw
          clear hw
          have b52q8 := b51c.trans (A.mono l52q8)
          have Y1q9 := Y1q9.on A Y1q9.lt
          have O1 := O1.on A (Nat.le_refl _)
          refine hK.out _ _ (LD.low (b52q8.mono hL)).cells (fun _ => ?_)
          clear hK K A
          try simp only [Act.put, List.setIfInBounds_toArray, List.set_cons_zero, List.set_cons_succ]
          obtain ⟨W52q8, hW⟩ : ∃ W, V51.alloc (.cells #[.int .i64 0, .slice none 0 0] 33) = W := ⟨_, rfl⟩
          have uY52q8 : V51.heap.size + 1 = W52q8.heap.size := by rw [← hW]; simp
          obtain ⟨N52q8, hN⟩ : ∃ N, V51.heap.size = N := ⟨_, rfl⟩
          rw [hW] at Y52q8 b52q8 Y1q9 O1 ⊢
          rw [hN] at Y52q8 l52q8 uY52q8 ⊢
          clear hW hN
          refine wpAnyH_ready (rs := [3]) (by kernel_rfl) (by simp) ?_
          refine AllReadyH.cons rfl (fun K hK => ?_) (AllReadyH.nil)
          go_simp
          refine (C3 W52q8 (LD.low (b52q8.mono hL))).mono ?_
          rintro e V58 ⟨a3, k3, d3, l3, rfl, O3, c58⟩
          have hw := b52q8.size
          rw [hh1'] at hw
          have b58c := b52q8.trans (c58.mono hw)
          have Y1q9 := Y1q9.on c58 Y1q9.lt
          have O1 := O1.on c58 (Nat.le_refl _)
          have Y52q8 := Y52q8.on c58 Y52q8.lt
          clear hw c58
          go_simp
          refine hK.out _ _ (LD.low (b58c.mono hL)).cells (fun _ => ?_)
          clear hK K
          try simp only [Act.put, List.setIfInBounds_toArray, List.set_cons_zero, List.set_cons_succ]
          refine wpAnyH_ready (rs := [4]) (by kernel_rfl) (by simp) ?_
          refine AllReadyH.cons rfl (fun K hK => ?_) (AllReadyH.nil)
          go_simp
          refine (IM V58 V58.heap.size _ _ _ O1.sees O3.sees (LD.low (b58c.mono hL)).e (Nat.le_refl _)).mono ?_
          rintro e V59 ⟨mv, kv, av, cv, dv, lv, rfl, R1, R3, c59⟩
          have hw := b58c.size
          rw [hh1'] at hw
          have b59c := b58c.trans (c59.mono hw)
          have hz0 := hw
          clear O1 O3
          have Y1q9 := Y1q9.on c59 Y1q9.lt
          have Y52q8 := Y52q8.on c59 Y52q8.lt
          clear hw c59
          go_simp
          refine hK.out _ _ (LD.low (b59c.mono hL)).cells (fun _ => ?_)
          clear hK K
          try simp only [Act.put, List.setIfInBounds_toArray, List.set_cons_zero, List.set_cons_succ]
          refine takeH (i := 5) (some 104) (.tuple #[.agg #[.int .i64 Z.mc, .slice mv n kv], .agg #[.int .i64 who, .int .i64 rv, .int .i64 Z.ph, .int .i64 Z.at', .int .i64 Z.wv, .slice av np cv, .slice dv nr lv]]) rfl rfl (by kernel_rfl) (by kernel_rfl) (by kernel_rfl) (fun _ _ _ h => by cases h.1) (Or.inl ⟨by rfl, fun w hSw => by (try dsimp only at hSw); go_simp⟩) (by assumption) ?_
          try simp only [Act.put, List.setIfInBounds_toArray, List.set_cons_zero, List.set_cons_succ]
          refine takeH (i := 6) (some 110) (.agg #[.int .i64 Z.mc, .slice mv n kv]) rfl rfl (by kernel_rfl) (by kernel_rfl) (by kernel_rfl) (fun _ _ _ h => by cases h.1) (Or.inl ⟨by rfl, fun w hSw => by (try dsimp only at hSw); go_simp⟩) (by assumption) ?_
          try simp only [Act.put, List.setIfInBounds_toArray, List.set_cons_zero, List.set_cons_succ]
          refine takeH (i := 7) (some 111) (.agg #[.int .i64 who, .int .i64 rv, .int .i64 Z.ph, .int .i64 Z.at', .int .i64 Z.wv, .slice av np cv, .slice dv nr lv]) rfl rfl (by kernel_rfl) (by kernel_rfl) (by kernel_rfl) (fun _ _ _ h => by cases h.1) (Or.inl ⟨by rfl, fun w hSw => by (try dsimp only at hSw); go_simp⟩) (by assumption) ?_
          try simp only [Act.put, List.setIfInBounds_toArray, List.set_cons_zero, List.set_cons_succ]
          have y60 := fun i => Y52q8.cell i; have yf60 := fun i => Y52q8.froz i
          refine wpAnyH_ready (rs := [10]) (by kernel_rfl) (by simp) ?_
          refine AllReadyH.cons rfl (fun K hK => ?_) AllReadyH.nil
          go_simp
          clear y60 yf60
          refine hK.out _ _ (LD.low (((b59c.setCell (p := ⟨N52q8, 0, none⟩) l52q8 (.int .i64 Z.mc)).setCell (p := ⟨N52q8, 1, none⟩) l52q8 (.slice mv n kv)).mono hL)).cells (fun _ => ?_)
          clear hK K
          try simp only [Act.put, List.setIfInBounds_toArray, List.set_cons_zero, List.set_cons_succ]
          have hne60 : N1q9 ≠ N52q8 := blkNe Y1q9 Y52q8 (by decide)
          have Q60 := (Y1q9.other hne60 0 (.int .i64 Z.mc)).other hne60 1 (.slice mv n kv)
          have y60 := fun i => Q60.cell i; have yf60 := fun i => Q60.froz i
          refine wpAnyH_ready (rs := [11]) (by kernel_rfl) (by simp) ?_
          refine AllReadyH.cons rfl (fun K hK => ?_) AllReadyH.nil
          go_simp
          clear y60 yf60
          have bN60 := nine_below b59c l52q8 l1q9 (.int .i64 Z.mc) (.slice mv n kv) (.int .i64 who) (.int .i64 rv) (.int .i64 Z.ph) (.int .i64 Z.at') (.int .i64 Z.wv) (.slice av np cv) (.slice dv nr lv)
          have RN60 := RP.stored (who := who) (rv := rv) (Z := Z) Y52q8 Y1q9 (R1.mono hz0) (R3.mono hz0) l52q8 l1q9
          refine hK.out _ _ (LD.low (bN60.mono hL)).cells (fun _ => ?_)
          clear hK K
          refine wpAnyH_done (by kernel_rfl) ?_ _
          exact ⟨rfl, _, _, _, mv, kv, av, cv, dv, lv, rfl, bN60, RN60⟩
      · go_simp
        have A := alloc_below W1q9 (.cells #[.int .i64 0, .slice none 0 0] 33)
        have Y51q8 := Blk.new W1q9 #[.int .i64 0, .slice none 0 0] 33
        have hw := b1q9.size
        rw [hh1'] at hw
        have l51q8 : h0' ≤ W1q9.heap.size := hw
        clear hw
        have b51q8 := b1q9.trans (A.mono l51q8)
        have Y1q9 := Y1q9.on A Y1q9.lt
        refine hK.out _ _ (LD.low (b51q8.mono hL)).cells (fun _ => ?_)
        clear hK K A
        try simp only [Act.put, List.setIfInBounds_toArray, List.set_cons_zero, List.set_cons_succ]
        obtain ⟨W51q8, hW⟩ : ∃ W, W1q9.alloc (.cells #[.int .i64 0, .slice none 0 0] 33) = W := ⟨_, rfl⟩
        have uY51q8 : W1q9.heap.size + 1 = W51q8.heap.size := by rw [← hW]; simp
        obtain ⟨N51q8, hN⟩ : ∃ N, W1q9.heap.size = N := ⟨_, rfl⟩
        rw [hW] at Y51q8 b51q8 Y1q9 ⊢
        rw [hN] at Y51q8 l51q8 uY51q8 ⊢
        clear hW hN
        refine wpAnyH_ready (rs := [1]) (by kernel_rfl) (by simp) ?_
        refine AllReadyH.cons rfl (fun K hK => ?_) (AllReadyH.nil)
        go_simp
        refine (C1 W51q8 (LD.low (b51q8.mono hL))).mono ?_
        rintro e V61 ⟨a1, k1, rfl, O1, c61⟩
        have hw := b51q8.size
        rw [hh1'] at hw
        have b61c := b51q8.trans (c61.mono hw)
        have Y1q9 := Y1q9.on c61 Y1q9.lt
        have Y51q8 := Y51q8.on c61 Y51q8.lt
        clear hw c61
        go_simp
        refine hK.out _ _ (LD.low (b61c.mono hL)).cells (fun _ => ?_)
        clear hK K
        try simp only [Act.put, List.setIfInBounds_toArray, List.set_cons_zero, List.set_cons_succ]
        refine wpAnyH_ready (rs := [3]) (by kernel_rfl) (by simp) ?_
        refine AllReadyH.cons rfl (fun K hK => ?_) (AllReadyH.nil)
        go_simp
        refine (C3 V61 (LD.low (b61c.mono hL))).mono ?_
        rintro e V62 ⟨a3, k3, d3, l3, rfl, O3, c62⟩
        have hw := b61c.size
        rw [hh1'] at hw
        have b62c := b61c.trans (c62.mono hw)
        have Y1q9 := Y1q9.on c62 Y1q9.lt
        have Y51q8 := Y51q8.on c62 Y51q8.lt
        have O1 := O1.on c62 (Nat.le_refl _)
        clear hw c62
        go_simp
        refine hK.out _ _ (LD.low (b62c.mono hL)).cells (fun _ => ?_)
        clear hK K
        try simp only [Act.put, List.setIfInBounds_toArray, List.set_cons_zero, List.set_cons_succ]
        refine wpAnyH_ready (rs := [4]) (by kernel_rfl) (by simp) ?_
        refine AllReadyH.cons rfl (fun K hK => ?_) (AllReadyH.nil)
        go_simp
        refine (IM V62 V62.heap.size _ _ _ O1.sees O3.sees (LD.low (b62c.mono hL)).e (Nat.le_refl _)).mono ?_
        rintro e V63 ⟨mv, kv, av, cv, dv, lv, rfl, R1, R3, c63⟩
        have hw := b62c.size
        rw [hh1'] at hw
        have b63c := b62c.trans (c63.mono hw)
        have hz0 := hw
        clear O1 O3
        have Y1q9 := Y1q9.on c63 Y1q9.lt
        have Y51q8 := Y51q8.on c63 Y51q8.lt
        clear hw c63
        go_simp
        refine hK.out _ _ (LD.low (b63c.mono hL)).cells (fun _ => ?_)
        clear hK K
        try simp only [Act.put, List.setIfInBounds_toArray, List.set_cons_zero, List.set_cons_succ]
        refine takeH (i := 5) (some 104) (.tuple #[.agg #[.int .i64 Z.mc, .slice mv n kv], .agg #[.int .i64 who, .int .i64 rv, .int .i64 Z.ph, .int .i64 Z.at', .int .i64 Z.wv, .slice av np cv, .slice dv nr lv]]) rfl rfl (by kernel_rfl) (by kernel_rfl) (by kernel_rfl) (fun _ _ _ h => by cases h.1) (Or.inl ⟨by rfl, fun w hSw => by (try dsimp only at hSw); go_simp⟩) (by assumption) ?_
        try simp only [Act.put, List.setIfInBounds_toArray, List.set_cons_zero, List.set_cons_succ]
        refine takeH (i := 6) (some 110) (.agg #[.int .i64 Z.mc, .slice mv n kv]) rfl rfl (by kernel_rfl) (by kernel_rfl) (by kernel_rfl) (fun _ _ _ h => by cases h.1) (Or.inl ⟨by rfl, fun w hSw => by (try dsimp only at hSw); go_simp⟩) (by assumption) ?_
        try simp only [Act.put, List.setIfInBounds_toArray, List.set_cons_zero, List.set_cons_succ]
        refine takeH (i := 7) (some 111) (.agg #[.int .i64 who, .int .i64 rv, .int .i64 Z.ph, .int .i64 Z.at', .int .i64 Z.wv, .slice av np cv, .slice dv nr lv]) rfl rfl (by kernel_rfl) (by kernel_rfl) (by kernel_rfl) (fun _ _ _ h => by cases h.1) (Or.inl ⟨by rfl, fun w hSw => by (try dsimp only at hSw); go_simp⟩) (by assumption) ?_
        try simp only [Act.put, List.setIfInBounds_toArray, List.set_cons_zero, List.set_cons_succ]
        have y64 := fun i => Y51q8.cell i; have yf64 := fun i => Y51q8.froz i
        refine wpAnyH_ready (rs := [10]) (by kernel_rfl) (by simp) ?_
        refine AllReadyH.cons rfl (fun K hK => ?_) AllReadyH.nil
        go_simp
        clear y64 yf64
        refine hK.out _ _ (LD.low (((b63c.setCell (p := ⟨N51q8, 0, none⟩) l51q8 (.int .i64 Z.mc)).setCell (p := ⟨N51q8, 1, none⟩) l51q8 (.slice mv n kv)).mono hL)).cells (fun _ => ?_)
        clear hK K
        try simp only [Act.put, List.setIfInBounds_toArray, List.set_cons_zero, List.set_cons_succ]
        have hne64 : N1q9 ≠ N51q8 := blkNe Y1q9 Y51q8 (by decide)
        have Q64 := (Y1q9.other hne64 0 (.int .i64 Z.mc)).other hne64 1 (.slice mv n kv)
        have y64 := fun i => Q64.cell i; have yf64 := fun i => Q64.froz i
        refine wpAnyH_ready (rs := [11]) (by kernel_rfl) (by simp) ?_
        refine AllReadyH.cons rfl (fun K hK => ?_) AllReadyH.nil
        go_simp
        clear y64 yf64
        have bN64 := nine_below b63c l51q8 l1q9 (.int .i64 Z.mc) (.slice mv n kv) (.int .i64 who) (.int .i64 rv) (.int .i64 Z.ph) (.int .i64 Z.at') (.int .i64 Z.wv) (.slice av np cv) (.slice dv nr lv)
        have RN64 := RP.stored (who := who) (rv := rv) (Z := Z) Y51q8 Y1q9 (R1.mono hz0) (R3.mono hz0) l51q8 l1q9
        refine hK.out _ _ (LD.low (bN64.mono hL)).cells (fun _ => ?_)
        clear hK K
        refine wpAnyH_done (by kernel_rfl) ?_ _
        exact ⟨rfl, _, _, _, mv, kv, av, cv, dv, lv, rfl, bN64, RN64⟩
  rintro e a' W22 ⟨rfl, N3, N4, hi2, mh, kh, ah, ch, dh, lh, hA, bH, RH⟩
  obtain ⟨d, hd⟩ : ∃ d : Nat → Value, dd a' = d := ⟨_, rfl⟩
  rw [hd] at hA
  clear hd
  subst hA
  rw [← hh1'] at bH
  replace L := L.on bH; replace RW := RW.on bH; replace RG := RG.on bH
  clear bH hh1' C1 C3 IM
  have r0 := fun i => RH.x.cell i
  have s0 := fun i => RW.x.cell i
  go_wp2_with fail
  clear r0 s0
  refine (Words.eqMemC Z.mc _ _ Z.ws _ W22 RH.m.sees RW.m.sees (Nat.le_refl _)).mono ?_
  rintro e w23 ⟨rfl, b⟩
  replace L := L.on b; replace RW := RW.on b; replace RG := RG.on b; replace RH := RH.on b
  clear b
  have r0 := fun i => RH.y.cell i
  have s0 := fun i => RW.y.cell i
  go_wp2_with fail
  clear r0 s0
  refine (eqE who rv Z.ph Z.at' Z.wv ps rs _ _ _ _ _ w23 RH.c.sees RW.c.sees (Nat.le_refl _)).mono ?_
  rintro e w24 ⟨rfl, b⟩
  replace L := L.on b; replace RG := RG.on b
  clear b RH RW
  have g0 := fun i => RG.x.cell i
  go_wp2_with fail
  clear g0
  refine (Words.heldMemC Z.mc _ n _ w24 RG.m f0).mono ?_
  rintro e w25 ⟨rfl, b⟩
  replace L := L.on b; replace RG := RG.on b
  clear b
  rw [HK1.out]
  have g0 := fun i => RG.y.cell i
  go_wp2_with fail
  clear g0
  refine (heldCommitC who rv Z.ph Z.at' Z.wv _ _ np nr K1 hk1 hk1' _ w25 RG.c.sees (Nat.le_refl _) f1 f2).mono ?_
  rintro e w26 ⟨rfl, b⟩
  replace L := L.on b
  clear b RG
  rw [HK2.out]
  go_wp2
  go_ret
  exact ⟨rfl, L.b⟩
end Commits
end Go.Proofs.YtppikpdphcfomaaDoor
