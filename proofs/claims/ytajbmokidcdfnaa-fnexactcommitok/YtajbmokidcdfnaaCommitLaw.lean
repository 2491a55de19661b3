/- The laws of CommitOk and CommitLeft. -/
import Derived.Test.YtajbmokidcdfnaaCommitE
set_option linter.unusedVariables false
set_option linter.unusedSimpArgs false
namespace Go.Proofs.Ytajbmokidcdfnaa
open Go.RowKit
namespace Commits
open Bas Flat Logs

set_option maxRecDepth 100000 in
set_option maxHeartbeats 12800000 in
theorem lawOk (c : Cm) (vP vR : Value) (w : World) (hv : SeeC w.heap.size w vP vR c.ps c.rs) :
    Calls Try.prog 3 #[c.agg vP vR] w fun e w' => e = .returned (.bool true) ∧ Below w.heap.size w w' := by
  obtain ⟨C, hC⟩ : ∃ C : Cm, C = c := ⟨_, rfl⟩
  obtain ⟨who, rv, ph, at', wv, ps, rs⟩ := c
  dsimp only at hv
  show Calls _ _ #[.agg #[.int .i64 who, .int .i64 rv, .int .i64 ph, .int .i64 at', .int .i64 wv, vP, vR]] _ _
  obtain ⟨ap, kp, rfl⟩ := hv.p.form
  obtain ⟨ar, kr, rfl⟩ := hv.r.form
  obtain ⟨g, hg⟩ : ∃ g, w.heap.size = g := ⟨_, rfl⟩
  have A := Blk.new w #[.int .i64 who, .int .i64 rv, .int .i64 ph, .int .i64 at', .int .i64 wv, .slice ap ps.length kp, .slice ar rs.length kr] 25
  have bb := alloc_below w (.cells #[.int .i64 who, .int .i64 rv, .int .i64 ph, .int .i64 at', .int .i64 wv, .slice ap ps.length kp, .slice ar rs.length kr] 25)
  rw [hg] at A bb hv ⊢
  have hv := hv.on bb (by omega)
  have cZ := fun W (left : Int) (h : SeeC g W (.slice ap ps.length kp) (.slice ar rs.length kr) ps rs) (h0 : 0 ≤ left) (h1 : left ≤ 1048576) => szE who rv ph at' wv ps rs _ _ left g W h h0 h1
  have cT := fun W (h : SeeC g W (.slice ap ps.length kp) (.slice ar rs.length kr) ps rs) (hB : g ≤ W.heap.size) (h1 : ps.length ≤ 1048576) (h2 : rs.length ≤ 1048576) => toE who rv ph at' wv ps rs _ _ g W h hB h1 h2
  have cS := fun B W u v (h : SeeC B W u v ps rs) (hB : B ≤ W.heap.size) => specOkE C who rv ph at' wv ps rs hC u v B W h hB
  have cI := fun B W u v (h : SeeC B W u v ps rs) (hB : B ≤ W.heap.size) => implOkE C who rv ph at' wv ps rs hC u v B W h hB
  obtain ⟨res, hres⟩ : ∃ r, commitOk C = r := ⟨_, rfl⟩
  rw [hres] at cS cI
  clear hres hC
  obtain ⟨n, hn⟩ : ∃ n, ps.length = n := ⟨_, rfl⟩
  obtain ⟨m, hm⟩ : ∃ m, rs.length = m := ⟨_, rfl⟩
  rw [hn] at A bb hv cZ cT ⊢
  rw [hm] at A bb hv cZ cT ⊢
  obtain ⟨W0, hW0⟩ : ∃ W, w.alloc (.cells #[.int .i64 who, .int .i64 rv, .int .i64 ph, .int .i64 at', .int .i64 wv, .slice ap n kp, .slice ar m kr] 25) = W := ⟨_, rfl⟩
  rw [hW0] at A bb hv
  have z0 : g ≤ W0.heap.size := by have := bb.size; omega
  have j0 := A.cell 0; have j1 := A.cell 1; have j2 := A.cell 2; have j3 := A.cell 3; have j4 := A.cell 4; have j5 := A.cell 5; have j6 := A.cell 6
  go_enter Try.func3, Try.ntmps3
  go_wp2_with fail
  clear hW0 j0 j1 j2 j3 j4 j5 j6
  refine (cZ W0 1048576 hv (by omega) (by omega)).mono ?_
  rintro e w1 ⟨q, rfl, hq, b1⟩
  replace A := A.on b1 A.lt
  replace hv := hv.on b1 z0
  replace bb := bb.trans (b1.mono (by have := bb.size; omega))
  clear cZ z0 b1
  by_cases hq0 : q < 0
  · clear hq
    go_wp2
    go_ret
    exact ⟨rfl, bb⟩
  obtain ⟨f1, f2⟩ : n ≤ 1048576 ∧ m ≤ 1048576 := by
    rcases hq with hq | hq
    · exact absurd hq hq0
    · exact hq.2.2
  clear hq
  have j0 := A.cell 0; have j1 := A.cell 1; have j2 := A.cell 2; have j3 := A.cell 3; have j4 := A.cell 4; have j5 := A.cell 5; have j6 := A.cell 6
  go_wp2_with fail
  clear j0 j1 j2 j3 j4 j5 j6
  refine (cT w1 hv (by have := bb.size; omega) f1 f2).mono ?_
  rintro e w2 ⟨a2, k2, d2, l2, rfl, O2, b2⟩
  try rw [hn, hm] at O2 ⊢
  have h2 := O2.sees
  clear O2
  replace A := A.on b2 A.lt
  replace hv := hv.on b2 (by have := bb.size; omega)
  replace bb := bb.trans (b2.mono (by have := bb.size; omega))
  clear b2
  go_wp2_with fail
  refine (cS _ w2 _ _ h2 (Nat.le_refl _)).mono ?_
  rintro e w3 ⟨rfl, b3⟩
  clear h2
  replace A := A.on b3 A.lt
  replace hv := hv.on b3 (by have := bb.size; omega)
  replace bb := bb.trans (b3.mono (by have := bb.size; omega))
  clear b3
  have j0 := A.cell 0; have j1 := A.cell 1; have j2 := A.cell 2; have j3 := A.cell 3; have j4 := A.cell 4; have j5 := A.cell 5; have j6 := A.cell 6
  go_wp2_with fail
  clear j0 j1 j2 j3 j4 j5 j6
  refine (cT w3 hv (by have := bb.size; omega) f1 f2).mono ?_
  rintro e w4 ⟨a4, k4, d4, l4, rfl, O4, b4⟩
  try rw [hn, hm] at O4 ⊢
  replace A := A.on b4 A.lt
  replace hv := hv.on b4 (by have := bb.size; omega)
  replace bb := bb.trans (b4.mono (by have := bb.size; omega))
  clear b4
  have X := Blk.new w4 #[.int .i64 who, .int .i64 rv, .int .i64 ph, .int .i64 at', .int .i64 wv, .slice a4 n k4, .slice d4 m l4] 30
  have b5 := alloc_below w4 (.cells #[.int .i64 who, .int .i64 rv, .int .i64 ph, .int .i64 at', .int .i64 wv, .slice a4 n k4, .slice d4 m l4] 30)
  have z4 : g ≤ w4.heap.size := by have := bb.size; omega
  have hOx := O4.sees.on b5 (Nat.le_refl _)
  obtain ⟨p, hp⟩ : ∃ p, w4.heap.size = p := ⟨_, rfl⟩
  obtain ⟨w5, hw5⟩ : ∃ W, w4.alloc (.cells #[.int .i64 who, .int .i64 rv, .int .i64 ph, .int .i64 at', .int .i64 wv, .slice a4 n k4, .slice d4 m l4] 30) = W := ⟨_, rfl⟩
  rw [hw5] at X b5 hOx
  clear O4
  replace A := A.on b5 A.lt
  replace hv := hv.on b5 (by have := bb.size; omega)
  replace bb := bb.trans (b5.mono (by have := bb.size; omega))
  clear b5
  rw [hp] at X hOx z4
  have x0 := X.cell 0; have x1 := X.cell 1; have x2 := X.cell 2; have x3 := X.cell 3; have x4 := X.cell 4; have x5 := X.cell 5; have x6 := X.cell 6; have xf := fun i => X.froz i
  go_wp2_with fail
  clear x0 x1 x2 x3 x4 x5 x6 xf hw5 hp
  have hOx := hOx.up (show p ≤ w5.heap.size from Nat.le_of_lt X.lt)
  refine (cI _ w5 _ _ hOx (Nat.le_refl _)).mono ?_
  rintro e w6 ⟨rfl, b6⟩
  have zz := b6.size
  have hOx := hOx.on b6 (Nat.le_refl _)
  replace A := A.on b6 A.lt
  replace hv := hv.on b6 (by have := bb.size; omega)
  replace X := X.on b6 X.lt
  replace bb := bb.trans (b6.mono (by have := bb.size; omega))
  clear b6
  go_wp2_with fail
  have AD := A.drew; have XD := X.drew; have bD : Below g w w6.drew := bb.drew; have hD := hv.drew; have hOD := hOx.drew
  have cA : w6.cell? ⟨g, 0, none⟩ = some (.int .i64 who) ∧ w6.cell? ⟨g, 1, none⟩ = some (.int .i64 rv) ∧ w6.cell? ⟨g, 2, none⟩ = some (.int .i64 ph) ∧ w6.cell? ⟨g, 3, none⟩ = some (.int .i64 at') ∧ w6.cell? ⟨g, 4, none⟩ = some (.int .i64 wv) ∧ w6.cell? ⟨g, 5, none⟩ = some (.slice ap n kp) ∧ w6.cell? ⟨g, 6, none⟩ = some (.slice ar m kr) := ⟨A.cell 0, A.cell 1, A.cell 2, A.cell 3, A.cell 4, A.cell 5, A.cell 6⟩
  have cX : w6.cell? ⟨p, 0, none⟩ = some (.int .i64 who) ∧ w6.cell? ⟨p, 1, none⟩ = some (.int .i64 rv) ∧ w6.cell? ⟨p, 2, none⟩ = some (.int .i64 ph) ∧ w6.cell? ⟨p, 3, none⟩ = some (.int .i64 at') ∧ w6.cell? ⟨p, 4, none⟩ = some (.int .i64 wv) ∧ w6.cell? ⟨p, 5, none⟩ = some (.slice a4 n k4) ∧ w6.cell? ⟨p, 6, none⟩ = some (.slice d4 m l4) := ⟨X.cell 0, X.cell 1, X.cell 2, X.cell 3, X.cell 4, X.cell 5, X.cell 6⟩
  have hz : w5.heap.size ≤ w6.drew.heap.size := zz
  obtain ⟨WD, hWD⟩ : ∃ WD, w6.drew = WD := ⟨_, rfl⟩
  refine wp_region_held_drew (S := fun W => (W.cell? ⟨g, 0, none⟩ = some (.int .i64 who) ∧ W.cell? ⟨g, 1, none⟩ = some (.int .i64 rv) ∧ W.cell? ⟨g, 2, none⟩ = some (.int .i64 ph) ∧ W.cell? ⟨g, 3, none⟩ = some (.int .i64 at') ∧ W.cell? ⟨g, 4, none⟩ = some (.int .i64 wv) ∧ W.cell? ⟨g, 5, none⟩ = some (.slice ap n kp) ∧ W.cell? ⟨g, 6, none⟩ = some (.slice ar m kr)) ∧ (W.cell? ⟨p, 0, none⟩ = some (.int .i64 who) ∧ W.cell? ⟨p, 1, none⟩ = some (.int .i64 rv) ∧ W.cell? ⟨p, 2, none⟩ = some (.int .i64 ph) ∧ W.cell? ⟨p, 3, none⟩ = some (.int .i64 at') ∧ W.cell? ⟨p, 4, none⟩ = some (.int .i64 wv) ∧ W.cell? ⟨p, 5, none⟩ = some (.slice a4 n k4) ∧ W.cell? ⟨p, 6, none⟩ = some (.slice d4 m l4))) (by kernel_rfl) ⟨cA, cX⟩ (fun hHeld => ?_)
  rw [hWD] at AD XD bD hD hOD hz hHeld ⊢
  clear hWD cA cX
  refine takeH (i := 0) (some 22) (.agg #[.int .i64 who, .int .i64 rv, .int .i64 ph, .int .i64 at', .int .i64 wv, .slice a4 n k4, .slice d4 m l4]) rfl rfl (by kernel_rfl) (by kernel_rfl) (by kernel_rfl) (fun _ _ _ h => h) (Or.inl ⟨by rfl, fun w hSw => by (try dsimp only at hSw); go_simp⟩) (by assumption) ?_
  simp only [Act.put, List.setIfInBounds_toArray, List.set_cons_zero, List.set_cons_succ]
  refine takeH (i := 1) (some 23) (.agg #[.int .i64 who, .int .i64 rv, .int .i64 ph, .int .i64 at', .int .i64 wv, .slice ap n kp, .slice ar m kr]) rfl rfl (by kernel_rfl) (by kernel_rfl) (by kernel_rfl) (fun _ _ _ h => h) (Or.inl ⟨by rfl, fun w hSw => by (try dsimp only at hSw); go_simp⟩) (by assumption) ?_
  simp only [Act.put, List.setIfInBounds_toArray, List.set_cons_zero, List.set_cons_succ]
  refine wpAnyH_ready (rs := [2]) (by kernel_rfl) (by simp) ?_
  refine AllReadyH.cons rfl (fun K hK => ?_) AllReadyH.nil
  go_simp
  refine (cT WD hD (by have := bD.size; omega) f1 f2).mono ?_
  rintro e w7 ⟨a7, k7, d7, l7, rfl, O7, b7⟩
  try rw [hn, hm] at O7 ⊢
  have AD := AD.on b7 AD.lt; have XD := XD.on b7 XD.lt
  have hOD := hOD.on b7 hz
  have bD := bD.trans (b7.mono (by have := bD.size; omega))
  have hz := Nat.le_trans hz b7.size
  go_simp
  refine hK.out _ _ ⟨⟨AD.cell 0, AD.cell 1, AD.cell 2, AD.cell 3, AD.cell 4, AD.cell 5, AD.cell 6⟩, ⟨XD.cell 0, XD.cell 1, XD.cell 2, XD.cell 3, XD.cell 4, XD.cell 5, XD.cell 6⟩⟩ (fun _ => ?_)
  clear hK K
  try simp only [Act.put, List.setIfInBounds_toArray, List.set_cons_zero, List.set_cons_succ]
  refine wpAnyH_ready (rs := [3]) (by kernel_rfl) (by simp) ?_
  refine AllReadyH.cons rfl (fun K hK => ?_) AllReadyH.nil
  go_simp
  refine (eqE who rv ph at' wv ps rs _ _ _ _ _ w7 (hOD.up hz) O7.sees (Nat.le_refl _)).mono ?_
  rintro e w8 ⟨rfl, b8⟩
  have AD := AD.on b8 AD.lt; have XD := XD.on b8 XD.lt
  have bD := bD.trans (b8.mono (by have := bD.size; omega))
  go_simp
  refine hK.out _ _ ⟨⟨AD.cell 0, AD.cell 1, AD.cell 2, AD.cell 3, AD.cell 4, AD.cell 5, AD.cell 6⟩, ⟨XD.cell 0, XD.cell 1, XD.cell 2, XD.cell 3, XD.cell 4, XD.cell 5, XD.cell 6⟩⟩ (fun _ => ?_)
  clear hK K
  try simp only [Act.put, List.setIfInBounds_toArray, List.set_cons_zero, List.set_cons_succ]
  refine takeH (i := 4) (some 26) (.bool false) rfl rfl (by kernel_rfl) (by kernel_rfl) (by kernel_rfl) (fun _ _ _ h => h) (Or.inl ⟨by rfl, fun w hSw => by (try dsimp only at hSw); go_simp⟩) (by assumption) ?_
  simp only [Act.put, List.setIfInBounds_toArray, List.set_cons_zero, List.set_cons_succ]
  refine wpAnyH_done (by kernel_rfl) ?_ _
  go_wp2
  go_ret
  exact ⟨rfl, bD⟩

set_option maxRecDepth 100000 in
set_option maxHeartbeats 12800000 in
theorem lawLeft (c : Cm) (vP vR : Value) (w : World) (hv : SeeC w.heap.size w vP vR c.ps c.rs) :
    Calls Try.prog 6 #[c.agg vP vR] w fun e w' => e = .returned (.bool true) ∧ Below w.heap.size w w' := by
  obtain ⟨C, hC⟩ : ∃ C : Cm, C = c := ⟨_, rfl⟩
  obtain ⟨who, rv, ph, at', wv, ps, rs⟩ := c
  dsimp only at hv
  show Calls _ _ #[.agg #[.int .i64 who, .int .i64 rv, .int .i64 ph, .int .i64 at', .int .i64 wv, vP, vR]] _ _
  obtain ⟨ap, kp, rfl⟩ := hv.p.form
  obtain ⟨ar, kr, rfl⟩ := hv.r.form
  obtain ⟨g, hg⟩ : ∃ g, w.heap.size = g := ⟨_, rfl⟩
  have A := Blk.new w #[.int .i64 who, .int .i64 rv, .int .i64 ph, .int .i64 at', .int .i64 wv, .slice ap ps.length kp, .slice ar rs.length kr] 25
  have bb := alloc_below w (.cells #[.int .i64 who, .int .i64 rv, .int .i64 ph, .int .i64 at', .int .i64 wv, .slice ap ps.length kp, .slice ar rs.length kr] 25)
  rw [hg] at A bb hv ⊢
  have hv := hv.on bb (by omega)
  have cZ := fun W (left : Int) (h : SeeC g W (.slice ap ps.length kp) (.slice ar rs.length kr) ps rs) (h0 : 0 ≤ left) (h1 : left ≤ 1048576) => szE who rv ph at' wv ps rs _ _ left g W h h0 h1
  have cT := fun W (h : SeeC g W (.slice ap ps.length kp) (.slice ar rs.length kr) ps rs) (hB : g ≤ W.heap.size) (h1 : ps.length ≤ 1048576) (h2 : rs.length ≤ 1048576) => toE who rv ph at' wv ps rs _ _ g W h hB h1 h2
  have cS := fun B W u v (h : SeeC B W u v ps rs) (hB : B ≤ W.heap.size) => specLeft C who rv ph at' wv ps rs hC u v B W h hB
  have cI := fun B W u v (h : SeeC B W u v ps rs) (hB : B ≤ W.heap.size) => implLeft C who rv ph at' wv ps rs hC u v B W h hB
  obtain ⟨res, hres⟩ : ∃ r, leftOf C = r := ⟨_, rfl⟩
  rw [hres] at cS cI
  clear hres hC
  obtain ⟨n, hn⟩ : ∃ n, ps.length = n := ⟨_, rfl⟩
  obtain ⟨m, hm⟩ : ∃ m, rs.length = m := ⟨_, rfl⟩
  rw [hn] at A bb hv cZ cT ⊢
  rw [hm] at A bb hv cZ cT ⊢
  obtain ⟨W0, hW0⟩ : ∃ W, w.alloc (.cells #[.int .i64 who, .int .i64 rv, .int .i64 ph, .int .i64 at', .int .i64 wv, .slice ap n kp, .slice ar m kr] 25) = W := ⟨_, rfl⟩
  rw [hW0] at A bb hv
  have z0 : g ≤ W0.heap.size := by have := bb.size; omega
  have j0 := A.cell 0; have j1 := A.cell 1; have j2 := A.cell 2; have j3 := A.cell 3; have j4 := A.cell 4; have j5 := A.cell 5; have j6 := A.cell 6
  go_enter Try.func6, Try.ntmps6
  go_wp2_with fail
  clear hW0 j0 j1 j2 j3 j4 j5 j6
  refine (cZ W0 1048576 hv (by omega) (by omega)).mono ?_
  rintro e w1 ⟨q, rfl, hq, b1⟩
  replace A := A.on b1 A.lt
  replace hv := hv.on b1 z0
  replace bb := bb.trans (b1.mono (by have := bb.size; omega))
  clear cZ z0 b1
  by_cases hq0 : q < 0
  · clear hq
    go_wp2
    go_ret
    exact ⟨rfl, bb⟩
  obtain ⟨f1, f2⟩ : n ≤ 1048576 ∧ m ≤ 1048576 := by
    rcases hq with hq | hq
    · exact absurd hq hq0
    · exact hq.2.2
  clear hq
  have j0 := A.cell 0; have j1 := A.cell 1; have j2 := A.cell 2; have j3 := A.cell 3; have j4 := A.cell 4; have j5 := A.cell 5; have j6 := A.cell 6
  go_wp2_with fail
  clear j0 j1 j2 j3 j4 j5 j6
  refine (cT w1 hv (by have := bb.size; omega) f1 f2).mono ?_
  rintro e w2 ⟨a2, k2, d2, l2, rfl, O2, b2⟩
  try rw [hn, hm] at O2 ⊢
  have h2 := O2.sees
  clear O2
  replace A := A.on b2 A.lt
  replace hv := hv.on b2 (by have := bb.size; omega)
  replace bb := bb.trans (b2.mono (by have := bb.size; omega))
  clear b2
  go_wp2_with fail
  refine (cS _ w2 _ _ h2 (Nat.le_refl _)).mono ?_
  rintro e w3 ⟨rfl, b3⟩
  clear h2
  replace A := A.on b3 A.lt
  replace hv := hv.on b3 (by have := bb.size; omega)
  replace bb := bb.trans (b3.mono (by have := bb.size; omega))
  clear b3
  have j0 := A.cell 0; have j1 := A.cell 1; have j2 := A.cell 2; have j3 := A.cell 3; have j4 := A.cell 4; have j5 := A.cell 5; have j6 := A.cell 6
  go_wp2_with fail
  clear j0 j1 j2 j3 j4 j5 j6
  refine (cT w3 hv (by have := bb.size; omega) f1 f2).mono ?_
  rintro e w4 ⟨a4, k4, d4, l4, rfl, O4, b4⟩
  try rw [hn, hm] at O4 ⊢
  replace A := A.on b4 A.lt
  replace hv := hv.on b4 (by have := bb.size; omega)
  replace bb := bb.trans (b4.mono (by have := bb.size; omega))
  clear b4
  have X := Blk.new w4 #[.int .i64 who, .int .i64 rv, .int .i64 ph, .int .i64 at', .int .i64 wv, .slice a4 n k4, .slice d4 m l4] 30
  have b5 := alloc_below w4 (.cells #[.int .i64 who, .int .i64 rv, .int .i64 ph, .int .i64 at', .int .i64 wv, .slice a4 n k4, .slice d4 m l4] 30)
  have z4 : g ≤ w4.heap.size := by have := bb.size; omega
  have hOx := O4.sees.on b5 (Nat.le_refl _)
  obtain ⟨p, hp⟩ : ∃ p, w4.heap.size = p := ⟨_, rfl⟩
  obtain ⟨w5, hw5⟩ : ∃ W, w4.alloc (.cells #[.int .i64 who, .int .i64 rv, .int .i64 ph, .int .i64 at', .int .i64 wv, .slice a4 n k4, .slice d4 m l4] 30) = W := ⟨_, rfl⟩
  rw [hw5] at X b5 hOx
  clear O4
  replace A := A.on b5 A.lt
  replace hv := hv.on b5 (by have := bb.size; omega)
  replace bb := bb.trans (b5.mono (by have := bb.size; omega))
  clear b5
  rw [hp] at X hOx z4
  have x0 := X.cell 0; have x1 := X.cell 1; have x2 := X.cell 2; have x3 := X.cell 3; have x4 := X.cell 4; have x5 := X.cell 5; have x6 := X.cell 6; have xf := fun i => X.froz i
  go_wp2_with fail
  clear x0 x1 x2 x3 x4 x5 x6 xf hw5 hp
  have hOx := hOx.up (show p ≤ w5.heap.size from Nat.le_of_lt X.lt)
  refine (cI _ w5 _ _ hOx (Nat.le_refl _)).mono ?_
  rintro e w6 ⟨rfl, b6⟩
  have zz := b6.size
  have hOx := hOx.on b6 (Nat.le_refl _)
  replace A := A.on b6 A.lt
  replace hv := hv.on b6 (by have := bb.size; omega)
  replace X := X.on b6 X.lt
  replace bb := bb.trans (b6.mono (by have := bb.size; omega))
  clear b6
  go_wp2_with fail
  have AD := A.drew; have XD := X.drew; have bD : Below g w w6.drew := bb.drew; have hD := hv.drew; have hOD := hOx.drew
  have cA : w6.cell? ⟨g, 0, none⟩ = some (.int .i64 who) ∧ w6.cell? ⟨g, 1, none⟩ = some (.int .i64 rv) ∧ w6.cell? ⟨g, 2, none⟩ = some (.int .i64 ph) ∧ w6.cell? ⟨g, 3, none⟩ = some (.int .i64 at') ∧ w6.cell? ⟨g, 4, none⟩ = some (.int .i64 wv) ∧ w6.cell? ⟨g, 5, none⟩ = some (.slice ap n kp) ∧ w6.cell? ⟨g, 6, none⟩ = some (.slice ar m kr) := ⟨A.cell 0, A.cell 1, A.cell 2, A.cell 3, A.cell 4, A.cell 5, A.cell 6⟩
  have cX : w6.cell? ⟨p, 0, none⟩ = some (.int .i64 who) ∧ w6.cell? ⟨p, 1, none⟩ = some (.int .i64 rv) ∧ w6.cell? ⟨p, 2, none⟩ = some (.int .i64 ph) ∧ w6.cell? ⟨p, 3, none⟩ = some (.int .i64 at') ∧ w6.cell? ⟨p, 4, none⟩ = some (.int .i64 wv) ∧ w6.cell? ⟨p, 5, none⟩ = some (.slice a4 n k4) ∧ w6.cell? ⟨p, 6, none⟩ = some (.slice d4 m l4) := ⟨X.cell 0, X.cell 1, X.cell 2, X.cell 3, X.cell 4, X.cell 5, X.cell 6⟩
  have hz : w5.heap.size ≤ w6.drew.heap.size := zz
  obtain ⟨WD, hWD⟩ : ∃ WD, w6.drew = WD := ⟨_, rfl⟩
  refine wp_region_held_drew (S := fun W => (W.cell? ⟨g, 0, none⟩ = some (.int .i64 who) ∧ W.cell? ⟨g, 1, none⟩ = some (.int .i64 rv) ∧ W.cell? ⟨g, 2, none⟩ = some (.int .i64 ph) ∧ W.cell? ⟨g, 3, none⟩ = some (.int .i64 at') ∧ W.cell? ⟨g, 4, none⟩ = some (.int .i64 wv) ∧ W.cell? ⟨g, 5, none⟩ = some (.slice ap n kp) ∧ W.cell? ⟨g, 6, none⟩ = some (.slice ar m kr)) ∧ (W.cell? ⟨p, 0, none⟩ = some (.int .i64 who) ∧ W.cell? ⟨p, 1, none⟩ = some (.int .i64 rv) ∧ W.cell? ⟨p, 2, none⟩ = some (.int .i64 ph) ∧ W.cell? ⟨p, 3, none⟩ = some (.int .i64 at') ∧ W.cell? ⟨p, 4, none⟩ = some (.int .i64 wv) ∧ W.cell? ⟨p, 5, none⟩ = some (.slice a4 n k4) ∧ W.cell? ⟨p, 6, none⟩ = some (.slice d4 m l4))) (by kernel_rfl) ⟨cA, cX⟩ (fun hHeld => ?_)
  rw [hWD] at AD XD bD hD hOD hz hHeld ⊢
  clear hWD cA cX
  refine takeH (i := 0) (some 22) (.agg #[.int .i64 who, .int .i64 rv, .int .i64 ph, .int .i64 at', .int .i64 wv, .slice a4 n k4, .slice d4 m l4]) rfl rfl (by kernel_rfl) (by kernel_rfl) (by kernel_rfl) (fun _ _ _ h => h) (Or.inl ⟨by rfl, fun w hSw => by (try dsimp only at hSw); go_simp⟩) (by assumption) ?_
  simp only [Act.put, List.setIfInBounds_toArray, List.set_cons_zero, List.set_cons_succ]
  refine takeH (i := 1) (some 23) (.agg #[.int .i64 who, .int .i64 rv, .int .i64 ph, .int .i64 at', .int .i64 wv, .slice ap n kp, .slice ar m kr]) rfl rfl (by kernel_rfl) (by kernel_rfl) (by kernel_rfl) (fun _ _ _ h => h) (Or.inl ⟨by rfl, fun w hSw => by (try dsimp only at hSw); go_simp⟩) (by assumption) ?_
  simp only [Act.put, List.setIfInBounds_toArray, List.set_cons_zero, List.set_cons_succ]
  refine wpAnyH_ready (rs := [2]) (by kernel_rfl) (by simp) ?_
  refine AllReadyH.cons rfl (fun K hK => ?_) AllReadyH.nil
  go_simp
  refine (cT WD hD (by have := bD.size; omega) f1 f2).mono ?_
  rintro e w7 ⟨a7, k7, d7, l7, rfl, O7, b7⟩
  try rw [hn, hm] at O7 ⊢
  have AD := AD.on b7 AD.lt; have XD := XD.on b7 XD.lt
  have hOD := hOD.on b7 hz
  have bD := bD.trans (b7.mono (by have := bD.size; omega))
  have hz := Nat.le_trans hz b7.size
  go_simp
  refine hK.out _ _ ⟨⟨AD.cell 0, AD.cell 1, AD.cell 2, AD.cell 3, AD.cell 4, AD.cell 5, AD.cell 6⟩, ⟨XD.cell 0, XD.cell 1, XD.cell 2, XD.cell 3, XD.cell 4, XD.cell 5, XD.cell 6⟩⟩ (fun _ => ?_)
  clear hK K
  try simp only [Act.put, List.setIfInBounds_toArray, List.set_cons_zero, List.set_cons_succ]
  refine wpAnyH_ready (rs := [3]) (by kernel_rfl) (by simp) ?_
  refine AllReadyH.cons rfl (fun K hK => ?_) AllReadyH.nil
  go_simp
  refine (eqE who rv ph at' wv ps rs _ _ _ _ _ w7 (hOD.up hz) O7.sees (Nat.le_refl _)).mono ?_
  rintro e w8 ⟨rfl, b8⟩
  have AD := AD.on b8 AD.lt; have XD := XD.on b8 XD.lt
  have bD := bD.trans (b8.mono (by have := bD.size; omega))
  go_simp
  refine hK.out _ _ ⟨⟨AD.cell 0, AD.cell 1, AD.cell 2, AD.cell 3, AD.cell 4, AD.cell 5, AD.cell 6⟩, ⟨XD.cell 0, XD.cell 1, XD.cell 2, XD.cell 3, XD.cell 4, XD.cell 5, XD.cell 6⟩⟩ (fun _ => ?_)
  clear hK K
  try simp only [Act.put, List.setIfInBounds_toArray, List.set_cons_zero, List.set_cons_succ]
  refine takeH (i := 4) (some 26) (.bool false) rfl rfl (by kernel_rfl) (by kernel_rfl) (by kernel_rfl) (fun _ _ _ h => h) (Or.inl ⟨by rfl, fun w hSw => by (try dsimp only at hSw); go_simp⟩) (by assumption) ?_
  simp only [Act.put, List.setIfInBounds_toArray, List.set_cons_zero, List.set_cons_succ]
  refine wpAnyH_done (by kernel_rfl) ?_ _
  go_wp2
  go_ret
  exact ⟨rfl, bD⟩
end Commits
end Go.Proofs.Ytajbmokidcdfnaa
