/- The law of CommitBreak. -/
import Derived.Test.YtajbmokidcdfnaaCommitE
import Derived.Test.YtajbmokidcdfnaaCommitBreakW
set_option linter.unusedVariables false
set_option linter.unusedSimpArgs false
namespace Go.Proofs.Ytajbmokidcdfnaa
open Go.RowKit
namespace Commits
open Bas Flat Logs
theorem drew_low (w : World) : Below w.heap.size w w.drew := ⟨rfl, rfl, rfl, Nat.le_refl _, fun _ _ => rfl⟩

set_option maxRecDepth 100000 in
set_option maxHeartbeats 12800000 in
theorem lawBreak (c : Cm) (vP vR : Value) (w : World) (hv : SeeC w.heap.size w vP vR c.ps c.rs) :
    Calls Try.prog 5 #[c.agg vP vR] w fun e w' => e = .returned (.bool true) ∧ Below w.heap.size w w' := by
  obtain ⟨C, hC⟩ : ∃ C : Cm, C = c := ⟨_, rfl⟩
  obtain ⟨who, rv, ph, at', wv, ps, rs⟩ := c
  dsimp only at hv
  show Calls _ _ #[.agg #[.int .i64 who, .int .i64 rv, .int .i64 ph, .int .i64 at', .int .i64 wv, vP, vR]] _ _
  obtain ⟨ap, kp, rfl⟩ := hv.p.form
  obtain ⟨ar, kr, rfl⟩ := hv.r.form
  obtain ⟨g, hg⟩ : ∃ g, w.heap.size = g := ⟨_, rfl⟩
  have A := Blk.new w #[.int .i64 who, .int .i64 rv, .int .i64 ph, .int .i64 at', .int .i64 wv, .slice ap ps.length kp, .slice ar rs.length kr] 25
  have bb := alloc_below w (.cells #[.int .i64 who, .int .i64 rv, .int .i64 ph, .int .i64 at', .int .i64 wv, .slice ap ps.length kp, .slice ar rs.length kr] 25)
  rw [hg] at A bb hv ⊢
  have hv := hv.on bb (by omega)
  have cZ := fun W (left : Int) (h : SeeC g W (.slice ap ps.length kp) (.slice ar rs.length kr) ps rs) (h0 : 0 ≤ left) (h1 : left ≤ 1048576) => szE who rv ph at' wv ps rs _ _ left g W h h0 h1
  have cT := fun W (h : SeeC g W (.slice ap ps.length kp) (.slice ar rs.length kr) ps rs) (hB : g ≤ W.heap.size) (h1 : ps.length ≤ 1048576) (h2 : rs.length ≤ 1048576) => toE who rv ph at' wv ps rs _ _ g W h hB h1 h2
  have cS := fun B W u v (h : SeeC B W u v ps rs) (hB : B ≤ W.heap.size) h1 h2 => specBreak C who rv ph at' wv ps rs hC u v B W h hB h1 h2
  have cI := fun B W u v (h : SeeC B W u v ps rs) (hB : B ≤ W.heap.size) h1 h2 => implBreak C who rv ph at' wv ps rs hC u v B W h hB h1 h2
  obtain ⟨bp, hbp⟩ : ∃ r, brkPh C = r := ⟨_, rfl⟩
  obtain ⟨ba, hba⟩ : ∃ r, brkAt C = r := ⟨_, rfl⟩
  obtain ⟨bo, hbo⟩ : ∃ r, broke C = r := ⟨_, rfl⟩
  rw [hbp, hba, hbo] at cS cI
  clear hbp hba hbo hC
  obtain ⟨n, hn⟩ : ∃ n, ps.length = n := ⟨_, rfl⟩
  obtain ⟨m, hm⟩ : ∃ m, rs.length = m := ⟨_, rfl⟩
  rw [hn] at A bb hv cZ cT cS cI ⊢
  rw [hm] at A bb hv cZ cT cS cI ⊢
  obtain ⟨W0, hW0⟩ : ∃ W, w.alloc (.cells #[.int .i64 who, .int .i64 rv, .int .i64 ph, .int .i64 at', .int .i64 wv, .slice ap n kp, .slice ar m kr] 25) = W := ⟨_, rfl⟩
  rw [hW0] at A bb hv
  have z0 : g ≤ W0.heap.size := by have := bb.size; omega
  have j0 := A.cell 0; have j1 := A.cell 1; have j2 := A.cell 2; have j3 := A.cell 3; have j4 := A.cell 4; have j5 := A.cell 5; have j6 := A.cell 6
  go_enter Try.func5, Try.ntmps5
  go_wp2_with fail
  clear hW0 j0 j1 j2 j3 j4 j5 j6
  refine (cZ W0 1048576 hv (by omega) (by omega)).mono ?_
  rintro e w1 ⟨q, rfl, hq, b1⟩
  replace A := A.on b1 A.lt
  replace hv := hv.on b1 z0
  replace bb := bb.trans (b1.mono (by have := bb.size; omega))
  clear cZ z0 b1
  by_cases hq0 : q < 0
  · clear hq
    go_wp2
    go_ret
    exact ⟨rfl, bb⟩
  obtain ⟨f1, f2⟩ : n ≤ 1048576 ∧ m ≤ 1048576 := by
    rcases hq with hq | hq
    · exact absurd hq hq0
    · exact hq.2.2
  clear hq
  have j0 := A.cell 0; have j1 := A.cell 1; have j2 := A.cell 2; have j3 := A.cell 3; have j4 := A.cell 4; have j5 := A.cell 5; have j6 := A.cell 6
  go_wp2_with fail
  clear j0 j1 j2 j3 j4 j5 j6
  refine (cT w1 hv (by have := bb.size; omega) f1 f2).mono ?_
  rintro e w2 ⟨a2, k2, d2, l2, rfl, O2, b2⟩
  try rw [hn, hm] at O2 ⊢
  have h2 := O2.sees
  replace A := A.on b2 A.lt
  replace hv := hv.on b2 (by have := bb.size; omega)
  replace bb := bb.trans (b2.mono (by have := bb.size; omega))
  clear b2
  clear O2
  go_wp2_with fail
  refine (cS _ w2 _ _ h2 (Nat.le_refl _) f1 f2).mono ?_
  rintro e w3 ⟨a3, k3, d3, l3, rfl, OS, b3⟩
  clear h2
  replace A := A.on b3 A.lt
  replace hv := hv.on b3 (by have := bb.size; omega)
  replace bb := bb.trans (b3.mono (by have := bb.size; omega))
  clear b3
  have BW := Blk.new w3 #[.int .i64 who, .int .i64 rv, .int .i64 bp, .int .i64 ba, .int .i64 wv, .slice a3 n k3, .slice d3 m l3] 30
  have b5 := alloc_below w3 (.cells #[.int .i64 who, .int .i64 rv, .int .i64 bp, .int .i64 ba, .int .i64 wv, .slice a3 n k3, .slice d3 m l3] 30)
  obtain ⟨pW, hp⟩ : ∃ p, w3.heap.size = p := ⟨_, rfl⟩
  obtain ⟨w4, hw5⟩ : ∃ W, w3.alloc (.cells #[.int .i64 who, .int .i64 rv, .int .i64 bp, .int .i64 ba, .int .i64 wv, .slice a3 n k3, .slice d3 m l3] 30) = W := ⟨_, rfl⟩
  rw [hw5] at BW b5
  rw [hp] at BW
  replace A := A.on b5 A.lt
  replace hv := hv.on b5 (by have := bb.size; omega)
  replace OS := OS.on b5 (Nat.le_refl _)
  replace bb := bb.trans (b5.mono (by have := bb.size; omega))
  clear b5
  have j0 := A.cell 0; have j1 := A.cell 1; have j2 := A.cell 2; have j3 := A.cell 3; have j4 := A.cell 4; have j5 := A.cell 5; have j6 := A.cell 6
  have fW := fun i => BW.cell i; have fW2 := fun i => BW.froz i
  go_wp2_with fail
  try rw [hw5]
  clear hw5 hp fW fW2
  clear j0 j1 j2 j3 j4 j5 j6
  refine (cT w4 hv (by have := bb.size; omega) f1 f2).mono ?_
  rintro e w6 ⟨a6, k6, d6, l6, rfl, O6, b6⟩
  try rw [hn, hm] at O6 ⊢
  have aSX := apart_new OS O6 (Nat.le_refl _)
  replace O6 := O6.mono (show g ≤ w4.heap.size by have := bb.size; omega)
  replace A := A.on b6 A.lt
  replace hv := hv.on b6 (by have := bb.size; omega)
  replace BW := BW.on b6 BW.lt
  replace OS := OS.on b6 (Nat.le_refl _)
  replace bb := bb.trans (b6.mono (by have := bb.size; omega))
  clear b6
  have X := Blk.new w6 #[.int .i64 who, .int .i64 rv, .int .i64 ph, .int .i64 at', .int .i64 wv, .slice a6 n k6, .slice d6 m l6] 30
  have b5 := alloc_below w6 (.cells #[.int .i64 who, .int .i64 rv, .int .i64 ph, .int .i64 at', .int .i64 wv, .slice a6 n k6, .slice d6 m l6] 30)
  obtain ⟨p, hp⟩ : ∃ p, w6.heap.size = p := ⟨_, rfl⟩
  obtain ⟨w7, hw5⟩ : ∃ W, w6.alloc (.cells #[.int .i64 who, .int .i64 rv, .int .i64 ph, .int .i64 at', .int .i64 wv, .slice a6 n k6, .slice d6 m l6] 30) = W := ⟨_, rfl⟩
  rw [hw5] at X b5
  rw [hp] at X
  replace A := A.on b5 A.lt
  replace hv := hv.on b5 (by have := bb.size; omega)
  replace BW := BW.on b5 BW.lt
  replace OS := OS.on b5 (Nat.le_refl _)
  replace O6 := O6.on b5 (Nat.le_refl _)
  replace bb := bb.trans (b5.mono (by have := bb.size; omega))
  clear b5
  have fX := fun i => X.cell i; have fX2 := fun i => X.froz i
  go_wp2_with fail
  try rw [hw5]
  clear hw5 hp fX fX2
  refine (cI _ w7 _ _ O6.sees (Nat.le_refl _) f1 f2).mono ?_
  rintro e w8 ⟨a8, k8, d8, l8, rfl, OG, b8⟩
  have aSG := apart_new OS OG (Nat.le_refl _); have aXG := apart_new O6 OG (Nat.le_refl _)
  replace OG := OG.mono (show g ≤ w7.heap.size by have := bb.size; omega)
  replace A := A.on b8 A.lt
  replace hv := hv.on b8 (by have := bb.size; omega)
  replace BW := BW.on b8 BW.lt
  replace X := X.on b8 X.lt
  replace OS := OS.on b8 (Nat.le_refl _)
  replace O6 := O6.on b8 (Nat.le_refl _)
  replace bb := bb.trans (b8.mono (by have := bb.size; omega))
  clear b8
  have BG := Blk.new w8 #[.int .i64 who, .int .i64 rv, .int .i64 bp, .int .i64 ba, .int .i64 wv, .slice a8 n k8, .slice d8 m l8] 30
  have b5 := alloc_below w8 (.cells #[.int .i64 who, .int .i64 rv, .int .i64 bp, .int .i64 ba, .int .i64 wv, .slice a8 n k8, .slice d8 m l8] 30)
  obtain ⟨pG, hp⟩ : ∃ p, w8.heap.size = p := ⟨_, rfl⟩
  obtain ⟨w9, hw5⟩ : ∃ W, w8.alloc (.cells #[.int .i64 who, .int .i64 rv, .int .i64 bp, .int .i64 ba, .int .i64 wv, .slice a8 n k8, .slice d8 m l8] 30) = W := ⟨_, rfl⟩
  rw [hw5] at BG b5
  rw [hp] at BG
  replace A := A.on b5 A.lt
  replace hv := hv.on b5 (by have := bb.size; omega)
  replace BW := BW.on b5 BW.lt
  replace X := X.on b5 X.lt
  replace OS := OS.on b5 (Nat.le_refl _)
  replace O6 := O6.on b5 (Nat.le_refl _)
  replace OG := OG.on b5 (Nat.le_refl _)
  replace bb := bb.trans (b5.mono (by have := bb.size; omega))
  clear b5
  have j0 := BW.cell 0; have j1 := BW.cell 1; have j2 := BW.cell 2; have j3 := BW.cell 3; have j4 := BW.cell 4; have j5 := BW.cell 5; have j6 := BW.cell 6
  have fG := fun i => BG.cell i; have fG2 := fun i => BG.froz i
  go_wp2_with fail
  try rw [hw5]
  clear hw5 hp fG fG2
  clear j0 j1 j2 j3 j4 j5 j6
  refine (eqE who rv bp ba wv ps rs _ _ _ _ _ w9 OG.sees OS.sees (Nat.le_refl _)).mono ?_
  rintro e w10 ⟨rfl, b10⟩
  replace A := A.on b10 A.lt
  replace hv := hv.on b10 (by have := bb.size; omega)
  replace BW := BW.on b10 BW.lt
  replace X := X.on b10 X.lt
  replace BG := BG.on b10 BG.lt
  replace OS := OS.on b10 (Nat.le_refl _)
  replace O6 := O6.on b10 (Nat.le_refl _)
  replace OG := OG.on b10 (Nat.le_refl _)
  replace bb := bb.trans (b10.mono (by have := bb.size; omega))
  clear b10
  go_wp2_with fail
  replace A := A.drew; replace X := X.drew; replace BW := BW.drew; replace BG := BG.drew; replace bb := bb.drew; replace hv := hv.drew
  have bD := drew_low w10
  replace OS := OS.on bD (Nat.le_refl _); replace O6 := O6.on bD (Nat.le_refl _); replace OG := OG.on bD (Nat.le_refl _)
  clear bD
  have cA : w10.cell? ⟨g, 0, none⟩ = some (.int .i64 who) ∧ w10.cell? ⟨g, 1, none⟩ = some (.int .i64 rv) ∧ w10.cell? ⟨g, 2, none⟩ = some (.int .i64 ph) ∧ w10.cell? ⟨g, 3, none⟩ = some (.int .i64 at') ∧ w10.cell? ⟨g, 4, none⟩ = some (.int .i64 wv) ∧ w10.cell? ⟨g, 5, none⟩ = some (.slice ap n kp) ∧ w10.cell? ⟨g, 6, none⟩ = some (.slice ar m kr) := ⟨A.cell 0, A.cell 1, A.cell 2, A.cell 3, A.cell 4, A.cell 5, A.cell 6⟩
  have cX : w10.cell? ⟨p, 0, none⟩ = some (.int .i64 who) ∧ w10.cell? ⟨p, 1, none⟩ = some (.int .i64 rv) ∧ w10.cell? ⟨p, 2, none⟩ = some (.int .i64 ph) ∧ w10.cell? ⟨p, 3, none⟩ = some (.int .i64 at') ∧ w10.cell? ⟨p, 4, none⟩ = some (.int .i64 wv) ∧ w10.cell? ⟨p, 5, none⟩ = some (.slice a6 n k6) ∧ w10.cell? ⟨p, 6, none⟩ = some (.slice d6 m l6) := ⟨X.cell 0, X.cell 1, X.cell 2, X.cell 3, X.cell 4, X.cell 5, X.cell 6⟩
  obtain ⟨WD, hWD⟩ : ∃ WD, w10.drew = WD := ⟨_, rfl⟩
  refine wp_region_held_drew (S := fun W => (W.cell? ⟨g, 0, none⟩ = some (.int .i64 who) ∧ W.cell? ⟨g, 1, none⟩ = some (.int .i64 rv) ∧ W.cell? ⟨g, 2, none⟩ = some (.int .i64 ph) ∧ W.cell? ⟨g, 3, none⟩ = some (.int .i64 at') ∧ W.cell? ⟨g, 4, none⟩ = some (.int .i64 wv) ∧ W.cell? ⟨g, 5, none⟩ = some (.slice ap n kp) ∧ W.cell? ⟨g, 6, none⟩ = some (.slice ar m kr)) ∧ (W.cell? ⟨p, 0, none⟩ = some (.int .i64 who) ∧ W.cell? ⟨p, 1, none⟩ = some (.int .i64 rv) ∧ W.cell? ⟨p, 2, none⟩ = some (.int .i64 ph) ∧ W.cell? ⟨p, 3, none⟩ = some (.int .i64 at') ∧ W.cell? ⟨p, 4, none⟩ = some (.int .i64 wv) ∧ W.cell? ⟨p, 5, none⟩ = some (.slice a6 n k6) ∧ W.cell? ⟨p, 6, none⟩ = some (.slice d6 m l6))) (by kernel_rfl) ⟨cA, cX⟩ (fun hHeld => ?_)
  rw [hWD] at A X BW BG bb hv OS O6 OG hHeld ⊢
  clear hWD cA cX
  refine takeH (i := 0) (some 41) (.agg #[.int .i64 who, .int .i64 rv, .int .i64 ph, .int .i64 at', .int .i64 wv, .slice a6 n k6, .slice d6 m l6]) rfl rfl (by kernel_rfl) (by kernel_rfl) (by kernel_rfl) (fun _ _ _ h => h) (Or.inl ⟨by rfl, fun w hSw => by (try dsimp only at hSw); go_simp⟩) (by assumption) ?_
  simp only [Act.put, List.setIfInBounds_toArray, List.set_cons_zero, List.set_cons_succ]
  refine takeH (i := 1) (some 42) (.agg #[.int .i64 who, .int .i64 rv, .int .i64 ph, .int .i64 at', .int .i64 wv, .slice ap n kp, .slice ar m kr]) rfl rfl (by kernel_rfl) (by kernel_rfl) (by kernel_rfl) (fun _ _ _ h => h) (Or.inl ⟨by rfl, fun w hSw => by (try dsimp only at hSw); go_simp⟩) (by assumption) ?_
  simp only [Act.put, List.setIfInBounds_toArray, List.set_cons_zero, List.set_cons_succ]
  refine wpAnyH_ready (rs := [2]) (by kernel_rfl) (by simp) ?_
  refine AllReadyH.cons rfl (fun K hK => ?_) AllReadyH.nil
  go_simp
  refine (cT WD hv (by have := bb.size; omega) f1 f2).mono ?_
  rintro e w11 ⟨a11, k11, d11, l11, rfl, O11, b11⟩
  try rw [hn, hm] at O11 ⊢
  replace A := A.on b11 A.lt
  replace hv := hv.on b11 (by have := bb.size; omega)
  replace BW := BW.on b11 BW.lt
  replace X := X.on b11 X.lt
  replace BG := BG.on b11 BG.lt
  replace OS := OS.on b11 (Nat.le_refl _)
  replace O6 := O6.on b11 (Nat.le_refl _)
  replace OG := OG.on b11 (Nat.le_refl _)
  replace bb := bb.trans (b11.mono (by have := bb.size; omega))
  clear b11
  go_simp
  refine hK.out _ _ ⟨⟨A.cell 0, A.cell 1, A.cell 2, A.cell 3, A.cell 4, A.cell 5, A.cell 6⟩, ⟨X.cell 0, X.cell 1, X.cell 2, X.cell 3, X.cell 4, X.cell 5, X.cell 6⟩⟩ (fun _ => ?_)
  clear hK K
  try simp only [Act.put, List.setIfInBounds_toArray, List.set_cons_zero, List.set_cons_succ]
  refine wpAnyH_ready (rs := [3]) (by kernel_rfl) (by simp) ?_
  refine AllReadyH.cons rfl (fun K hK => ?_) AllReadyH.nil
  go_simp
  refine (eqE who rv ph at' wv ps rs _ _ _ _ _ w11 O6.sees O11.sees (Nat.le_refl _)).mono ?_
  rintro e w12 ⟨rfl, b12⟩
  clear O11
  replace A := A.on b12 A.lt
  replace hv := hv.on b12 (by have := bb.size; omega)
  replace BW := BW.on b12 BW.lt
  replace X := X.on b12 X.lt
  replace BG := BG.on b12 BG.lt
  replace OS := OS.on b12 (Nat.le_refl _)
  replace O6 := O6.on b12 (Nat.le_refl _)
  replace OG := OG.on b12 (Nat.le_refl _)
  replace bb := bb.trans (b12.mono (by have := bb.size; omega))
  clear b12
  go_simp
  refine hK.out _ _ ⟨⟨A.cell 0, A.cell 1, A.cell 2, A.cell 3, A.cell 4, A.cell 5, A.cell 6⟩, ⟨X.cell 0, X.cell 1, X.cell 2, X.cell 3, X.cell 4, X.cell 5, X.cell 6⟩⟩ (fun _ => ?_)
  clear hK K
  try simp only [Act.put, List.setIfInBounds_toArray, List.set_cons_zero, List.set_cons_succ]
  refine takeH (i := 4) (some 45) (.bool false) rfl rfl (by kernel_rfl) (by kernel_rfl) (by kernel_rfl) (fun _ _ _ h => h) (Or.inl ⟨by rfl, fun w hSw => by (try dsimp only at hSw); go_simp⟩) (by assumption) ?_
  try simp only [Act.put, List.setIfInBounds_toArray, List.set_cons_zero, List.set_cons_succ]
  refine wpAnyH_done (by kernel_rfl) ?_ _
  clear hHeld
  have j0 := X.cell 0; have j1 := X.cell 1; have j2 := X.cell 2; have j3 := X.cell 3; have j4 := X.cell 4; have j5 := X.cell 5; have j6 := X.cell 6
  go_wp2_with fail
  clear j0 j1 j2 j3 j4 j5 j6
  refine (markE who rv ph at' wv ps rs _ _ 1 (by omega) (by omega) _ w12 O6 (by omega) (by omega)).mono ?_
  rintro e w13 ⟨rfl, M6, hc⟩
  have hlow : ∀ i, Two _ _ i → g ≤ i := fun i hi => (O6.two i hi).1
  replace A := hc.blk O6 A (by decide) (by decide)
  replace BW := hc.blk O6 BW (by decide) (by decide)
  replace X := hc.blk O6 X (by decide) (by decide)
  replace BG := hc.blk O6 BG (by decide) (by decide)
  have bC := hc.below (B := g) (by have := bb.size; omega) hlow
  replace hv := hv.on bC (Nat.le_refl _)
  replace OS := OS.keep hc aSX
  replace OG := OG.keep hc aXG.symm
  replace bb := bb.trans bC
  clear hlow bC
  clear hc O6 M6 X aSX aXG
  rw [hn, hm]
  have q1n : ¬ (1 + 2 * (n : Int) + (m : Int) < 0) := by omega
  have q1d : decide (1 + 2 * (n : Int) + (m : Int) < 0) = false := decide_eq_false q1n
  have j0 := BW.cell 0; have j1 := BW.cell 1; have j2 := BW.cell 2; have j3 := BW.cell 3; have j4 := BW.cell 4; have j5 := BW.cell 5; have j6 := BW.cell 6
  have i0 := BG.cell 0; have i1 := BG.cell 1; have i2 := BG.cell 2; have i3 := BG.cell 3; have i4 := BG.cell 4; have i5 := BG.cell 5; have i6 := BG.cell 6
  go_wp2_with fail
  clear j0 j1 j2 j3 j4 j5 j6
  clear i0 i1 i2 i3 i4 i5 i6
  clear q1d
  refine (eqE who rv bp ba wv ps rs _ _ _ _ _ w13 OG.sees OS.sees (Nat.le_refl _)).mono ?_
  rintro e w14 ⟨rfl, b14⟩
  replace A := A.on b14 A.lt
  replace hv := hv.on b14 (by have := bb.size; omega)
  replace BW := BW.on b14 BW.lt
  replace BG := BG.on b14 BG.lt
  replace OS := OS.on b14 (Nat.le_refl _)
  replace OG := OG.on b14 (Nat.le_refl _)
  replace bb := bb.trans (b14.mono (by have := bb.size; omega))
  clear b14
  have i0 := BG.cell 0; have i1 := BG.cell 1; have i2 := BG.cell 2; have i3 := BG.cell 3; have i4 := BG.cell 4; have i5 := BG.cell 5; have i6 := BG.cell 6
  go_wp2_with fail
  clear i0 i1 i2 i3 i4 i5 i6
  refine (markE who rv bp ba wv ps rs _ _ 1 (by omega) (by omega) _ w14 OG (by omega) (by omega)).mono ?_
  rintro e w15 ⟨rfl, MG, hc⟩
  have hlow : ∀ i, Two _ _ i → g ≤ i := fun i hi => (OG.two i hi).1
  replace A := hc.blk OG A (by decide) (by decide)
  replace BW := hc.blk OG BW (by decide) (by decide)
  replace BG := hc.blk OG BG (by decide) (by decide)
  have bC := hc.below (B := g) (by have := bb.size; omega) hlow
  replace hv := hv.on bC (Nat.le_refl _)
  replace OS := OS.keep hc aSG
  replace bb := bb.trans bC
  clear hlow bC
  clear hc OG aSG
  rw [hn, hm] at MG
  rw [hn, hm]
  have i0 := BG.cell 0; have i1 := BG.cell 1; have i2 := BG.cell 2; have i3 := BG.cell 3; have i4 := BG.cell 4; have i5 := BG.cell 5; have i6 := BG.cell 6
  go_wp2_with fail
  clear i0 i1 i2 i3 i4 i5 i6
  refine (heldCommitC who rv bp ba wv _ _ n m 1 (by omega) (by omega) _ w15 MG.sees (Nat.le_refl _) f1 f2).mono ?_
  rintro e w16 ⟨rfl, b16⟩
  replace A := A.on b16 A.lt
  replace hv := hv.on b16 (by have := bb.size; omega)
  replace BW := BW.on b16 BW.lt
  replace BG := BG.on b16 BG.lt
  replace OS := OS.on b16 (Nat.le_refl _)
  replace MG := MG.on b16 (Nat.le_refl _)
  replace bb := bb.trans (b16.mono (by have := bb.size; omega))
  clear b16
  have j0 := A.cell 0; have j1 := A.cell 1; have j2 := A.cell 2; have j3 := A.cell 3; have j4 := A.cell 4; have j5 := A.cell 5; have j6 := A.cell 6
  go_wp2_with fail
  clear j0 j1 j2 j3 j4 j5 j6
  refine (cT w16 hv (by have := bb.size; omega) f1 f2).mono ?_
  rintro e w17 ⟨a17, k17, d17, l17, rfl, O17, b17⟩
  try rw [hn, hm] at O17 ⊢
  have h17 := O17.sees
  replace A := A.on b17 A.lt
  replace hv := hv.on b17 (by have := bb.size; omega)
  replace BW := BW.on b17 BW.lt
  replace BG := BG.on b17 BG.lt
  replace OS := OS.on b17 (Nat.le_refl _)
  replace MG := MG.on b17 (Nat.le_refl _)
  replace bb := bb.trans (b17.mono (by have := bb.size; omega))
  clear b17
  clear O17
  go_wp2_with fail
  refine (cI _ w17 _ _ h17 (Nat.le_refl _) f1 f2).mono ?_
  rintro e w18 ⟨a18, k18, d18, l18, rfl, OH, b18⟩
  clear h17
  replace OH := OH.mono (show g ≤ w17.heap.size by have := bb.size; omega)
  replace A := A.on b18 A.lt
  replace hv := hv.on b18 (by have := bb.size; omega)
  replace BW := BW.on b18 BW.lt
  replace BG := BG.on b18 BG.lt
  replace OS := OS.on b18 (Nat.le_refl _)
  replace MG := MG.on b18 (Nat.le_refl _)
  replace bb := bb.trans (b18.mono (by have := bb.size; omega))
  clear b18
  have BH := Blk.new w18 #[.int .i64 who, .int .i64 rv, .int .i64 bp, .int .i64 ba, .int .i64 wv, .slice a18 n k18, .slice d18 m l18] 30
  have b5 := alloc_below w18 (.cells #[.int .i64 who, .int .i64 rv, .int .i64 bp, .int .i64 ba, .int .i64 wv, .slice a18 n k18, .slice d18 m l18] 30)
  obtain ⟨pH, hp⟩ : ∃ p, w18.heap.size = p := ⟨_, rfl⟩
  obtain ⟨w19, hw5⟩ : ∃ W, w18.alloc (.cells #[.int .i64 who, .int .i64 rv, .int .i64 bp, .int .i64 ba, .int .i64 wv, .slice a18 n k18, .slice d18 m l18] 30) = W := ⟨_, rfl⟩
  rw [hw5] at BH b5
  rw [hp] at BH
  replace A := A.on b5 A.lt
  replace hv := hv.on b5 (by have := bb.size; omega)
  replace BW := BW.on b5 BW.lt
  replace BG := BG.on b5 BG.lt
  replace OS := OS.on b5 (Nat.le_refl _)
  replace MG := MG.on b5 (Nat.le_refl _)
  replace OH := OH.on b5 (Nat.le_refl _)
  replace bb := bb.trans (b5.mono (by have := bb.size; omega))
  clear b5
  have j0 := BW.cell 0; have j1 := BW.cell 1; have j2 := BW.cell 2; have j3 := BW.cell 3; have j4 := BW.cell 4; have j5 := BW.cell 5; have j6 := BW.cell 6
  have fG := fun i => BH.cell i; have fG2 := fun i => BH.froz i
  go_wp2_with fail
  try rw [hw5]
  clear hw5 hp fG fG2
  clear j0 j1 j2 j3 j4 j5 j6
  refine (eqE who rv bp ba wv ps rs _ _ _ _ _ w19 OH.sees OS.sees (Nat.le_refl _)).mono ?_
  rintro e w20 ⟨rfl, b20⟩
  replace A := A.on b20 A.lt
  replace hv := hv.on b20 (by have := bb.size; omega)
  replace BW := BW.on b20 BW.lt
  replace BG := BG.on b20 BG.lt
  replace BH := BH.on b20 BH.lt
  replace OS := OS.on b20 (Nat.le_refl _)
  replace MG := MG.on b20 (Nat.le_refl _)
  replace OH := OH.on b20 (Nat.le_refl _)
  replace bb := bb.trans (b20.mono (by have := bb.size; omega))
  clear b20
  clear BW BH OS OH
  have i0 := BG.cell 0; have i1 := BG.cell 1; have i2 := BG.cell 2; have i3 := BG.cell 3; have i4 := BG.cell 4; have i5 := BG.cell 5; have i6 := BG.cell 6
  go_wp2_with fail
  clear i0 i1 i2 i3 i4 i5 i6
  refine (heldCommitC who rv bp ba wv _ _ n m 1 (by omega) (by omega) _ w20 MG.sees (Nat.le_refl _) f1 f2).mono ?_
  rintro e w21 ⟨rfl, b21⟩
  replace bb := bb.trans (b21.mono (by have := bb.size; omega))
  go_wp2
  go_ret
  exact ⟨rfl, bb⟩
end Commits
end Go.Proofs.Ytajbmokidcdfnaa
