/- The law of CommitNew. -/
import Derived.Test.YtajbmokidcdfnaaCommitE
import Derived.Test.YtajbmokidcdfnaaCommitNewW
set_option linter.unusedVariables false
set_option linter.unusedSimpArgs false
namespace Go.Proofs.Ytajbmokidcdfnaa
open Go.RowKit
namespace Commits
open Bas Flat Logs
theorem newC_len (who rv : Int) (ps qs : List R2) : (newC who rv ps qs).ps.length ≤ 8 ∧ (newC who rv ps qs).rs.length ≤ 8 := by
  have h1 := netOf_length ps
  have h2 := cellsOf_length qs
  have h3 := netOf_length qs
  unfold newC
  split
  · exact ⟨h1, by dsimp only; omega⟩
  · exact ⟨by simp [Cm.zero], by simp [Cm.zero]⟩
theorem OwnC.keepR {B : Nat} {w w' : World} {v a b : Value} {ps : List R2} {rs : List Int} (h : OwnC B w a b ps rs) (hg : w.grownBy w' v.ownBlock) (hd : ∀ k, v.ownBlock = some k → ¬ Two a b k) : OwnC B w' a b ps rs :=
  ⟨h.p.grown hg (fun k hk e => hd k e.symm (.inl hk)), h.r.grown hg (fun k hk e => hd k e.symm (.inr hk))⟩
set_option maxRecDepth 100000 in
set_option maxHeartbeats 12800000 in
theorem lawNew (who rv : Int) (vP : Value) (ps : List R2) (vQ : Value) (qs : List R2) (w : World) (hw0 : (Lit.int .i64 who).wf = true) (hw1 : (Lit.int .i64 rv).wf = true) (hP : Sees2 w.heap.size w vP ps) (hQ : Sees2 w.heap.size w vQ qs) :
    Calls Try.prog 4 #[.int .i64 who, .int .i64 rv, vP, vQ] w fun e w' => e = .returned (.bool true) ∧ Below w.heap.size w w' := by
  have cS := fun B W u v (h : Sees2 B W u ps) (h' : Sees2 B W v qs) (hB : B ≤ W.heap.size) => specNew who rv ps qs u v B W h h' hB
  have cI := fun B W u v (h : Sees2 B W u ps) (h' : Sees2 B W v qs) (hB : B ≤ W.heap.size) => implNew who rv ps qs u v B W h h' hB
  have hlen := newC_len who rv ps qs
  obtain ⟨C, hC⟩ : ∃ C, newC who rv ps qs = C := ⟨_, rfl⟩
  obtain ⟨ok, hok⟩ : ∃ b, newOk who rv ps qs = b := ⟨_, rfl⟩
  rw [hC] at cS cI hlen
  rw [hok] at cS cI
  clear hC hok
  obtain ⟨nwho, nrv, nph, nat, nwv, nps, nrs⟩ := C
  dsimp only [Cm.agg] at cS cI hlen
  obtain ⟨np, hnp⟩ : ∃ n, nps.length = n := ⟨_, rfl⟩
  obtain ⟨nr, hnr⟩ : ∃ n, nrs.length = n := ⟨_, rfl⟩
  rw [hnp, hnr] at hlen
  rw [hnp, hnr] at cS cI
  obtain ⟨g1, g2⟩ := hlen
  have r1 := hP.room; have r2 := hQ.room
  obtain ⟨ap, kp, rfl⟩ := hP.form
  obtain ⟨aq, kq, rfl⟩ := hQ.form
  obtain ⟨n, hn⟩ : ∃ n, ps.length = n := ⟨_, rfl⟩
  obtain ⟨m, hm⟩ : ∃ n, qs.length = n := ⟨_, rfl⟩
  rw [hn] at hP r1 ⊢
  rw [hm] at hQ r2 ⊢
  have z1 := szRowsC ap n kp 1048576 w (by omega) (by omega) r1
  have bb := Below.refl w.heap.size w
  obtain ⟨g, hg⟩ : ∃ g, w.heap.size = g := ⟨_, rfl⟩
  rw [hg] at bb hP hQ ⊢
  have HCS := (show Hid _ from cS); have HCI := (show Hid _ from cI)
  clear cS cI hw0 hw1
  by_cases f1 : (n : Int) ≤ 1048576
  case neg =>
    rw [if_neg f1] at z1
    go_enter Try.func4, Try.ntmps4
    go_wp2_with fail
    refine z1.mono ?_
    rintro e w1 ⟨rfl, rfl⟩
    go_wp2
    go_ret
    exact ⟨rfl, bb⟩
  rw [if_pos f1] at z1
  have z2 := szRowsC aq m kq (1048576 - n) w (by omega) (by omega) r2
  have n1 : ¬ (1048576 - (n : Int) < 0) := by omega
  by_cases f2 : (m : Int) ≤ 1048576 - n
  case neg =>
    rw [if_neg f2] at z2
    go_enter Try.func4, Try.ntmps4
    go_wp2_with fail
    refine z1.mono ?_
    rintro e w1 ⟨rfl, rfl⟩
    go_wp2_with fail
    refine z2.mono ?_
    rintro e w1 ⟨rfl, rfl⟩
    go_wp2
    go_ret
    exact ⟨rfl, bb⟩
  rw [if_pos f2] at z2
  have n2 : ¬ (1048576 - (n : Int) - (m : Int) < 0) := by omega
  go_enter Try.func4, Try.ntmps4
  go_wp2_with fail
  refine z1.mono ?_
  rintro e w1 ⟨rfl, rfl⟩
  go_wp2_with fail
  refine z2.mono ?_
  rintro e w1 ⟨rfl, rfl⟩
  clear z1 z2 r1 r2
  go_wp2_with fail
  clear n1 n2
  refine (toRowsC _ ps g w hP (by have := bb.size; omega) (by omega)).mono ?_
  rintro e w1 ⟨u1, rfl, O1, b1⟩
  obtain ⟨a1, c1, rfl⟩ := O1.form
  rw [hn] at O1
  try rw [hn]
  replace hP := hP.on b1 (by have := bb.size; omega); replace hQ := hQ.on b1 (by have := bb.size; omega)
  replace bb := bb.trans (b1.mono (by have := bb.size; omega))
  clear b1
  go_wp2_with fail
  refine (toRowsC _ qs g w1 hQ (by have := bb.size; omega) (by omega)).mono ?_
  rintro e w2 ⟨u2, rfl, O2, b2⟩
  obtain ⟨a2, c2, rfl⟩ := O2.form
  rw [hm] at O2
  try rw [hm]
  replace hP := hP.on b2 (by have := bb.size; omega); replace hQ := hQ.on b2 (by have := bb.size; omega)
  replace O1 := O1.on b2 (Nat.le_refl _)
  replace bb := bb.trans (b2.mono (by have := bb.size; omega))
  clear b2
  go_wp2_with fail
  refine (HCS.out _ w2 _ _ O1.sees (O2.sees) (Nat.le_refl _)).mono ?_
  rintro e w3 ⟨a3, k3, d3, l3, rfl, OS, b3⟩
  clear O1 O2
  replace OS := OS.mono (show g ≤ w2.heap.size by have := bb.size; omega)
  replace hP := hP.on b3 (by have := bb.size; omega); replace hQ := hQ.on b3 (by have := bb.size; omega)
  replace bb := bb.trans (b3.mono (by have := bb.size; omega))
  clear b3
  have BW := Blk.new w3 #[.int .i64 nwho, .int .i64 nrv, .int .i64 nph, .int .i64 nat, .int .i64 nwv, .slice a3 np k3, .slice d3 nr l3] 30
  have b5 := alloc_below w3 (.cells #[.int .i64 nwho, .int .i64 nrv, .int .i64 nph, .int .i64 nat, .int .i64 nwv, .slice a3 np k3, .slice d3 nr l3] 30)
  obtain ⟨pW, hp⟩ : ∃ p, w3.heap.size = p := ⟨_, rfl⟩
  obtain ⟨w4, hw5⟩ : ∃ W, w3.alloc (.cells #[.int .i64 nwho, .int .i64 nrv, .int .i64 nph, .int .i64 nat, .int .i64 nwv, .slice a3 np k3, .slice d3 nr l3] 30) = W := ⟨_, rfl⟩
  rw [hw5] at BW b5
  rw [hp] at BW
  replace hP := hP.on b5 (by have := bb.size; omega); replace hQ := hQ.on b5 (by have := bb.size; omega)
  replace OS := OS.on b5 (Nat.le_refl _)
  replace bb := bb.trans (b5.mono (by have := bb.size; omega))
  clear b5
  have fW := fun i => BW.cell i; have fW2 := fun i => BW.froz i
  go_wp2_with fail
  try rw [hw5]
  clear hw5 hp fW fW2
  refine (toRowsC _ ps g w4 hP (by have := bb.size; omega) (by omega)).mono ?_
  rintro e w5 ⟨u5, rfl, O5, b5⟩
  obtain ⟨a5, c5, rfl⟩ := O5.form
  rw [hn] at O5
  try rw [hn]
  have e1 : ∀ k, (Value.slice a5 n c5).ownBlock = some k → ¬ Two (.slice a3 np k3) (.slice d3 nr l3) k := fun k hk h => by have := (O5.at k hk).1; have := (OS.two k h).2; omega
  replace O5 := O5.mono (show g ≤ w4.heap.size by have := bb.size; omega)
  replace hP := hP.on b5 (by have := bb.size; omega); replace hQ := hQ.on b5 (by have := bb.size; omega)
  replace BW := BW.on b5 BW.lt
  replace OS := OS.on b5 (Nat.le_refl _)
  replace bb := bb.trans (b5.mono (by have := bb.size; omega))
  clear b5
  go_wp2_with fail
  refine (toRowsC _ qs g w5 hQ (by have := bb.size; omega) (by omega)).mono ?_
  rintro e w6 ⟨u6, rfl, O6, b6⟩
  obtain ⟨a6, c6, rfl⟩ := O6.form
  rw [hm] at O6
  try rw [hm]
  have e2 : ∀ k, (Value.slice a6 m c6).ownBlock = some k → ¬ Two (.slice a3 np k3) (.slice d3 nr l3) k := fun k hk h => by have := (O6.at k hk).1; have := (OS.two k h).2; omega
  have e3 : ∀ k, (Value.slice a6 m c6).ownBlock = some k → some k ≠ (Value.slice a5 n c5).ownBlock := fun k hk h => by have := (O6.at k hk).1; have := (O5.at k h.symm).2; omega
  replace O6 := O6.mono (show g ≤ w5.heap.size by have := bb.size; omega)
  replace hP := hP.on b6 (by have := bb.size; omega); replace hQ := hQ.on b6 (by have := bb.size; omega)
  replace BW := BW.on b6 BW.lt
  replace OS := OS.on b6 (Nat.le_refl _)
  replace O5 := O5.on b6 (Nat.le_refl _)
  replace bb := bb.trans (b6.mono (by have := bb.size; omega))
  clear b6
  go_wp2_with fail
  refine (HCI.out _ w6 _ _ O5.sees O6.sees (Nat.le_refl _)).mono ?_
  rintro e w7 ⟨a7, k7, d7, l7, rfl, OG, b7⟩
  have e4 : ∀ k, (Value.slice a5 n c5).ownBlock = some k → ¬ Two (.slice a7 np k7) (.slice d7 nr l7) k := fun k hk h => by have := (O5.at k hk).2; have := (OG.two k h).1; omega
  have e5 : ∀ k, (Value.slice a6 m c6).ownBlock = some k → ¬ Two (.slice a7 np k7) (.slice d7 nr l7) k := fun k hk h => by have := (O6.at k hk).2; have := (OG.two k h).1; omega
  have aSG := apart_new OS OG (Nat.le_refl _)
  replace OG := OG.mono (show g ≤ w6.heap.size by have := bb.size; omega)
  replace hP := hP.on b7 (by have := bb.size; omega); replace hQ := hQ.on b7 (by have := bb.size; omega)
  replace BW := BW.on b7 BW.lt
  replace OS := OS.on b7 (Nat.le_refl _)
  replace O5 := O5.on b7 (Nat.le_refl _)
  replace O6 := O6.on b7 (Nat.le_refl _)
  replace bb := bb.trans (b7.mono (by have := bb.size; omega))
  clear b7
  have BG := Blk.new w7 #[.int .i64 nwho, .int .i64 nrv, .int .i64 nph, .int .i64 nat, .int .i64 nwv, .slice a7 np k7, .slice d7 nr l7] 30
  have b5 := alloc_below w7 (.cells #[.int .i64 nwho, .int .i64 nrv, .int .i64 nph, .int .i64 nat, .int .i64 nwv, .slice a7 np k7, .slice d7 nr l7] 30)
  obtain ⟨pG, hp⟩ : ∃ p, w7.heap.size = p := ⟨_, rfl⟩
  obtain ⟨w8, hw5⟩ : ∃ W, w7.alloc (.cells #[.int .i64 nwho, .int .i64 nrv, .int .i64 nph, .int .i64 nat, .int .i64 nwv, .slice a7 np k7, .slice d7 nr l7] 30) = W := ⟨_, rfl⟩
  rw [hw5] at BG b5
  rw [hp] at BG
  replace hP := hP.on b5 (by have := bb.size; omega); replace hQ := hQ.on b5 (by have := bb.size; omega)
  replace BW := BW.on b5 BW.lt
  replace OS := OS.on b5 (Nat.le_refl _)
  replace O5 := O5.on b5 (Nat.le_refl _)
  replace O6 := O6.on b5 (Nat.le_refl _)
  replace OG := OG.on b5 (Nat.le_refl _)
  replace bb := bb.trans (b5.mono (by have := bb.size; omega))
  clear b5
  have j0 := BW.cell 0; have j1 := BW.cell 1; have j2 := BW.cell 2; have j3 := BW.cell 3; have j4 := BW.cell 4; have j5 := BW.cell 5; have j6 := BW.cell 6
  have fG := fun i => BG.cell i; have fG2 := fun i => BG.froz i
  go_wp2_with fail
  try rw [hw5]
  clear hw5 hp fG fG2
  clear j0 j1 j2 j3 j4 j5 j6
  refine (eqE nwho nrv nph nat nwv nps nrs _ _ _ _ _ w8 OG.sees OS.sees (Nat.le_refl _)).mono ?_
  rintro e w9 ⟨rfl, bw9⟩
  replace hP := hP.on bw9 (by have := bb.size; omega); replace hQ := hQ.on bw9 (by have := bb.size; omega)
  replace BW := BW.on bw9 BW.lt
  replace BG := BG.on bw9 BG.lt
  replace OS := OS.on bw9 (Nat.le_refl _)
  replace O5 := O5.on bw9 (Nat.le_refl _)
  replace O6 := O6.on bw9 (Nat.le_refl _)
  replace OG := OG.on bw9 (Nat.le_refl _)
  replace bb := bb.trans (bw9.mono (by have := bb.size; omega))
  clear bw9
  go_wp2_with fail
  refine (toRowsC _ ps g w9 hP (by have := bb.size; omega) (by omega)).mono ?_
  rintro e w10 ⟨u10, rfl, O10, b10⟩
  obtain ⟨a10, c10, rfl⟩ := O10.form
  rw [hn] at O10
  try rw [hn]
  replace hP := hP.on b10 (by have := bb.size; omega); replace hQ := hQ.on b10 (by have := bb.size; omega)
  replace BW := BW.on b10 BW.lt
  replace BG := BG.on b10 BG.lt
  replace OS := OS.on b10 (Nat.le_refl _)
  replace O5 := O5.on b10 (Nat.le_refl _)
  replace O6 := O6.on b10 (Nat.le_refl _)
  replace OG := OG.on b10 (Nat.le_refl _)
  replace bb := bb.trans (b10.mono (by have := bb.size; omega))
  clear b10
  go_wp2_with fail
  refine (eqRowsC _ _ ps w10.heap.size w10 O5.sees O10.sees (Nat.le_refl _)).mono ?_
  rintro e w11 ⟨rfl, b11⟩
  clear O10
  replace hP := hP.on b11 (by have := bb.size; omega); replace hQ := hQ.on b11 (by have := bb.size; omega)
  replace BW := BW.on b11 BW.lt
  replace BG := BG.on b11 BG.lt
  replace OS := OS.on b11 (Nat.le_refl _)
  replace O5 := O5.on b11 (Nat.le_refl _)
  replace O6 := O6.on b11 (Nat.le_refl _)
  replace OG := OG.on b11 (Nat.le_refl _)
  replace bb := bb.trans (b11.mono (by have := bb.size; omega))
  clear b11
  go_wp2_with fail
  refine (toRowsC _ qs g w11 hQ (by have := bb.size; omega) (by omega)).mono ?_
  rintro e w12 ⟨u12, rfl, O12, b12⟩
  obtain ⟨a12, c12, rfl⟩ := O12.form
  rw [hm] at O12
  try rw [hm]
  replace hP := hP.on b12 (by have := bb.size; omega); replace hQ := hQ.on b12 (by have := bb.size; omega)
  replace BW := BW.on b12 BW.lt
  replace BG := BG.on b12 BG.lt
  replace OS := OS.on b12 (Nat.le_refl _)
  replace O5 := O5.on b12 (Nat.le_refl _)
  replace O6 := O6.on b12 (Nat.le_refl _)
  replace OG := OG.on b12 (Nat.le_refl _)
  replace bb := bb.trans (b12.mono (by have := bb.size; omega))
  clear b12
  go_wp2_with fail
  refine (eqRowsC _ _ qs w12.heap.size w12 O6.sees O12.sees (Nat.le_refl _)).mono ?_
  rintro e w13 ⟨rfl, b13⟩
  clear O12
  replace hP := hP.on b13 (by have := bb.size; omega); replace hQ := hQ.on b13 (by have := bb.size; omega)
  replace BW := BW.on b13 BW.lt
  replace BG := BG.on b13 BG.lt
  replace OS := OS.on b13 (Nat.le_refl _)
  replace O5 := O5.on b13 (Nat.le_refl _)
  replace O6 := O6.on b13 (Nat.le_refl _)
  replace OG := OG.on b13 (Nat.le_refl _)
  replace bb := bb.trans (b13.mono (by have := bb.size; omega))
  clear b13
  go_wp2_with fail
  refine (markRowsC _ ps _ g w13 O5 (by omega) (by omega) (by omega)).mono ?_
  rintro e w14 ⟨rfl, M, gr⟩
  have hrow := fun k (hk : _ = some k) => (O5.at k hk).1
  replace hP := hP.grown gr (by have := bb.size; omega) hrow; replace hQ := hQ.grown gr (by have := bb.size; omega) hrow
  replace BW := BW.grown gr (fun e => O5.off BW (by decide) _ e.symm rfl)
  replace BG := BG.grown gr (fun e => O5.off BG (by decide) _ e.symm rfl)
  replace OS := OS.keepR gr e1; replace OG := OG.keepR gr e4
  replace O6 := O6.grown gr e3
  replace bb := bb.grown gr (by have := bb.size; omega) hrow
  clear M gr hrow O5
  rw [hn]
  go_wp2_with fail
  refine (markRowsC _ qs _ g w14 O6 (by omega) (by omega) (by omega)).mono ?_
  rintro e w15 ⟨rfl, M, gr⟩
  have hrow := fun k (hk : _ = some k) => (O6.at k hk).1
  replace hP := hP.grown gr (by have := bb.size; omega) hrow; replace hQ := hQ.grown gr (by have := bb.size; omega) hrow
  replace BW := BW.grown gr (fun e => O6.off BW (by decide) _ e.symm rfl)
  replace BG := BG.grown gr (fun e => O6.off BG (by decide) _ e.symm rfl)
  replace OS := OS.keepR gr e2; replace OG := OG.keepR gr e5
  replace bb := bb.grown gr (by have := bb.size; omega) hrow
  clear M gr hrow O6
  rw [hm]
  clear e1 e2 e3 e4 e5
  have q1n : ¬ (1 + 2 * (n : Int) + 2 * (m : Int) < 0) := by omega
  have q1d : decide (1 + 2 * (n : Int) + 2 * (m : Int) < 0) = false := decide_eq_false q1n
  have j0 := BW.cell 0; have j1 := BW.cell 1; have j2 := BW.cell 2; have j3 := BW.cell 3; have j4 := BW.cell 4; have j5 := BW.cell 5; have j6 := BW.cell 6
  have i0 := BG.cell 0; have i1 := BG.cell 1; have i2 := BG.cell 2; have i3 := BG.cell 3; have i4 := BG.cell 4; have i5 := BG.cell 5; have i6 := BG.cell 6
  go_wp2_with fail
  clear j0 j1 j2 j3 j4 j5 j6
  clear i0 i1 i2 i3 i4 i5 i6
  clear q1d q1n
  refine (eqE nwho nrv nph nat nwv nps nrs _ _ _ _ _ w15 OG.sees OS.sees (Nat.le_refl _)).mono ?_
  rintro e w16 ⟨rfl, bw16⟩
  replace hP := hP.on bw16 (by have := bb.size; omega); replace hQ := hQ.on bw16 (by have := bb.size; omega)
  replace BW := BW.on bw16 BW.lt
  replace BG := BG.on bw16 BG.lt
  replace OS := OS.on bw16 (Nat.le_refl _)
  replace OG := OG.on bw16 (Nat.le_refl _)
  replace bb := bb.trans (bw16.mono (by have := bb.size; omega))
  clear bw16
  have i0 := BG.cell 0; have i1 := BG.cell 1; have i2 := BG.cell 2; have i3 := BG.cell 3; have i4 := BG.cell 4; have i5 := BG.cell 5; have i6 := BG.cell 6
  go_wp2_with fail
  clear i0 i1 i2 i3 i4 i5 i6
  refine (markE nwho nrv nph nat nwv nps nrs _ _ 1 (by omega) (by omega) _ w16 OG (by omega) (by omega)).mono ?_
  rintro e w17 ⟨rfl, MG, hc⟩
  have hlow : ∀ i, Two _ _ i → g ≤ i := fun i hi => (OG.two i hi).1
  replace BW := hc.blk OG BW (by decide) (by decide); replace BG := hc.blk OG BG (by decide) (by decide)
  have bC := hc.below (B := g) (by have := bb.size; omega) hlow
  replace hP := hP.on bC (Nat.le_refl _); replace hQ := hQ.on bC (Nat.le_refl _)
  replace OS := OS.keep hc aSG
  replace bb := bb.trans bC
  clear hlow bC hc OG aSG
  rw [hnp, hnr] at MG
  rw [hnp, hnr]
  have q1n : ¬ (1 + 2 * (np : Int) + (nr : Int) < 0) := by omega
  have i0 := BG.cell 0; have i1 := BG.cell 1; have i2 := BG.cell 2; have i3 := BG.cell 3; have i4 := BG.cell 4; have i5 := BG.cell 5; have i6 := BG.cell 6
  go_wp2_with fail
  clear i0 i1 i2 i3 i4 i5 i6
  refine (heldCommitC nwho nrv nph nat nwv _ _ np nr 1 (by omega) (by omega) _ w17 MG.sees (Nat.le_refl _) (by omega) (by omega)).mono ?_
  rintro e w18 ⟨rfl, bw18⟩
  replace hP := hP.on bw18 (by have := bb.size; omega); replace hQ := hQ.on bw18 (by have := bb.size; omega)
  replace BW := BW.on bw18 BW.lt
  replace BG := BG.on bw18 BG.lt
  replace OS := OS.on bw18 (Nat.le_refl _)
  replace MG := MG.on bw18 (Nat.le_refl _)
  replace bb := bb.trans (bw18.mono (by have := bb.size; omega))
  clear bw18
  go_wp2_with fail
  refine (toRowsC _ ps g w18 hP (by have := bb.size; omega) (by omega)).mono ?_
  rintro e w19 ⟨u19, rfl, O19, b19⟩
  obtain ⟨a19, c19, rfl⟩ := O19.form
  rw [hn] at O19
  try rw [hn]
  replace hP := hP.on b19 (by have := bb.size; omega); replace hQ := hQ.on b19 (by have := bb.size; omega)
  replace BW := BW.on b19 BW.lt
  replace BG := BG.on b19 BG.lt
  replace OS := OS.on b19 (Nat.le_refl _)
  replace MG := MG.on b19 (Nat.le_refl _)
  replace bb := bb.trans (b19.mono (by have := bb.size; omega))
  clear b19
  go_wp2_with fail
  refine (toRowsC _ qs g w19 hQ (by have := bb.size; omega) (by omega)).mono ?_
  rintro e w20 ⟨u20, rfl, O20, b20⟩
  obtain ⟨a20, c20, rfl⟩ := O20.form
  rw [hm] at O20
  try rw [hm]
  replace hP := hP.on b20 (by have := bb.size; omega); replace hQ := hQ.on b20 (by have := bb.size; omega)
  replace BW := BW.on b20 BW.lt
  replace BG := BG.on b20 BG.lt
  replace OS := OS.on b20 (Nat.le_refl _)
  replace MG := MG.on b20 (Nat.le_refl _)
  replace O19 := O19.on b20 (Nat.le_refl _)
  replace bb := bb.trans (b20.mono (by have := bb.size; omega))
  clear b20
  go_wp2_with fail
  refine (HCI.out _ w20 _ _ O19.sees O20.sees (Nat.le_refl _)).mono ?_
  rintro e w21 ⟨a21, k21, d21, l21, rfl, OH, b21⟩
  clear O19 O20
  replace OH := OH.mono (show g ≤ w20.heap.size by have := bb.size; omega)
  replace hP := hP.on b21 (by have := bb.size; omega); replace hQ := hQ.on b21 (by have := bb.size; omega)
  replace BW := BW.on b21 BW.lt
  replace BG := BG.on b21 BG.lt
  replace OS := OS.on b21 (Nat.le_refl _)
  replace MG := MG.on b21 (Nat.le_refl _)
  replace bb := bb.trans (b21.mono (by have := bb.size; omega))
  clear b21
  have BH := Blk.new w21 #[.int .i64 nwho, .int .i64 nrv, .int .i64 nph, .int .i64 nat, .int .i64 nwv, .slice a21 np k21, .slice d21 nr l21] 30
  have b5 := alloc_below w21 (.cells #[.int .i64 nwho, .int .i64 nrv, .int .i64 nph, .int .i64 nat, .int .i64 nwv, .slice a21 np k21, .slice d21 nr l21] 30)
  obtain ⟨pH, hp⟩ : ∃ p, w21.heap.size = p := ⟨_, rfl⟩
  obtain ⟨w22, hw5⟩ : ∃ W, w21.alloc (.cells #[.int .i64 nwho, .int .i64 nrv, .int .i64 nph, .int .i64 nat, .int .i64 nwv, .slice a21 np k21, .slice d21 nr l21] 30) = W := ⟨_, rfl⟩
  rw [hw5] at BH b5
  rw [hp] at BH
  replace hP := hP.on b5 (by have := bb.size; omega); replace hQ := hQ.on b5 (by have := bb.size; omega)
  replace BW := BW.on b5 BW.lt
  replace BG := BG.on b5 BG.lt
  replace OS := OS.on b5 (Nat.le_refl _)
  replace MG := MG.on b5 (Nat.le_refl _)
  replace OH := OH.on b5 (Nat.le_refl _)
  replace bb := bb.trans (b5.mono (by have := bb.size; omega))
  clear b5
  have j0 := BW.cell 0; have j1 := BW.cell 1; have j2 := BW.cell 2; have j3 := BW.cell 3; have j4 := BW.cell 4; have j5 := BW.cell 5; have j6 := BW.cell 6
  have fG := fun i => BH.cell i; have fG2 := fun i => BH.froz i
  go_wp2_with fail
  try rw [hw5]
  clear hw5 hp fG fG2
  clear j0 j1 j2 j3 j4 j5 j6
  refine (eqE nwho nrv nph nat nwv nps nrs _ _ _ _ _ w22 OH.sees OS.sees (Nat.le_refl _)).mono ?_
  rintro e w23 ⟨rfl, bw23⟩
  replace hP := hP.on bw23 (by have := bb.size; omega); replace hQ := hQ.on bw23 (by have := bb.size; omega)
  replace BW := BW.on bw23 BW.lt
  replace BG := BG.on bw23 BG.lt
  replace BH := BH.on bw23 BH.lt
  replace OS := OS.on bw23 (Nat.le_refl _)
  replace MG := MG.on bw23 (Nat.le_refl _)
  replace OH := OH.on bw23 (Nat.le_refl _)
  replace bb := bb.trans (bw23.mono (by have := bb.size; omega))
  clear bw23
  clear BW BH OS OH
  have i0 := BG.cell 0; have i1 := BG.cell 1; have i2 := BG.cell 2; have i3 := BG.cell 3; have i4 := BG.cell 4; have i5 := BG.cell 5; have i6 := BG.cell 6
  go_wp2_with fail
  clear i0 i1 i2 i3 i4 i5 i6
  refine (heldCommitC nwho nrv nph nat nwv _ _ np nr 1 (by omega) (by omega) _ w23 MG.sees (Nat.le_refl _) (by omega) (by omega)).mono ?_
  rintro e w24 ⟨rfl, bw24⟩
  replace bb := bb.trans (bw24.mono (by have := bb.size; omega))
  go_wp2
  go_ret
  exact ⟨rfl, bb⟩
end Commits
end Go.Proofs.Ytajbmokidcdfnaa
