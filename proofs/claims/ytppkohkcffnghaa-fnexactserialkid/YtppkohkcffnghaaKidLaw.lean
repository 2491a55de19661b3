/- The walk of FnExactSerialKid. -/
import Derived.Test.YtppkohkcffnghaaKidSpec
import Derived.Test.YtppkohkcffnghaaIntMark
import Derived.Test.YtppkohkcffnghaaOpMark
import Derived.Test.YtppkohkcffnghaaThSame
set_option linter.unusedVariables false
set_option linter.unusedSimpArgs false
namespace Go.Proofs.Ytppkohkcffnghaa
open Go.RowKit
namespace Ops
open Bas Flat

/-- rows of ops and rows of numbers that were made one behind the other lie apart -/
theorem dj4 {B B' : Nat} {W W' : World} {a b : Value} {xs : List O4} {ys : List Int} (ha : Owns4 B W a xs) (hb : Ints.Owns B' W' b ys) (h : W.heap.size ≤ B') : Dj a b := fun k h1 h2 => by
  have := (Flat.Owns.at ha k h1).2
  have := (hb.at k h2).1
  omega
theorem dj4' {B B' : Nat} {W W' : World} {a b : Value} {xs : List O4} {ys : List Int} (ha : Ints.Owns B W a ys) (hb : Owns4 B' W' b xs) (h : W.heap.size ≤ B') : Dj a b := fun k h1 h2 => by
  have := (ha.at k h1).2
  have := (Flat.Owns.at hb k h2).1
  omega
theorem djI {B B' : Nat} {W W' : World} {a b : Value} {xs ys : List Int} (ha : Ints.Owns B W a xs) (hb : Ints.Owns B' W' b ys) (h : W.heap.size ≤ B') : Dj a b := fun k h1 h2 => by
  have := (ha.at k h1).2
  have := (hb.at k h2).1
  omega
/-- a row stays when another one's block grows -/
theorem stayI {B : Nat} {W W' : World} {a b : Value} {zs : List Int} (ha : Ints.Owns B W a zs) (hg : W.grownBy W' b.ownBlock) (h : Dj a b) : Ints.Owns B W' a zs :=
  ha.grown hg (fun k hk e => h k hk e.symm)
set_option maxRecDepth 100000 in
set_option maxHeartbeats 6400000 in
theorem lawSerialKid (v0 : Value) (xs : List O4) (v1 : Value) (zs : List Int) (v2 : Value) (cs : List Int) (w : World) (h0 : Sees4 w.heap.size w v0 xs) (h1 : Ints.Sees w.heap.size w v1 zs) (h2 : Ints.Sees w.heap.size w v2 cs) :
    Calls Try.prog 8 #[v0, v1, v2] w fun e w' => e = .returned (.bool true) ∧ Below w.heap.size w w' := by
  obtain ⟨g, hg⟩ : ∃ g, w.heap.size = g := ⟨_, rfl⟩
  rw [hg] at h0 h1 h2 ⊢
  have m0 := h0.room
  obtain ⟨r0, c0, rfl⟩ := h0.form
  obtain ⟨r1, c1, rfl⟩ := h1.form
  obtain ⟨r2, c2, rfl⟩ := h2.form
  have k1 : zs.length ≤ maxLen := by obtain ⟨a, cap, -, q1, q2, -⟩ := h1; omega
  have k2 : cs.length ≤ maxLen := by obtain ⟨a, cap, -, q1, q2, -⟩ := h2; omega
  obtain ⟨n, hn⟩ : ∃ n, xs.length = n := ⟨_, rfl⟩
  obtain ⟨nz, hnz⟩ : ∃ n, zs.length = n := ⟨_, rfl⟩
  obtain ⟨nc, hnc⟩ : ∃ n, cs.length = n := ⟨_, rfl⟩
  rw [hn] at h0 m0 ⊢
  rw [hnz] at h1 k1 ⊢
  rw [hnc] at h2 k2 ⊢
  have i1 : (nz : Int) ≤ 9223372036854775807 := by unfold maxLen at k1; omega
  have i2 : (nc : Int) ≤ 9223372036854775807 := by unfold maxLen at k2; omega
  by_cases j1 : (1048576 : Int) < nz
  · go_enter Try.func8, Try.ntmps8
    go_wp2
    go_ret
    exact ⟨rfl, Below.refl _ _⟩
  by_cases j2 : (1048576 : Int) < nc
  · go_enter Try.func8, Try.ntmps8
    go_wp2
    go_ret
    exact ⟨rfl, Below.refl _ _⟩
  have cSz := szOpsC r0 n c0 1048576 w (by omega) (by omega) m0
  by_cases j0 : (n : Int) ≤ 1048576
  · rw [if_pos j0] at cSz
    have HN : Hid (xs.length = n) := hn
    have HZ : Hid (zs.length = nz) := hnz
    have HC : Hid (cs.length = nc) := hnc
    have ln : xs.length ≤ 1048576 := by omega
    have lz : zs.length ≤ 1048576 := by omega
    have lc : cs.length ≤ 1048576 := by omega
    have LN := (show Hid _ from ln)
    have LZ := (show Hid _ from lz)
    have LC := (show Hid _ from lc)
    have j0' : ¬ (1048576 - (n : Int) < 0) := by omega
    clear hn hnz hnc ln lz lc m0 k1 k2
    go_enter Try.func8, Try.ntmps8
    go_wp2_with fail
    refine cSz.mono ?_
    rintro e w' ⟨rfl, rfl⟩
    go_wp2_with fail
    refine (toOpsC _ xs g w h0 (by omega) LN.out).mono ?_
    rintro e W1 ⟨y0, rfl, Y0, b1⟩
    rw [hg] at b1
    have bb1 := b1
    go_wp2_with fail
    refine (Ints.toIntsC _ zs g W1 (h1.on bb1 (Nat.le_refl _)) (by have := bb1.size; omega) LZ.out).mono ?_
    rintro e W2 ⟨y1, rfl, Y1, b2⟩
    have bb2 := bb1.trans (b2.mono (by have := bb1.size; omega))
    go_wp2_with fail
    refine (Ints.toIntsC _ cs g W2 (h2.on bb2 (Nat.le_refl _)) (by have := bb2.size; omega) LC.out).mono ?_
    rintro e W3 ⟨y2, rfl, Y2, b3⟩
    have bb3 := bb2.trans (b3.mono (by have := bb2.size; omega))
    have s1 := b1.size; have s2 := b2.size; have s3 := b3.size
    go_wp2_with fail
    refine (kidSpecC y0 y1 y2 xs zs cs W3.heap.size W3 (((Y0.sees.on (b2.trans (b3.mono s2)) (Nat.le_refl _)).up (by omega))) ((Y1.sees.on b3 (Nat.le_refl _)).up s3) Y2.sees (Nat.le_refl _) LN.out).mono ?_
    rintro e W4 ⟨out, rr, cc, wr, wc, rfl, hT, Or, Oc, hD, b4⟩
    have bb4 := bb3.trans (b4.mono (by omega))
    have s4 := b4.size
    clear Y0 Y1 Y2 cSz
    go_wp2_with fail
    refine (toOpsC _ xs g W4 (h0.on bb4 (Nat.le_refl _)) (by omega) LN.out).mono ?_
    rintro e W5 ⟨x0, rfl, X0, b5⟩
    have bb5 := bb4.trans (b5.mono (by omega)); have s5 := b5.size
    have Or5 := Or.on b5 (Nat.le_refl _); have Oc5 := Oc.on b5 (Nat.le_refl _)
    go_wp2_with fail
    refine (Ints.toIntsC _ zs g W5 (h1.on bb5 (Nat.le_refl _)) (by omega) LZ.out).mono ?_
    rintro e W6 ⟨x1, rfl, X1, b6⟩
    have bb6 := bb5.trans (b6.mono (by omega)); have s6 := b6.size
    go_wp2_with fail
    refine (Ints.toIntsC _ cs g W6 (h2.on bb6 (Nat.le_refl _)) (by omega) LC.out).mono ?_
    rintro e W7 ⟨x2, rfl, X2, b7⟩
    have bb7 := bb6.trans (b7.mono (by omega)); have s7 := b7.size
    have q57 := b6.trans (b7.mono s6)
    have X0a := X0.on q57 (Nat.le_refl _); have X1a := X1.on b7 (Nat.le_refl _)
    have Or7 := Or5.on q57 (Nat.le_refl _); have Oc7 := Oc5.on q57 (Nat.le_refl _)
    go_wp2_with fail
    refine (kidImplC x0 x1 x2 xs zs cs W7.heap.size W7 X0a.sees X1a.sees X2.sees (Nat.le_refl _) LN.out).mono ?_
    rintro e W8 ⟨out', rr', cc', gr, gc, rfl, hT', Gr, Gc, hD', b8⟩
    obtain ⟨eO, eR, eC⟩ := hT'.unique hT
    subst eO eR eC
    have bb8 := bb7.trans (b8.mono (by omega)); have s8 := b8.size
    have X0b := X0a.on b8 (Nat.le_refl _); have X1b := X1a.on b8 (Nat.le_refl _); have X2b := X2.on b8 (Nat.le_refl _); have Or8 := Or7.on b8 (Nat.le_refl _); have Oc8 := Oc7.on b8 (Nat.le_refl _)
    have d1 : Dj wr x0 := dj4' Or X0 (Nat.le_refl _); have d2 : Dj wc x0 := dj4' Oc X0 (Nat.le_refl _)
    have d3 : Dj wr x1 := djI Or X1 (by omega); have d4 : Dj wc x1 := djI Oc X1 (by omega)
    have d5 : Dj wr x2 := djI Or X2 (by omega); have d6 : Dj wc x2 := djI Oc X2 (by omega)
    have d7 : Dj x0 x1 := dj4 X0 X1 (by omega); have d8 : Dj x0 x2 := dj4 X0 X2 (by omega); have d9 : Dj x1 x2 := djI X1 X2 (by omega)
    have e1 : Dj x0 gr := dj4 X0 Gr (by omega); have e2 : Dj x0 gc := dj4 X0 Gc (by omega)
    have e3 : Dj x1 gr := djI X1 Gr (by omega); have e4 : Dj x1 gc := djI X1 Gc (by omega)
    have e5 : Dj x2 gr := djI X2 Gr (by omega); have e6 : Dj x2 gc := djI X2 Gc (by omega)
    have f1 : Dj wr gr := djI Or Gr (by omega); have f2 : Dj wr gc := djI Or Gc (by omega); have f3 : Dj wc gr := djI Oc Gr (by omega); have f4 : Dj wc gc := djI Oc Gc (by omega)
    have hl : rr'.length ≤ 1048576 ∧ cc'.length ≤ 1048576 := by
      rcases hT with ⟨-, ⟨q, -, -, hqr, hqc, hqt⟩, -, hrk⟩ | ⟨-, -, ha, hb⟩
      · have := (regsOk_out hrk).1; have := (cellsOk_out (th_parts hqt).1).1; rw [hqc]; omega
      · rw [ha, hb]; simp
    have HT := (show Hid _ from hT)
    clear hT hT' hD Or Oc Or5 Oc5 Or7 Oc7 X0 X1 X2 X0a X1a
    go_wp2_with fail
    refine (Ints.eqIntsC gr wr rr' W8.heap.size W8 Gr.sees Or8.sees (Nat.le_refl _)).mono ?_
    rintro e W9 ⟨rfl, b9⟩
    have bb9 := bb8.trans (b9.mono (by omega)); have s9 := b9.size
    have Gr9 := Gr.on b9 (Nat.le_refl _); have Gc9 := Gc.on b9 (Nat.le_refl _); have Or9 := Or8.on b9 (Nat.le_refl _); have Oc9 := Oc8.on b9 (Nat.le_refl _); have X09 := X0b.on b9 (Nat.le_refl _); have X19 := X1b.on b9 (Nat.le_refl _); have X29 := X2b.on b9 (Nat.le_refl _)
    clear Gr Gc Or8 Oc8 X0b X1b X2b
    go_wp2_with fail
    refine (Ints.eqIntsC gc wc cc' W9.heap.size W9 Gc9.sees Oc9.sees (Nat.le_refl _)).mono ?_
    rintro e Wa ⟨rfl, ba⟩
    have bba := bb9.trans (ba.mono (by omega)); have sa := ba.size
    have Gra := Gr9.on ba (Nat.le_refl _); have Gca := Gc9.on ba (Nat.le_refl _); have Ora := Or9.on ba (Nat.le_refl _); have Oca := Oc9.on ba (Nat.le_refl _); have X0a := X09.on ba (Nat.le_refl _); have X1a := X19.on ba (Nat.le_refl _); have X2a := X29.on ba (Nat.le_refl _)
    clear Gr9 Gc9 Or9 Oc9 X09 X19 X29
    go_wp2_with fail
    refine (toOpsC _ xs g Wa (h0.on bba (Nat.le_refl _)) (by omega) LN.out).mono ?_
    rintro e Wb ⟨u0, rfl, U0, bb_⟩
    have bbb := bba.trans (bb_.mono (by omega)); have sb := bb_.size
    have Grb := Gra.on bb_ (Nat.le_refl _); have Gcb := Gca.on bb_ (Nat.le_refl _); have Orb := Ora.on bb_ (Nat.le_refl _); have Ocb := Oca.on bb_ (Nat.le_refl _); have X0b := X0a.on bb_ (Nat.le_refl _); have X1b := X1a.on bb_ (Nat.le_refl _); have X2b := X2a.on bb_ (Nat.le_refl _)
    clear Gra Gca Ora Oca X0a X1a X2a
    go_wp2_with fail
    refine (eqOpsC x0 u0 xs Wb.heap.size Wb X0b.sees U0.sees (Nat.le_refl _)).mono ?_
    rintro e Wc ⟨rfl, bc⟩
    have bbc := bbb.trans (bc.mono (by omega)); have sc := bc.size
    have Grc := Grb.on bc (Nat.le_refl _); have Gcc := Gcb.on bc (Nat.le_refl _); have Orc := Orb.on bc (Nat.le_refl _); have Occ := Ocb.on bc (Nat.le_refl _); have X0c := X0b.on bc (Nat.le_refl _); have X1c := X1b.on bc (Nat.le_refl _); have X2c := X2b.on bc (Nat.le_refl _)
    clear Grb Gcb Orb Ocb X0b X1b X2b
    go_wp2_with fail
    refine (Ints.toIntsC _ zs g Wc (h1.on bbc (Nat.le_refl _)) (by omega) LZ.out).mono ?_
    rintro e Wd ⟨u1, rfl, U1, bd⟩
    have bbd := bbc.trans (bd.mono (by omega)); have sd := bd.size
    have Grd := Grc.on bd (Nat.le_refl _); have Gcd := Gcc.on bd (Nat.le_refl _); have Ord := Orc.on bd (Nat.le_refl _); have Ocd := Occ.on bd (Nat.le_refl _); have X0d := X0c.on bd (Nat.le_refl _); have X1d := X1c.on bd (Nat.le_refl _); have X2d := X2c.on bd (Nat.le_refl _)
    clear Grc Gcc Orc Occ X0c X1c X2c
    go_wp2_with fail
    refine (Ints.eqIntsC x1 u1 zs Wd.heap.size Wd X1d.sees U1.sees (Nat.le_refl _)).mono ?_
    rintro e We ⟨rfl, be⟩
    have bbe := bbd.trans (be.mono (by omega)); have se := be.size
    have Gre := Grd.on be (Nat.le_refl _); have Gce := Gcd.on be (Nat.le_refl _); have Ore := Ord.on be (Nat.le_refl _); have Oce := Ocd.on be (Nat.le_refl _); have X0e := X0d.on be (Nat.le_refl _); have X1e := X1d.on be (Nat.le_refl _); have X2e := X2d.on be (Nat.le_refl _)
    clear Grd Gcd Ord Ocd X0d X1d X2d
    go_wp2_with fail
    refine (Ints.toIntsC _ cs g We (h2.on bbe (Nat.le_refl _)) (by omega) LC.out).mono ?_
    rintro e Wf ⟨u2, rfl, U2, bf⟩
    have bbf := bbe.trans (bf.mono (by omega)); have sf := bf.size
    have Grf := Gre.on bf (Nat.le_refl _); have Gcf := Gce.on bf (Nat.le_refl _); have Orf := Ore.on bf (Nat.le_refl _); have Ocf := Oce.on bf (Nat.le_refl _); have X0f := X0e.on bf (Nat.le_refl _); have X1f := X1e.on bf (Nat.le_refl _); have X2f := X2e.on bf (Nat.le_refl _)
    clear Gre Gce Ore Oce X0e X1e X2e
    go_wp2_with fail
    refine (Ints.eqIntsC x2 u2 cs Wf.heap.size Wf X2f.sees U2.sees (Nat.le_refl _)).mono ?_
    rintro e Wg ⟨rfl, bg⟩
    have bbg := bbf.trans (bg.mono (by omega)); have sg := bg.size
    have Grg := Grf.on bg (Nat.le_refl _); have Gcg := Gcf.on bg (Nat.le_refl _); have Org := Orf.on bg (Nat.le_refl _); have Ocg := Ocf.on bg (Nat.le_refl _); have X0g := X0f.on bg (Nat.le_refl _); have X1g := X1f.on bg (Nat.le_refl _); have X2g := X2f.on bg (Nat.le_refl _)
    clear Grf Gcf Orf Ocf X0f X1f X2f
    clear U0 U1 U2
    go_wp2_with fail
    refine (markOpsC x0 xs 1 _ Wg X0g (by omega) (by omega) LN.out).mono ?_
    rintro e Wh ⟨rfl, M0, G0⟩
    have low0 : ∀ k, x0.ownBlock = some k → g ≤ k := fun k hk => by have := (Flat.Owns.at M0 k hk).1; omega
    have bbh := bbg.grown G0 (by omega) low0; have sh := G0.size
    have Grh := stayI Grg G0 (Dj.symm e1); have Gch := stayI Gcg G0 (Dj.symm e2); have Orh := stayI Org G0 d1; have Och := stayI Ocg G0 d2; have X1h := stayI X1g G0 (Dj.symm d7); have X2h := stayI X2g G0 (Dj.symm d8)
    clear Grg Gcg Org Ocg X0g X1g X2g M0
    rw [HN.out]
    go_wp2_with fail
    refine (Ints.markIntsK x1 zs (1 + 4 * (n : Int)) (by omega) (by omega) _ Wh X1h LZ.out).mono ?_
    rintro e Wi ⟨rfl, M1, G1⟩
    have low1 : ∀ k, x1.ownBlock = some k → g ≤ k := fun k hk => by have := (M1.at k hk).1; omega
    have bbi := bbh.grown G1 (by omega) low1; have si := G1.size
    have Gri := stayI Grh G1 (Dj.symm e3); have Gci := stayI Gch G1 (Dj.symm e4); have Ori := stayI Orh G1 d3; have Oci := stayI Och G1 d4; have X2i := stayI X2h G1 (Dj.symm d9)
    clear Grh Gch Orh Och X1h X2h M1
    rw [HZ.out]
    go_wp2_with fail
    refine (Ints.markIntsK x2 cs (1 + 4 * (n : Int) + (nz : Int)) (by omega) (by omega) _ Wi X2i LC.out).mono ?_
    rintro e Wj ⟨rfl, M2, G2⟩
    have low2 : ∀ k, x2.ownBlock = some k → g ≤ k := fun k hk => by have := (M2.at k hk).1; omega
    have bbj := bbi.grown G2 (by omega) low2; have sj := G2.size
    have Grj := stayI Gri G2 (Dj.symm e5); have Gcj := stayI Gci G2 (Dj.symm e6); have Orj := stayI Ori G2 d5; have Ocj := stayI Oci G2 d6
    clear Gri Gci Ori Oci X2i M2
    rw [HC.out]
    have kk : ¬ (1 + 4 * (n : Int) + (nz : Int) + (nc : Int) < 0) := by omega
    go_wp2_with fail
    refine (Ints.eqIntsC gr wr rr' Wj.heap.size Wj Grj.sees Orj.sees (Nat.le_refl _)).mono ?_
    rintro e Wk ⟨rfl, bk_⟩
    have bbk := bbj.trans (bk_.mono (by omega)); have sk := bk_.size
    have Grk := Grj.on bk_ (Nat.le_refl _); have Gck := Gcj.on bk_ (Nat.le_refl _); have Ork := Orj.on bk_ (Nat.le_refl _); have Ock := Ocj.on bk_ (Nat.le_refl _)
    clear Grj Gcj Orj Ocj
    go_wp2_with fail
    refine (Ints.eqIntsC gc wc cc' Wk.heap.size Wk Gck.sees Ock.sees (Nat.le_refl _)).mono ?_
    rintro e Wl ⟨rfl, bl_⟩
    have bbl := bbk.trans (bl_.mono (by omega)); have sl := bl_.size
    have Grl := Grk.on bl_ (Nat.le_refl _); have Gcl := Gck.on bl_ (Nat.le_refl _); have Orl := Ork.on bl_ (Nat.le_refl _); have Ocl := Ock.on bl_ (Nat.le_refl _)
    clear Grk Gck Ork Ock
    go_wp2_with fail
    refine (Ints.markIntsK gr rr' 1 (by omega) (by omega) _ Wl Grl hl.1).mono ?_
    rintro e Wm ⟨rfl, N1, G3⟩
    have low3 : ∀ k, gr.ownBlock = some k → g ≤ k := fun k hk => by have := (N1.at k hk).1; omega
    have bbm := bbl.grown G3 (by omega) low3; have sm := G3.size
    have Gcm := stayI Gcl G3 (Dj.symm hD'); have Orm := stayI Orl G3 f1; have Ocm := stayI Ocl G3 f3
    clear Gcl Orl Ocl Grl
    obtain ⟨nr, hnr⟩ : ∃ x, rr'.length = x := ⟨_, rfl⟩
    obtain ⟨nd, hnd⟩ : ∃ x, cc'.length = x := ⟨_, rfl⟩
    rw [hnr] at N1 ⊢
    go_wp2_with fail
    refine (Ints.markIntsK gc cc' (1 + (nr : Int)) (by omega) (by omega) _ Wm Gcm hl.2).mono ?_
    rintro e Wn ⟨rfl, N2, G4⟩
    have low4 : ∀ k, gc.ownBlock = some k → g ≤ k := fun k hk => by have := (N2.at k hk).1; omega
    have bbn := bbm.grown G4 (by omega) low4; have sn := G4.size
    have N1n := stayI N1 G4 hD'; have Orn := stayI Orm G4 f2; have Ocn := stayI Ocm G4 f4
    clear N1 Gcm Orm Ocm
    rw [hnd] at N2 ⊢
    go_wp2_with fail
    refine (Ints.heldIntsK gr nr 1 (by omega) (by omega) _ Wn N1n.sees (by omega)).mono ?_
    rintro e Wn' ⟨rfl, rfl⟩
    have p1 : ¬ (1 + (nr : Int) < 0) := by omega
    go_wp2_with fail
    refine (Ints.heldIntsK gc nd (1 + (nr : Int)) (by omega) (by omega) _ Wn N2.sees (by omega)).mono ?_
    rintro e Wn' ⟨rfl, rfl⟩
    have p2 : ¬ (1 + (nr : Int) + (nd : Int) < 0) := by omega
    go_wp2_with fail
    refine (toOpsC _ xs g Wn (h0.on bbn (Nat.le_refl _)) (by omega) LN.out).mono ?_
    rintro e Wo ⟨t0, rfl, T0, bo⟩
    have bbo := bbn.trans (bo.mono (by omega)); have so := bo.size
    have A1 := N1n.on bo (Nat.le_refl _); have A2 := N2.on bo (Nat.le_refl _); have Oro := Orn.on bo (Nat.le_refl _); have Oco := Ocn.on bo (Nat.le_refl _)
    clear N1n N2 Orn Ocn
    go_wp2_with fail
    refine (Ints.toIntsC _ zs g Wo (h1.on bbo (Nat.le_refl _)) (by omega) LZ.out).mono ?_
    rintro e Wp ⟨t1, rfl, T1, bp⟩
    have bbp := bbo.trans (bp.mono (by omega)); have sp := bp.size
    go_wp2_with fail
    refine (Ints.toIntsC _ cs g Wp (h2.on bbp (Nat.le_refl _)) (by omega) LC.out).mono ?_
    rintro e Wq ⟨t2, rfl, T2, bq⟩
    have bbq := bbp.trans (bq.mono (by omega)); have sq := bq.size
    have qoq := bp.trans (bq.mono sp)
    have A1q := A1.on qoq (Nat.le_refl _); have A2q := A2.on qoq (Nat.le_refl _); have Orq := Oro.on qoq (Nat.le_refl _); have Ocq := Oco.on qoq (Nat.le_refl _)
    clear A1 A2 Oro Oco
    go_wp2_with fail
    refine (kidImplC t0 t1 t2 xs zs cs Wq.heap.size Wq ((T0.on qoq (Nat.le_refl _)).sees) ((T1.on bq (Nat.le_refl _)).sees) T2.sees (Nat.le_refl _) LN.out).mono ?_
    rintro e Wr ⟨out3, rr3, cc3, hr_, hc_, rfl, hT3, Hr, Hc, -, br⟩
    obtain ⟨eO, eR, eC⟩ := hT3.unique HT.out
    subst eO eR eC
    have bbr := bbq.trans (br.mono (by omega)); have sr := br.size
    have A1r := A1q.on br (Nat.le_refl _); have A2r := A2q.on br (Nat.le_refl _); have Orr := Orq.on br (Nat.le_refl _); have Ocr := Ocq.on br (Nat.le_refl _)
    clear A1q A2q Orq Ocq T0 T1 T2 hT3 HT
    go_wp2_with fail
    refine (Ints.eqIntsC hr_ wr rr3 Wr.heap.size Wr Hr.sees Orr.sees (Nat.le_refl _)).mono ?_
    rintro e Ws ⟨rfl, bs⟩
    have bbs := bbr.trans (bs.mono (by omega)); have ss := bs.size
    have A1s := A1r.on bs (Nat.le_refl _); have A2s := A2r.on bs (Nat.le_refl _); have Hcs := Hc.on bs (Nat.le_refl _); have Ocs := Ocr.on bs (Nat.le_refl _)
    go_wp2_with fail
    refine (Ints.eqIntsC hc_ wc cc3 Ws.heap.size Ws Hcs.sees Ocs.sees (Nat.le_refl _)).mono ?_
    rintro e Wt ⟨rfl, bt⟩
    have bbt := bbs.trans (bt.mono (by omega)); have st := bt.size
    have A1t := A1s.on bt (Nat.le_refl _); have A2t := A2s.on bt (Nat.le_refl _)
    go_wp2_with fail
    refine (Ints.heldIntsK gr nr 1 (by omega) (by omega) _ Wt A1t.sees (by omega)).mono ?_
    rintro e Wt' ⟨rfl, rfl⟩
    go_wp2_with fail
    refine (Ints.heldIntsK gc nd (1 + (nr : Int)) (by omega) (by omega) _ Wt A2t.sees (by omega)).mono ?_
    rintro e Wt' ⟨rfl, rfl⟩
    go_wp2
    go_ret
    exact ⟨rfl, bbt⟩
  · rw [if_neg j0] at cSz
    go_enter Try.func8, Try.ntmps8
    go_wp2_with fail
    refine cSz.mono ?_
    rintro e w' ⟨rfl, rfl⟩
    go_wp2
    go_ret
    exact ⟨rfl, Below.refl _ _⟩
end Ops
end Go.Proofs.Ytppkohkcffnghaa
