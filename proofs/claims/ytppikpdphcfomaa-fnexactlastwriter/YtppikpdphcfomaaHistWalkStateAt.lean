/- The walk of FnExactStateAt, given what both functions answer. -/
import Derived.Test.YtppikpdphcfomaaHistMark
import Derived.Test.YtppikpdphcfomaaIntRow
set_option linter.unusedVariables false
set_option linter.unusedSimpArgs false
namespace Go.Proofs.Ytppikpdphcfomaa
open Go.RowKit
namespace Hist
open Bas Flat Logs

set_option maxRecDepth 100000 in
set_option maxHeartbeats 6400000 in
theorem walkStateAt (v0 : Value) (xs0 : List Int) (v1 : Value) (xs1 : List Wr) (n2 : Int) (w : World) (hv0 : Ints.Sees w.heap.size w v0 xs0) (hv1 : SeesW w.heap.size w v1 xs1) (r : List Int) (hr : r.length ≤ 1048576)
    (cS : ∀ (u0 u1 : Value) (W : World), Ints.Sees W.heap.size W u0 xs0 → xs0.length ≤ 1048576 → SeesW W.heap.size W u1 xs1 → total xs1 ≤ 1048576 → Calls Try.prog 22 #[u0, u1, .int .i64 n2] W fun e w' => ∃ v', e = .returned v' ∧ Ints.Owns W.heap.size w' v' r ∧ Below W.heap.size W w')
    (cI : ∀ (u0 u1 : Value) (W : World), Ints.Sees W.heap.size W u0 xs0 → xs0.length ≤ 1048576 → SeesW W.heap.size W u1 xs1 → total xs1 ≤ 1048576 → Calls Try.prog 11 #[u0, u1, .int .i64 n2] W fun e w' => ∃ v', e = .returned v' ∧ Ints.Owns W.heap.size w' v' r ∧ Below W.heap.size W w') :
    Calls Try.prog 5 #[v0, v1, .int .i64 n2] w fun e w' => e = .returned (.bool true) ∧ Below w.heap.size w w' := by
  have hroom0 : xs0.length ≤ maxLen := by obtain ⟨a, cap, -, h1, h2, -⟩ := hv0; omega
  obtain ⟨a0, cap0, rfl⟩ := hv0.form
  obtain ⟨m0, hm0⟩ : ∃ n, xs0.length = n := ⟨_, rfl⟩
  rw [hm0] at hv0 hroom0 ⊢
  have hz0 : (m0 : Int) ≤ 9223372036854775807 := by unfold maxLen at hroom0; omega
  have hroom1 := hv1.room
  obtain ⟨a1, cap1, rfl⟩ := hv1.form
  obtain ⟨m1, hm1⟩ : ∃ n, xs1.length = n := ⟨_, rfl⟩
  rw [hm1] at hv1 hroom1 ⊢
  have hz1 : (m1 : Int) ≤ 9223372036854775807 := by unfold maxLen at hroom1; omega
  have HS := (show Hid _ from cS)
  have HI := (show Hid _ from cI)
  clear cS cI
  by_cases hle0 : (m0 : Int) ≤ 1048576
  case neg =>
    have hgt0 : (1048576 : Int) < m0 := by omega
    go_enter Try.func5, Try.ntmps5
    go_wp2
    go_ret
    exact ⟨rfl, Below.refl _ _⟩
  have c0 := szWrotesC _ xs1 w.heap.size w hv1 (Nat.le_refl _)
  go_enter Try.func5, Try.ntmps5
  go_wp2_with fail
  refine c0.mono ?_
  rintro e W1 ⟨sz, rfl, b1, (rfl | ⟨hsz0, hsz⟩)⟩
  · go_wp2
    go_ret
    exact ⟨rfl, b1⟩
  have hle1 : total xs1 ≤ 1048576 := by omega
  have HSZ := (show Hid _ from hsz)
  clear hsz c0
  have hll0 : xs0.length ≤ 1048576 := by omega
  replace hv0 := hv0.on b1 (Nat.le_refl _)
  replace hv1 := hv1.on b1 (Nat.le_refl _)
  have bb := b1
  have z1 : w.heap.size ≤ W1.heap.size := b1.size
  obtain ⟨rn, hrn⟩ : ∃ n, r.length = n := ⟨_, rfl⟩
  go_wp2_with fail
  refine (Ints.toIntsC _ xs0 w.heap.size W1 hv0 bb.size hll0).mono ?_
  rintro e W2 ⟨ua0, rfl, Oa0, b2⟩
  have da0 := Oa0.at
  replace Oa0 := Oa0.mono bb.size
  obtain ⟨pa0, ca0, rfl⟩ := Oa0.form
  replace hv0 := hv0.on b2 (by have := bb.size; omega)
  replace hv1 := hv1.on b2 (by have := bb.size; omega)
  have z2 : W1.heap.size ≤ W2.heap.size := b2.size
  replace bb := bb.trans (b2.mono bb.size)
  rw [hm0] at Oa0 da0 ⊢
  go_wp2_with fail
  refine (toWrotesC _ xs1 w.heap.size W2 hv1 bb.size hle1).mono ?_
  rintro e W3 ⟨ua1, rfl, Oa1, b3⟩
  obtain ⟨pa1, ca1, rfl⟩ := Oa1.form
  replace hv0 := hv0.on b3 (by have := bb.size; omega)
  replace hv1 := hv1.on b3 (by have := bb.size; omega)
  replace Oa0 := Oa0.on b3 (Nat.le_refl _)
  have z3 : W2.heap.size ≤ W3.heap.size := b3.size
  replace bb := bb.trans (b3.mono bb.size)
  rw [hm1] at Oa1 ⊢
  go_wp2_with fail
  refine (HS.out _ _ W3 (Oa0.sees) hll0 (Oa1.sees) hle1).mono ?_
  rintro e W4 ⟨uS, rfl, OS, b4⟩
  have dS := OS.at
  replace OS := OS.mono bb.size
  obtain ⟨pS, cS, rfl⟩ := OS.form
  replace hv0 := hv0.on b4 (by have := bb.size; omega)
  replace hv1 := hv1.on b4 (by have := bb.size; omega)
  replace Oa0 := Oa0.on b4 (Nat.le_refl _)
  replace Oa1 := Oa1.on b4
  have z4 : W3.heap.size ≤ W4.heap.size := b4.size
  replace bb := bb.trans (b4.mono bb.size)
  rw [hrn] at OS dS ⊢
  go_wp2_with fail
  refine (Ints.toIntsC _ xs0 w.heap.size W4 hv0 bb.size hll0).mono ?_
  rintro e W5 ⟨ux0, rfl, Ox0, b5⟩
  have dx0 := Ox0.at
  replace Ox0 := Ox0.mono bb.size
  obtain ⟨px0, cx0, rfl⟩ := Ox0.form
  replace hv0 := hv0.on b5 (by have := bb.size; omega)
  replace hv1 := hv1.on b5 (by have := bb.size; omega)
  replace OS := OS.on b5 (Nat.le_refl _)
  have z5 : W4.heap.size ≤ W5.heap.size := b5.size
  replace bb := bb.trans (b5.mono bb.size)
  rw [hm0] at Ox0 dx0 ⊢
  go_wp2_with fail
  refine (toWrotesC _ xs1 w.heap.size W5 hv1 bb.size hle1).mono ?_
  rintro e W6 ⟨ux1, rfl, Ox1, b6⟩
  obtain ⟨px1, cx1, rfl⟩ := Ox1.form
  replace hv0 := hv0.on b6 (by have := bb.size; omega)
  replace hv1 := hv1.on b6 (by have := bb.size; omega)
  replace OS := OS.on b6 (Nat.le_refl _)
  replace Ox0 := Ox0.on b6 (Nat.le_refl _)
  have z6 : W5.heap.size ≤ W6.heap.size := b6.size
  replace bb := bb.trans (b6.mono bb.size)
  rw [hm1] at Ox1 ⊢
  go_wp2_with fail
  refine (HI.out _ _ W6 (Ox0.sees) hll0 (Ox1.sees) hle1).mono ?_
  rintro e W7 ⟨uG, rfl, OG, b7⟩
  have dG := OG.at
  replace OG := OG.mono bb.size
  obtain ⟨pG, cG, rfl⟩ := OG.form
  replace hv0 := hv0.on b7 (by have := bb.size; omega)
  replace hv1 := hv1.on b7 (by have := bb.size; omega)
  replace OS := OS.on b7 (Nat.le_refl _)
  replace Ox0 := Ox0.on b7 (Nat.le_refl _)
  replace Ox1 := Ox1.on b7
  have z7 : W6.heap.size ≤ W7.heap.size := b7.size
  replace bb := bb.trans (b7.mono bb.size)
  rw [hrn] at OG dG ⊢
  go_wp2_with fail
  refine (Ints.eqIntsC _ _ r W7.heap.size W7 OG.sees OS.sees (Nat.le_refl _)).mono ?_
  rintro e W8 ⟨rfl, b8⟩
  replace hv0 := hv0.on b8 (by have := bb.size; omega)
  replace hv1 := hv1.on b8 (by have := bb.size; omega)
  replace OS := OS.on b8 (Nat.le_refl _)
  replace Ox0 := Ox0.on b8 (Nat.le_refl _)
  replace Ox1 := Ox1.on b8
  replace OG := OG.on b8 (Nat.le_refl _)
  have z8 : W7.heap.size ≤ W8.heap.size := b8.size
  replace bb := bb.trans (b8.mono bb.size)
  go_wp2_with fail
  refine (Ints.toIntsC _ xs0 w.heap.size W8 hv0 bb.size hll0).mono ?_
  rintro e W9 ⟨uy0, rfl, Oy0, b9⟩
  have dy0 := Oy0.at
  replace Oy0 := Oy0.mono bb.size
  obtain ⟨py0, cy0, rfl⟩ := Oy0.form
  replace hv0 := hv0.on b9 (by have := bb.size; omega)
  replace hv1 := hv1.on b9 (by have := bb.size; omega)
  replace OS := OS.on b9 (Nat.le_refl _)
  replace Ox0 := Ox0.on b9 (Nat.le_refl _)
  replace Ox1 := Ox1.on b9
  replace OG := OG.on b9 (Nat.le_refl _)
  have z9 : W8.heap.size ≤ W9.heap.size := b9.size
  replace bb := bb.trans (b9.mono bb.size)
  rw [hm0] at Oy0 dy0 ⊢
  go_wp2_with fail
  refine (Ints.eqIntsC _ _ xs0 W9.heap.size W9 Ox0.sees Oy0.sees (Nat.le_refl _)).mono ?_
  rintro e W10 ⟨rfl, b10⟩
  replace hv0 := hv0.on b10 (by have := bb.size; omega)
  replace hv1 := hv1.on b10 (by have := bb.size; omega)
  replace OS := OS.on b10 (Nat.le_refl _)
  replace Ox0 := Ox0.on b10 (Nat.le_refl _)
  replace Ox1 := Ox1.on b10
  replace OG := OG.on b10 (Nat.le_refl _)
  replace Oy0 := Oy0.on b10 (Nat.le_refl _)
  have z10 : W9.heap.size ≤ W10.heap.size := b10.size
  replace bb := bb.trans (b10.mono bb.size)
  go_wp2_with fail
  refine (toWrotesC _ xs1 w.heap.size W10 hv1 bb.size hle1).mono ?_
  rintro e W11 ⟨uy1, rfl, Oy1, b11⟩
  obtain ⟨py1, cy1, rfl⟩ := Oy1.form
  replace hv0 := hv0.on b11 (by have := bb.size; omega)
  replace hv1 := hv1.on b11 (by have := bb.size; omega)
  replace OS := OS.on b11 (Nat.le_refl _)
  replace Ox0 := Ox0.on b11 (Nat.le_refl _)
  replace Ox1 := Ox1.on b11
  replace OG := OG.on b11 (Nat.le_refl _)
  have z11 : W10.heap.size ≤ W11.heap.size := b11.size
  replace bb := bb.trans (b11.mono bb.size)
  rw [hm1] at Oy1 ⊢
  go_wp2_with fail
  refine (eqWrotesC _ _ xs1 W11.heap.size W11 Ox1.sees Oy1.sees (Nat.le_refl _)).mono ?_
  rintro e W12 ⟨rfl, b12⟩
  replace hv0 := hv0.on b12 (by have := bb.size; omega)
  replace hv1 := hv1.on b12 (by have := bb.size; omega)
  replace OS := OS.on b12 (Nat.le_refl _)
  replace Ox0 := Ox0.on b12 (Nat.le_refl _)
  replace Ox1 := Ox1.on b12
  replace OG := OG.on b12 (Nat.le_refl _)
  replace Oy1 := Oy1.on b12
  have z12 : W11.heap.size ≤ W12.heap.size := b12.size
  replace bb := bb.trans (b12.mono bb.size)
  go_wp2_with fail
  refine (Ints.markIntsC _ xs0 w.heap.size W12 Ox0 (by omega)).mono ?_
  rintro e W13 ⟨rfl, Nx0, g13⟩
  replace hv0 := hv0.on (show Below w.heap.size W12 W13 from (Below.refl _ _).grown g13 bb.size (fun k hk => by have := dx0 k hk; omega)) (Nat.le_refl _)
  replace hv1 := hv1.on (show Below w.heap.size W12 W13 from (Below.refl _ _).grown g13 bb.size (fun k hk => by have := dx0 k hk; omega)) (Nat.le_refl _)
  replace OS := OS.grown g13 (fun k hk e => by have := dx0 k e.symm; have := dS k hk; omega)
  replace Ox1 := Ox1.grown g13 (fun k hk => by have := dx0 k hk; omega)
  replace OG := OG.grown g13 (fun k hk e => by have := dx0 k e.symm; have := dG k hk; omega)
  have z13 : W12.heap.size ≤ W13.heap.size := g13.size
  replace bb := bb.grown g13 bb.size (fun k hk => by have := dx0 k hk; omega)
  rw [hm0] at Nx0 ⊢
  go_wp2_with fail
  refine (markWrotesC _ xs1 _ _ _ W13 Ox1 (by omega) (by omega) hle1).mono ?_
  rintro e W14 ⟨rfl, Nx1, g14⟩
  have bm14 : Below w.heap.size W13 W14 := g14.toBelow bb.size (by omega)
  replace hv0 := hv0.on bm14 (Nat.le_refl _)
  replace hv1 := hv1.on bm14 (Nat.le_refl _)
  have OS := ints_chg OS g14 (fun k hk => by have := dS k hk; omega)
  have OG := ints_chg OG g14 (fun k hk => by have := dG k hk; omega)
  have z14 : W13.heap.size ≤ W14.heap.size := g14.size
  replace bb := bb.trans bm14
  obtain ⟨kz, hkz, hk0⟩ : ∃ kz, endW (1 + (m0 : Int)) (lensW xs1) = kz ∧ 0 ≤ kz := ⟨_, rfl, by rw [endW_eq]; omega⟩
  rw [hkz]
  clear hkz
  go_wp2_with fail
  refine (Ints.eqIntsC _ _ r W14.heap.size W14 OG.sees OS.sees (Nat.le_refl _)).mono ?_
  rintro e W15 ⟨rfl, b15⟩
  replace hv0 := hv0.on b15 (by have := bb.size; omega)
  replace hv1 := hv1.on b15 (by have := bb.size; omega)
  replace OS := OS.on b15 (Nat.le_refl _)
  replace OG := OG.on b15 (Nat.le_refl _)
  have z15 : W14.heap.size ≤ W15.heap.size := b15.size
  replace bb := bb.trans (b15.mono bb.size)
  go_wp2_with fail
  refine (Ints.markIntsC _ r w.heap.size W15 OG (by omega)).mono ?_
  rintro e W16 ⟨rfl, NG, g16⟩
  replace hv0 := hv0.on (show Below w.heap.size W15 W16 from (Below.refl _ _).grown g16 bb.size (fun k hk => by have := dG k hk; omega)) (Nat.le_refl _)
  replace hv1 := hv1.on (show Below w.heap.size W15 W16 from (Below.refl _ _).grown g16 bb.size (fun k hk => by have := dG k hk; omega)) (Nat.le_refl _)
  replace OS := OS.grown g16 (fun k hk e => by have := dG k e.symm; have := dS k hk; omega)
  have z16 : W15.heap.size ≤ W16.heap.size := g16.size
  replace bb := bb.grown g16 bb.size (fun k hk => by have := dG k hk; omega)
  rw [hrn] at NG ⊢
  go_wp2_with fail
  refine (Ints.heldIntsC _ rn W16.heap.size W16 NG.sees (by omega)).mono ?_
  rintro e w1017 ⟨rfl, rfl⟩
  go_wp2_with fail
  refine (Ints.toIntsC _ xs0 w.heap.size W16 hv0 bb.size hll0).mono ?_
  rintro e W17 ⟨uh0, rfl, Oh0, b17⟩
  have dh0 := Oh0.at
  replace Oh0 := Oh0.mono bb.size
  obtain ⟨ph0, ch0, rfl⟩ := Oh0.form
  replace hv0 := hv0.on b17 (by have := bb.size; omega)
  replace hv1 := hv1.on b17 (by have := bb.size; omega)
  replace OS := OS.on b17 (Nat.le_refl _)
  have z17 : W16.heap.size ≤ W17.heap.size := b17.size
  replace bb := bb.trans (b17.mono bb.size)
  rw [hm0] at Oh0 dh0 ⊢
  replace NG := NG.on b17 (Nat.le_refl _)
  go_wp2_with fail
  refine (toWrotesC _ xs1 w.heap.size W17 hv1 bb.size hle1).mono ?_
  rintro e W18 ⟨uh1, rfl, Oh1, b18⟩
  obtain ⟨ph1, ch1, rfl⟩ := Oh1.form
  replace hv0 := hv0.on b18 (by have := bb.size; omega)
  replace hv1 := hv1.on b18 (by have := bb.size; omega)
  replace OS := OS.on b18 (Nat.le_refl _)
  replace Oh0 := Oh0.on b18 (Nat.le_refl _)
  have z18 : W17.heap.size ≤ W18.heap.size := b18.size
  replace bb := bb.trans (b18.mono bb.size)
  rw [hm1] at Oh1 ⊢
  replace NG := NG.on b18 (Nat.le_refl _)
  go_wp2_with fail
  refine (HI.out _ _ W18 (Oh0.sees) hll0 (Oh1.sees) hle1).mono ?_
  rintro e W19 ⟨uH, rfl, OH, b19⟩
  have dH := OH.at
  replace OH := OH.mono bb.size
  obtain ⟨pH, cH, rfl⟩ := OH.form
  replace hv0 := hv0.on b19 (by have := bb.size; omega)
  replace hv1 := hv1.on b19 (by have := bb.size; omega)
  replace OS := OS.on b19 (Nat.le_refl _)
  replace Oh0 := Oh0.on b19 (Nat.le_refl _)
  replace Oh1 := Oh1.on b19
  have z19 : W18.heap.size ≤ W19.heap.size := b19.size
  replace bb := bb.trans (b19.mono bb.size)
  rw [hrn] at OH dH ⊢
  replace NG := NG.on b19 (Nat.le_refl _)
  go_wp2_with fail
  refine (Ints.eqIntsC _ _ r W19.heap.size W19 OH.sees OS.sees (Nat.le_refl _)).mono ?_
  rintro e W20 ⟨rfl, b20⟩
  replace hv0 := hv0.on b20 (by have := bb.size; omega)
  replace hv1 := hv1.on b20 (by have := bb.size; omega)
  replace OS := OS.on b20 (Nat.le_refl _)
  replace Oh0 := Oh0.on b20 (Nat.le_refl _)
  replace Oh1 := Oh1.on b20
  replace OH := OH.on b20 (Nat.le_refl _)
  have z20 : W19.heap.size ≤ W20.heap.size := b20.size
  replace bb := bb.trans (b20.mono bb.size)
  replace NG := NG.on b20 (Nat.le_refl _)
  go_wp2_with fail
  refine (Ints.heldIntsC _ rn W20.heap.size W20 NG.sees (by omega)).mono ?_
  rintro e w1021 ⟨rfl, rfl⟩
  go_wp2
  go_ret
  exact ⟨rfl, bb⟩
end Hist
end Go.Proofs.Ytppikpdphcfomaa
