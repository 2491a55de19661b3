/- The walk of FnExactStamps, given what both functions answer. -/
import Derived.Test.YtppikpdphcfomaaHistMark
import Derived.Test.YtppikpdphcfomaaIntRow
set_option linter.unusedVariables false
set_option linter.unusedSimpArgs false
namespace Go.Proofs.Ytppikpdphcfomaa
open Go.RowKit
namespace Hist
open Bas Flat Logs

set_option maxRecDepth 100000 in
set_option maxHeartbeats 6400000 in
theorem walkStamps (v0 : Value) (xs0 : List Wr) (w : World) (hv0 : SeesW w.heap.size w v0 xs0) (r : List Int) (hr : r.length ≤ 1048576)
    (cS : ∀ (u0 : Value) (W : World), SeesW W.heap.size W u0 xs0 → total xs0 ≤ 1048576 → Calls Try.prog 28 #[u0] W fun e w' => ∃ v', e = .returned v' ∧ Ints.Owns W.heap.size w' v' r ∧ Below W.heap.size W w')
    (cI : ∀ (u0 : Value) (W : World), SeesW W.heap.size W u0 xs0 → total xs0 ≤ 1048576 → Calls Try.prog 15 #[u0] W fun e w' => ∃ v', e = .returned v' ∧ Ints.Owns W.heap.size w' v' r ∧ Below W.heap.size W w') :
    Calls Try.prog 6 #[v0] w fun e w' => e = .returned (.bool true) ∧ Below w.heap.size w w' := by
  have hroom0 := hv0.room
  obtain ⟨a0, cap0, rfl⟩ := hv0.form
  obtain ⟨m0, hm0⟩ : ∃ n, xs0.length = n := ⟨_, rfl⟩
  rw [hm0] at hv0 hroom0 ⊢
  have hz0 : (m0 : Int) ≤ 9223372036854775807 := by unfold maxLen at hroom0; omega
  have HS := (show Hid _ from cS)
  have HI := (show Hid _ from cI)
  clear cS cI
  have c0 := szWrotesC _ xs0 w.heap.size w hv0 (Nat.le_refl _)
  go_enter Try.func6, Try.ntmps6
  go_wp2_with fail
  refine c0.mono ?_
  rintro e W1 ⟨sz, rfl, b1, (rfl | ⟨hsz0, hsz⟩)⟩
  · go_wp2
    go_ret
    exact ⟨rfl, b1⟩
  have hle0 : total xs0 ≤ 1048576 := by omega
  have HSZ := (show Hid _ from hsz)
  clear hsz c0
  replace hv0 := hv0.on b1 (Nat.le_refl _)
  have bb := b1
  have z1 : w.heap.size ≤ W1.heap.size := b1.size
  obtain ⟨rn, hrn⟩ : ∃ n, r.length = n := ⟨_, rfl⟩
  go_wp2_with fail
  refine (toWrotesC _ xs0 w.heap.size W1 hv0 bb.size hle0).mono ?_
  rintro e W2 ⟨ua0, rfl, Oa0, b2⟩
  obtain ⟨pa0, ca0, rfl⟩ := Oa0.form
  replace hv0 := hv0.on b2 (by have := bb.size; omega)
  have z2 : W1.heap.size ≤ W2.heap.size := b2.size
  replace bb := bb.trans (b2.mono bb.size)
  rw [hm0] at Oa0 ⊢
  go_wp2_with fail
  refine (HS.out _ W2 (Oa0.sees) hle0).mono ?_
  rintro e W3 ⟨uS, rfl, OS, b3⟩
  have dS := OS.at
  replace OS := OS.mono bb.size
  obtain ⟨pS, cS, rfl⟩ := OS.form
  replace hv0 := hv0.on b3 (by have := bb.size; omega)
  replace Oa0 := Oa0.on b3
  have z3 : W2.heap.size ≤ W3.heap.size := b3.size
  replace bb := bb.trans (b3.mono bb.size)
  rw [hrn] at OS dS ⊢
  go_wp2_with fail
  refine (toWrotesC _ xs0 w.heap.size W3 hv0 bb.size hle0).mono ?_
  rintro e W4 ⟨ux0, rfl, Ox0, b4⟩
  obtain ⟨px0, cx0, rfl⟩ := Ox0.form
  replace hv0 := hv0.on b4 (by have := bb.size; omega)
  replace OS := OS.on b4 (Nat.le_refl _)
  have z4 : W3.heap.size ≤ W4.heap.size := b4.size
  replace bb := bb.trans (b4.mono bb.size)
  rw [hm0] at Ox0 ⊢
  go_wp2_with fail
  refine (HI.out _ W4 (Ox0.sees) hle0).mono ?_
  rintro e W5 ⟨uG, rfl, OG, b5⟩
  have dG := OG.at
  replace OG := OG.mono bb.size
  obtain ⟨pG, cG, rfl⟩ := OG.form
  replace hv0 := hv0.on b5 (by have := bb.size; omega)
  replace OS := OS.on b5 (Nat.le_refl _)
  replace Ox0 := Ox0.on b5
  have z5 : W4.heap.size ≤ W5.heap.size := b5.size
  replace bb := bb.trans (b5.mono bb.size)
  rw [hrn] at OG dG ⊢
  go_wp2_with fail
  refine (Ints.eqIntsC _ _ r W5.heap.size W5 OG.sees OS.sees (Nat.le_refl _)).mono ?_
  rintro e W6 ⟨rfl, b6⟩
  replace hv0 := hv0.on b6 (by have := bb.size; omega)
  replace OS := OS.on b6 (Nat.le_refl _)
  replace Ox0 := Ox0.on b6
  replace OG := OG.on b6 (Nat.le_refl _)
  have z6 : W5.heap.size ≤ W6.heap.size := b6.size
  replace bb := bb.trans (b6.mono bb.size)
  go_wp2_with fail
  refine (toWrotesC _ xs0 w.heap.size W6 hv0 bb.size hle0).mono ?_
  rintro e W7 ⟨uy0, rfl, Oy0, b7⟩
  obtain ⟨py0, cy0, rfl⟩ := Oy0.form
  replace hv0 := hv0.on b7 (by have := bb.size; omega)
  replace OS := OS.on b7 (Nat.le_refl _)
  replace Ox0 := Ox0.on b7
  replace OG := OG.on b7 (Nat.le_refl _)
  have z7 : W6.heap.size ≤ W7.heap.size := b7.size
  replace bb := bb.trans (b7.mono bb.size)
  rw [hm0] at Oy0 ⊢
  go_wp2_with fail
  refine (eqWrotesC _ _ xs0 W7.heap.size W7 Ox0.sees Oy0.sees (Nat.le_refl _)).mono ?_
  rintro e W8 ⟨rfl, b8⟩
  replace hv0 := hv0.on b8 (by have := bb.size; omega)
  replace OS := OS.on b8 (Nat.le_refl _)
  replace Ox0 := Ox0.on b8
  replace OG := OG.on b8 (Nat.le_refl _)
  replace Oy0 := Oy0.on b8
  have z8 : W7.heap.size ≤ W8.heap.size := b8.size
  replace bb := bb.trans (b8.mono bb.size)
  go_wp2_with fail
  refine (markWrotesC _ xs0 _ _ _ W8 Ox0 (by omega) (by omega) hle0).mono ?_
  rintro e W9 ⟨rfl, Nx0, g9⟩
  have bm9 : Below w.heap.size W8 W9 := g9.toBelow bb.size (by omega)
  replace hv0 := hv0.on bm9 (Nat.le_refl _)
  have OS := ints_chg OS g9 (fun k hk => by have := dS k hk; omega)
  have OG := ints_chg OG g9 (fun k hk => by have := dG k hk; omega)
  have z9 : W8.heap.size ≤ W9.heap.size := g9.size
  replace bb := bb.trans bm9
  obtain ⟨kz, hkz, hk0⟩ : ∃ kz, endW 1 (lensW xs0) = kz ∧ 0 ≤ kz := ⟨_, rfl, by rw [endW_eq]; omega⟩
  rw [hkz]
  clear hkz
  go_wp2_with fail
  refine (Ints.eqIntsC _ _ r W9.heap.size W9 OG.sees OS.sees (Nat.le_refl _)).mono ?_
  rintro e W10 ⟨rfl, b10⟩
  replace hv0 := hv0.on b10 (by have := bb.size; omega)
  replace OS := OS.on b10 (Nat.le_refl _)
  replace OG := OG.on b10 (Nat.le_refl _)
  have z10 : W9.heap.size ≤ W10.heap.size := b10.size
  replace bb := bb.trans (b10.mono bb.size)
  go_wp2_with fail
  refine (Ints.markIntsC _ r w.heap.size W10 OG (by omega)).mono ?_
  rintro e W11 ⟨rfl, NG, g11⟩
  replace hv0 := hv0.on (show Below w.heap.size W10 W11 from (Below.refl _ _).grown g11 bb.size (fun k hk => by have := dG k hk; omega)) (Nat.le_refl _)
  replace OS := OS.grown g11 (fun k hk e => by have := dG k e.symm; have := dS k hk; omega)
  have z11 : W10.heap.size ≤ W11.heap.size := g11.size
  replace bb := bb.grown g11 bb.size (fun k hk => by have := dG k hk; omega)
  rw [hrn] at NG ⊢
  go_wp2_with fail
  refine (Ints.heldIntsC _ rn W11.heap.size W11 NG.sees (by omega)).mono ?_
  rintro e w1012 ⟨rfl, rfl⟩
  go_wp2_with fail
  refine (toWrotesC _ xs0 w.heap.size W11 hv0 bb.size hle0).mono ?_
  rintro e W12 ⟨uh0, rfl, Oh0, b12⟩
  obtain ⟨ph0, ch0, rfl⟩ := Oh0.form
  replace hv0 := hv0.on b12 (by have := bb.size; omega)
  replace OS := OS.on b12 (Nat.le_refl _)
  have z12 : W11.heap.size ≤ W12.heap.size := b12.size
  replace bb := bb.trans (b12.mono bb.size)
  rw [hm0] at Oh0 ⊢
  replace NG := NG.on b12 (Nat.le_refl _)
  go_wp2_with fail
  refine (HI.out _ W12 (Oh0.sees) hle0).mono ?_
  rintro e W13 ⟨uH, rfl, OH, b13⟩
  have dH := OH.at
  replace OH := OH.mono bb.size
  obtain ⟨pH, cH, rfl⟩ := OH.form
  replace hv0 := hv0.on b13 (by have := bb.size; omega)
  replace OS := OS.on b13 (Nat.le_refl _)
  replace Oh0 := Oh0.on b13
  have z13 : W12.heap.size ≤ W13.heap.size := b13.size
  replace bb := bb.trans (b13.mono bb.size)
  rw [hrn] at OH dH ⊢
  replace NG := NG.on b13 (Nat.le_refl _)
  go_wp2_with fail
  refine (Ints.eqIntsC _ _ r W13.heap.size W13 OH.sees OS.sees (Nat.le_refl _)).mono ?_
  rintro e W14 ⟨rfl, b14⟩
  replace hv0 := hv0.on b14 (by have := bb.size; omega)
  replace OS := OS.on b14 (Nat.le_refl _)
  replace Oh0 := Oh0.on b14
  replace OH := OH.on b14 (Nat.le_refl _)
  have z14 : W13.heap.size ≤ W14.heap.size := b14.size
  replace bb := bb.trans (b14.mono bb.size)
  replace NG := NG.on b14 (Nat.le_refl _)
  go_wp2_with fail
  refine (Ints.heldIntsC _ rn W14.heap.size W14 NG.sees (by omega)).mono ?_
  rintro e w1015 ⟨rfl, rfl⟩
  go_wp2
  go_ret
  exact ⟨rfl, bb⟩
end Hist
end Go.Proofs.Ytppikpdphcfomaa
