/- The walk of FnExactNet, given what both functions answer. -/
import Derived.Test.YtocfnhlfjeilnaaLogRow
set_option linter.unusedVariables false
namespace Go.Proofs.Ytocfnhlfjeilnaa
open Go.RowKit
namespace Logs
open Bas Flat

set_option maxRecDepth 100000 in
set_option maxHeartbeats 6400000 in
theorem walkNet (v0 : Value) (xs0 : List R2) (w : World) (hv0 : Sees2 w.heap.size w v0 xs0) (r : List R2) (hr : r.length ≤ 1048576)
    (cS : ∀ (u0 : Value) (W : World), Sees2 W.heap.size W u0 xs0 → xs0.length ≤ 1048576 → Calls Try.prog 32 #[u0] W fun e w' => ∃ v', e = .returned v' ∧ Owns2 W.heap.size w' v' r ∧ Below W.heap.size W w')
    (cI : ∀ (u0 : Value) (W : World), Sees2 W.heap.size W u0 xs0 → xs0.length ≤ 1048576 → Calls Try.prog 16 #[u0] W fun e w' => ∃ v', e = .returned v' ∧ Owns2 W.heap.size w' v' r ∧ Below W.heap.size W w') :
    Calls Try.prog 7 #[v0] w fun e w' => e = .returned (.bool true) ∧ Below w.heap.size w w' := by
  have hroom0 : xs0.length ≤ maxLen := by obtain ⟨a, cap, -, h1, h2, -⟩ := hv0; omega
  obtain ⟨a0, cap0, rfl⟩ := hv0.form
  obtain ⟨m0, hm0⟩ : ∃ n, xs0.length = n := ⟨_, rfl⟩
  rw [hm0] at hv0 hroom0 ⊢
  have hz0 : (m0 : Int) ≤ 9223372036854775807 := by unfold maxLen at hroom0; omega
  have HS := (show Hid _ from cS)
  have HI := (show Hid _ from cI)
  clear cS cI
  have c0 := szRowsC a0 m0 cap0 1048576 w (by omega) (by omega) hroom0
  by_cases hle0 : (m0 : Int) ≤ 1048576
  case neg =>
    rw [if_neg hle0] at c0
    go_enter Try.func7, Try.ntmps7
    go_wp2_with fail
    refine c0.mono ?_
    rintro e w1 ⟨rfl, rfl⟩
    go_wp2
    go_ret
    exact ⟨rfl, Below.refl _ _⟩
  rw [if_pos hle0] at c0
  go_enter Try.func7, Try.ntmps7
  go_wp2_with fail
  refine c0.mono ?_
  rintro e w1 ⟨rfl, rfl⟩
  have bb := Below.refl w.heap.size w
  obtain ⟨rn, hrn⟩ : ∃ n, r.length = n := ⟨_, rfl⟩
  go_wp2_with fail
  refine (toRowsC _ xs0 w.heap.size w hv0 bb.size (by omega)).mono ?_
  rintro e W1 ⟨ua0, rfl, Oa0, b1⟩
  have da0 := Oa0.at
  replace Oa0 := Oa0.mono bb.size
  obtain ⟨pa0, ca0, rfl⟩ := Oa0.form
  replace hv0 := hv0.on b1 (by have := bb.size; omega)
  have z1 : w.heap.size ≤ W1.heap.size := b1.size
  replace bb := bb.trans (b1.mono bb.size)
  rw [hm0] at Oa0 da0 ⊢
  go_wp2_with fail
  refine (HS.out _ W1 (Oa0.sees) (by omega)).mono ?_
  rintro e W2 ⟨uS, rfl, OS, b2⟩
  have dS := OS.at
  replace OS := OS.mono bb.size
  obtain ⟨pS, cS, rfl⟩ := OS.form
  replace hv0 := hv0.on b2 (by have := bb.size; omega)
  replace Oa0 := Oa0.on b2 (Nat.le_refl _)
  have z2 : W1.heap.size ≤ W2.heap.size := b2.size
  replace bb := bb.trans (b2.mono bb.size)
  rw [hrn] at OS dS ⊢
  go_wp2_with fail
  refine (toRowsC _ xs0 w.heap.size W2 hv0 bb.size (by omega)).mono ?_
  rintro e W3 ⟨ux0, rfl, Ox0, b3⟩
  have dx0 := Ox0.at
  replace Ox0 := Ox0.mono bb.size
  obtain ⟨px0, cx0, rfl⟩ := Ox0.form
  replace hv0 := hv0.on b3 (by have := bb.size; omega)
  replace OS := OS.on b3 (Nat.le_refl _)
  have z3 : W2.heap.size ≤ W3.heap.size := b3.size
  replace bb := bb.trans (b3.mono bb.size)
  rw [hm0] at Ox0 dx0 ⊢
  go_wp2_with fail
  refine (HI.out _ W3 (Ox0.sees) (by omega)).mono ?_
  rintro e W4 ⟨uG, rfl, OG, b4⟩
  have dG := OG.at
  replace OG := OG.mono bb.size
  obtain ⟨pG, cG, rfl⟩ := OG.form
  replace hv0 := hv0.on b4 (by have := bb.size; omega)
  replace OS := OS.on b4 (Nat.le_refl _)
  replace Ox0 := Ox0.on b4 (Nat.le_refl _)
  have z4 : W3.heap.size ≤ W4.heap.size := b4.size
  replace bb := bb.trans (b4.mono bb.size)
  rw [hrn] at OG dG ⊢
  go_wp2_with fail
  refine (eqRowsC _ _ r W4.heap.size W4 OG.sees OS.sees (Nat.le_refl _)).mono ?_
  rintro e W5 ⟨rfl, b5⟩
  replace hv0 := hv0.on b5 (by have := bb.size; omega)
  replace OS := OS.on b5 (Nat.le_refl _)
  replace Ox0 := Ox0.on b5 (Nat.le_refl _)
  replace OG := OG.on b5 (Nat.le_refl _)
  have z5 : W4.heap.size ≤ W5.heap.size := b5.size
  replace bb := bb.trans (b5.mono bb.size)
  go_wp2_with fail
  refine (toRowsC _ xs0 w.heap.size W5 hv0 bb.size (by omega)).mono ?_
  rintro e W6 ⟨uy0, rfl, Oy0, b6⟩
  have dy0 := Oy0.at
  replace Oy0 := Oy0.mono bb.size
  obtain ⟨py0, cy0, rfl⟩ := Oy0.form
  replace hv0 := hv0.on b6 (by have := bb.size; omega)
  replace OS := OS.on b6 (Nat.le_refl _)
  replace Ox0 := Ox0.on b6 (Nat.le_refl _)
  replace OG := OG.on b6 (Nat.le_refl _)
  have z6 : W5.heap.size ≤ W6.heap.size := b6.size
  replace bb := bb.trans (b6.mono bb.size)
  rw [hm0] at Oy0 dy0 ⊢
  go_wp2_with fail
  refine (eqRowsC _ _ xs0 W6.heap.size W6 Ox0.sees Oy0.sees (Nat.le_refl _)).mono ?_
  rintro e W7 ⟨rfl, b7⟩
  replace hv0 := hv0.on b7 (by have := bb.size; omega)
  replace OS := OS.on b7 (Nat.le_refl _)
  replace Ox0 := Ox0.on b7 (Nat.le_refl _)
  replace OG := OG.on b7 (Nat.le_refl _)
  replace Oy0 := Oy0.on b7 (Nat.le_refl _)
  have z7 : W6.heap.size ≤ W7.heap.size := b7.size
  replace bb := bb.trans (b7.mono bb.size)
  go_wp2_with fail
  refine (markRowsC _ xs0 _ w.heap.size W7 Ox0 (by omega) (by omega) (by omega)).mono ?_
  rintro e W8 ⟨rfl, Nx0, g8⟩
  replace hv0 := hv0.grown g8 bb.size (fun k hk => by have := dx0 k hk; omega)
  replace OS := OS.grown g8 (fun k hk e => by have := dx0 k e.symm; have := dS k hk; omega)
  replace OG := OG.grown g8 (fun k hk e => by have := dx0 k e.symm; have := dG k hk; omega)
  have z8 : W7.heap.size ≤ W8.heap.size := g8.size
  replace bb := bb.grown g8 bb.size (fun k hk => by have := dx0 k hk; omega)
  rw [hm0] at Nx0 ⊢
  go_wp2_with fail
  refine (eqRowsC _ _ r W8.heap.size W8 OG.sees OS.sees (Nat.le_refl _)).mono ?_
  rintro e W9 ⟨rfl, b9⟩
  replace hv0 := hv0.on b9 (by have := bb.size; omega)
  replace OS := OS.on b9 (Nat.le_refl _)
  replace OG := OG.on b9 (Nat.le_refl _)
  have z9 : W8.heap.size ≤ W9.heap.size := b9.size
  replace bb := bb.trans (b9.mono bb.size)
  go_wp2_with fail
  refine (markRowsC _ r _ w.heap.size W9 OG (by omega) (by omega) (by omega)).mono ?_
  rintro e W10 ⟨rfl, NG, g10⟩
  replace hv0 := hv0.grown g10 bb.size (fun k hk => by have := dG k hk; omega)
  replace OS := OS.grown g10 (fun k hk e => by have := dG k e.symm; have := dS k hk; omega)
  have z10 : W9.heap.size ≤ W10.heap.size := g10.size
  replace bb := bb.grown g10 bb.size (fun k hk => by have := dG k hk; omega)
  rw [hrn] at NG ⊢
  go_wp2_with fail
  refine (heldRowsC _ rn 1 W10.heap.size W10 NG.sees (by omega) (by omega) (by omega)).mono ?_
  rintro e w1011 ⟨rfl, rfl⟩
  go_wp2_with fail
  refine (toRowsC _ xs0 w.heap.size W10 hv0 bb.size (by omega)).mono ?_
  rintro e W11 ⟨uh0, rfl, Oh0, b11⟩
  have dh0 := Oh0.at
  replace Oh0 := Oh0.mono bb.size
  obtain ⟨ph0, ch0, rfl⟩ := Oh0.form
  replace hv0 := hv0.on b11 (by have := bb.size; omega)
  replace OS := OS.on b11 (Nat.le_refl _)
  have z11 : W10.heap.size ≤ W11.heap.size := b11.size
  replace bb := bb.trans (b11.mono bb.size)
  rw [hm0] at Oh0 dh0 ⊢
  replace NG := NG.on b11 (Nat.le_refl _)
  go_wp2_with fail
  refine (HI.out _ W11 (Oh0.sees) (by omega)).mono ?_
  rintro e W12 ⟨uH, rfl, OH, b12⟩
  have dH := OH.at
  replace OH := OH.mono bb.size
  obtain ⟨pH, cH, rfl⟩ := OH.form
  replace hv0 := hv0.on b12 (by have := bb.size; omega)
  replace OS := OS.on b12 (Nat.le_refl _)
  replace Oh0 := Oh0.on b12 (Nat.le_refl _)
  have z12 : W11.heap.size ≤ W12.heap.size := b12.size
  replace bb := bb.trans (b12.mono bb.size)
  rw [hrn] at OH dH ⊢
  replace NG := NG.on b12 (Nat.le_refl _)
  go_wp2_with fail
  refine (eqRowsC _ _ r W12.heap.size W12 OH.sees OS.sees (Nat.le_refl _)).mono ?_
  rintro e W13 ⟨rfl, b13⟩
  replace hv0 := hv0.on b13 (by have := bb.size; omega)
  replace OS := OS.on b13 (Nat.le_refl _)
  replace Oh0 := Oh0.on b13 (Nat.le_refl _)
  replace OH := OH.on b13 (Nat.le_refl _)
  have z13 : W12.heap.size ≤ W13.heap.size := b13.size
  replace bb := bb.trans (b13.mono bb.size)
  replace NG := NG.on b13 (Nat.le_refl _)
  go_wp2_with fail
  refine (heldRowsC _ rn 1 W13.heap.size W13 NG.sees (by omega) (by omega) (by omega)).mono ?_
  rintro e w1014 ⟨rfl, rfl⟩
  go_wp2
  go_ret
  exact ⟨rfl, bb⟩
end Logs
end Go.Proofs.Ytocfnhlfjeilnaa
