/- The walk of FnExactLast, given what both functions answer. -/
import Derived.Test.YtocfnhlfjeilnaaLogRow
set_option linter.unusedVariables false
namespace Go.Proofs.Ytocfnhlfjeilnaa
open Go.RowKit
namespace Logs
open Bas Flat

set_option maxRecDepth 100000 in
set_option maxHeartbeats 6400000 in
theorem walkLast (v0 : Value) (xs0 : List R2) (n1 : Int) (w : World) (hv0 : Sees2 w.heap.size w v0 xs0) (r : Int) (ok : Bool)
    (cS : ∀ (u0 : Value) (W : World), Sees2 W.heap.size W u0 xs0 → xs0.length ≤ 1048576 → Calls Try.prog 28 #[u0, .int .i64 n1] W fun e w' => e = .returned (.tuple #[.int .i64 r, .bool ok]) ∧ Below W.heap.size W w')
    (cI : ∀ (u0 : Value) (W : World), Sees2 W.heap.size W u0 xs0 → xs0.length ≤ 1048576 → Calls Try.prog 20 #[u0, .int .i64 n1] W fun e w' => e = .returned (.tuple #[.int .i64 r, .bool ok]) ∧ Below W.heap.size W w') :
    Calls Try.prog 5 #[v0, .int .i64 n1] w fun e w' => e = .returned (.bool true) ∧ Below w.heap.size w w' := by
  have hroom0 : xs0.length ≤ maxLen := by obtain ⟨a, cap, -, h1, h2, -⟩ := hv0; omega
  obtain ⟨a0, cap0, rfl⟩ := hv0.form
  obtain ⟨m0, hm0⟩ : ∃ n, xs0.length = n := ⟨_, rfl⟩
  rw [hm0] at hv0 hroom0 ⊢
  have hz0 : (m0 : Int) ≤ 9223372036854775807 := by unfold maxLen at hroom0; omega
  have HS := (show Hid _ from cS)
  have HI := (show Hid _ from cI)
  clear cS cI
  have c0 := szRowsC a0 m0 cap0 1048576 w (by omega) (by omega) hroom0
  by_cases hle0 : (m0 : Int) ≤ 1048576
  case neg =>
    rw [if_neg hle0] at c0
    go_enter Try.func5, Try.ntmps5
    go_wp2_with fail
    refine c0.mono ?_
    rintro e w1 ⟨rfl, rfl⟩
    go_wp2
    go_ret
    exact ⟨rfl, Below.refl _ _⟩
  rw [if_pos hle0] at c0
  go_enter Try.func5, Try.ntmps5
  go_wp2_with fail
  refine c0.mono ?_
  rintro e w1 ⟨rfl, rfl⟩
  have bb := Below.refl w.heap.size w
  go_wp2_with fail
  refine (toRowsC _ xs0 w.heap.size w hv0 bb.size (by omega)).mono ?_
  rintro e W1 ⟨ua0, rfl, Oa0, b1⟩
  have da0 := Oa0.at
  replace Oa0 := Oa0.mono bb.size
  obtain ⟨pa0, ca0, rfl⟩ := Oa0.form
  replace hv0 := hv0.on b1 (by have := bb.size; omega)
  have z1 : w.heap.size ≤ W1.heap.size := b1.size
  replace bb := bb.trans (b1.mono bb.size)
  rw [hm0] at Oa0 da0 ⊢
  go_wp2_with fail
  refine (HS.out _ W1 (Oa0.sees) (by omega)).mono ?_
  rintro e W2 ⟨rfl, b2⟩
  replace hv0 := hv0.on b2 (by have := bb.size; omega)
  replace Oa0 := Oa0.on b2 (Nat.le_refl _)
  have z2 : W1.heap.size ≤ W2.heap.size := b2.size
  replace bb := bb.trans (b2.mono bb.size)
  go_wp2_with fail
  refine (toRowsC _ xs0 w.heap.size W2 hv0 bb.size (by omega)).mono ?_
  rintro e W3 ⟨ux0, rfl, Ox0, b3⟩
  have dx0 := Ox0.at
  replace Ox0 := Ox0.mono bb.size
  obtain ⟨px0, cx0, rfl⟩ := Ox0.form
  replace hv0 := hv0.on b3 (by have := bb.size; omega)
  have z3 : W2.heap.size ≤ W3.heap.size := b3.size
  replace bb := bb.trans (b3.mono bb.size)
  rw [hm0] at Ox0 dx0 ⊢
  go_wp2_with fail
  refine (HI.out _ W3 (Ox0.sees) (by omega)).mono ?_
  rintro e W4 ⟨rfl, b4⟩
  replace hv0 := hv0.on b4 (by have := bb.size; omega)
  replace Ox0 := Ox0.on b4 (Nat.le_refl _)
  have z4 : W3.heap.size ≤ W4.heap.size := b4.size
  replace bb := bb.trans (b4.mono bb.size)
  go_wp2_with fail
  refine (toRowsC _ xs0 w.heap.size W4 hv0 bb.size (by omega)).mono ?_
  rintro e W5 ⟨uy0, rfl, Oy0, b5⟩
  have dy0 := Oy0.at
  replace Oy0 := Oy0.mono bb.size
  obtain ⟨py0, cy0, rfl⟩ := Oy0.form
  replace hv0 := hv0.on b5 (by have := bb.size; omega)
  replace Ox0 := Ox0.on b5 (Nat.le_refl _)
  have z5 : W4.heap.size ≤ W5.heap.size := b5.size
  replace bb := bb.trans (b5.mono bb.size)
  rw [hm0] at Oy0 dy0 ⊢
  go_wp2_with fail
  refine (eqRowsC _ _ xs0 W5.heap.size W5 Ox0.sees Oy0.sees (Nat.le_refl _)).mono ?_
  rintro e W6 ⟨rfl, b6⟩
  replace hv0 := hv0.on b6 (by have := bb.size; omega)
  replace Ox0 := Ox0.on b6 (Nat.le_refl _)
  replace Oy0 := Oy0.on b6 (Nat.le_refl _)
  have z6 : W5.heap.size ≤ W6.heap.size := b6.size
  replace bb := bb.trans (b6.mono bb.size)
  go_wp2
  go_ret
  exact ⟨rfl, bb⟩
end Logs
end Go.Proofs.Ytocfnhlfjeilnaa
