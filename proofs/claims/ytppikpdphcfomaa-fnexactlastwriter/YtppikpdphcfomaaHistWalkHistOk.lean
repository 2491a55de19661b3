/- The walk of FnExactHistOk, given what both functions answer. -/
import Derived.Test.YtppikpdphcfomaaHistMark
import Derived.Test.YtppikpdphcfomaaIntRow
set_option linter.unusedVariables false
set_option linter.unusedSimpArgs false
namespace Go.Proofs.Ytppikpdphcfomaa
open Go.RowKit
namespace Hist
open Bas Flat Logs

set_option maxRecDepth 100000 in
set_option maxHeartbeats 6400000 in
theorem walkHistOk (v0 : Value) (xs0 : List Wr) (w : World) (hv0 : SeesW w.heap.size w v0 xs0) (r : Bool)
    (cS : ∀ (u0 : Value) (W : World), SeesW W.heap.size W u0 xs0 → total xs0 ≤ 1048576 → Calls Try.prog 12 #[u0] W fun e w' => e = .returned (.bool r) ∧ Below W.heap.size W w')
    (cI : ∀ (u0 : Value) (W : World), SeesW W.heap.size W u0 xs0 → total xs0 ≤ 1048576 → Calls Try.prog 20 #[u0] W fun e w' => e = .returned (.bool r) ∧ Below W.heap.size W w') :
    Calls Try.prog 4 #[v0] w fun e w' => e = .returned (.bool true) ∧ Below w.heap.size w w' := by
  have hroom0 := hv0.room
  obtain ⟨a0, cap0, rfl⟩ := hv0.form
  obtain ⟨m0, hm0⟩ : ∃ n, xs0.length = n := ⟨_, rfl⟩
  rw [hm0] at hv0 hroom0 ⊢
  have hz0 : (m0 : Int) ≤ 9223372036854775807 := by unfold maxLen at hroom0; omega
  have HS := (show Hid _ from cS)
  have HI := (show Hid _ from cI)
  clear cS cI
  have c0 := szWrotesC _ xs0 w.heap.size w hv0 (Nat.le_refl _)
  go_enter Try.func4, Try.ntmps4
  go_wp2_with fail
  refine c0.mono ?_
  rintro e W1 ⟨sz, rfl, b1, (rfl | ⟨hsz0, hsz⟩)⟩
  · go_wp2
    go_ret
    exact ⟨rfl, b1⟩
  have hle0 : total xs0 ≤ 1048576 := by omega
  have HSZ := (show Hid _ from hsz)
  clear hsz c0
  replace hv0 := hv0.on b1 (Nat.le_refl _)
  have bb := b1
  have z1 : w.heap.size ≤ W1.heap.size := b1.size
  go_wp2_with fail
  refine (toWrotesC _ xs0 w.heap.size W1 hv0 bb.size hle0).mono ?_
  rintro e W2 ⟨ua0, rfl, Oa0, b2⟩
  obtain ⟨pa0, ca0, rfl⟩ := Oa0.form
  replace hv0 := hv0.on b2 (by have := bb.size; omega)
  have z2 : W1.heap.size ≤ W2.heap.size := b2.size
  replace bb := bb.trans (b2.mono bb.size)
  rw [hm0] at Oa0 ⊢
  go_wp2_with fail
  refine (HS.out _ W2 (Oa0.sees) hle0).mono ?_
  rintro e W3 ⟨rfl, b3⟩
  replace hv0 := hv0.on b3 (by have := bb.size; omega)
  replace Oa0 := Oa0.on b3
  have z3 : W2.heap.size ≤ W3.heap.size := b3.size
  replace bb := bb.trans (b3.mono bb.size)
  go_wp2_with fail
  refine (toWrotesC _ xs0 w.heap.size W3 hv0 bb.size hle0).mono ?_
  rintro e W4 ⟨ux0, rfl, Ox0, b4⟩
  obtain ⟨px0, cx0, rfl⟩ := Ox0.form
  replace hv0 := hv0.on b4 (by have := bb.size; omega)
  have z4 : W3.heap.size ≤ W4.heap.size := b4.size
  replace bb := bb.trans (b4.mono bb.size)
  rw [hm0] at Ox0 ⊢
  go_wp2_with fail
  refine (HI.out _ W4 (Ox0.sees) hle0).mono ?_
  rintro e W5 ⟨rfl, b5⟩
  replace hv0 := hv0.on b5 (by have := bb.size; omega)
  replace Ox0 := Ox0.on b5
  have z5 : W4.heap.size ≤ W5.heap.size := b5.size
  replace bb := bb.trans (b5.mono bb.size)
  go_wp2_with fail
  refine (toWrotesC _ xs0 w.heap.size W5 hv0 bb.size hle0).mono ?_
  rintro e W6 ⟨uy0, rfl, Oy0, b6⟩
  obtain ⟨py0, cy0, rfl⟩ := Oy0.form
  replace hv0 := hv0.on b6 (by have := bb.size; omega)
  replace Ox0 := Ox0.on b6
  have z6 : W5.heap.size ≤ W6.heap.size := b6.size
  replace bb := bb.trans (b6.mono bb.size)
  rw [hm0] at Oy0 ⊢
  go_wp2_with fail
  refine (eqWrotesC _ _ xs0 W6.heap.size W6 Ox0.sees Oy0.sees (Nat.le_refl _)).mono ?_
  rintro e W7 ⟨rfl, b7⟩
  replace hv0 := hv0.on b7 (by have := bb.size; omega)
  replace Ox0 := Ox0.on b7
  replace Oy0 := Oy0.on b7
  have z7 : W6.heap.size ≤ W7.heap.size := b7.size
  replace bb := bb.trans (b7.mono bb.size)
  go_wp2
  go_ret
  exact ⟨rfl, bb⟩
end Hist
end Go.Proofs.Ytppikpdphcfomaa
