/- The laws of ProbeOk and ProbeNew. -/
import Derived.Test.YtpjcbdanahiapaaProbeOkW
set_option linter.unusedVariables false
set_option linter.unusedSimpArgs false
namespace Go.Proofs.Ytpjcbdanahiapaa
open Go.RowKit
namespace Probes
open Bas

set_option maxRecDepth 100000 in
set_option maxHeartbeats 1600000 in
theorem lawOk (p : P4) (w : World) : Calls Try.prog 4 #[p.agg] w fun e w' => e = .returned (.bool true) ∧ Below w.heap.size w w' := by
  have b0 := alloc_below w (.cells #[.int .i64 p.cell, .int .i64 p.phase, .int .i64 p.ver, .int .i64 p.val] 38)
  have X0 := Blk.new w #[.int .i64 p.cell, .int .i64 p.phase, .int .i64 p.ver, .int .i64 p.val] 38
  obtain ⟨W0, hW0⟩ : ∃ W, w.alloc (.cells #[.int .i64 p.cell, .int .i64 p.phase, .int .i64 p.ver, .int .i64 p.val] 38) = W := ⟨_, rfl⟩
  rw [hW0] at b0 X0
  have x0 := fun i => X0.cell i
  go_enter Try.func4, Try.ntmps4
  go_wp2_with fail
  refine (toProbeC p _).mono ?_
  rintro e w1 ⟨rfl, b1⟩
  have X1 := X0.on b1 X0.lt
  have b1 := b0.trans (b1.mono b0.size)
  clear x0 hW0 X0 b0
  have x1 := fun i => X1.cell i
  go_wp2_with fail
  refine (specOk p _).mono ?_
  rintro e w2 ⟨rfl, b2⟩
  have X2 := X1.on b2 X1.lt
  have b2 := b1.trans (b2.mono b1.size)
  clear x1 X1 b1
  have x2 := fun i => X2.cell i
  obtain ⟨q, hq⟩ : ∃ q, probeOk p = q := ⟨_, rfl⟩
  have HQ := (show Hid _ from hq)
  rw [hq]
  clear hq
  go_wp2_with fail
  refine (toProbeC p _).mono ?_
  rintro e w3 ⟨rfl, b3⟩
  have X3 := X2.on b3 X2.lt
  have b3 := b2.trans (b3.mono b2.size)
  clear x2 X2 b2
  go_wp2_with fail
  refine (implOk p _).mono ?_
  rintro e w4 ⟨rfl, b4⟩
  have b4 := b3.trans (b4.mono b3.size)
  clear X3 b3
  rw [HQ.out]
  go_wp2
  go_ret
  exact ⟨rfl, b4⟩

set_option maxRecDepth 100000 in
set_option maxHeartbeats 1600000 in
theorem lawNew (c : Int) (w : World) (hc : (Lit.int .i64 c).wf = true) : Calls Try.prog 5 #[.int .i64 c] w fun e w' => e = .returned (.bool true) ∧ Below w.heap.size w w' := by
  have cS := fun W => specNew c W
  have cI := fun W => implNew c W
  obtain ⟨q, hq⟩ : ∃ q, newOf c = q := ⟨_, rfl⟩
  obtain ⟨b, hb⟩ : ∃ q, Ops.inn 0 7 c = q := ⟨_, rfl⟩
  rw [hq, hb] at cS cI
  clear hq hb
  obtain ⟨q0, q1, q2, q3⟩ := q
  go_enter Try.func5, Try.ntmps5
  go_wp2_with fail
  refine (cS _).mono ?_
  rintro e w1 ⟨rfl, b1⟩
  have a1 := alloc_below w1 (.cells #[.int .i64 q0, .int .i64 q1, .int .i64 q2, .int .i64 q3] 28)
  have X1 := Blk.new w1 #[.int .i64 q0, .int .i64 q1, .int .i64 q2, .int .i64 q3] 28
  have b1 := b1.trans (a1.mono b1.size)
  obtain ⟨W1, hW1⟩ : ∃ W, w1.alloc (.cells #[.int .i64 q0, .int .i64 q1, .int .i64 q2, .int .i64 q3] 28) = W := ⟨_, rfl⟩
  rw [hW1] at X1 b1
  clear a1
  have x1 := fun i => X1.cell i; have f1 := fun i => X1.froz i
  go_wp2_with fail
  refine (cI _).mono ?_
  rintro e w2 ⟨rfl, b2⟩
  have X2 := X1.on b2 X1.lt
  have b2 := b1.trans (b2.mono b1.size)
  clear x1 f1 X1 b1 hW1
  have a2 := alloc_below w2 (.cells #[.int .i64 q0, .int .i64 q1, .int .i64 q2, .int .i64 q3] 28)
  have Y2 := Blk.new w2 #[.int .i64 q0, .int .i64 q1, .int .i64 q2, .int .i64 q3] 28
  have X2 := X2.on a2 X2.lt
  have b2 := b2.trans (a2.mono b2.size)
  obtain ⟨W2, hW2⟩ : ∃ W, w2.alloc (.cells #[.int .i64 q0, .int .i64 q1, .int .i64 q2, .int .i64 q3] 28) = W := ⟨_, rfl⟩
  rw [hW2] at X2 Y2 b2
  clear a2
  have x2 := fun i => X2.cell i; have y2 := fun i => Y2.cell i; have f2 := fun i => Y2.froz i
  go_wp2_with fail
  try rw [hW2]
  refine (eqProbeC ⟨q0, q1, q2, q3⟩ _).mono ?_
  rintro e w3 ⟨rfl, b3⟩
  have b3 := b2.trans (b3.mono b2.size)
  go_wp2
  go_ret
  exact ⟨rfl, b3⟩
end Probes
end Go.Proofs.Ytpjcbdanahiapaa
