/- ProbeOk and ProbeNew, as written and as specified. -/
import Derived.Test.YtpjcbdanahiapaaProbeL
import Derived.Test.YtpjcbdanahiapaaBase
set_option linter.unusedVariables false
set_option linter.unusedSimpArgs false
namespace Go.Proofs.Ytpjcbdanahiapaa
open Go.RowKit
namespace Probes

set_option maxRecDepth 100000 in
theorem isCellC (x : Int) (w : World) : Calls Try.prog 59 #[.int .i64 x] w fun e w' => e = .returned (.bool (Ops.inn 0 7 x)) ∧ w = w' := by
  unfold Ops.inn
  have e7 : decide (x ≤ 7) = decide (x < 8) := by rw [decide_eq_decide]; omega
  rw [e7]
  by_cases h1 : 0 ≤ x
  · have h1' : decide (0 ≤ x) = true := decide_eq_true h1
    go_enter Try.func59, Try.ntmps59
    go_wp2
    go_ret
    exact ⟨by simp [h1], rfl⟩
  · have h1' : decide (0 ≤ x) = false := decide_eq_false h1
    go_enter Try.func59, Try.ntmps59
    go_wp2
    go_ret
    exact ⟨by simp, rfl⟩
set_option maxRecDepth 100000 in
theorem isValC (x : Int) (w : World) : Calls Try.prog 60 #[.int .i64 x] w fun e w' => e = .returned (.bool (Ops.inn 0 65535 x)) ∧ w = w' := by
  unfold Ops.inn
  by_cases h1 : 0 ≤ x
  · have h1' : decide (0 ≤ x) = true := decide_eq_true h1
    go_enter Try.func60, Try.ntmps60
    go_wp2
    go_ret
    exact ⟨by simp [h1], rfl⟩
  · have h1' : decide (0 ≤ x) = false := decide_eq_false h1
    go_enter Try.func60, Try.ntmps60
    go_wp2
    go_ret
    exact ⟨by simp, rfl⟩

set_option maxRecDepth 100000 in
set_option maxHeartbeats 1600000 in
theorem specOk (p : P4) (w : World) : Calls Try.prog 12 #[p.agg] w fun e w' => e = .returned (.bool (probeOk p)) ∧ Below w.heap.size w w' := by
  unfold probeOk
  obtain ⟨p0, h0⟩ : ∃ q, Ops.inn 0 7 p.cell = q := ⟨_, rfl⟩
  obtain ⟨p1, h1⟩ : ∃ q, Ops.inn 0 4 p.phase = q := ⟨_, rfl⟩
  obtain ⟨p2, h2⟩ : ∃ q, Ops.inn 0 1000000 p.ver = q := ⟨_, rfl⟩
  obtain ⟨p3, h3⟩ : ∃ q, Ops.inn 0 65535 p.val = q := ⟨_, rfl⟩
  rw [h0, h1, h2, h3]
  cases p0 <;> cases p1 <;> cases p2
  all_goals
    go_enter Try.func12, Try.ntmps12
    go_wp2_with (first | (go_at_call 53; refine (Ops.cellC p.cell _).mono ?_; rintro e w1 ⟨rfl, rfl⟩; rw [h0]) | (go_at_call 52; refine (Ops.valC p.val _).mono ?_; rintro e w1 ⟨rfl, rfl⟩; rw [h3]) | (go_at_call_of 51 p.phase; refine (Ops.innC p.phase 0 4 _).mono ?_; rintro e w1 ⟨rfl, rfl⟩; rw [h1]) | (go_at_call 51; refine (Ops.innC p.ver 0 1000000 _).mono ?_; rintro e w1 ⟨rfl, rfl⟩; rw [h2]))
    go_ret
    exact ⟨by simp, (Below.refl _ _).alloc (Nat.le_refl _) _⟩

set_option maxRecDepth 100000 in
set_option maxHeartbeats 1600000 in
theorem implOk (p : P4) (w : World) : Calls Try.prog 16 #[p.agg] w fun e w' => e = .returned (.bool (probeOk p)) ∧ Below w.heap.size w w' := by
  unfold probeOk
  obtain ⟨p0, h0⟩ : ∃ q, Ops.inn 0 7 p.cell = q := ⟨_, rfl⟩
  obtain ⟨p3, h3⟩ : ∃ q, Ops.inn 0 65535 p.val = q := ⟨_, rfl⟩
  rw [h0, h3]
  unfold Ops.inn
  have c0 := isCellC p.cell (w.alloc (.cells #[.int .i64 p.cell, .int .i64 p.phase, .int .i64 p.ver, .int .i64 p.val] 28))
  have c3 := isValC p.val (w.alloc (.cells #[.int .i64 p.cell, .int .i64 p.phase, .int .i64 p.ver, .int .i64 p.val] 28))
  rw [h0] at c0
  rw [h3] at c3
  clear h0 h3
  cases p0
  · go_enter Try.func16, Try.ntmps16
    go_wp2_with (first | (go_at_call 59; refine c0.mono ?_; rintro e w1 ⟨rfl, rfl⟩) | (go_at_call 60; refine c3.mono ?_; rintro e w1 ⟨rfl, rfl⟩))
    go_ret
    exact ⟨by simp, (Below.refl _ _).alloc (Nat.le_refl _) _⟩
  cases p3
  · go_enter Try.func16, Try.ntmps16
    go_wp2_with (first | (go_at_call 59; refine c0.mono ?_; rintro e w1 ⟨rfl, rfl⟩) | (go_at_call 60; refine c3.mono ?_; rintro e w1 ⟨rfl, rfl⟩))
    go_ret
    exact ⟨by simp, (Below.refl _ _).alloc (Nat.le_refl _) _⟩
  obtain ⟨q1, e1⟩ : ∃ q, decide (0 ≤ p.phase) = q := ⟨_, rfl⟩
  obtain ⟨q2, e2⟩ : ∃ q, decide (p.phase ≤ 4) = q := ⟨_, rfl⟩
  obtain ⟨q3, e3⟩ : ∃ q, decide (0 ≤ p.ver) = q := ⟨_, rfl⟩
  obtain ⟨q4, e4⟩ : ∃ q, decide (p.ver ≤ 1000000) = q := ⟨_, rfl⟩
  rw [e1, e2, e3, e4]
  cases q1 <;> cases q2 <;> cases q3
  all_goals
    go_enter Try.func16, Try.ntmps16
    go_wp2_with (first | (go_at_call 59; refine c0.mono ?_; rintro e w1 ⟨rfl, rfl⟩) | (go_at_call 60; refine c3.mono ?_; rintro e w1 ⟨rfl, rfl⟩))
    go_ret
    exact ⟨by simp, (Below.refl _ _).alloc (Nat.le_refl _) _⟩

theorem below_four {B p : Nat} {a W : World} (h : Below B a W) (hp : B ≤ p) (u0 u1 u2 u3 : Value) : Below B a ((((W.setCell ⟨p, 0, none⟩ u0).setCell ⟨p, 1, none⟩ u1).setCell ⟨p, 2, none⟩ u2).setCell ⟨p, 3, none⟩ u3) :=
  (((h.setCell (p := ⟨p, 0, none⟩) hp u0).setCell (p := ⟨p, 1, none⟩) hp u1).setCell (p := ⟨p, 2, none⟩) hp u2).setCell (p := ⟨p, 3, none⟩) hp u3
/-- the probe that is new -/
def newOf (c : Int) : P4 := if Ops.inn 0 7 c = true then ⟨c, 0, 0, 0⟩ else zero
theorem newOf_yes {c : Int} (h : Ops.inn 0 7 c = true) : newOf c = ⟨c, 0, 0, 0⟩ := if_pos h
theorem newOf_no {c : Int} (h : Ops.inn 0 7 c = false) : newOf c = zero := if_neg (by rw [h]; exact Bool.false_ne_true)

set_option maxRecDepth 100000 in
set_option maxHeartbeats 1600000 in
theorem specNew (c : Int) (w : World) : Calls Try.prog 17 #[.int .i64 c] w fun e w' => e = .returned (.tuple #[(newOf c).agg, .bool (Ops.inn 0 7 c)]) ∧ Below w.heap.size w w' := by
  have X0 := Bas.Blk.new w #[.int .i64 0, .int .i64 0, .int .i64 0, .int .i64 0] 28
  have a0 := Bas.alloc_below w (.cells #[.int .i64 0, .int .i64 0, .int .i64 0, .int .i64 0] 28)
  obtain ⟨W, hW⟩ : ∃ W, w.alloc (.cells #[.int .i64 0, .int .i64 0, .int .i64 0, .int .i64 0] 28) = W := ⟨_, rfl⟩
  have c0 := Ops.cellC c W
  obtain ⟨q, h⟩ : ∃ q, Ops.inn 0 7 c = q := ⟨_, rfl⟩
  rw [h] at c0 ⊢
  rw [← hW] at c0
  clear hW X0 a0
  cases q
  · rw [newOf_no h]
    clear h
    go_enter Try.func17, Try.ntmps17
    go_wp2_with (go_at_call 53; refine c0.mono ?_; rintro e w1 ⟨rfl, rfl⟩)
    refine bodyPost_ret (v := .tuple #[(zero : P4).agg, .bool false]) (by simp [results, Try.results17, go_sem, zero]) rfl ⟨rfl, ?_⟩
    exact Bas.alloc_below w _
  · rw [newOf_yes h]
    clear h
    go_enter Try.func17, Try.ntmps17
    go_wp2_with (go_at_call 53; refine c0.mono ?_; rintro e w1 ⟨rfl, rfl⟩)
    refine bodyPost_ret (v := .tuple #[(⟨c, 0, 0, 0⟩ : P4).agg, .bool true]) (by simp [results, Try.results17, go_sem]) rfl ⟨rfl, ?_⟩
    exact Bas.alloc_below w _
set_option maxRecDepth 100000 in
set_option maxHeartbeats 1600000 in
theorem implNew (c : Int) (w : World) : Calls Try.prog 14 #[.int .i64 c] w fun e w' => e = .returned (.tuple #[(newOf c).agg, .bool (Ops.inn 0 7 c)]) ∧ Below w.heap.size w w' := by
  have X0 := Bas.Blk.new w #[.int .i64 0, .int .i64 0, .int .i64 0, .int .i64 0] 28
  have a0 := Bas.alloc_below w (.cells #[.int .i64 0, .int .i64 0, .int .i64 0, .int .i64 0] 28)
  obtain ⟨W, hW⟩ : ∃ W, w.alloc (.cells #[.int .i64 0, .int .i64 0, .int .i64 0, .int .i64 0] 28) = W := ⟨_, rfl⟩
  have c0 := isCellC c W
  obtain ⟨q, h⟩ : ∃ q, Ops.inn 0 7 c = q := ⟨_, rfl⟩
  rw [h] at c0 ⊢
  rw [← hW] at c0
  clear hW X0 a0
  cases q
  · rw [newOf_no h]
    clear h
    go_enter Try.func14, Try.ntmps14
    go_wp2_with (go_at_call 59; refine c0.mono ?_; rintro e w1 ⟨rfl, rfl⟩)
    refine bodyPost_ret (v := .tuple #[(zero : P4).agg, .bool false]) (by simp [results, Try.results14, go_sem, zero]) rfl ⟨rfl, ?_⟩
    exact Bas.alloc_below w _
  · rw [newOf_yes h]
    clear h
    go_enter Try.func14, Try.ntmps14
    go_wp2_with (go_at_call 59; refine c0.mono ?_; rintro e w1 ⟨rfl, rfl⟩)
    refine bodyPost_ret (v := .tuple #[(⟨c, 0, 0, 0⟩ : P4).agg, .bool true]) (by simp [results, Try.results14, go_sem]) rfl ⟨rfl, ?_⟩
    exact Bas.alloc_below w _
end Probes
end Go.Proofs.Ytpjcbdanahiapaa
