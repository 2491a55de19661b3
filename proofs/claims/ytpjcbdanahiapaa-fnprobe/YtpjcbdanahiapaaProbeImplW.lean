/- ProbeStep as written: its steps, method values in a table. -/
import Derived.Test.YtpjcbdanahiapaaProbeStepW
set_option linter.unusedVariables false
set_option linter.unusedSimpArgs false
namespace Go.Proofs.Ytpjcbdanahiapaa
open Go.RowKit
namespace Probes
open Bas

/-- what the steps of the table answer -/
def lockTo (x : Words.W3) (rv : Int) (p : P4) : P4 := if x.own = 0 ∧ x.ver ≤ rv then ⟨p.cell, 1, x.ver, p.val⟩ else ⟨p.cell, 4, p.ver, p.val⟩
def valTo (x : Words.W3) (rv : Int) (p : P4) : P4 := ⟨p.cell, 2, p.ver, x.val⟩
def againTo (x : Words.W3) (rv : Int) (p : P4) : P4 := if x.own = 0 ∧ x.ver = p.ver then ⟨p.cell, 3, p.ver, p.val⟩ else ⟨p.cell, 4, p.ver, p.val⟩

/-- the blocks of a step: the probe, the word, the answer -/
structure SSt (w W : World) (x : Words.W3) (p r : P4) : Prop where
  p : Blk W w.heap.size #[.int .i64 p.cell, .int .i64 p.phase, .int .i64 p.ver, .int .i64 p.val] 28
  x : Blk W (w.heap.size + 1) #[.int .i64 x.val, .int .i64 x.ver, .int .i64 x.own] 37
  r : Blk W (w.heap.size + 1 + 1) #[.int .i64 r.cell, .int .i64 r.phase, .int .i64 r.ver, .int .i64 r.val] 28
  b : Below w.heap.size w W
theorem SSt.new (w : World) (x : Words.W3) (p : P4) :
    SSt w (((w.alloc (.cells #[.int .i64 p.cell, .int .i64 p.phase, .int .i64 p.ver, .int .i64 p.val] 28)).alloc (.cells #[.int .i64 x.val, .int .i64 x.ver, .int .i64 x.own] 37)).alloc (.cells #[.int .i64 0, .int .i64 0, .int .i64 0, .int .i64 0] 28)) x p zero := by
  have a1 := alloc_below w (.cells #[.int .i64 p.cell, .int .i64 p.phase, .int .i64 p.ver, .int .i64 p.val] 28)
  have M1 := Blk.new w #[.int .i64 p.cell, .int .i64 p.phase, .int .i64 p.ver, .int .i64 p.val] 28
  have z1 : (w.alloc (.cells #[.int .i64 p.cell, .int .i64 p.phase, .int .i64 p.ver, .int .i64 p.val] 28)).heap.size = w.heap.size + 1 := by simp
  obtain ⟨w1, hw1⟩ : ∃ W, w.alloc (.cells #[.int .i64 p.cell, .int .i64 p.phase, .int .i64 p.ver, .int .i64 p.val] 28) = W := ⟨_, rfl⟩
  rw [hw1] at a1 M1 z1 ⊢
  have a2 := alloc_below w1 (.cells #[.int .i64 x.val, .int .i64 x.ver, .int .i64 x.own] 37)
  have P2 := Blk.new w1 #[.int .i64 x.val, .int .i64 x.ver, .int .i64 x.own] 37
  have z2 : (w1.alloc (.cells #[.int .i64 x.val, .int .i64 x.ver, .int .i64 x.own] 37)).heap.size = w.heap.size + 1 + 1 := by simp [z1]
  obtain ⟨w2, hw2⟩ : ∃ W, w1.alloc (.cells #[.int .i64 x.val, .int .i64 x.ver, .int .i64 x.own] 37) = W := ⟨_, rfl⟩
  rw [hw2] at a2 P2 z2 ⊢
  have a3 := alloc_below w2 (.cells #[.int .i64 0, .int .i64 0, .int .i64 0, .int .i64 0] 28)
  have R3 := Blk.new w2 #[.int .i64 0, .int .i64 0, .int .i64 0, .int .i64 0] 28
  rw [z1] at P2
  rw [z2] at R3
  have b2 := a1.trans (a2.mono (by omega))
  have b3 := b2.trans (a3.mono (by omega))
  exact { p := (M1.on a2 M1.lt).on a3 (by omega), x := P2.on a3 P2.lt, r := R3, b := b3 }

set_option maxRecDepth 100000 in
set_option maxHeartbeats 3200000 in
theorem stayC (x : Words.W3) (rv : Int) (p : P4) (w : World) : Calls Try.prog 58 #[p.agg, x.agg, .int .i64 rv] w fun e w' => e = .returned (p).agg ∧ Below w.heap.size w w' := by
  have S := SSt.new w x p
  obtain ⟨W3, hW3⟩ : ∃ W, ((w.alloc (.cells #[.int .i64 p.cell, .int .i64 p.phase, .int .i64 p.ver, .int .i64 p.val] 28)).alloc (.cells #[.int .i64 x.val, .int .i64 x.ver, .int .i64 x.own] 37)).alloc (.cells #[.int .i64 0, .int .i64 0, .int .i64 0, .int .i64 0] 28) = W := ⟨_, rfl⟩
  rw [hW3] at S
  have p3 := fun i => S.p.cell i; have pf3 := fun i => S.p.froz i; have x3 := fun i => S.x.cell i; have r9 := fun i => S.r.cell i; have rf9 := fun i => S.r.froz i
  obtain ⟨xv, xr, xo⟩ := x
  obtain ⟨pc, pp, pv, px⟩ := p
  simp only at hW3 p3 x3
  go_enter Try.func58, Try.ntmps58
  go_wp2
  refine bodyPost_ret (v := P4.agg ⟨pc, pp, pv, px⟩) (by simp [results, Try.results58, go_sem, r9]) rfl ⟨rfl, ?_⟩
  iterate 4 refine Below.setCell ?_ (by first | exact Nat.le_refl _ | (show w.heap.size ≤ w.heap.size + 1 + 1; omega)) _
  first | exact S.b | exact S.b.drew
set_option maxRecDepth 100000 in
set_option maxHeartbeats 3200000 in
theorem valC (x : Words.W3) (rv : Int) (p : P4) (w : World) : Calls Try.prog 56 #[p.agg, x.agg, .int .i64 rv] w fun e w' => e = .returned (valTo x rv p).agg ∧ Below w.heap.size w w' := by
  have S := SSt.new w x p
  obtain ⟨W3, hW3⟩ : ∃ W, ((w.alloc (.cells #[.int .i64 p.cell, .int .i64 p.phase, .int .i64 p.ver, .int .i64 p.val] 28)).alloc (.cells #[.int .i64 x.val, .int .i64 x.ver, .int .i64 x.own] 37)).alloc (.cells #[.int .i64 0, .int .i64 0, .int .i64 0, .int .i64 0] 28) = W := ⟨_, rfl⟩
  rw [hW3] at S
  have p3 := fun i => S.p.cell i; have pf3 := fun i => S.p.froz i; have x3 := fun i => S.x.cell i; have r9 := fun i => S.r.cell i; have rf9 := fun i => S.r.froz i
  obtain ⟨xv, xr, xo⟩ := x
  obtain ⟨pc, pp, pv, px⟩ := p
  simp only at hW3 p3 x3
  go_enter Try.func56, Try.ntmps56
  go_wp2_with fail
  go_region
  all_goals
    go_wp2
    refine bodyPost_ret (v := P4.agg ⟨pc, 2, pv, xv⟩) (by simp [results, Try.results56, go_sem, r9]) rfl ⟨rfl, ?_⟩
    refine Below.drew ?_
    iterate 4 refine Below.setCell ?_ (by show w.heap.size ≤ w.heap.size + 1 + 1; omega) _
    iterate 2 refine Below.setCell ?_ (by show w.heap.size ≤ w.heap.size; exact Nat.le_refl _) _
    exact S.b
set_option maxRecDepth 100000 in
set_option maxHeartbeats 3200000 in
theorem lockC (x : Words.W3) (rv : Int) (p : P4) (w : World) : Calls Try.prog 55 #[p.agg, x.agg, .int .i64 rv] w fun e w' => e = .returned (lockTo x rv p).agg ∧ Below w.heap.size w w' := by
  have S := SSt.new w x p
  obtain ⟨W3, hW3⟩ : ∃ W, ((w.alloc (.cells #[.int .i64 p.cell, .int .i64 p.phase, .int .i64 p.ver, .int .i64 p.val] 28)).alloc (.cells #[.int .i64 x.val, .int .i64 x.ver, .int .i64 x.own] 37)).alloc (.cells #[.int .i64 0, .int .i64 0, .int .i64 0, .int .i64 0] 28) = W := ⟨_, rfl⟩
  rw [hW3] at S
  have p3 := fun i => S.p.cell i; have pf3 := fun i => S.p.froz i; have x3 := fun i => S.x.cell i; have r9 := fun i => S.r.cell i; have rf9 := fun i => S.r.froz i
  obtain ⟨xv, xr, xo⟩ := x
  obtain ⟨pc, pp, pv, px⟩ := p
  simp only at hW3 p3 x3
  by_cases hc : xo = 0 ∧ xr ≤ rv
  · have d0 : (xo != 0) = false := by simp [hc.1]
    have d1 : decide (rv < xr) = false := decide_eq_false (by omega)
    have HC := (show Hid _ from hc)
    clear hc
    go_enter Try.func55, Try.ntmps55
    go_wp2_with fail
    go_region
    all_goals
      go_wp2
      refine bodyPost_ret (v := P4.agg ⟨pc, 1, xr, px⟩) (by simp [results, Try.results55, go_sem, r9]) rfl ⟨by unfold lockTo; rw [if_pos HC.out], ?_⟩
      refine Below.drew ?_
      iterate 4 refine Below.setCell ?_ (by show w.heap.size ≤ w.heap.size + 1 + 1; omega) _
      iterate 2 refine Below.setCell ?_ (by show w.heap.size ≤ w.heap.size; exact Nat.le_refl _) _
      exact S.b
  · have HC := (show Hid _ from hc)
    by_cases h0 : xo = 0
    · have d0 : (xo != 0) = false := by simp [h0]
      have d1 : decide (rv < xr) = true := decide_eq_true (by have : ¬ xr ≤ rv := fun h => hc ⟨h0, h⟩; omega)
      clear hc h0
      go_enter Try.func55, Try.ntmps55
      go_wp2
      refine bodyPost_ret (v := P4.agg ⟨pc, 4, pv, px⟩) (by simp [results, Try.results55, go_sem, r9]) rfl ⟨by unfold lockTo; rw [if_neg HC.out], ?_⟩
      iterate 5 refine Below.setCell ?_ (by first | exact Nat.le_refl _ | (show w.heap.size ≤ w.heap.size + 1 + 1; omega)) _
      first | exact S.b | exact S.b.drew
    · have d0 : (xo != 0) = true := by simpa using h0
      clear hc h0
      go_enter Try.func55, Try.ntmps55
      go_wp2
      refine bodyPost_ret (v := P4.agg ⟨pc, 4, pv, px⟩) (by simp [results, Try.results55, go_sem, r9]) rfl ⟨by unfold lockTo; rw [if_neg HC.out], ?_⟩
      iterate 5 refine Below.setCell ?_ (by first | exact Nat.le_refl _ | (show w.heap.size ≤ w.heap.size + 1 + 1; omega)) _
      first | exact S.b | exact S.b.drew
set_option maxRecDepth 100000 in
set_option maxHeartbeats 3200000 in
theorem againC (x : Words.W3) (rv : Int) (p : P4) (w : World) : Calls Try.prog 57 #[p.agg, x.agg, .int .i64 rv] w fun e w' => e = .returned (againTo x rv p).agg ∧ Below w.heap.size w w' := by
  have S := SSt.new w x p
  obtain ⟨W3, hW3⟩ : ∃ W, ((w.alloc (.cells #[.int .i64 p.cell, .int .i64 p.phase, .int .i64 p.ver, .int .i64 p.val] 28)).alloc (.cells #[.int .i64 x.val, .int .i64 x.ver, .int .i64 x.own] 37)).alloc (.cells #[.int .i64 0, .int .i64 0, .int .i64 0, .int .i64 0] 28) = W := ⟨_, rfl⟩
  rw [hW3] at S
  have p3 := fun i => S.p.cell i; have pf3 := fun i => S.p.froz i; have x3 := fun i => S.x.cell i; have r9 := fun i => S.r.cell i; have rf9 := fun i => S.r.froz i
  obtain ⟨xv, xr, xo⟩ := x
  obtain ⟨pc, pp, pv, px⟩ := p
  simp only at hW3 p3 x3
  by_cases hc : xo = 0 ∧ xr = pv
  · have d0 : (xo == 0) = true := by simp [hc.1]
    have d1 : (xr == pv) = true := by simp [hc.2]
    have HC := (show Hid _ from hc)
    clear hc
    go_enter Try.func57, Try.ntmps57
    go_wp2
    refine bodyPost_ret (v := P4.agg ⟨pc, 3, pv, px⟩) (by simp [results, Try.results57, go_sem, r9]) rfl ⟨by unfold againTo; rw [if_pos HC.out], ?_⟩
    iterate 6 refine Below.setCell ?_ (by first | exact Nat.le_refl _ | (show w.heap.size ≤ w.heap.size + 1 + 1; omega)) _
    first | exact S.b | exact S.b.drew
  · have HC := (show Hid _ from hc)
    by_cases h0 : xo = 0
    · have d0 : (xo == 0) = true := by simp [h0]
      have d1 : (xr == pv) = false := by
        have h1 : ¬ xr = pv := fun h => hc ⟨h0, h⟩
        simpa using h1
      clear hc h0
      go_enter Try.func57, Try.ntmps57
      go_wp2
      refine bodyPost_ret (v := P4.agg ⟨pc, 4, pv, px⟩) (by simp [results, Try.results57, go_sem, r9]) rfl ⟨by unfold againTo; rw [if_neg HC.out], ?_⟩
      iterate 5 refine Below.setCell ?_ (by first | exact Nat.le_refl _ | (show w.heap.size ≤ w.heap.size + 1 + 1; omega)) _
      first | exact S.b | exact S.b.drew
    · have d0 : (xo == 0) = false := by simpa using h0
      clear hc h0
      go_enter Try.func57, Try.ntmps57
      go_wp2
      refine bodyPost_ret (v := P4.agg ⟨pc, 4, pv, px⟩) (by simp [results, Try.results57, go_sem, r9]) rfl ⟨by unfold againTo; rw [if_neg HC.out], ?_⟩
      iterate 5 refine Below.setCell ?_ (by first | exact Nat.le_refl _ | (show w.heap.size ≤ w.heap.size + 1 + 1; omega)) _
      first | exact S.b | exact S.b.drew
end Probes
end Go.Proofs.Ytpjcbdanahiapaa
