/- What l9Any draws, told loosely: some probe. -/
import Derived.Test.YtpjcbdanahiapaaDrawE
import Derived.Test.YtpjcbdanahiapaaProbeL
set_option linter.unusedVariables false
set_option linter.unusedSimpArgs false
namespace Go.Proofs.Ytpjcbdanahiapaa
open Go.RowKit
namespace Probes
open Bas Draw

/-- a probe on its way in its block -/
structure ASt (B g : Nat) (v : Value) (l : List UInt8) (w W : World) (N : Nat) (p : P4) : Prop where
  D : Dr B g v l W
  G : w.grownBy W (some g)
  R : Blk W w.heap.size #[.int .i64 0, .int .i64 0, .int .i64 0, .int .i64 0] 28
  P : Blk W N #[.int .i64 p.cell, .int .i64 p.phase, .int .i64 p.ver, .int .i64 p.val] 28
  lt : g < w.heap.size
  hN : w.heap.size < N
section
variable {B g N : Nat} {v : Value} {l : List UInt8} {w W W' : World} {p : P4}
theorem ASt.draw (h : ASt B g v l w W N p) (D : Dr B g v l W') (G : W.grownBy W' (some g)) : ASt B g v l w W' N p :=
  have a := h.lt
  have b := h.hN
  { D := D, G := grown_trans h.G G, R := h.R.grown G (fun e => by injection e with e; omega), P := h.P.grown G (fun e => by injection e with e; omega), lt := a, hN := b }
theorem ASt.set (h : ASt B g v l w W N p) (i : Nat) (u : Int) {q : P4} (hq : (#[.int .i64 p.cell, .int .i64 p.phase, .int .i64 p.ver, .int .i64 p.val] : Array Value).setIfInBounds i (.int .i64 u) = #[.int .i64 q.cell, .int .i64 q.phase, .int .i64 q.ver, .int .i64 q.val]) : ASt B g v l w (W.setCell ⟨N, i, none⟩ (.int .i64 u)) N q :=
  have a := h.lt
  have b := h.hN
  { D := h.D.set (by omega) i _, G := grown_store h.G (by omega) i _, R := h.R.other (by omega) i _, P := by have := h.P.set i (.int .i64 u); rw [hq] at this; exact this, lt := a, hN := b }
end

set_option maxRecDepth 100000 in
set_option maxHeartbeats 12800000 in
theorem anyPE {B g : Nat} {v : Value} {l : List UInt8} {w : World} (h : Dr B g v l w) :
    Calls Try.prog 49 #[.pointer (some ⟨g, 0, none⟩)] w fun e w' => ∃ p : P4, e = .returned p.agg ∧ Dr B g v l w' ∧ w.grownBy w' (some g) := by
  have hlt := h.lt
  have D0 := h.alloc (.cells #[.int .i64 0, .int .i64 0, .int .i64 0, .int .i64 0] 28)
  have R0 := Blk.new w #[.int .i64 0, .int .i64 0, .int .i64 0, .int .i64 0] 28
  have G0 := World.grownBy_alloc w (.cells #[.int .i64 0, .int .i64 0, .int .i64 0, .int .i64 0] 28) (some g)
  clear h
  go_enter Try.func49, Try.ntmps49
  go_wp2_with fail
  refine (belowE D0 8 (by omega)).mono ?_
  rintro e w1 ⟨r1, rfl, -, -, D1, G1⟩
  have R1 := R0.grown G1 (fun e => by injection e with e; omega)
  have G1 := grown_trans G0 G1
  clear D0 R0 G0
  go_wp2_with fail
  refine (belowE D1 5 (by omega)).mono ?_
  rintro e w2 ⟨r2, rfl, -, -, D2, G2⟩
  have R2 := R1.grown G2 (fun e => by injection e with e; omega)
  have G2 := grown_trans G1 G2
  clear D1 R1 G1
  have A3 : ASt B g v l w (w2.alloc (.cells #[.int .i64 r1, .int .i64 r2, .int .i64 0, .int .i64 0] 28)) w2.heap.size ⟨r1, r2, 0, 0⟩ :=
    { D := D2.alloc _, G := grown_new G2 _, R := R2.on (alloc_below w2 _) R2.lt, P := Blk.new w2 _ _, lt := hlt, hN := R2.lt }
  have n0 := A3.hN
  have n1 : ¬ w.heap.size = w2.heap.size := by omega
  have n2 : ¬ w2.heap.size = w.heap.size := by omega
  clear D2 R2 G2
  by_cases h0 : 0 < r2
  · go_wp2_with fail
    obtain ⟨W3, hW3⟩ : ∃ W, w2.alloc (.cells #[.int .i64 r1, .int .i64 r2, .int .i64 0, .int .i64 0] 28) = W := ⟨_, rfl⟩
    rw [hW3] at A3 ⊢
    clear hW3
    refine (belowE A3.D 12 (by omega)).mono ?_
    rintro e w4 ⟨y, rfl, -, -, D4, G4⟩
    have A4 := A3.draw D4 G4
    clear D4 G4
    have pp := fun i => A4.P.cell i; have pf := fun i => A4.P.froz i; have rr := fun i => A4.R.cell i; have rf := fun i => A4.R.froz i
    have A5 := A4.set 2 y (q := ⟨r1, r2, y, 0⟩) rfl
    by_cases h1 : 1 < r2
    · go_wp2_with fail
      refine (drawE A5.D).mono ?_
      rintro e w6 ⟨x, rfl, -, -, D6, G6⟩
      have A6 := A5.draw D6 G6
      clear D6 G6
      try clear pp pf rr rf
      have pp := fun i => A6.P.cell i; have pf := fun i => A6.P.froz i; have rr := fun i => A6.R.cell i; have rf := fun i => A6.R.froz i
      have A7 := A6.set 3 x (q := ⟨r1, r2, y, x⟩) rfl
      go_wp2_with fail
      refine (belowE A7.D 24 (by omega)).mono ?_
      rintro e w9 ⟨k, rfl, -, -, D9, G9⟩
      have A9 := A7.draw D9 G9
      clear D9 G9 A7
      try clear pp pf rr rf
      have pp := fun i => A9.P.cell i; have pf := fun i => A9.P.froz i; have rr := fun i => A9.R.cell i; have rf := fun i => A9.R.froz i
      rcases (show k = 0 ∨ k = 1 ∨ k = 2 ∨ k = 3 ∨ (k ≠ 0 ∧ k ≠ 1 ∧ k ≠ 2 ∧ k ≠ 3) by omega) with rfl | rfl | rfl | rfl | ⟨k0, k1, k2, k3⟩
      · have A10 := A9.set 0 (8) (q := ⟨8, r2, y, x⟩) rfl
        go_wp2
        refine bodyPost_ret (v := P4.agg ⟨8, r2, y, x⟩) (by simp [results, Try.results49, go_sem, rr]) rfl ⟨_, rfl, ?_, ?_⟩
        · exact (((A10.D.set hlt 0 _).set hlt 1 _).set hlt 2 _).set hlt 3 _
        · exact grown_store (grown_store (grown_store (grown_store A10.G (Nat.le_refl _) 0 _) (Nat.le_refl _) 1 _) (Nat.le_refl _) 2 _) (Nat.le_refl _) 3 _
      · have A10 := A9.set 1 (5) (q := ⟨r1, 5, y, x⟩) rfl
        go_wp2
        refine bodyPost_ret (v := P4.agg ⟨r1, 5, y, x⟩) (by simp [results, Try.results49, go_sem, rr]) rfl ⟨_, rfl, ?_, ?_⟩
        · exact (((A10.D.set hlt 0 _).set hlt 1 _).set hlt 2 _).set hlt 3 _
        · exact grown_store (grown_store (grown_store (grown_store A10.G (Nat.le_refl _) 0 _) (Nat.le_refl _) 1 _) (Nat.le_refl _) 2 _) (Nat.le_refl _) 3 _
      · have A10 := A9.set 2 (-1) (q := ⟨r1, r2, -1, x⟩) rfl
        go_wp2
        refine bodyPost_ret (v := P4.agg ⟨r1, r2, -1, x⟩) (by simp [results, Try.results49, go_sem, rr]) rfl ⟨_, rfl, ?_, ?_⟩
        · exact (((A10.D.set hlt 0 _).set hlt 1 _).set hlt 2 _).set hlt 3 _
        · exact grown_store (grown_store (grown_store (grown_store A10.G (Nat.le_refl _) 0 _) (Nat.le_refl _) 1 _) (Nat.le_refl _) 2 _) (Nat.le_refl _) 3 _
      · have A10 := A9.set 3 (65536) (q := ⟨r1, r2, y, 65536⟩) rfl
        go_wp2
        refine bodyPost_ret (v := P4.agg ⟨r1, r2, y, 65536⟩) (by simp [results, Try.results49, go_sem, rr]) rfl ⟨_, rfl, ?_, ?_⟩
        · exact (((A10.D.set hlt 0 _).set hlt 1 _).set hlt 2 _).set hlt 3 _
        · exact grown_store (grown_store (grown_store (grown_store A10.G (Nat.le_refl _) 0 _) (Nat.le_refl _) 1 _) (Nat.le_refl _) 2 _) (Nat.le_refl _) 3 _
      · have d0 : (k == 0) = false := by simpa using k0
        have d1 : (k == 1) = false := by simpa using k1
        have d2 : (k == 2) = false := by simpa using k2
        have d3 : (k == 3) = false := by simpa using k3
        clear k0 k1 k2 k3
        go_wp2
        refine bodyPost_ret (v := P4.agg ⟨r1, r2, y, x⟩) (by simp [results, Try.results49, go_sem, rr]) rfl ⟨_, rfl, ?_, ?_⟩
        · exact (((A9.D.set hlt 0 _).set hlt 1 _).set hlt 2 _).set hlt 3 _
        · exact grown_store (grown_store (grown_store (grown_store A9.G (Nat.le_refl _) 0 _) (Nat.le_refl _) 1 _) (Nat.le_refl _) 2 _) (Nat.le_refl _) 3 _
    ·
      go_wp2_with fail
      refine (belowE A5.D 24 (by omega)).mono ?_
      rintro e w9 ⟨k, rfl, -, -, D9, G9⟩
      have A9 := A5.draw D9 G9
      clear D9 G9 A5
      try clear pp pf rr rf
      have pp := fun i => A9.P.cell i; have pf := fun i => A9.P.froz i; have rr := fun i => A9.R.cell i; have rf := fun i => A9.R.froz i
      rcases (show k = 0 ∨ k = 1 ∨ k = 2 ∨ k = 3 ∨ (k ≠ 0 ∧ k ≠ 1 ∧ k ≠ 2 ∧ k ≠ 3) by omega) with rfl | rfl | rfl | rfl | ⟨k0, k1, k2, k3⟩
      · have A10 := A9.set 0 (8) (q := ⟨8, r2, y, 0⟩) rfl
        go_wp2
        refine bodyPost_ret (v := P4.agg ⟨8, r2, y, 0⟩) (by simp [results, Try.results49, go_sem, rr]) rfl ⟨_, rfl, ?_, ?_⟩
        · exact (((A10.D.set hlt 0 _).set hlt 1 _).set hlt 2 _).set hlt 3 _
        · exact grown_store (grown_store (grown_store (grown_store A10.G (Nat.le_refl _) 0 _) (Nat.le_refl _) 1 _) (Nat.le_refl _) 2 _) (Nat.le_refl _) 3 _
      · have A10 := A9.set 1 (5) (q := ⟨r1, 5, y, 0⟩) rfl
        go_wp2
        refine bodyPost_ret (v := P4.agg ⟨r1, 5, y, 0⟩) (by simp [results, Try.results49, go_sem, rr]) rfl ⟨_, rfl, ?_, ?_⟩
        · exact (((A10.D.set hlt 0 _).set hlt 1 _).set hlt 2 _).set hlt 3 _
        · exact grown_store (grown_store (grown_store (grown_store A10.G (Nat.le_refl _) 0 _) (Nat.le_refl _) 1 _) (Nat.le_refl _) 2 _) (Nat.le_refl _) 3 _
      · have A10 := A9.set 2 (-1) (q := ⟨r1, r2, -1, 0⟩) rfl
        go_wp2
        refine bodyPost_ret (v := P4.agg ⟨r1, r2, -1, 0⟩) (by simp [results, Try.results49, go_sem, rr]) rfl ⟨_, rfl, ?_, ?_⟩
        · exact (((A10.D.set hlt 0 _).set hlt 1 _).set hlt 2 _).set hlt 3 _
        · exact grown_store (grown_store (grown_store (grown_store A10.G (Nat.le_refl _) 0 _) (Nat.le_refl _) 1 _) (Nat.le_refl _) 2 _) (Nat.le_refl _) 3 _
      · have A10 := A9.set 3 (65536) (q := ⟨r1, r2, y, 65536⟩) rfl
        go_wp2
        refine bodyPost_ret (v := P4.agg ⟨r1, r2, y, 65536⟩) (by simp [results, Try.results49, go_sem, rr]) rfl ⟨_, rfl, ?_, ?_⟩
        · exact (((A10.D.set hlt 0 _).set hlt 1 _).set hlt 2 _).set hlt 3 _
        · exact grown_store (grown_store (grown_store (grown_store A10.G (Nat.le_refl _) 0 _) (Nat.le_refl _) 1 _) (Nat.le_refl _) 2 _) (Nat.le_refl _) 3 _
      · have d0 : (k == 0) = false := by simpa using k0
        have d1 : (k == 1) = false := by simpa using k1
        have d2 : (k == 2) = false := by simpa using k2
        have d3 : (k == 3) = false := by simpa using k3
        clear k0 k1 k2 k3
        go_wp2
        refine bodyPost_ret (v := P4.agg ⟨r1, r2, y, 0⟩) (by simp [results, Try.results49, go_sem, rr]) rfl ⟨_, rfl, ?_, ?_⟩
        · exact (((A9.D.set hlt 0 _).set hlt 1 _).set hlt 2 _).set hlt 3 _
        · exact grown_store (grown_store (grown_store (grown_store A9.G (Nat.le_refl _) 0 _) (Nat.le_refl _) 1 _) (Nat.le_refl _) 2 _) (Nat.le_refl _) 3 _
  · have h1 : ¬ 1 < r2 := by omega
    go_wp2_with fail
    obtain ⟨W3, hW3⟩ : ∃ W, w2.alloc (.cells #[.int .i64 r1, .int .i64 r2, .int .i64 0, .int .i64 0] 28) = W := ⟨_, rfl⟩
    rw [hW3] at A3 ⊢
    clear hW3
    refine (belowE A3.D 24 (by omega)).mono ?_
    rintro e w9 ⟨k, rfl, -, -, D9, G9⟩
    have A9 := A3.draw D9 G9
    clear D9 G9 A3
    try clear pp pf rr rf
    have pp := fun i => A9.P.cell i; have pf := fun i => A9.P.froz i; have rr := fun i => A9.R.cell i; have rf := fun i => A9.R.froz i
    rcases (show k = 0 ∨ k = 1 ∨ k = 2 ∨ k = 3 ∨ (k ≠ 0 ∧ k ≠ 1 ∧ k ≠ 2 ∧ k ≠ 3) by omega) with rfl | rfl | rfl | rfl | ⟨k0, k1, k2, k3⟩
    · have A10 := A9.set 0 (8) (q := ⟨8, r2, 0, 0⟩) rfl
      go_wp2
      refine bodyPost_ret (v := P4.agg ⟨8, r2, 0, 0⟩) (by simp [results, Try.results49, go_sem, rr]) rfl ⟨_, rfl, ?_, ?_⟩
      · exact (((A10.D.set hlt 0 _).set hlt 1 _).set hlt 2 _).set hlt 3 _
      · exact grown_store (grown_store (grown_store (grown_store A10.G (Nat.le_refl _) 0 _) (Nat.le_refl _) 1 _) (Nat.le_refl _) 2 _) (Nat.le_refl _) 3 _
    · have A10 := A9.set 1 (5) (q := ⟨r1, 5, 0, 0⟩) rfl
      go_wp2
      refine bodyPost_ret (v := P4.agg ⟨r1, 5, 0, 0⟩) (by simp [results, Try.results49, go_sem, rr]) rfl ⟨_, rfl, ?_, ?_⟩
      · exact (((A10.D.set hlt 0 _).set hlt 1 _).set hlt 2 _).set hlt 3 _
      · exact grown_store (grown_store (grown_store (grown_store A10.G (Nat.le_refl _) 0 _) (Nat.le_refl _) 1 _) (Nat.le_refl _) 2 _) (Nat.le_refl _) 3 _
    · have A10 := A9.set 2 (-1) (q := ⟨r1, r2, -1, 0⟩) rfl
      go_wp2
      refine bodyPost_ret (v := P4.agg ⟨r1, r2, -1, 0⟩) (by simp [results, Try.results49, go_sem, rr]) rfl ⟨_, rfl, ?_, ?_⟩
      · exact (((A10.D.set hlt 0 _).set hlt 1 _).set hlt 2 _).set hlt 3 _
      · exact grown_store (grown_store (grown_store (grown_store A10.G (Nat.le_refl _) 0 _) (Nat.le_refl _) 1 _) (Nat.le_refl _) 2 _) (Nat.le_refl _) 3 _
    · have A10 := A9.set 3 (65536) (q := ⟨r1, r2, 0, 65536⟩) rfl
      go_wp2
      refine bodyPost_ret (v := P4.agg ⟨r1, r2, 0, 65536⟩) (by simp [results, Try.results49, go_sem, rr]) rfl ⟨_, rfl, ?_, ?_⟩
      · exact (((A10.D.set hlt 0 _).set hlt 1 _).set hlt 2 _).set hlt 3 _
      · exact grown_store (grown_store (grown_store (grown_store A10.G (Nat.le_refl _) 0 _) (Nat.le_refl _) 1 _) (Nat.le_refl _) 2 _) (Nat.le_refl _) 3 _
    · have d0 : (k == 0) = false := by simpa using k0
      have d1 : (k == 1) = false := by simpa using k1
      have d2 : (k == 2) = false := by simpa using k2
      have d3 : (k == 3) = false := by simpa using k3
      clear k0 k1 k2 k3
      go_wp2
      refine bodyPost_ret (v := P4.agg ⟨r1, r2, 0, 0⟩) (by simp [results, Try.results49, go_sem, rr]) rfl ⟨_, rfl, ?_, ?_⟩
      · exact (((A9.D.set hlt 0 _).set hlt 1 _).set hlt 2 _).set hlt 3 _
      · exact grown_store (grown_store (grown_store (grown_store A9.G (Nat.le_refl _) 0 _) (Nat.le_refl _) 1 _) (Nat.le_refl _) 2 _) (Nat.le_refl _) 3 _
end Probes
end Go.Proofs.Ytpjcbdanahiapaa
