/- The laws' comparisons and sizes of things; the walks of FnExactThingsOk and FnExactSameThings. -/
import Derived.Test.YtppkohkcffnghaaThLaw
import Derived.Test.YtppkohkcffnghaaThOk
import Derived.Test.YtppkohkcffnghaaProgCmp
import Derived.Deep.RegionHeld3
set_option linter.unusedVariables false
set_option linter.unusedSimpArgs false
namespace Go.Proofs.Ytppkohkcffnghaa
open Go.RowKit
namespace Ops
open Bas

set_option maxRecDepth 100000 in
set_option maxHeartbeats 1600000 in
theorem eqThC (vc vm vc' vm' : Value) (t : Th) (B : Nat) (w : World) (hv : SeeT B w vc vm t) (hv' : SeeT B w vc' vm' t) (hB : B ≤ w.heap.size) :
    Calls Try.prog 23 #[.agg #[vc, vm, .int .i64 t.n], .agg #[vc', vm', .int .i64 t.n]] w fun e w' => e = .returned (.bool true) ∧ Below w.heap.size w w' := by
  obtain ⟨q, hq⟩ : ∃ q, w.heap.size = q := ⟨_, rfl⟩
  have X0 := Blk.new w #[vc, vm, .int .i64 t.n] 37
  have b0 := alloc_below w (.cells #[vc, vm, .int .i64 t.n] 37)
  obtain ⟨w0, hw0⟩ : ∃ w0, w.alloc (.cells #[vc, vm, .int .i64 t.n] 37) = w0 := ⟨_, rfl⟩
  have hz0 : w0.heap.size = q + 1 := by rw [← hw0, ← hq]; simp
  rw [hw0] at X0 b0
  rw [hq] at X0 b0 hB ⊢
  obtain ⟨q1, hq1⟩ : ∃ q, w0.heap.size = q := ⟨_, rfl⟩
  have l01 : q < q1 := by omega
  clear hz0
  have Y1 := Blk.new w0 #[vc', vm', .int .i64 t.n] 37
  have b1 := alloc_below w0 (.cells #[vc', vm', .int .i64 t.n] 37)
  obtain ⟨w1, hw1⟩ : ∃ w1, w0.alloc (.cells #[vc', vm', .int .i64 t.n] 37) = w1 := ⟨_, rfl⟩
  rw [hw1] at Y1 b1
  rw [hq1] at Y1 b1
  have X1 := X0.on b1 (by omega)
  have bb : Below q w w1 := b0.trans (b1.mono (by omega))
  have z1 : q < w1.heap.size := X1.lt
  have x0 := X1.cell 0
  have y0 := Y1.cell 0
  have sv := hv.on bb hB
  have sv' := hv'.on bb hB
  have cA := Ints.eqIntsC vc vc' t.c B w1 sv.c sv'.c (by omega)
  have cM : ∀ w2, Below w1.heap.size w1 w2 → Calls Try.prog 31 #[vm, vm'] w2 fun e w' => e = .returned (.bool true) ∧ Below w2.heap.size w2 w' := fun w2 b2 =>
    Ints.eqIntsC vm vm' t.m B w2 (sv.m.on b2 (by omega)) (sv'.m.on b2 (by omega)) (by have := b2.size; omega)
  have X2 : ∀ w2, Below w1.heap.size w1 w2 → Blk w2 q #[vc, vm, .int .i64 t.n] 37 := fun w2 b2 => X1.on b2 X1.lt
  have Y2 : ∀ w2, Below w1.heap.size w1 w2 → Blk w2 q1 #[vc', vm', .int .i64 t.n] 37 := fun w2 b2 => Y1.on b2 Y1.lt
  obtain ⟨tn, htn⟩ : ∃ x, t.n = x := ⟨_, rfl⟩
  rw [htn] at X2 Y2 hw0 hw1 ⊢
  clear X0 X1 Y1 sv sv' hv hv' b0 b1 htn
  go_enter Try.func23, Try.ntmps23
  go_wp2_with fail
  refine cA.mono ?_
  rintro e w2 ⟨rfl, b2⟩
  have x1 := (X2 _ b2).cell 1
  have y1 := (Y2 _ b2).cell 1
  clear x0 y0 cA
  go_wp2_with fail
  refine (cM _ b2).mono ?_
  rintro e w3 ⟨rfl, b3⟩
  have z2 := b2.size
  have x2 := (X2 _ (b2.trans (b3.mono z2))).cell 2
  have y2 := (Y2 _ (b2.trans (b3.mono z2))).cell 2
  go_wp2
  go_ret
  exact ⟨rfl, (bb.trans (b2.mono (by omega))).trans (b3.mono (by omega))⟩

theorem szIntsC (a : Option Addr) (n cap : Nat) (left : Int) (w : World) (h0 : 0 ≤ left) (h1 : left ≤ 1048576) (hm : n ≤ maxLen) :
    Calls Try.prog 72 #[.slice a n cap, .int .i64 left] w fun e w' => e = .returned (.int .i64 (if (n : Int) ≤ left then left - n else -1)) ∧ w = w' := by
  have hm' : (n : Int) ≤ 9223372036854775807 := by unfold maxLen at hm; omega
  clear hm
  by_cases h : (n : Int) ≤ left
  · rw [if_pos h]
    go_enter Try.func72, Try.ntmps72
    go_wp2
    go_ret
    exact ⟨by go_num, rfl⟩
  · rw [if_neg h]
    have h' : left - (n : Int) < 0 := by omega
    go_enter Try.func72, Try.ntmps72
    go_wp2
    go_ret
    exact ⟨rfl, rfl⟩
theorem sees_room {B : Nat} {w : World} {v : Value} {zs : List Int} (h : Ints.Sees B w v zs) : zs.length ≤ maxLen := by obtain ⟨a, cap, -, h1, h2, -⟩ := h; omega
set_option maxRecDepth 100000 in
set_option maxHeartbeats 1600000 in
theorem szThC (vc vm : Value) (t : Th) (left : Int) (B : Nat) (w : World) (hv : SeeT B w vc vm t) (hB : B ≤ w.heap.size) (h0 : 0 ≤ left) (h1 : left ≤ 1048576) :
    Calls Try.prog 20 #[.agg #[vc, vm, .int .i64 t.n], .int .i64 left] w fun e w' => ∃ r, e = .returned (.int .i64 r) ∧ Left left r (FitT t) ∧ Below w.heap.size w w' := by
  have m1 := sees_room hv.c
  have m2 := sees_room hv.m
  obtain ⟨ac, cc, rfl⟩ := hv.c.form
  obtain ⟨am, cm, rfl⟩ := hv.m.form
  obtain ⟨nc, hnc⟩ : ∃ n, t.c.length = n := ⟨_, rfl⟩
  obtain ⟨nm, hnm⟩ : ∃ n, t.m.length = n := ⟨_, rfl⟩
  have HF : Hid (nc ≤ 1048576 → nm ≤ 1048576 → FitT t) := fun a b => ⟨by omega, by omega⟩
  rw [hnc] at m1 ⊢
  rw [hnm] at m2 ⊢
  obtain ⟨q, hq⟩ : ∃ q, w.heap.size = q := ⟨_, rfl⟩
  obtain ⟨tn, htn⟩ : ∃ x, t.n = x := ⟨_, rfl⟩
  rw [htn]
  have X0 := Blk.new w #[.slice ac nc cc, .slice am nm cm, .int .i64 tn] 53
  have b0 := alloc_below w (.cells #[.slice ac nc cc, .slice am nm cm, .int .i64 tn] 53)
  obtain ⟨w0, hw0⟩ : ∃ w0, w.alloc (.cells #[.slice ac nc cc, .slice am nm cm, .int .i64 tn] 53) = w0 := ⟨_, rfl⟩
  rw [hw0] at X0 b0
  rw [hq] at X0 b0 ⊢
  have x0 := X0.cell 0; have x1 := X0.cell 1
  have c1 := szIntsC ac nc cc left w0 h0 h1 m1
  clear hnc hnm htn hv
  by_cases g1 : (nc : Int) ≤ left
  · rw [if_pos g1] at c1
    have c2 := szIntsC am nm cm (left - nc) w0 (by omega) (by omega) m2
    by_cases g2 : (nm : Int) ≤ left - nc
    · rw [if_pos g2] at c2
      go_enter Try.func20, Try.ntmps20
      go_wp2_with fail
      refine c1.mono ?_
      rintro e w1 ⟨rfl, rfl⟩
      go_wp2_with fail
      refine c2.mono ?_
      rintro e w1 ⟨rfl, rfl⟩
      go_wp2
      go_ret
      exact ⟨_, rfl, .inr ⟨by omega, by omega, HF.out (by omega) (by omega)⟩, b0⟩
    · rw [if_neg g2] at c2
      go_enter Try.func20, Try.ntmps20
      go_wp2_with fail
      refine c1.mono ?_
      rintro e w1 ⟨rfl, rfl⟩
      go_wp2_with fail
      refine c2.mono ?_
      rintro e w1 ⟨rfl, rfl⟩
      go_wp2
      go_ret
      exact ⟨_, rfl, .inl (by decide), b0⟩
  · rw [if_neg g1] at c1
    go_enter Try.func20, Try.ntmps20
    go_wp2_with fail
    refine c1.mono ?_
    rintro e w1 ⟨rfl, rfl⟩
    go_wp2
    go_ret
    exact ⟨_, rfl, .inl (by decide), b0⟩

theorem undrewT {w w' : World} (h : Below w.drew.heap.size w.drew w') : Below w.heap.size w w' := ⟨h.os, h.tape, h.output, h.size, h.block⟩
theorem SeeT.drew {B : Nat} {W : World} {vc vm : Value} {t : Th} (h : SeeT B W vc vm t) : SeeT B W.drew vc vm t := ⟨h.c, h.m⟩
set_option maxRecDepth 100000 in
set_option maxHeartbeats 3200000 in
theorem lawThingsOk (vc vm : Value) (t : Th) (w : World) (hv : SeeT w.heap.size w vc vm t) :
    Calls Try.prog 5 #[.agg #[vc, vm, .int .i64 t.n]] w fun e w' => e = .returned (.bool true) ∧ Below w.heap.size w w' := by
  have b0 := alloc_below w (.cells #[vc, vm, .int .i64 t.n] 53)
  have X0 := Blk.new w #[vc, vm, .int .i64 t.n] 53
  obtain ⟨W0, hW0⟩ : ∃ W0, w.alloc (.cells #[vc, vm, .int .i64 t.n] 53) = W0 := ⟨_, rfl⟩
  rw [hW0] at b0 X0
  have hv0 := hv.on b0 (Nat.le_refl _)
  have hs := X0.lt
  have k0 := X0.cell 0; have k1 := X0.cell 1; have k2 := X0.cell 2
  go_enter Try.func5, Try.ntmps5
  go_wp2_with fail
  clear hW0 k0 k1 k2
  refine (szThC _ _ t 1048576 _ W0 hv0 (by omega) (by omega) (by omega)).mono ?_
  rintro e w1 ⟨q, rfl, hq, b1⟩
  have bb1 := b0.trans (b1.mono b0.size)
  by_cases hq0 : q < 0
  · clear hq
    go_wp2
    go_ret
    exact ⟨rfl, bb1⟩
  have hf : Hid (FitT t) := by
    rcases hq with hq | hq
    · exact absurd hq hq0
    · exact hq.2.2
  clear hq
  have X1 := X0.on b1 hs; have hv1 := hv.on bb1 (Nat.le_refl _)
  have k0 := X1.cell 0; have k1 := X1.cell 1; have k2 := X1.cell 2
  go_wp2_with fail
  clear k0 k1 k2
  refine (toThC _ _ t _ w1 hv1 bb1.size hf.out).mono ?_
  rintro e w2 ⟨c2, d2, rfl, P2, b2⟩
  have bb2 := bb1.trans (b2.mono bb1.size)
  go_wp2_with fail
  refine (specThOk _ _ t w2.heap.size w2 P2.sees (Nat.le_refl _)).mono ?_
  rintro e w3 ⟨rfl, b3⟩
  have bb3 := bb2.trans (b3.mono bb2.size)
  have X3 := X1.on (b2.trans (b3.mono b2.size)) X1.lt; have hv3 := hv.on bb3 (Nat.le_refl _)
  have k0 := X3.cell 0; have k1 := X3.cell 1; have k2 := X3.cell 2
  go_wp2_with fail
  clear k0 k1 k2 P2
  refine (toThC _ _ t _ w3 hv3 bb3.size hf.out).mono ?_
  rintro e w4 ⟨c4, d4, rfl, P4_, b4⟩
  have bb4 := bb3.trans (b4.mono bb3.size)
  have P4 := P4_.sees
  obtain ⟨a4, cap4, rfl⟩ := P4.c.form
  obtain ⟨e4, cape4, rfl⟩ := P4.m.form
  have b5 := alloc_below w4 (.cells #[.slice a4 t.c.length cap4, .slice e4 t.m.length cape4, .int .i64 t.n] 37)
  have X5 := (X3.on b4 X3.lt).on b5 ((X3.on b4 X3.lt).lt)
  have Y5 := Blk.new w4 #[.slice a4 t.c.length cap4, .slice e4 t.m.length cape4, .int .i64 t.n] 37
  have P5 := P4.on b5 (Nat.le_refl _)
  have bb5 := bb4.trans (b5.mono bb4.size)
  obtain ⟨p, hp⟩ : ∃ p, w4.heap.size = p := ⟨_, rfl⟩
  obtain ⟨W5, hW5⟩ : ∃ W5, w4.alloc (.cells #[.slice a4 t.c.length cap4, .slice e4 t.m.length cape4, .int .i64 t.n] 37) = W5 := ⟨_, rfl⟩
  rw [hW5] at X5 Y5 P5 bb5
  rw [hp] at Y5 P5
  have hs5 := Y5.lt
  have k0 := Y5.cell 0; have k1 := Y5.cell 1; have k2 := Y5.cell 2
  clear X3 P4 P4_ b5
  go_wp2_with fail
  clear hW5 hp k0 k1 k2
  refine (implThOk _ _ t W5.heap.size W5 (P5.up (by omega)) (Nat.le_refl _)).mono ?_
  rintro e w6 ⟨rfl, b6⟩
  have bb6 := bb5.trans (b6.mono bb5.size)
  have X6 := X5.on b6 X5.lt; have Y6 := Y5.on b6 hs5; have P6 := P5.on b6 (by omega); have hv6 := hv.on bb6 (Nat.le_refl _)
  have k0 := X6.cell 0; have k1 := X6.cell 1; have k2 := X6.cell 2; have j0 := Y6.cell 0; have j1 := Y6.cell 1; have j2 := Y6.cell 2
  clear X5 Y5 P5
  go_wp2_with fail
  go_region_held3 (fun W => W.cell? ⟨w.heap.size, 0, none⟩ = some vc ∧ W.cell? ⟨w.heap.size, 1, none⟩ = some vm ∧ W.cell? ⟨w.heap.size, 2, none⟩ = some (.int .i64 t.n) ∧ W.cell? ⟨p, 0, none⟩ = some (.slice a4 t.c.length cap4) ∧ W.cell? ⟨p, 1, none⟩ = some (.slice e4 t.m.length cape4) ∧ W.cell? ⟨p, 2, none⟩ = some (.int .i64 t.n)) (go_keep) ((first
    | (go_at_call 21; refine (toThC _ _ t w.heap.size _ ?_ ?_ hf.out).mono ?_; exact hv6.drew; exact bb6.size; rintro e w7 ⟨c7, d7, rfl, P7, b7⟩; have b7 := undrewT b7; have X7 := X6.on b7 X6.lt; have Y7 := Y6.on b7 Y6.lt; have ka7 := X7.cell 0; have kb7 := X7.cell 1; have kc7 := X7.cell 2; have ja7 := Y7.cell 0; have jb7 := Y7.cell 1; have jc7 := Y7.cell 2)
    | (go_at_call 23; refine (eqThC _ _ _ _ t w7.heap.size w7 ?_ ?_ ?_).mono ?_; exact (P6.on b7 (by have := Y6.lt; omega)).up (by have := b7.size; have := Y6.lt; omega); exact P7.sees; exact Nat.le_refl _; rintro e w8 ⟨rfl, b8⟩; have X8 := X7.on b8 X7.lt; have Y8 := Y7.on b8 Y7.lt; have ka8 := X8.cell 0; have kb8 := X8.cell 1; have kc8 := X8.cell 2; have ja8 := Y8.cell 0; have jb8 := Y8.cell 1; have jc8 := Y8.cell 2)))
  go_wp2
  go_ret
  have bb7 := bb6.trans (b7.mono bb6.size)
  exact ⟨rfl, bb7.trans (b8.mono bb7.size)⟩
end Ops
end Go.Proofs.Ytppkohkcffnghaa
