/- The walk of FnExactSameThings. -/
import Derived.Test.YtppkohkcffnghaaThLaw2
set_option linter.unusedVariables false
set_option linter.unusedSimpArgs false
namespace Go.Proofs.Ytppkohkcffnghaa
open Go.RowKit
namespace Ops
open Bas

set_option maxRecDepth 100000 in
set_option maxHeartbeats 6400000 in
theorem lawSameThings (vc vm : Value) (s : Th) (uc um : Value) (t : Th) (w : World) (hv : SeeT w.heap.size w vc vm s) (hu : SeeT w.heap.size w uc um t) :
    Calls Try.prog 6 #[.agg #[vc, vm, .int .i64 s.n], .agg #[uc, um, .int .i64 t.n]] w fun e w' => e = .returned (.bool true) ∧ Below w.heap.size w w' := by
  have b0 := (alloc_below w (.cells #[vc, vm, .int .i64 s.n] 53)).alloc (by simp) (.cells #[uc, um, .int .i64 t.n] 53)
  have X0 : Blk ((w.alloc (.cells #[vc, vm, .int .i64 s.n] 53)).alloc (.cells #[uc, um, .int .i64 t.n] 53)) w.heap.size #[vc, vm, .int .i64 s.n] 53 := (Blk.new w _ _).on (alloc_below _ _) (by simp)
  have Z0 : Blk ((w.alloc (.cells #[vc, vm, .int .i64 s.n] 53)).alloc (.cells #[uc, um, .int .i64 t.n] 53)) (w.heap.size + 1) #[uc, um, .int .i64 t.n] 53 := by
    have := Blk.new (w.alloc (.cells #[vc, vm, .int .i64 s.n] 53)) #[uc, um, .int .i64 t.n] 53
    simpa using this
  obtain ⟨W0, hW0⟩ : ∃ W0, (w.alloc (.cells #[vc, vm, .int .i64 s.n] 53)).alloc (.cells #[uc, um, .int .i64 t.n] 53) = W0 := ⟨_, rfl⟩
  rw [hW0] at b0 X0 Z0
  have hv0 := hv.on b0 (Nat.le_refl _)
  have hs := X0.lt
  have k0 := X0.cell 0; have k1 := X0.cell 1; have k1z := X0.cell 2
  go_enter Try.func6, Try.ntmps6
  go_wp2_with fail
  clear hW0 k0 k1 k1z
  refine (szThC _ _ s 1048576 _ W0 hv0 (by omega) (by omega) (by omega)).mono ?_
  rintro e w1 ⟨q, rfl, hq, b1⟩
  have bb1 := b0.trans (b1.mono b0.size)
  by_cases hq0 : q < 0
  · clear hq
    go_wp2
    go_ret
    exact ⟨rfl, bb1⟩
  have hqq : 0 ≤ q ∧ q ≤ 1048576 := by rcases hq with hq | hq <;> omega
  have hf : Hid (FitT s) := by
    rcases hq with hq | hq
    · exact absurd hq hq0
    · exact hq.2.2
  clear hq
  have X1 := X0.on b1 hs; have Z1 := Z0.on b1 Z0.lt; have hu1 := hu.on bb1 (Nat.le_refl _)
  have k0 := Z1.cell 0; have k1 := Z1.cell 1; have k1z := Z1.cell 2
  go_wp2_with fail
  clear k0 k1 k1z
  refine (szThC _ _ t q _ w1 hu1 bb1.size hqq.1 hqq.2).mono ?_
  rintro e w2 ⟨q', rfl, hq, b2⟩
  have bb2 := bb1.trans (b2.mono bb1.size)
  by_cases hq1 : q' < 0
  · clear hq
    go_wp2
    go_ret
    exact ⟨rfl, bb2⟩
  have hf' : Hid (FitT t) := by
    rcases hq with hq | hq
    · exact absurd hq hq1
    · exact hq.2.2
  clear hq
  have X2 := X1.on b2 X1.lt; have Z2 := Z1.on b2 Z1.lt; have hv2 := hv.on bb2 (Nat.le_refl _)
  have k0 := X2.cell 0; have k1 := X2.cell 1; have k1z := X2.cell 2; have j0 := Z2.cell 0; have j1 := Z2.cell 1; have j1z := Z2.cell 2
  go_wp2_with fail
  go_region_held3 (fun W => W.cell? ⟨w.heap.size, 0, none⟩ = some vc ∧ W.cell? ⟨w.heap.size, 1, none⟩ = some vm ∧ W.cell? ⟨w.heap.size, 2, none⟩ = some (.int .i64 s.n) ∧ W.cell? ⟨w.heap.size + 1, 0, none⟩ = some uc ∧ W.cell? ⟨w.heap.size + 1, 1, none⟩ = some um ∧ W.cell? ⟨w.heap.size + 1, 2, none⟩ = some (.int .i64 t.n)) (go_keep) ((first
    | (go_at_call_of 21 vc; refine (toThC vc vm s w.heap.size _ ?_ ?_ hf.out).mono ?_; exact hv2.drew; exact bb2.size; rintro e w3 ⟨c3, d3, rfl, P3, b3⟩; have b3 := undrewT b3; have X3 := X2.on b3 X2.lt; have Z3 := Z2.on b3 Z2.lt; have ka := X3.cell 0; have kb := X3.cell 1; have kbz := X3.cell 2; have ja := Z3.cell 0; have jb := Z3.cell 1; have jbz := Z3.cell 2)
    | (go_at_call_of 21 uc; refine (toThC uc um t w.heap.size w3 ?_ ?_ hf'.out).mono ?_; exact hu.on (bb2.trans (b3.mono bb2.size)) (Nat.le_refl _); exact (bb2.trans (b3.mono bb2.size)).size; rintro e w4 ⟨c4, d4, rfl, P4, b4⟩; have X4 := X3.on b4 X3.lt; have Z4 := Z3.on b4 Z3.lt; have kc := X4.cell 0; have kd := X4.cell 1; have kdz := X4.cell 2; have jc := Z4.cell 0; have jd := Z4.cell 1; have jdz := Z4.cell 2)
    | (go_at_call 17; refine (specSame _ _ _ _ s t w4.heap.size w4 ?_ ?_ (Nat.le_refl _)).mono ?_; exact (P3.sees.on b4 (Nat.le_refl _)).up b4.size; exact P4.sees; rintro e w5 ⟨rfl, b5⟩; have X5 := X4.on b5 X4.lt; have Z5 := Z4.on b5 Z4.lt; have ke := X5.cell 0; have kf := X5.cell 1; have kfz := X5.cell 2; have je := Z5.cell 0; have jf := Z5.cell 1; have jfz := Z5.cell 2)))
  have bb3 := bb2.trans (b3.mono bb2.size)
  have bb4 := bb3.trans (b4.mono bb3.size)
  have bb5 := bb4.trans (b5.mono bb4.size)
  clear k0 k1 k1z j0 j1 j1z ka kb kbz ja jb jbz kc kd kdz jc jd jdz ke kf kfz je jf jfz X5 Z5
  have X5 := X4.on b5 X4.lt; have Z5 := Z4.on b5 Z4.lt; have hv5 := hv.on bb5 (Nat.le_refl _)
  have k0 := X5.cell 0; have k1 := X5.cell 1; have k1z := X5.cell 2
  go_wp2_with fail
  clear k0 k1 k1z P3 P4
  refine (toThC _ _ s _ w5 hv5 bb5.size hf.out).mono ?_
  rintro e w6 ⟨c6, d6, rfl, P6, b6⟩
  have bb6 := bb5.trans (b6.mono bb5.size)
  have P6 := P6.sees
  obtain ⟨a6, cap6, rfl⟩ := P6.c.form
  obtain ⟨e6, cape6, rfl⟩ := P6.m.form
  have Bn := alloc_below w6 (.cells #[.slice a6 s.c.length cap6, .slice e6 s.m.length cape6, .int .i64 s.n] 37)
  have X7 := (X5.on b6 X5.lt).on Bn ((X5.on b6 X5.lt).lt); have Z7 := (Z5.on b6 Z5.lt).on Bn ((Z5.on b6 Z5.lt).lt)
  have A7 := Blk.new w6 #[.slice a6 s.c.length cap6, .slice e6 s.m.length cape6, .int .i64 s.n] 37
  have P7 := P6.on Bn (Nat.le_refl _)
  have bb7 := bb6.trans (Bn.mono bb6.size)
  have hu7 := hu.on bb7 (Nat.le_refl _)
  obtain ⟨p, hp⟩ : ∃ p, w6.heap.size = p := ⟨_, rfl⟩
  obtain ⟨W7, hW7⟩ : ∃ W7, w6.alloc (.cells #[.slice a6 s.c.length cap6, .slice e6 s.m.length cape6, .int .i64 s.n] 37) = W7 := ⟨_, rfl⟩
  rw [hW7] at X7 Z7 A7 P7 bb7 hu7
  rw [hp] at A7 P7
  have k0 := Z7.cell 0; have k1 := Z7.cell 1; have k1z := Z7.cell 2
  clear X5 Z5 P6 Bn
  go_wp2_with fail
  clear hW7 hp k0 k1 k1z
  refine (toThC _ _ t _ W7 hu7 bb7.size hf'.out).mono ?_
  rintro e w8 ⟨c8, d8, rfl, P8, b8⟩
  have bb8 := bb7.trans (b8.mono bb7.size)
  have P8 := P8.sees
  obtain ⟨a8, cap8, rfl⟩ := P8.c.form
  obtain ⟨e8, cape8, rfl⟩ := P8.m.form
  have Bn := alloc_below w8 (.cells #[.slice a8 t.c.length cap8, .slice e8 t.m.length cape8, .int .i64 t.n] 37)
  have bA := b8.trans (Bn.mono b8.size)
  have X9 := X7.on bA X7.lt; have Z9 := Z7.on bA Z7.lt; have A9 := A7.on bA A7.lt; have P9 := P7.on bA (Nat.le_of_lt A7.lt)
  have C9 := Blk.new w8 #[.slice a8 t.c.length cap8, .slice e8 t.m.length cape8, .int .i64 t.n] 37
  have Q9 := P8.on Bn (Nat.le_refl _)
  have bb9 := bb7.trans (bA.mono bb7.size)
  have hpq : p < w8.heap.size := by have := A7.lt; have := b8.size; omega
  obtain ⟨q, hq⟩ : ∃ q, w8.heap.size = q := ⟨_, rfl⟩
  obtain ⟨W9, hW9⟩ : ∃ W9, w8.alloc (.cells #[.slice a8 t.c.length cap8, .slice e8 t.m.length cape8, .int .i64 t.n] 37) = W9 := ⟨_, rfl⟩
  rw [hW9] at X9 Z9 A9 P9 C9 Q9 bb9
  rw [hq] at C9 Q9 hpq
  have k0 := A9.cell 0; have k1 := A9.cell 1; have k1z := A9.cell 2; have j0 := C9.cell 0; have j1 := C9.cell 1; have j1z := C9.cell 2
  clear X7 Z7 A7 P7 P8 Bn bA
  go_wp2_with fail
  clear hW9 hq k0 k1 k1z j0 j1 j1z
  refine (implSame _ _ _ _ s t W9.heap.size W9 (P9.up (Nat.le_of_lt A9.lt)) (Q9.up (Nat.le_of_lt C9.lt)) (Nat.le_refl _)).mono ?_
  rintro e wa ⟨rfl, ba⟩
  have bba := bb9.trans (ba.mono bb9.size)
  have Xa := X9.on ba X9.lt; have Za := Z9.on ba Z9.lt; have Aa := A9.on ba A9.lt; have Ca := C9.on ba C9.lt; have Pa := P9.on ba (Nat.le_of_lt A9.lt); have Qa := Q9.on ba (Nat.le_of_lt C9.lt); have hva := hv.on bba (Nat.le_refl _)
  have k0 := Xa.cell 0; have k1 := Xa.cell 1; have k1z := Xa.cell 2; have j0 := Aa.cell 0; have j1 := Aa.cell 1; have j1z := Aa.cell 2
  clear X9 Z9 A9 C9 P9 Q9
  go_wp2_with fail
  go_region_held3 (fun W => W.cell? ⟨w.heap.size, 0, none⟩ = some vc ∧ W.cell? ⟨w.heap.size, 1, none⟩ = some vm ∧ W.cell? ⟨w.heap.size, 2, none⟩ = some (.int .i64 s.n) ∧ W.cell? ⟨p, 0, none⟩ = some (.slice a6 s.c.length cap6) ∧ W.cell? ⟨p, 1, none⟩ = some (.slice e6 s.m.length cape6) ∧ W.cell? ⟨p, 2, none⟩ = some (.int .i64 s.n)) (go_keep) ((first
    | (go_at_call_of 21 vc; refine (toThC vc vm s w.heap.size _ ?_ ?_ hf.out).mono ?_; exact hva.drew; exact bba.size; rintro e wb ⟨cb, db, rfl, Pb, bb⟩; have bb := undrewT bb; have Xb := Xa.on bb Xa.lt; have Yb := Aa.on bb Aa.lt; have kab := Xb.cell 0; have kbb := Xb.cell 1; have kbbz := Xb.cell 2; have jab := Yb.cell 0; have jbb := Yb.cell 1; have jbbz := Yb.cell 2)
    | (go_at_call 23; refine (eqThC _ _ _ _ s wb.heap.size wb ?_ ?_ ?_).mono ?_; exact (Pa.on bb (by have := Aa.lt; omega)).up (by have := bb.size; have := Aa.lt; omega); exact Pb.sees; exact Nat.le_refl _; rintro e wc ⟨rfl, bc⟩; have Xc := Xb.on bc Xb.lt; have Yc := Yb.on bc Yb.lt; have kac := Xc.cell 0; have kbc := Xc.cell 1; have kbcz := Xc.cell 2; have jac := Yc.cell 0; have jbc := Yc.cell 1; have jbcz := Yc.cell 2)))
  have bbb := bba.trans (bb.mono bba.size)
  have bbc := bbb.trans (bc.mono bbb.size)
  have bz := bb.trans (bc.mono bb.size)
  have Zc := Za.on bz Za.lt; have Cc := Ca.on bz Ca.lt; have Qc := Qa.on bz (Nat.le_of_lt Ca.lt); have huc := hu.on bbc (Nat.le_refl _)
  clear k0 k1 k1z j0 j1 j1z kab kbb kbbz jab jbb jbbz kac kbc kbcz jac jbc jbcz Xb Yb Xc Yc
  have k0 := Zc.cell 0; have k1 := Zc.cell 1; have k1z := Zc.cell 2; have j0 := Cc.cell 0; have j1 := Cc.cell 1; have j1z := Cc.cell 2
  go_wp2_with fail
  go_region_held3 (fun W => W.cell? ⟨w.heap.size + 1, 0, none⟩ = some uc ∧ W.cell? ⟨w.heap.size + 1, 1, none⟩ = some um ∧ W.cell? ⟨w.heap.size + 1, 2, none⟩ = some (.int .i64 t.n) ∧ W.cell? ⟨q, 0, none⟩ = some (.slice a8 t.c.length cap8) ∧ W.cell? ⟨q, 1, none⟩ = some (.slice e8 t.m.length cape8) ∧ W.cell? ⟨q, 2, none⟩ = some (.int .i64 t.n)) (go_keep) ((first
    | (go_at_call_of 21 uc; refine (toThC uc um t w.heap.size _ ?_ ?_ hf'.out).mono ?_; exact huc.drew; exact bbc.size; rintro e wd ⟨cd, dd, rfl, Pd, bd⟩; have bd := undrewT bd; have Xd := Zc.on bd Zc.lt; have Yd := Cc.on bd Cc.lt; have kad := Xd.cell 0; have kbd := Xd.cell 1; have kbdz := Xd.cell 2; have jad := Yd.cell 0; have jbd := Yd.cell 1; have jbdz := Yd.cell 2)
    | (go_at_call 23; refine (eqThC _ _ _ _ t wd.heap.size wd ?_ ?_ ?_).mono ?_; exact (Qc.on bd (by have := Cc.lt; omega)).up (by have := bd.size; have := Cc.lt; omega); exact Pd.sees; exact Nat.le_refl _; rintro e wf ⟨rfl, bf⟩; have Xf := Xd.on bf Xd.lt; have Yf := Yd.on bf Yd.lt; have kaf := Xf.cell 0; have kbf := Xf.cell 1; have kbfz := Xf.cell 2; have jaf := Yf.cell 0; have jbf := Yf.cell 1; have jbfz := Yf.cell 2)))
  go_wp2
  go_ret
  have bbd := bbc.trans (bd.mono bbc.size)
  exact ⟨rfl, bbd.trans (bf.mono bbd.size)⟩
end Ops
end Go.Proofs.Ytppkohkcffnghaa
