/- The walks of the laws of chapter 5 over programs, given what both functions answer. -/
import Derived.Test.YtkeamnokkbfcaaaProgCmp
import Derived.Deep.RegionHeld3
set_option linter.unusedVariables false
namespace Go.Proofs.Ytkeamnokkbfcaaa
open Go.RowKit
namespace Ops
open Bas Flat

theorem undrewP {w w' : World} (h : Below w.drew.heap.size w.drew w') : Below w.heap.size w w' := ⟨h.os, h.tape, h.output, h.size, h.block⟩
set_option maxRecDepth 100000 in
set_option maxHeartbeats 1600000 in
theorem walkProgOk (vc vk : Value) (xs : List O4) (kss : List (List O4)) (w : World) (hv : SeesP w.heap.size w vc vk xs kss) (r : Bool)
    (cS : ∀ (u u' : Value) (W : World), SeesP W.heap.size W u u' xs kss → Fits xs kss → Calls Try.prog 22 #[.agg #[u, u']] W fun e w' => e = .returned (.bool r) ∧ Below W.heap.size W w')
    (cI : ∀ (u u' : Value) (W : World), SeesP W.heap.size W u u' xs kss → Fits xs kss → Calls Try.prog 24 #[.agg #[u, u']] W fun e w' => e = .returned (.bool r) ∧ Below W.heap.size W w') :
    Calls Try.prog 7 #[.agg #[vc, vk]] w fun e w' => e = .returned (.bool true) ∧ Below w.heap.size w w' := by
  obtain ⟨a, cap, rfl⟩ := hv.c.form
  obtain ⟨ak, capk, rfl⟩ := hv.k.form
  obtain ⟨n, hn⟩ : ∃ n, xs.length = n := ⟨_, rfl⟩
  obtain ⟨m, hm⟩ : ∃ m, kss.length = m := ⟨_, rfl⟩
  rw [hn, hm] at hv ⊢
  have b0 := alloc_below w (.cells #[.slice a n cap, .slice ak m capk] 33)
  have X0 := Blk.new w #[.slice a n cap, .slice ak m capk] 33
  obtain ⟨W0, hW0⟩ : ∃ W0, w.alloc (.cells #[.slice a n cap, .slice ak m capk] 33) = W0 := ⟨_, rfl⟩
  rw [hW0] at b0 X0
  have hv0 := hv.on b0 (Nat.le_refl _)
  have hs := X0.lt
  have HS := (show Hid _ from cS)
  have HI := (show Hid _ from cI)
  clear cS cI
  have k0 := X0.cell 0; have k1 := X0.cell 1
  go_enter Try.func7, Try.ntmps7
  go_wp2_with fail
  clear hW0 k0 k1
  refine (szProgC _ _ xs kss 1048576 _ W0 hv0 (by omega) (by omega) (by omega)).mono ?_
  rintro e w1 ⟨q, rfl, hq, b1⟩
  have bb1 := b0.trans (b1.mono b0.size)
  by_cases hq0 : q < 0
  · clear hq
    go_wp2
    go_ret
    exact ⟨rfl, bb1⟩
  have hf : Hid (Fits xs kss) := by
    rcases hq with hq | hq
    · exact absurd hq hq0
    · exact hq.2.2
  clear hq
  have X1 := X0.on b1 hs; have hv1 := hv.on bb1 (Nat.le_refl _)
  have k0 := X1.cell 0; have k1 := X1.cell 1
  go_wp2_with fail
  clear k0 k1
  refine (toProgC _ _ xs kss _ w1 hv1 bb1.size hf.out).mono ?_
  rintro e w2 ⟨c2, d2, rfl, P2, b2⟩
  have bb2 := bb1.trans (b2.mono bb1.size)
  go_wp2_with fail
  refine (HS.out _ _ w2 (P2.sees (fun b hb => hb.2)) hf.out).mono ?_
  rintro e w3 ⟨rfl, b3⟩
  have bb3 := bb2.trans (b3.mono bb2.size)
  have X3 := X1.on (b2.trans (b3.mono b2.size)) X1.lt; have hv3 := hv.on bb3 (Nat.le_refl _)
  have k0 := X3.cell 0; have k1 := X3.cell 1
  go_wp2_with fail
  clear k0 k1 P2
  refine (toProgC _ _ xs kss _ w3 hv3 bb3.size hf.out).mono ?_
  rintro e w4 ⟨c4, d4, rfl, P4, b4⟩
  have bb4 := bb3.trans (b4.mono bb3.size)
  have P4 := P4.sees (B := w4.heap.size) (fun b hb => hb.2)
  obtain ⟨a4, cap4, rfl⟩ := P4.c.form
  obtain ⟨e4, cape4, rfl⟩ := P4.k.form
  rw [hn, hm] at P4 ⊢
  have b5 := alloc_below w4 (.cells #[.slice a4 n cap4, .slice e4 m cape4] 38)
  have X5 := (X3.on b4 X3.lt).on b5 ((X3.on b4 X3.lt).lt)
  have Y5 := Blk.new w4 #[.slice a4 n cap4, .slice e4 m cape4] 38
  have P5 := P4.on b5 (Nat.le_refl _)
  have bb5 := bb4.trans (b5.mono bb4.size)
  obtain ⟨p, hp⟩ : ∃ p, w4.heap.size = p := ⟨_, rfl⟩
  obtain ⟨W5, hW5⟩ : ∃ W5, w4.alloc (.cells #[.slice a4 n cap4, .slice e4 m cape4] 38) = W5 := ⟨_, rfl⟩
  rw [hW5] at X5 Y5 P5 bb5
  rw [hp] at Y5 P5
  have hs5 := Y5.lt
  have k0 := Y5.cell 0; have k1 := Y5.cell 1
  clear X3 P4 b5
  go_wp2_with fail
  clear hW5 hp k0 k1
  refine (HI.out _ _ W5 (P5.up (by omega)) hf.out).mono ?_
  rintro e w6 ⟨rfl, b6⟩
  have bb6 := bb5.trans (b6.mono bb5.size)
  have X6 := X5.on b6 X5.lt; have Y6 := Y5.on b6 hs5; have P6 := P5.on b6 (by omega); have hv6 := hv.on bb6 (Nat.le_refl _)
  have k0 := X6.cell 0; have k1 := X6.cell 1; have j0 := Y6.cell 0; have j1 := Y6.cell 1
  clear X5 Y5 P5
  go_wp2_with fail
  go_region_held3 (fun W => W.cell? ⟨w.heap.size, 0, none⟩ = some (.slice a n cap) ∧ W.cell? ⟨w.heap.size, 1, none⟩ = some (.slice ak m capk) ∧ W.cell? ⟨p, 0, none⟩ = some (.slice a4 n cap4) ∧ W.cell? ⟨p, 1, none⟩ = some (.slice e4 m cape4)) (go_keep) ((first
    | (go_at_call 23; refine (toProgC _ _ xs kss w.heap.size _ ?_ ?_ hf.out).mono ?_; exact ⟨hv6.c.drew, hv6.k⟩; exact bb6.size; rintro e w7 ⟨c7, d7, rfl, P7, b7⟩; obtain ⟨a7, cap7, rfl⟩ := P7.c.form; obtain ⟨e7, cape7, rfl⟩ := P7.k.form; rw [hn, hm] at P7; rw [hn, hm]; have b7 := undrewP b7; have X7 := X6.on b7 X6.lt; have Y7 := Y6.on b7 Y6.lt; have ka7 := X7.cell 0; have kb7 := X7.cell 1; have ja7 := Y7.cell 0; have jb7 := Y7.cell 1)
    | (go_at_call 25; refine (eqProgC _ _ _ _ xs kss w7.heap.size w7 ?_ ?_ ?_).mono ?_; exact (P6.on b7 (by have := Y6.lt; omega)).up (by have := b7.size; have := Y6.lt; omega); exact P7.sees (fun b hb => hb.2); exact Nat.le_refl _; rintro e w8 ⟨rfl, b8⟩; have X8 := X7.on b8 X7.lt; have Y8 := Y7.on b8 Y7.lt; have ka8 := X8.cell 0; have kb8 := X8.cell 1; have ja8 := Y8.cell 0; have jb8 := Y8.cell 1)))
  go_wp2
  go_ret
  have bb7 := bb6.trans (b7.mono bb6.size)
  exact ⟨rfl, bb7.trans (b8.mono bb7.size)⟩

set_option maxRecDepth 100000 in
set_option maxHeartbeats 4000000 in
theorem walkSameProg (vc vk uc uk : Value) (xs : List O4) (kss : List (List O4)) (ys : List O4) (lss : List (List O4)) (w : World) (hv : SeesP w.heap.size w vc vk xs kss) (hu : SeesP w.heap.size w uc uk ys lss) (r : Bool)
    (cS : ∀ (a a' b b' : Value) (W : World), SeesP W.heap.size W a a' xs kss → SeesP W.heap.size W b b' ys lss → Fits xs kss → Fits ys lss → Calls Try.prog 28 #[.agg #[a, a'], .agg #[b, b']] W fun e w' => e = .returned (.bool r) ∧ Below W.heap.size W w')
    (cI : ∀ (a a' b b' : Value) (W : World), SeesP W.heap.size W a a' xs kss → SeesP W.heap.size W b b' ys lss → Fits xs kss → Fits ys lss → Calls Try.prog 29 #[.agg #[a, a'], .agg #[b, b']] W fun e w' => e = .returned (.bool r) ∧ Below W.heap.size W w') :
    Calls Try.prog 9 #[.agg #[vc, vk], .agg #[uc, uk]] w fun e w' => e = .returned (.bool true) ∧ Below w.heap.size w w' := by
  obtain ⟨a, cap, rfl⟩ := hv.c.form
  obtain ⟨ak, capk, rfl⟩ := hv.k.form
  obtain ⟨u, ucap, rfl⟩ := hu.c.form
  obtain ⟨uk', ucapk, rfl⟩ := hu.k.form
  obtain ⟨n, hn⟩ : ∃ n, xs.length = n := ⟨_, rfl⟩
  obtain ⟨m, hm⟩ : ∃ m, kss.length = m := ⟨_, rfl⟩
  obtain ⟨n', hn'⟩ : ∃ n, ys.length = n := ⟨_, rfl⟩
  obtain ⟨m', hm'⟩ : ∃ m, lss.length = m := ⟨_, rfl⟩
  rw [hn, hm] at hv ⊢
  rw [hn', hm'] at hu ⊢
  have b0 := (alloc_below w (.cells #[.slice a n cap, .slice ak m capk] 33)).alloc (by simp) (.cells #[.slice u n' ucap, .slice uk' m' ucapk] 33)
  have X0 : Blk ((w.alloc (.cells #[.slice a n cap, .slice ak m capk] 33)).alloc (.cells #[.slice u n' ucap, .slice uk' m' ucapk] 33)) w.heap.size #[.slice a n cap, .slice ak m capk] 33 := (Blk.new w _ _).on (alloc_below _ _) (by simp)
  have Z0 : Blk ((w.alloc (.cells #[.slice a n cap, .slice ak m capk] 33)).alloc (.cells #[.slice u n' ucap, .slice uk' m' ucapk] 33)) (w.heap.size + 1) #[.slice u n' ucap, .slice uk' m' ucapk] 33 := by
    have := Blk.new (w.alloc (.cells #[.slice a n cap, .slice ak m capk] 33)) #[.slice u n' ucap, .slice uk' m' ucapk] 33
    simpa using this
  obtain ⟨W0, hW0⟩ : ∃ W0, (w.alloc (.cells #[.slice a n cap, .slice ak m capk] 33)).alloc (.cells #[.slice u n' ucap, .slice uk' m' ucapk] 33) = W0 := ⟨_, rfl⟩
  rw [hW0] at b0 X0 Z0
  have hv0 := hv.on b0 (Nat.le_refl _)
  have hs := X0.lt
  have HS := (show Hid _ from cS)
  have HI := (show Hid _ from cI)
  clear cS cI
  have k0 := X0.cell 0; have k1 := X0.cell 1
  go_enter Try.func9, Try.ntmps9
  go_wp2_with fail
  clear hW0 k0 k1
  refine (szProgC _ _ xs kss 1048576 _ W0 hv0 (by omega) (by omega) (by omega)).mono ?_
  rintro e w1 ⟨q, rfl, hq, b1⟩
  have bb1 := b0.trans (b1.mono b0.size)
  by_cases hq0 : q < 0
  · clear hq
    go_wp2
    go_ret
    exact ⟨rfl, bb1⟩
  have hqq : 0 ≤ q ∧ q ≤ 1048576 := by rcases hq with hq | hq <;> omega
  have hf : Hid (Fits xs kss) := by
    rcases hq with hq | hq
    · exact absurd hq hq0
    · exact hq.2.2
  clear hq
  have X1 := X0.on b1 hs; have Z1 := Z0.on b1 Z0.lt; have hu1 := hu.on bb1 (Nat.le_refl _)
  have k0 := Z1.cell 0; have k1 := Z1.cell 1
  go_wp2_with fail
  clear k0 k1
  refine (szProgC _ _ ys lss q _ w1 hu1 bb1.size hqq.1 hqq.2).mono ?_
  rintro e w2 ⟨q', rfl, hq, b2⟩
  have bb2 := bb1.trans (b2.mono bb1.size)
  by_cases hq1 : q' < 0
  · clear hq
    go_wp2
    go_ret
    exact ⟨rfl, bb2⟩
  have hf' : Hid (Fits ys lss) := by
    rcases hq with hq | hq
    · exact absurd hq hq1
    · exact hq.2.2
  clear hq
  have X2 := X1.on b2 X1.lt; have Z2 := Z1.on b2 Z1.lt; have hv2 := hv.on bb2 (Nat.le_refl _)
  have k0 := X2.cell 0; have k1 := X2.cell 1; have j0 := Z2.cell 0; have j1 := Z2.cell 1
  go_wp2_with fail
  go_region_held3 (fun W => W.cell? ⟨w.heap.size, 0, none⟩ = some (.slice a n cap) ∧ W.cell? ⟨w.heap.size, 1, none⟩ = some (.slice ak m capk) ∧ W.cell? ⟨w.heap.size + 1, 0, none⟩ = some (.slice u n' ucap) ∧ W.cell? ⟨w.heap.size + 1, 1, none⟩ = some (.slice uk' m' ucapk)) (go_keep) ((first
    | (go_at_call 23; refine (toProgC _ _ xs kss w.heap.size _ ?_ ?_ hf.out).mono ?_; exact ⟨hv2.c.drew, hv2.k⟩; exact bb2.size; rintro e w3 ⟨c3, d3, rfl, P3, b3⟩; have b3 := undrewP b3; have X3 := X2.on b3 X2.lt; have Z3 := Z2.on b3 Z2.lt; have ka := X3.cell 0; have kb := X3.cell 1; have ja := Z3.cell 0; have jb := Z3.cell 1)
    | (go_at_call 23; refine (toProgC _ _ ys lss w.heap.size w3 ?_ ?_ hf'.out).mono ?_; exact hu.on (bb2.trans (b3.mono bb2.size)) (Nat.le_refl _); exact (bb2.trans (b3.mono bb2.size)).size; rintro e w4 ⟨c4, d4, rfl, P4, b4⟩; have X4 := X3.on b4 X3.lt; have Z4 := Z3.on b4 Z3.lt; have kc := X4.cell 0; have kd := X4.cell 1; have jc := Z4.cell 0; have jd := Z4.cell 1)
    | (go_at_call 28; refine (HS.out _ _ _ _ w4 ?_ ?_ hf.out hf'.out).mono ?_; exact ((P3.sees (B := w3.heap.size) (fun b hb => hb.2)).on b4 (Nat.le_refl _)).up b4.size; exact P4.sees (fun b hb => hb.2); rintro e w5 ⟨rfl, b5⟩; have X5 := X4.on b5 X4.lt; have Z5 := Z4.on b5 Z4.lt; have ke := X5.cell 0; have kf := X5.cell 1; have je := Z5.cell 0; have jf := Z5.cell 1)))
  have bb3 := bb2.trans (b3.mono bb2.size)
  have bb4 := bb3.trans (b4.mono bb3.size)
  have bb5 := bb4.trans (b5.mono bb4.size)
  clear k0 k1 j0 j1 ka kb ja jb kc kd jc jd ke kf je jf X5 Z5
  have X5 := X4.on b5 X4.lt; have Z5 := Z4.on b5 Z4.lt; have hv5 := hv.on bb5 (Nat.le_refl _)
  have k0 := X5.cell 0; have k1 := X5.cell 1
  go_wp2_with fail
  clear k0 k1 P3 P4
  refine (toProgC _ _ xs kss _ w5 hv5 bb5.size hf.out).mono ?_
  rintro e w6 ⟨c6, d6, rfl, P6, b6⟩
  have bb6 := bb5.trans (b6.mono bb5.size)
  have P6 := P6.sees (B := w6.heap.size) (fun b hb => hb.2)
  obtain ⟨a6, cap6, rfl⟩ := P6.c.form
  obtain ⟨e6, cape6, rfl⟩ := P6.k.form
  rw [hn, hm] at P6 ⊢
  have Bn := alloc_below w6 (.cells #[.slice a6 n cap6, .slice e6 m cape6] 38)
  have X7 := (X5.on b6 X5.lt).on Bn ((X5.on b6 X5.lt).lt); have Z7 := (Z5.on b6 Z5.lt).on Bn ((Z5.on b6 Z5.lt).lt)
  have A7 := Blk.new w6 #[.slice a6 n cap6, .slice e6 m cape6] 38
  have P7 := P6.on Bn (Nat.le_refl _)
  have bb7 := bb6.trans (Bn.mono bb6.size)
  have hu7 := hu.on bb7 (Nat.le_refl _)
  obtain ⟨p, hp⟩ : ∃ p, w6.heap.size = p := ⟨_, rfl⟩
  obtain ⟨W7, hW7⟩ : ∃ W7, w6.alloc (.cells #[.slice a6 n cap6, .slice e6 m cape6] 38) = W7 := ⟨_, rfl⟩
  rw [hW7] at X7 Z7 A7 P7 bb7 hu7
  rw [hp] at A7 P7
  have k0 := Z7.cell 0; have k1 := Z7.cell 1
  clear X5 Z5 P6 Bn
  go_wp2_with fail
  clear hW7 hp k0 k1
  refine (toProgC _ _ ys lss _ W7 hu7 bb7.size hf'.out).mono ?_
  rintro e w8 ⟨c8, d8, rfl, P8, b8⟩
  have bb8 := bb7.trans (b8.mono bb7.size)
  have P8 := P8.sees (B := w8.heap.size) (fun b hb => hb.2)
  obtain ⟨a8, cap8, rfl⟩ := P8.c.form
  obtain ⟨e8, cape8, rfl⟩ := P8.k.form
  rw [hn', hm'] at P8 ⊢
  have Bn := alloc_below w8 (.cells #[.slice a8 n' cap8, .slice e8 m' cape8] 38)
  have bA := b8.trans (Bn.mono b8.size)
  have X9 := X7.on bA X7.lt; have Z9 := Z7.on bA Z7.lt; have A9 := A7.on bA A7.lt; have P9 := P7.on bA (Nat.le_of_lt A7.lt)
  have C9 := Blk.new w8 #[.slice a8 n' cap8, .slice e8 m' cape8] 38
  have Q9 := P8.on Bn (Nat.le_refl _)
  have bb9 := bb7.trans (bA.mono bb7.size)
  have hpq : p < w8.heap.size := by have := A7.lt; have := b8.size; omega
  obtain ⟨q, hq⟩ : ∃ q, w8.heap.size = q := ⟨_, rfl⟩
  obtain ⟨W9, hW9⟩ : ∃ W9, w8.alloc (.cells #[.slice a8 n' cap8, .slice e8 m' cape8] 38) = W9 := ⟨_, rfl⟩
  rw [hW9] at X9 Z9 A9 P9 C9 Q9 bb9
  rw [hq] at C9 Q9 hpq
  have k0 := A9.cell 0; have k1 := A9.cell 1; have j0 := C9.cell 0; have j1 := C9.cell 1
  clear X7 Z7 A7 P7 P8 Bn bA
  go_wp2_with fail
  clear hW9 hq k0 k1 j0 j1
  refine (HI.out _ _ _ _ W9 (P9.up (Nat.le_of_lt A9.lt)) (Q9.up (Nat.le_of_lt C9.lt)) hf.out hf'.out).mono ?_
  rintro e wa ⟨rfl, ba⟩
  have bba := bb9.trans (ba.mono bb9.size)
  have Xa := X9.on ba X9.lt; have Za := Z9.on ba Z9.lt; have Aa := A9.on ba A9.lt; have Ca := C9.on ba C9.lt; have Pa := P9.on ba (Nat.le_of_lt A9.lt); have Qa := Q9.on ba (Nat.le_of_lt C9.lt); have hva := hv.on bba (Nat.le_refl _)
  have k0 := Xa.cell 0; have k1 := Xa.cell 1; have j0 := Aa.cell 0; have j1 := Aa.cell 1
  clear X9 Z9 A9 C9 P9 Q9
  go_wp2_with fail
  go_region_held3 (fun W => W.cell? ⟨w.heap.size, 0, none⟩ = some (.slice a n cap) ∧ W.cell? ⟨w.heap.size, 1, none⟩ = some (.slice ak m capk) ∧ W.cell? ⟨p, 0, none⟩ = some (.slice a6 n cap6) ∧ W.cell? ⟨p, 1, none⟩ = some (.slice e6 m cape6)) (go_keep) ((first
    | (go_at_call 23; refine (toProgC _ _ xs kss w.heap.size _ ?_ ?_ hf.out).mono ?_; exact ⟨hva.c.drew, hva.k⟩; exact bba.size; rintro e wb ⟨cb, db, rfl, Pb, bb⟩; obtain ⟨ab, capb, rfl⟩ := Pb.c.form; obtain ⟨eb, capeb, rfl⟩ := Pb.k.form; rw [hn, hm] at Pb; rw [hn, hm]; have bb := undrewP bb; have Xb := Xa.on bb Xa.lt; have Yb := Aa.on bb Aa.lt; have kab := Xb.cell 0; have kbb := Xb.cell 1; have jab := Yb.cell 0; have jbb := Yb.cell 1)
    | (go_at_call 25; refine (eqProgC _ _ _ _ xs kss wb.heap.size wb ?_ ?_ ?_).mono ?_; exact (Pa.on bb (by have := Aa.lt; omega)).up (by have := bb.size; have := Aa.lt; omega); exact Pb.sees (fun b hb => hb.2); exact Nat.le_refl _; rintro e wc ⟨rfl, bc⟩; have Xc := Xb.on bc Xb.lt; have Yc := Yb.on bc Yb.lt; have kac := Xc.cell 0; have kbc := Xc.cell 1; have jac := Yc.cell 0; have jbc := Yc.cell 1)))
  have bbb := bba.trans (bb.mono bba.size)
  have bbc := bbb.trans (bc.mono bbb.size)
  have bz := bb.trans (bc.mono bb.size)
  have Zc := Za.on bz Za.lt; have Cc := Ca.on bz Ca.lt; have Qc := Qa.on bz (Nat.le_of_lt Ca.lt); have huc := hu.on bbc (Nat.le_refl _)
  clear k0 k1 j0 j1 kab kbb jab jbb kac kbc jac jbc Xb Yb Xc Yc
  have k0 := Zc.cell 0; have k1 := Zc.cell 1; have j0 := Cc.cell 0; have j1 := Cc.cell 1
  go_wp2_with fail
  go_region_held3 (fun W => W.cell? ⟨w.heap.size + 1, 0, none⟩ = some (.slice u n' ucap) ∧ W.cell? ⟨w.heap.size + 1, 1, none⟩ = some (.slice uk' m' ucapk) ∧ W.cell? ⟨q, 0, none⟩ = some (.slice a8 n' cap8) ∧ W.cell? ⟨q, 1, none⟩ = some (.slice e8 m' cape8)) (go_keep) ((first
    | (go_at_call 23; refine (toProgC _ _ ys lss w.heap.size _ ?_ ?_ hf'.out).mono ?_; exact ⟨huc.c.drew, huc.k⟩; exact bbc.size; rintro e wd ⟨cd, dd, rfl, Pd, bd⟩; obtain ⟨ad, capd, rfl⟩ := Pd.c.form; obtain ⟨ed, caped, rfl⟩ := Pd.k.form; rw [hn', hm'] at Pd; rw [hn', hm']; have bd := undrewP bd; have Xd := Zc.on bd Zc.lt; have Yd := Cc.on bd Cc.lt; have kad := Xd.cell 0; have kbd := Xd.cell 1; have jad := Yd.cell 0; have jbd := Yd.cell 1)
    | (go_at_call 25; refine (eqProgC _ _ _ _ ys lss wd.heap.size wd ?_ ?_ ?_).mono ?_; exact (Qc.on bd (by have := Cc.lt; omega)).up (by have := bd.size; have := Cc.lt; omega); exact Pd.sees (fun b hb => hb.2); exact Nat.le_refl _; rintro e wf ⟨rfl, bf⟩; have Xf := Xd.on bf Xd.lt; have Yf := Yd.on bf Yd.lt; have kaf := Xf.cell 0; have kbf := Xf.cell 1; have jaf := Yf.cell 0; have jbf := Yf.cell 1)))
  go_wp2
  go_ret
  have bbd := bbc.trans (bd.mono bbc.size)
  exact ⟨rfl, bbd.trans (bf.mono bbd.size)⟩
end Ops
end Go.Proofs.Ytkeamnokkbfcaaa
