/- The walks of the laws of chapter 6, given what both functions answer. -/
import Derived.Test.YtjopmakbnompnaaDoorSourceP
import Derived.Test.YtjopmakbnompnaaDoorProgLaw
import Derived.Test.YtjopmakbnompnaaDoorOpLaw
set_option linter.unusedVariables false
set_option linter.unusedSimpArgs false
namespace Go.Proofs.YtjopmakbnompnaaDoor
open Go.RowKit
namespace Ops
open Bas Flat

set_option maxRecDepth 100000 in
set_option maxHeartbeats 800000 in
theorem walkShowOp (k a b c : Int) (w : World) (r : Txt)
    (cS : ∀ W : World, Calls Tryd.prog 8 #[opV k a b c] W fun e w' => e = .returned (.string ⟨r.toArray⟩) ∧ Below W.heap.size W w')
    (cI : ∀ W : World, Below w.heap.size w W → Calls Tryd.prog 10 #[opV k a b c] W fun e w' => e = .returned (.string ⟨r.toArray⟩) ∧ Below W.heap.size W w') :
    Calls Tryd.prog 3 #[opV k a b c] w fun e w' => e = .returned (.bool true) ∧ Below w.heap.size w w' := by
  have HS := (show Hid _ from cS)
  have HI := (show Hid _ from cI)
  clear cS cI
  have X0 := Blk.new w #[.int .i64 k, .int .i64 a, .int .i64 b, .int .i64 c] 23
  have b0 := alloc_below w (.cells #[.int .i64 k, .int .i64 a, .int .i64 b, .int .i64 c] 23)
  have eV : opV k a b c = .agg #[.int .i64 k, .int .i64 a, .int .i64 b, .int .i64 c] := rfl
  have c0 := toOpC k a b c (w.alloc (.cells #[.int .i64 k, .int .i64 a, .int .i64 b, .int .i64 c] 23))
  have HT := (show Hid _ from toOpC k a b c)
  rw [eV] at c0 HS HI HT ⊢
  clear eV
  go_enter Tryd.func3, Tryd.ntmps3
  go_wp2_with fail
  refine c0.mono ?_
  rintro e w1 ⟨rfl, b1⟩
  clear c0
  have bb1 := b0.trans (b1.mono b0.size)
  have X1 := X0.on b1 X0.lt
  go_wp2_with fail
  refine (HS.out w1).mono ?_
  rintro e w2 ⟨rfl, b2⟩
  have bb2 := bb1.trans (b2.mono bb1.size)
  have X2 := X1.on b2 X1.lt
  have x0 := X2.cell 0; have x1 := X2.cell 1; have x2 := X2.cell 2; have x3 := X2.cell 3
  go_wp2_with fail
  clear x0 x1 x2 x3
  refine (HT.out w2).mono ?_
  rintro e w3 ⟨rfl, b3⟩
  have bb3 := bb2.trans (b3.mono bb2.size)
  go_wp2_with fail
  refine (HI.out w3 bb3).mono ?_
  rintro e w4 ⟨rfl, b4⟩
  go_wp2
  go_ret
  exact ⟨rfl, bb3.trans (b4.mono bb3.size)⟩

/-- what ReadOp answers -/
def ToldOpL (l : Txt) (e : Ending) : Prop := ∃ (o : O4) (b : Bool), e = .returned (.tuple #[o.val, .bool b]) ∧ RdOp l o b
set_option maxRecDepth 100000 in
set_option maxHeartbeats 800000 in
theorem walkReadOp (s : ByteArray) (w : World) (hs : s.size ≤ maxLen)
    (cS : s.size ≤ 1048576 → ∀ W : World, Calls Tryd.prog 11 #[.string s] W fun e w' => ToldOpL s.data.toList e ∧ Below W.heap.size W w')
    (cI : s.size ≤ 1048576 → ∀ W : World, Below w.heap.size w W → Calls Tryd.prog 12 #[.string s] W fun e w' => ToldOpL s.data.toList e ∧ Below W.heap.size W w') :
    Calls Tryd.prog 4 #[.string s] w fun e w' => e = .returned (.bool true) ∧ Below w.heap.size w w' := by
  have hsI : (s.size : Int) ≤ 9223372036854775807 := by unfold maxLen at hs; omega
  have HS := (show Hid _ from cS)
  have HI := (show Hid _ from cI)
  clear cS cI hs
  by_cases hle : (s.size : Int) ≤ 1048576
  · have hn : ¬ (1048576 : Int) < s.size := by omega
    go_enter Tryd.func4, Tryd.ntmps4
    go_wp2_with fail
    refine (HS.out (by omega) w).mono ?_
    rintro e w1 ⟨⟨o, b, rfl, h1⟩, b1⟩
    have eV : o.val = .agg #[.int .i64 o.k, .int .i64 o.a, .int .i64 o.b, .int .i64 o.c] := rfl
    rw [eV]
    have bA := alloc_below w1 (.cells #[.int .i64 o.k, .int .i64 o.a, .int .i64 o.b, .int .i64 o.c] 25)
    have bbA := b1.trans (bA.mono b1.size)
    have X1 := Blk.new w1 #[.int .i64 o.k, .int .i64 o.a, .int .i64 o.b, .int .i64 o.c] 25
    have H1 : Hid (RdOp s.data.toList o b) := h1
    clear eV h1
    go_wp2_with fail
    refine (HI.out (by omega) _ bbA).mono ?_
    rintro e w2 ⟨⟨o', b', rfl, h2⟩, b2⟩
    obtain ⟨rfl, rfl⟩ := RdOp.unique h2 H1.out
    clear h2
    have eV : o'.val = .agg #[.int .i64 o'.k, .int .i64 o'.a, .int .i64 o'.b, .int .i64 o'.c] := rfl
    have cE := eqOpE o'
    rw [eV] at cE ⊢
    have bb2 := bbA.trans (b2.mono bbA.size)
    have X2 := X1.on b2 X1.lt
    have bB := alloc_below w2 (.cells #[.int .i64 o'.k, .int .i64 o'.a, .int .i64 o'.b, .int .i64 o'.c] 25)
    have bbB := bb2.trans (bB.mono bb2.size)
    have X3 := X2.on bB X2.lt
    have Y3 := Blk.new w2 #[.int .i64 o'.k, .int .i64 o'.a, .int .i64 o'.b, .int .i64 o'.c] 25
    have x0 := X3.cell 0; have x1 := X3.cell 1; have x2 := X3.cell 2; have x3 := X3.cell 3
    have y0 := Y3.cell 0; have y1 := Y3.cell 1; have y2 := Y3.cell 2; have y3 := Y3.cell 3
    have dbb : (b' != b') = false := by simp
    have HE := (show Hid _ from cE)
    clear eV cE
    go_wp2_with fail
    refine (HE.out _).mono ?_
    rintro e w3 ⟨rfl, b3⟩
    clear x0 x1 x2 x3 y0 y1 y2 y3
    go_wp2
    go_ret
    exact ⟨rfl, bbB.trans (b3.mono bbB.size)⟩
  · have hn : (1048576 : Int) < s.size := by omega
    go_enter Tryd.func4, Tryd.ntmps4
    go_wp2
    go_ret
    exact ⟨rfl, Below.refl _ _⟩

set_option maxRecDepth 100000 in
set_option maxHeartbeats 1600000 in
theorem walkShowCode (v : Value) (xs : List O4) (w : World) (hv : Sees4 w.heap.size w v xs) (r : Txt)
    (cS : ∀ (u : Value) (W : World), Sees4 W.heap.size W u xs → xs.length ≤ 1048576 → Calls Tryd.prog 15 #[u] W fun e w' => e = .returned (.string ⟨r.toArray⟩) ∧ Below W.heap.size W w')
    (cI : ∀ (u : Value) (W : World), Below w.heap.size w W → Sees4 W.heap.size W u xs → xs.length ≤ 1048576 → Calls Tryd.prog 17 #[u] W fun e w' => e = .returned (.string ⟨r.toArray⟩) ∧ Below W.heap.size W w') :
    Calls Tryd.prog 5 #[v] w fun e w' => e = .returned (.bool true) ∧ Below w.heap.size w w' := by
  have hroom := hv.room
  obtain ⟨a, cap, rfl⟩ := hv.form
  obtain ⟨n, hn⟩ : ∃ n, xs.length = n := ⟨_, rfl⟩
  rw [hn] at hv hroom ⊢
  have c0 := szOpsC a n cap 1048576 w (by omega) (by omega) hroom
  have HS := (show Hid _ from cS)
  have HI := (show Hid _ from cI)
  clear cS cI
  by_cases hle : (n : Int) ≤ 1048576
  · rw [if_pos hle] at c0
    go_enter Tryd.func5, Tryd.ntmps5
    go_wp2_with fail
    refine c0.mono ?_
    rintro e w1 ⟨rfl, rfl⟩
    go_wp2_with fail
    refine (toOpsC _ xs _ w hv (Nat.le_refl _) (by omega)).mono ?_
    rintro e w2 ⟨v2, rfl, O2, b2⟩
    obtain ⟨a2, cap2, rfl⟩ := O2.form
    rw [hn] at O2 ⊢
    go_wp2_with fail
    refine (HS.out _ w2 O2.sees (by omega)).mono ?_
    rintro e w3 ⟨rfl, b3⟩
    have bb3 := b2.trans (b3.mono b2.size)
    have hv3 := hv.on bb3 (Nat.le_refl _)
    go_wp2_with fail
    refine (toOpsC _ xs _ w3 hv3 bb3.size (by omega)).mono ?_
    rintro e w4 ⟨v4, rfl, O4', b4⟩
    obtain ⟨a4, cap4, rfl⟩ := O4'.form
    rw [hn] at O4' ⊢
    have bb4 := bb3.trans (b4.mono bb3.size)
    go_wp2_with fail
    refine (HI.out _ w4 bb4 O4'.sees (by omega)).mono ?_
    rintro e w5 ⟨rfl, b5⟩
    have bb5 := bb4.trans (b5.mono bb4.size)
    have hv5 := hv.on bb5 (Nat.le_refl _)
    have O5 := O4'.on b5 (Nat.le_refl _)
    go_wp2_with fail
    refine (toOpsC _ xs _ w5 hv5 bb5.size (by omega)).mono ?_
    rintro e w6 ⟨v6, rfl, O6, b6⟩
    obtain ⟨a6, cap6, rfl⟩ := O6.form
    rw [hn] at O6 ⊢
    have bb6 := bb5.trans (b6.mono bb5.size)
    have O5 := O5.on b6 (Nat.le_refl _)
    go_wp2_with fail
    refine (eqOpsC _ _ xs w6.heap.size w6 O5.sees O6.sees (Nat.le_refl _)).mono ?_
    rintro e w7 ⟨rfl, b7⟩
    go_wp2
    go_ret
    exact ⟨rfl, bb6.trans (b7.mono bb6.size)⟩
  · rw [if_neg hle] at c0
    go_enter Tryd.func5, Tryd.ntmps5
    go_wp2_with fail
    refine c0.mono ?_
    rintro e w1 ⟨rfl, rfl⟩
    go_wp2
    go_ret
    exact ⟨rfl, Below.refl _ _⟩


set_option maxRecDepth 100000 in
set_option maxHeartbeats 1600000 in
theorem walkShowProg (vc vk : Value) (xs : List O4) (kss : List (List O4)) (w : World) (hv : SeesP w.heap.size w vc vk xs kss) (r : Txt)
    (cS : ∀ (u u' : Value) (W : World), SeesP W.heap.size W u u' xs kss → Fits xs kss → Calls Tryd.prog 24 #[.agg #[u, u']] W fun e w' => e = .returned (.string ⟨r.toArray⟩) ∧ Below W.heap.size W w')
    (cI : ∀ (u u' : Value) (W : World), Below w.heap.size w W → SeesP W.heap.size W u u' xs kss → Fits xs kss → Calls Tryd.prog 26 #[.agg #[u, u']] W fun e w' => e = .returned (.string ⟨r.toArray⟩) ∧ Below W.heap.size W w') :
    Calls Tryd.prog 7 #[.agg #[vc, vk]] w fun e w' => e = .returned (.bool true) ∧ Below w.heap.size w w' := by
  obtain ⟨a, cap, rfl⟩ := hv.c.form
  obtain ⟨ak, capk, rfl⟩ := hv.k.form
  obtain ⟨n, hn⟩ : ∃ n, xs.length = n := ⟨_, rfl⟩
  obtain ⟨m, hm⟩ : ∃ m, kss.length = m := ⟨_, rfl⟩
  rw [hn, hm] at hv ⊢
  have b0 := alloc_below w (.cells #[.slice a n cap, .slice ak m capk] 44)
  have X0 := Blk.new w #[.slice a n cap, .slice ak m capk] 44
  obtain ⟨W0, hW0⟩ : ∃ W0, w.alloc (.cells #[.slice a n cap, .slice ak m capk] 44) = W0 := ⟨_, rfl⟩
  rw [hW0] at b0 X0
  have hv0 := hv.on b0 (Nat.le_refl _)
  have hs := X0.lt
  have HS := (show Hid _ from cS)
  have HI := (show Hid _ from cI)
  clear cS cI
  have k0 := X0.cell 0; have k1 := X0.cell 1
  go_enter Tryd.func7, Tryd.ntmps7
  go_wp2_with fail
  clear hW0 k0 k1
  refine (szProgC _ _ xs kss 1048576 _ W0 hv0 (by omega) (by omega) (by omega)).mono ?_
  rintro e w1 ⟨q, rfl, hq, b1⟩
  have bb1 := b0.trans (b1.mono b0.size)
  by_cases hq0 : q < 0
  · clear hq
    go_wp2
    go_ret
    exact ⟨rfl, bb1⟩
  have hf : Hid (Fits xs kss) := by
    rcases hq with hq | hq
    · exact absurd hq hq0
    · exact hq.2.2
  clear hq
  have X1 := X0.on b1 hs; have hv1 := hv.on bb1 (Nat.le_refl _)
  have k0 := X1.cell 0; have k1 := X1.cell 1
  go_wp2_with fail
  clear k0 k1
  refine (toProgC _ _ xs kss _ w1 hv1 bb1.size hf.out).mono ?_
  rintro e w2 ⟨c2, d2, rfl, P2, b2⟩
  have bb2 := bb1.trans (b2.mono bb1.size)
  go_wp2_with fail
  refine (HS.out _ _ w2 (P2.sees (fun b hb => hb.2)) hf.out).mono ?_
  rintro e w3 ⟨rfl, b3⟩
  have bb3 := bb2.trans (b3.mono bb2.size)
  have X3 := X1.on (b2.trans (b3.mono b2.size)) X1.lt; have hv3 := hv.on bb3 (Nat.le_refl _)
  have k0 := X3.cell 0; have k1 := X3.cell 1
  go_wp2_with fail
  clear k0 k1 P2
  refine (toProgC _ _ xs kss _ w3 hv3 bb3.size hf.out).mono ?_
  rintro e w4 ⟨c4, d4, rfl, P4, b4⟩
  have bb4 := bb3.trans (b4.mono bb3.size)
  have P4 := P4.sees (B := w4.heap.size) (fun b hb => hb.2)
  obtain ⟨a4, cap4, rfl⟩ := P4.c.form
  obtain ⟨e4, cape4, rfl⟩ := P4.k.form
  rw [hn, hm] at P4 ⊢
  have b5 := alloc_below w4 (.cells #[.slice a4 n cap4, .slice e4 m cape4] 49)
  have X5 := (X3.on b4 X3.lt).on b5 ((X3.on b4 X3.lt).lt)
  have Y5 := Blk.new w4 #[.slice a4 n cap4, .slice e4 m cape4] 49
  have P5 := P4.on b5 (Nat.le_refl _)
  have bb5 := bb4.trans (b5.mono bb4.size)
  obtain ⟨p, hp⟩ : ∃ p, w4.heap.size = p := ⟨_, rfl⟩
  obtain ⟨W5, hW5⟩ : ∃ W5, w4.alloc (.cells #[.slice a4 n cap4, .slice e4 m cape4] 49) = W5 := ⟨_, rfl⟩
  rw [hW5] at X5 Y5 P5 bb5
  rw [hp] at Y5 P5
  have hs5 := Y5.lt
  have k0 := Y5.cell 0; have k1 := Y5.cell 1
  clear X3 P4 b5
  go_wp2_with fail
  clear hW5 hp k0 k1
  refine (HI.out _ _ W5 bb5 (P5.up (by omega)) hf.out).mono ?_
  rintro e w6 ⟨rfl, b6⟩
  have bb6 := bb5.trans (b6.mono bb5.size)
  have X6 := X5.on b6 X5.lt; have Y6 := Y5.on b6 hs5; have P6 := P5.on b6 (by omega); have hv6 := hv.on bb6 (Nat.le_refl _)
  have k0 := X6.cell 0; have k1 := X6.cell 1; have j0 := Y6.cell 0; have j1 := Y6.cell 1
  clear X5 Y5 P5
  go_wp2_with fail
  go_region_held3 (fun W => W.cell? ⟨w.heap.size, 0, none⟩ = some (.slice a n cap) ∧ W.cell? ⟨w.heap.size, 1, none⟩ = some (.slice ak m capk) ∧ W.cell? ⟨p, 0, none⟩ = some (.slice a4 n cap4) ∧ W.cell? ⟨p, 1, none⟩ = some (.slice e4 m cape4)) (go_keep) ((first
    | (go_at_call 25; refine (toProgC _ _ xs kss w.heap.size _ ?_ ?_ hf.out).mono ?_; exact ⟨hv6.c.drew, hv6.k⟩; exact bb6.size; rintro e w7 ⟨c7, d7, rfl, P7, b7⟩; obtain ⟨a7, cap7, rfl⟩ := P7.c.form; obtain ⟨e7, cape7, rfl⟩ := P7.k.form; rw [hn, hm] at P7; rw [hn, hm]; have b7 := undrewP b7; have X7 := X6.on b7 X6.lt; have Y7 := Y6.on b7 Y6.lt; have ka7 := X7.cell 0; have kb7 := X7.cell 1; have ja7 := Y7.cell 0; have jb7 := Y7.cell 1)
    | (go_at_call 27; refine (eqProgC _ _ _ _ xs kss w7.heap.size w7 ?_ ?_ ?_).mono ?_; exact (P6.on b7 (by have := Y6.lt; omega)).up (by have := b7.size; have := Y6.lt; omega); exact P7.sees (fun b hb => hb.2); exact Nat.le_refl _; rintro e w8 ⟨rfl, b8⟩; have X8 := X7.on b8 X7.lt; have Y8 := Y7.on b8 Y7.lt; have ka8 := X8.cell 0; have kb8 := X8.cell 1; have ja8 := Y8.cell 0; have jb8 := Y8.cell 1)))
  go_wp2
  go_ret
  have bb7 := bb6.trans (b7.mono bb6.size)
  exact ⟨rfl, bb7.trans (b8.mono bb7.size)⟩
end Ops
end Go.Proofs.YtjopmakbnompnaaDoor
