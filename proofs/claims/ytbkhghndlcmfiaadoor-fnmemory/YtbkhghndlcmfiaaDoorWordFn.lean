/- FnMemory answers true at every code. -/
import Derived.Test.YtbkhghndlcmfiaaDoorWordMemL
import Derived.Test.YtbkhghndlcmfiaaDoorWordSpecLock
import Derived.Test.YtbkhghndlcmfiaaDoorWordDrawLaw
import Derived.Test.YtbkhghndlcmfiaaDoorWordSame
import Derived.Test.YtbkhghndlcmfiaaDoorIntSame
import Derived.Test.YtbkhghndlcmfiaaDoorArgs
import Derived.Deep.RegionHeld3
set_option linter.unusedVariables false
set_option linter.unusedSimpArgs false
namespace Go.Proofs.YtbkhghndlcmfiaaDoor
open Go.RowKit
namespace Words
open Bas

theorem lockTo_length (c : Int) (ws : List W3) (i who : Int) : (lockTo c ws i who).length = ws.length := by unfold lockTo; split <;> simp [put_length]
theorem storeTo_length (c : Int) (ws : List W3) (i who y : Int) : (storeTo c ws i who y).length = ws.length := by unfold storeTo; split <;> simp [put_length]
theorem unlockTo_length (c : Int) (ws : List W3) (i who y : Int) : (unlockTo c ws i who y).length = ws.length := by unfold unlockTo; split <;> simp [put_length]
theorem lockTo_no {c : Int} {ws : List W3} {i who : Int} (h : lockMay c ws i who = false) : lockTo c ws i who = ws := by unfold lockTo; rw [h]; rfl
theorem Sees.up {B B' : Nat} {w : World} {v : Value} {ws : List W3} (h : Sees B w v ws) (hB : B ≤ B') : Sees B' w v ws := by
  obtain ⟨a, cap, rfl, h1, h2, h3⟩ := h
  refine ⟨a, cap, rfl, h1, h2, fun hne => ?_⟩
  obtain ⟨b, off, rfl, hlt, hc⟩ := h3 hne
  exact ⟨b, off, rfl, by omega, hc⟩

/-- a variable that holds a memory, whose words lie below it -/
structure MemV (W : World) (p : Nat) (c : Int) (v : Value) (ws : List W3) : Prop where
  X : Box W p c v 26
  S : Sees p W v ws
section
variable {W W' : World} {p : Nat} {c : Int} {v : Value} {ws : List W3}
theorem MemV.lt (h : MemV W p c v ws) : p < W.heap.size := h.X.lt
theorem MemV.on (h : MemV W p c v ws) (hb : Below W.heap.size W W') : MemV W' p c v ws := ⟨h.X.on hb h.lt, h.S.on hb (Nat.le_of_lt h.lt)⟩
theorem MemV.new {B : Nat} (h : Owns B W v ws) : MemV (W.alloc (.cells #[.int .i64 c, v] 26)) W.heap.size c v ws := ⟨Box.new W c v _, h.sees.on (alloc_below W _) (Nat.le_refl _)⟩
theorem MemV.sees (h : MemV W p c v ws) : Sees W.heap.size W v ws := h.S.up (Nat.le_of_lt h.lt)
theorem MemV.drew (h : MemV W p c v ws) : MemV W.drew p c v ws := ⟨h.X, h.S⟩
end
theorem undrew' {B : Nat} {w w' : World} (h : Below B w.drew w') : Below B w w' := ⟨h.os, h.tape, h.output, h.size, h.block⟩
theorem Err.drew {w : World} {b : Addr} (h : Err w b) : Err w.drew b := h

section
variable {P : Program} {ops : Array Oper} {Q : Exit → Act → World → Prop} {md : Region.Mode} {S : World → Prop}
theorem takeH {i : Nat} (d : Option Tmp) (v : Value) {oi : Oper} {fuel : Nat} {listed : Array Bool} {a : Act} {w : World} (hi : ops[i]? = some oi) (hd : oi.dst = d)
    (hs : Region.noSelect ops = true) (hf : Region.free md ops listed i = true) (hr : (Region.ready md ops listed).contains i = true)
    (hQ : ∀ c a w, Q (.panic c) (a.put d v) w → Q (.panic c) a w) (hy : YieldsIf P ops S oi v a) (hS : S w)
    (h : wpAnyH P md ops Q S fuel (listed.setIfInBounds i true) (a.put d v) w) : wpAnyH P md ops Q S (fuel + 1) listed a w := by
  subst hd; exact wpAnyH_take hi hs hf hr hQ hy hS h
end

set_option maxRecDepth 100000 in
theorem fnBig (a : Option Addr) (len cap : Nat) (w : World) (hb : 1048576 < len) :
    Calls Tryd.prog 3 #[.slice a len cap] w fun e w' => e = .returned (.bool true) ∧ Below w.heap.size w w' := by
  have hbg : decide ((1048576 : Int) < (len : Int)) = true := by simp; omega
  go_enter Tryd.func3, Tryd.ntmps3
  go_wp2_with fail
  refine (Ints.bigC a len cap w).mono ?_
  rw [hbg]
  rintro e w0 ⟨rfl, rfl⟩
  go_wp2
  go_ret
  exact ⟨rfl, Below.refl _ _⟩

set_option maxRecDepth 100000 in
set_option maxHeartbeats 8000000 in
theorem fnMemory (l : List UInt8) (a : Option Addr) (cap : Nat) (w : World) (bE : Addr) (hC : Draw.Code w.heap.size w (.slice a l.length cap) l) (hl : l.length ≤ 1048576) (hE : Err w bE) :
    Calls Tryd.prog 3 #[.slice a l.length cap] w fun e w' => e = .returned (.bool true) ∧ Below w.heap.size w w' := by
  have hbg : decide ((1048576 : Int) < (l.length : Int)) = false := by simp; omega
  obtain ⟨n, hn⟩ : ∃ n, l.length = n := ⟨_, rfl⟩
  rw [hn] at hbg hC ⊢
  go_enter Tryd.func3, Tryd.ntmps3
  go_wp2_with fail
  refine (Ints.bigC a n cap w).mono ?_
  rw [hbg]
  rintro e w0 ⟨rfl, rfl⟩
  go_wp2_with fail
  refine (drawLockC w.heap.size _ l w hC (Nat.le_refl _) hl).mono ?_
  rintro e w1 ⟨c, v1, ws, i, who, rfl, O, h8, c0, c1, u0, u1, b⟩
  have bel := Below.refl w.heap.size w
  clear hbg
  obtain ⟨a1, cap1, rfl⟩ := O.form
  obtain ⟨n1, hn1⟩ : ∃ n, (ws).length = n := ⟨_, rfl⟩
  rw [hn1] at O ⊢
  have Bn := alloc_below w1 (.cells #[.int .i64 (c), .slice a1 n1 cap1] 26)
  have bb := b.trans (Bn.mono b.size)
  have bel := bel.trans (bb.mono bel.size)
  have hE := hE.on bb (Nat.le_refl _)
  have M1 : MemV (w1.alloc (.cells #[.int .i64 (c), .slice a1 n1 cap1] 26)) w1.heap.size (c) (.slice a1 n1 cap1) (ws) := MemV.new O
  obtain ⟨W1, hW1⟩ : ∃ W, w1.alloc (.cells #[.int .i64 (c), .slice a1 n1 cap1] 26) = W := ⟨_, rfl⟩
  obtain ⟨p1, hp1⟩ : ∃ p, w1.heap.size = p := ⟨_, rfl⟩
  rw [hW1] at bel hE M1
  rw [hp1] at M1
  clear O b Bn bb
  have xM1 := M1.X.c0; have yM1 := M1.X.c1
  go_wp2_with fail
  clear hW1 hp1 xM1 yM1
  refine (implLock c _ ws i who W1.heap.size W1 bE M1.sees (Nat.le_refl _) hE (by omega)).mono ?_
  rintro e w2 ⟨v2, rfl, O, b⟩
  obtain ⟨a2, cap2, rfl⟩ := O.form
  obtain ⟨n2, hn2⟩ : ∃ n, (lockTo c ws i who).length = n := ⟨_, rfl⟩
  rw [hn2] at O ⊢
  have Bn := alloc_below w2 (.cells #[.int .i64 (c), .slice a2 n2 cap2] 26)
  have bb := b.trans (Bn.mono b.size)
  have M1 := M1.on bb
  have bel := bel.trans (bb.mono bel.size)
  have hE := hE.on bb (Nat.le_refl _)
  have M2 : MemV (w2.alloc (.cells #[.int .i64 (c), .slice a2 n2 cap2] 26)) w2.heap.size (c) (.slice a2 n2 cap2) (lockTo c ws i who) := MemV.new O
  obtain ⟨W2, hW2⟩ : ∃ W, w2.alloc (.cells #[.int .i64 (c), .slice a2 n2 cap2] 26) = W := ⟨_, rfl⟩
  obtain ⟨p2, hp2⟩ : ∃ p, w2.heap.size = p := ⟨_, rfl⟩
  rw [hW2] at M1 bel hE M2
  rw [hp2] at M2
  clear O b Bn bb
  have xM1 := M1.X.c0; have yM1 := M1.X.c1
  go_wp2_with fail
  clear hW2 hp2 xM1 yM1
  refine (specLock c _ ws i who W2.heap.size W2 M1.sees (Nat.le_refl _) (by omega)).mono ?_
  rintro e w3 ⟨v3, rfl, O, b⟩
  obtain ⟨q, hq⟩ : ∃ q, lockMay c ws i who = q := ⟨_, rfl⟩
  rw [hq]
  have HQ : Hid (lockMay c ws i who = q) := hq
  clear hq
  cases q
  · obtain ⟨a3, cap3, rfl⟩ := O.form
    obtain ⟨n3, hn3⟩ : ∃ n, (lockTo c ws i who).length = n := ⟨_, rfl⟩
    rw [hn3] at O ⊢
    have Bn := alloc_below w3 (.cells #[.int .i64 (c), .slice a3 n3 cap3] 26)
    have bb := b.trans (Bn.mono b.size)
    have M1 := M1.on bb
    have M2 := M2.on bb
    have bel := bel.trans (bb.mono bel.size)
    have hE := hE.on bb (Nat.le_refl _)
    have M3 : MemV (w3.alloc (.cells #[.int .i64 (c), .slice a3 n3 cap3] 26)) w3.heap.size (c) (.slice a3 n3 cap3) (lockTo c ws i who) := MemV.new O
    obtain ⟨W3, hW3⟩ : ∃ W, w3.alloc (.cells #[.int .i64 (c), .slice a3 n3 cap3] 26) = W := ⟨_, rfl⟩
    obtain ⟨p3, hp3⟩ : ∃ p, w3.heap.size = p := ⟨_, rfl⟩
    rw [hW3] at M1 M2 bel hE M3
    rw [hp3] at M3
    clear O b Bn bb
    have xM1 := M1.X.c0; have yM1 := M1.X.c1
    have xM2 := M2.X.c0; have yM2 := M2.X.c1
    go_wp2_with fail
    clear hW3 hp3 xM1 yM1 xM2 yM2
    rw [lockTo_no HQ.out] at M2
    refine (sameMemC c _ _ ws W3.heap.size W3 M2.sees M1.sees (Nat.le_refl _)).mono ?_
    rintro e w4 ⟨rfl, b⟩
    have M1 := M1.on b
    have M2 := M2.on b
    have bel := bel.trans (b.mono bel.size)
    have hE := hE.on b (Nat.le_refl _)
    clear b
    clear M1 M2 M3
    go_wp2_with fail
    have hC8 := hC.below bel
    refine (drawTickC w.heap.size _ l _ hC8 bel.size hl).mono ?_
    rintro e w8 ⟨c8, v8, wt, rfl, O, h8', c80, c81, b⟩
    obtain ⟨a8, cap8, rfl⟩ := O.form
    obtain ⟨n8, hn8⟩ : ∃ n, (wt).length = n := ⟨_, rfl⟩
    rw [hn8] at O ⊢
    have Bn := alloc_below w8 (.cells #[.int .i64 (c8), .slice a8 n8 cap8] 26)
    have bb := b.trans (Bn.mono b.size)
    have bel := bel.trans (bb.mono bel.size)
    have hE := hE.on bb (Nat.le_refl _)
    have M8 : MemV (w8.alloc (.cells #[.int .i64 (c8), .slice a8 n8 cap8] 26)) w8.heap.size (c8) (.slice a8 n8 cap8) (wt) := MemV.new O
    obtain ⟨W8, hW8⟩ : ∃ W, w8.alloc (.cells #[.int .i64 (c8), .slice a8 n8 cap8] 26) = W := ⟨_, rfl⟩
    obtain ⟨p8, hp8⟩ : ∃ p, w8.heap.size = p := ⟨_, rfl⟩
    rw [hW8] at  bel hE M8
    rw [hp8] at M8
    clear O b Bn bb
    have xM8 := M8.X.c0; have yM8 := M8.X.c1
    go_wp2_with fail
    clear hW8 hp8 xM8 yM8
    refine (implTick c8 _ wt W8.heap.size W8 M8.sees (Nat.le_refl _) (by omega)).mono ?_
    rintro e w9 ⟨v9, rfl, O, b⟩
    have hcs := tick_cases c8 wt
    obtain ⟨ct, hct⟩ : ∃ ct, tickC c8 wt = ct := ⟨_, rfl⟩
    obtain ⟨rt, hrt⟩ : ∃ rt, tickR c8 wt = rt := ⟨_, rfl⟩
    rw [hct, hrt] at hcs
    rw [hct, hrt]
    clear hct hrt
    obtain ⟨a9, cap9, rfl⟩ := O.form
    obtain ⟨n9, hn9⟩ : ∃ n, (wt).length = n := ⟨_, rfl⟩
    rw [hn9] at O ⊢
    have Bn := alloc_below w9 (.cells #[.int .i64 (ct), .slice a9 n9 cap9] 26)
    have bb := b.trans (Bn.mono b.size)
    have M8 := M8.on bb
    have bel := bel.trans (bb.mono bel.size)
    have hE := hE.on bb (Nat.le_refl _)
    have M9 : MemV (w9.alloc (.cells #[.int .i64 (ct), .slice a9 n9 cap9] 26)) w9.heap.size (ct) (.slice a9 n9 cap9) (wt) := MemV.new O
    obtain ⟨W9, hW9⟩ : ∃ W, w9.alloc (.cells #[.int .i64 (ct), .slice a9 n9 cap9] 26) = W := ⟨_, rfl⟩
    obtain ⟨p9, hp9⟩ : ∃ p, w9.heap.size = p := ⟨_, rfl⟩
    rw [hW9] at M8 bel hE M9
    rw [hp9] at M9
    clear O b Bn bb
    have xM8 := M8.X.c0; have yM8 := M8.X.c1; have xM9 := M9.X.c0; have yM9 := M9.X.c1
    rcases (show (c8 = ct ∧ 0 = rt) ∨ (memOk c8 wt = true ∧ 0 ≤ c8 ∧ c8 < 1000000 ∧ c8 + 1 = ct ∧ c8 + 1 = rt) from hcs.elim (fun h => .inl ⟨h.2.1.symm, h.2.2.symm⟩) (fun h => h.elim (fun h => .inl ⟨h.2.2.1.symm, h.2.2.2.symm⟩) (fun h => .inr ⟨h.1, h.2.1, h.2.2.1, h.2.2.2.1.symm, h.2.2.2.2.symm⟩))) with ⟨rfl, rfl⟩ | ⟨hok, k0, k1, rfl, rfl⟩
    · go_wp2_with fail
      clear hW9 hp9
      refine wp_region_held_drew (S := fun W => W.cell? ⟨p8, 0, none⟩ = some (.int .i64 c8) ∧ W.cell? ⟨p8, 1, none⟩ = some (.slice a8 n8 cap8) ∧ W.cell? ⟨p9, 0, none⟩ = some (.int .i64 (c8)) ∧ W.cell? ⟨p9, 1, none⟩ = some (.slice a9 n9 cap9)) (by kernel_rfl) ⟨xM8, yM8, xM9, yM9⟩ (fun hHeld => ?_)
      clear xM8 yM8 xM9 yM9
      have M8 := M8.drew; have M9 := M9.drew; have bel := bel.drew; have hE := hE.drew
      obtain ⟨WD, hWD⟩ : ∃ WD, W9.drew = WD := ⟨_, rfl⟩
      rw [hWD] at M8 M9 bel hE hHeld ⊢
      clear hWD
      refine takeH (i := 0) (some 153) (.int .i64 0) rfl rfl (by kernel_rfl) (by kernel_rfl) (by kernel_rfl) (fun _ _ _ h => h) (Or.inl ⟨by rfl, fun w hSw => by (try dsimp only at hSw); go_simp⟩) (by assumption) ?_
      simp only [Act.put, List.setIfInBounds_toArray, List.set_cons_zero, List.set_cons_succ]
      refine takeH (i := 1) (some 154) (.bool true) rfl rfl (by kernel_rfl) (by kernel_rfl) (by kernel_rfl) (fun _ _ _ h => h) (Or.inl ⟨by rfl, fun w hSw => by (try dsimp only at hSw); go_simp⟩) (by assumption) ?_
      simp only [Act.put, List.setIfInBounds_toArray, List.set_cons_zero, List.set_cons_succ]
      refine takeH (i := 2) (some 155) (.bool true) rfl rfl (by kernel_rfl) (by kernel_rfl) (by kernel_rfl) (fun _ _ _ h => h) (Or.inl ⟨by rfl, fun w hSw => by (try dsimp only at hSw); go_simp⟩) (by assumption) ?_
      simp only [Act.put, List.setIfInBounds_toArray, List.set_cons_zero, List.set_cons_succ]
      refine takeH (i := 3) (some 156) (.agg #[.int .i64 (c8), .slice a9 n9 cap9]) rfl rfl (by kernel_rfl) (by kernel_rfl) (by kernel_rfl) (fun _ _ _ h => h) (Or.inl ⟨by rfl, fun w hSw => by (try dsimp only at hSw); go_simp⟩) (by assumption) ?_
      simp only [Act.put, List.setIfInBounds_toArray, List.set_cons_zero, List.set_cons_succ]
      refine takeH (i := 4) (some 157) (.agg #[.int .i64 c8, .slice a8 n8 cap8]) rfl rfl (by kernel_rfl) (by kernel_rfl) (by kernel_rfl) (fun _ _ _ h => h) (Or.inl ⟨by rfl, fun w hSw => by (try dsimp only at hSw); go_simp⟩) (by assumption) ?_
      simp only [Act.put, List.setIfInBounds_toArray, List.set_cons_zero, List.set_cons_succ]
      refine wpAnyH_ready (rs := [5]) (by kernel_rfl) (by simp) ?_
      refine AllReadyH.cons rfl (fun K hK => ?_) AllReadyH.nil
      go_simp
      refine (sameMemC c8 _ _ wt WD.heap.size WD M9.sees M8.sees (Nat.le_refl _)).mono ?_
      rintro e wn ⟨rfl, b⟩
      have M8 := M8.on b
      have M9 := M9.on b
      have bel := bel.trans (b.mono bel.size)
      go_simp
      refine hK.out _ _ ⟨M8.X.c0, M8.X.c1, M9.X.c0, M9.X.c1⟩ (fun hHeld' => ?_)
      clear hK K b
      refine takeH (i := 6) (some 159) (.bool true) rfl rfl (by kernel_rfl) (by kernel_rfl) (by kernel_rfl) (fun _ _ _ h => h) (Or.inl ⟨by rfl, fun w hSw => by (try dsimp only at hSw); go_simp⟩) (by assumption) ?_
      simp only [Act.put, List.setIfInBounds_toArray, List.set_cons_zero, List.set_cons_succ]
      refine takeH (i := 7) (some 160) (.bool true) rfl rfl (by kernel_rfl) (by kernel_rfl) (by kernel_rfl) (fun _ _ _ h => h) (Or.inl ⟨by rfl, fun w hSw => by (try dsimp only at hSw); go_simp⟩) (by assumption) ?_
      simp only [Act.put, List.setIfInBounds_toArray, List.set_cons_zero, List.set_cons_succ]
      refine takeH (i := 8) (some 161) undef rfl rfl (by kernel_rfl) (by kernel_rfl) (by kernel_rfl) (fun _ _ _ h => h) (Or.inr ⟨by rfl, rfl⟩) (by assumption) ?_
      simp only [Act.put, List.setIfInBounds_toArray, List.set_cons_zero, List.set_cons_succ]
      refine takeH (i := 9) (some 162) undef rfl rfl (by kernel_rfl) (by kernel_rfl) (by kernel_rfl) (fun _ _ _ h => h) (Or.inr ⟨by rfl, rfl⟩) (by assumption) ?_
      simp only [Act.put, List.setIfInBounds_toArray, List.set_cons_zero, List.set_cons_succ]
      refine takeH (i := 10) (some 163) undef rfl rfl (by kernel_rfl) (by kernel_rfl) (by kernel_rfl) (fun _ _ _ h => h) (Or.inr ⟨by rfl, rfl⟩) (by assumption) ?_
      simp only [Act.put, List.setIfInBounds_toArray, List.set_cons_zero, List.set_cons_succ]
      refine takeH (i := 11) (some 164) undef rfl rfl (by kernel_rfl) (by kernel_rfl) (by kernel_rfl) (fun _ _ _ h => h) (Or.inr ⟨by rfl, rfl⟩) (by assumption) ?_
      simp only [Act.put, List.setIfInBounds_toArray, List.set_cons_zero, List.set_cons_succ]
      refine takeH (i := 12) (some 165) undef rfl rfl (by kernel_rfl) (by kernel_rfl) (by kernel_rfl) (fun _ _ _ h => h) (Or.inr ⟨by rfl, rfl⟩) (by assumption) ?_
      simp only [Act.put, List.setIfInBounds_toArray, List.set_cons_zero, List.set_cons_succ]
      refine takeH (i := 13) (some 166) undef rfl rfl (by kernel_rfl) (by kernel_rfl) (by kernel_rfl) (fun _ _ _ h => h) (Or.inr ⟨by rfl, rfl⟩) (by assumption) ?_
      simp only [Act.put, List.setIfInBounds_toArray, List.set_cons_zero, List.set_cons_succ]
      refine takeH (i := 14) (some 167) undef rfl rfl (by kernel_rfl) (by kernel_rfl) (by kernel_rfl) (fun _ _ _ h => h) (Or.inr ⟨by rfl, rfl⟩) (by assumption) ?_
      simp only [Act.put, List.setIfInBounds_toArray, List.set_cons_zero, List.set_cons_succ]
      refine takeH (i := 15) (some 168) undef rfl rfl (by kernel_rfl) (by kernel_rfl) (by kernel_rfl) (fun _ _ _ h => h) (Or.inr ⟨by rfl, rfl⟩) (by assumption) ?_
      simp only [Act.put, List.setIfInBounds_toArray, List.set_cons_zero, List.set_cons_succ]
      refine takeH (i := 16) (some 169) undef rfl rfl (by kernel_rfl) (by kernel_rfl) (by kernel_rfl) (fun _ _ _ h => h) (Or.inr ⟨by rfl, rfl⟩) (by assumption) ?_
      simp only [Act.put, List.setIfInBounds_toArray, List.set_cons_zero, List.set_cons_succ]
      refine takeH (i := 17) (some 170) undef rfl rfl (by kernel_rfl) (by kernel_rfl) (by kernel_rfl) (fun _ _ _ h => h) (Or.inr ⟨by rfl, rfl⟩) (by assumption) ?_
      simp only [Act.put, List.setIfInBounds_toArray, List.set_cons_zero, List.set_cons_succ]
      refine takeH (i := 18) (some 171) undef rfl rfl (by kernel_rfl) (by kernel_rfl) (by kernel_rfl) (fun _ _ _ h => h) (Or.inr ⟨by rfl, rfl⟩) (by assumption) ?_
      simp only [Act.put, List.setIfInBounds_toArray, List.set_cons_zero, List.set_cons_succ]
      refine takeH (i := 19) (some 172) undef rfl rfl (by kernel_rfl) (by kernel_rfl) (by kernel_rfl) (fun _ _ _ h => h) (Or.inr ⟨by rfl, rfl⟩) (by assumption) ?_
      simp only [Act.put, List.setIfInBounds_toArray, List.set_cons_zero, List.set_cons_succ]
      refine takeH (i := 20) (some 173) undef rfl rfl (by kernel_rfl) (by kernel_rfl) (by kernel_rfl) (fun _ _ _ h => h) (Or.inr ⟨by rfl, rfl⟩) (by assumption) ?_
      simp only [Act.put, List.setIfInBounds_toArray, List.set_cons_zero, List.set_cons_succ]
      refine takeH (i := 21) (some 174) undef rfl rfl (by kernel_rfl) (by kernel_rfl) (by kernel_rfl) (fun _ _ _ h => h) (Or.inr ⟨by rfl, rfl⟩) (by assumption) ?_
      simp only [Act.put, List.setIfInBounds_toArray, List.set_cons_zero, List.set_cons_succ]
      refine takeH (i := 22) (some 175) undef rfl rfl (by kernel_rfl) (by kernel_rfl) (by kernel_rfl) (fun _ _ _ h => h) (Or.inr ⟨by rfl, rfl⟩) (by assumption) ?_
      simp only [Act.put, List.setIfInBounds_toArray, List.set_cons_zero, List.set_cons_succ]
      refine takeH (i := 23) (some 176) undef rfl rfl (by kernel_rfl) (by kernel_rfl) (by kernel_rfl) (fun _ _ _ h => h) (Or.inr ⟨by rfl, rfl⟩) (by assumption) ?_
      simp only [Act.put, List.setIfInBounds_toArray, List.set_cons_zero, List.set_cons_succ]
      refine takeH (i := 24) (some 177) undef rfl rfl (by kernel_rfl) (by kernel_rfl) (by kernel_rfl) (fun _ _ _ h => h) (Or.inr ⟨by rfl, rfl⟩) (by assumption) ?_
      simp only [Act.put, List.setIfInBounds_toArray, List.set_cons_zero, List.set_cons_succ]
      refine takeH (i := 25) (some 178) undef rfl rfl (by kernel_rfl) (by kernel_rfl) (by kernel_rfl) (fun _ _ _ h => h) (Or.inr ⟨by rfl, rfl⟩) (by assumption) ?_
      simp only [Act.put, List.setIfInBounds_toArray, List.set_cons_zero, List.set_cons_succ]
      refine takeH (i := 26) (some 179) undef rfl rfl (by kernel_rfl) (by kernel_rfl) (by kernel_rfl) (fun _ _ _ h => h) (Or.inr ⟨by rfl, rfl⟩) (by assumption) ?_
      simp only [Act.put, List.setIfInBounds_toArray, List.set_cons_zero, List.set_cons_succ]
      refine takeH (i := 27) (some 180) undef rfl rfl (by kernel_rfl) (by kernel_rfl) (by kernel_rfl) (fun _ _ _ h => h) (Or.inr ⟨by rfl, rfl⟩) (by assumption) ?_
      simp only [Act.put, List.setIfInBounds_toArray, List.set_cons_zero, List.set_cons_succ]
      refine takeH (i := 28) (some 181) undef rfl rfl (by kernel_rfl) (by kernel_rfl) (by kernel_rfl) (fun _ _ _ h => h) (Or.inr ⟨by rfl, rfl⟩) (by assumption) ?_
      simp only [Act.put, List.setIfInBounds_toArray, List.set_cons_zero, List.set_cons_succ]
      refine takeH (i := 29) (some 182) undef rfl rfl (by kernel_rfl) (by kernel_rfl) (by kernel_rfl) (fun _ _ _ h => h) (Or.inr ⟨by rfl, rfl⟩) (by assumption) ?_
      simp only [Act.put, List.setIfInBounds_toArray, List.set_cons_zero, List.set_cons_succ]
      refine takeH (i := 30) (some 183) (.bool true) rfl rfl (by kernel_rfl) (by kernel_rfl) (by kernel_rfl) (fun _ _ _ h => h) (Or.inl ⟨by rfl, fun w hSw => by (try dsimp only at hSw); go_simp⟩) (by assumption) ?_
      simp only [Act.put, List.setIfInBounds_toArray, List.set_cons_zero, List.set_cons_succ]
      refine takeH (i := 31) (some 2) (.bool true) rfl rfl (by kernel_rfl) (by kernel_rfl) (by kernel_rfl) (fun _ _ _ h => h) (Or.inl ⟨by rfl, fun w hSw => by (try dsimp only at hSw); go_simp⟩) (by assumption) ?_
      simp only [Act.put, List.setIfInBounds_toArray, List.set_cons_zero, List.set_cons_succ]
      refine wpAnyH_done (by kernel_rfl) ?_ _
      go_wp2
      go_ret
      exact ⟨rfl, bel⟩
    · have d0 : (c8 + 1 == 0) = false := by simp; omega
      have dw : IntKind.i64.wrap (c8 + 1) = c8 + 1 := by rw [IntKind.wrap_i64]; omega
      have hok' := tick_ok hok k1
      have hvl := tick_values hok k1
      go_wp2_with fail
      clear hW9 hp9
      refine wp_region_held_drew (S := fun W => W.cell? ⟨p8, 0, none⟩ = some (.int .i64 c8) ∧ W.cell? ⟨p8, 1, none⟩ = some (.slice a8 n8 cap8) ∧ W.cell? ⟨p9, 0, none⟩ = some (.int .i64 (c8 + 1)) ∧ W.cell? ⟨p9, 1, none⟩ = some (.slice a9 n9 cap9)) (by kernel_rfl) ⟨xM8, yM8, xM9, yM9⟩ (fun hHeld => ?_)
      clear xM8 yM8 xM9 yM9
      have M8 := M8.drew; have M9 := M9.drew; have bel := bel.drew; have hE := hE.drew
      obtain ⟨WD, hWD⟩ : ∃ WD, W9.drew = WD := ⟨_, rfl⟩
      rw [hWD] at M8 M9 bel hE hHeld ⊢
      clear hWD
      refine takeH (i := 0) (some 153) (.int .i64 (c8 + 1)) rfl rfl (by kernel_rfl) (by kernel_rfl) (by kernel_rfl) (fun _ _ _ h => h) (Or.inl ⟨by rfl, fun w hSw => by (try dsimp only at hSw); go_simp⟩) (by assumption) ?_
      simp only [Act.put, List.setIfInBounds_toArray, List.set_cons_zero, List.set_cons_succ]
      refine takeH (i := 1) (some 154) (.bool false) rfl rfl (by kernel_rfl) (by kernel_rfl) (by kernel_rfl) (fun _ _ _ h => h) (Or.inl ⟨by rfl, fun w hSw => by (try dsimp only at hSw); go_simp⟩) (by assumption) ?_
      simp only [Act.put, List.setIfInBounds_toArray, List.set_cons_zero, List.set_cons_succ]
      refine takeH (i := 2) (some 155) (.bool false) rfl rfl (by kernel_rfl) (by kernel_rfl) (by kernel_rfl) (fun _ _ _ h => h) (Or.inl ⟨by rfl, fun w hSw => by (try dsimp only at hSw); go_simp⟩) (by assumption) ?_
      simp only [Act.put, List.setIfInBounds_toArray, List.set_cons_zero, List.set_cons_succ]
      refine takeH (i := 3) (some 156) undef rfl rfl (by kernel_rfl) (by kernel_rfl) (by kernel_rfl) (fun _ _ _ h => h) (Or.inr ⟨by rfl, rfl⟩) (by assumption) ?_
      simp only [Act.put, List.setIfInBounds_toArray, List.set_cons_zero, List.set_cons_succ]
      refine takeH (i := 4) (some 157) undef rfl rfl (by kernel_rfl) (by kernel_rfl) (by kernel_rfl) (fun _ _ _ h => h) (Or.inr ⟨by rfl, rfl⟩) (by assumption) ?_
      simp only [Act.put, List.setIfInBounds_toArray, List.set_cons_zero, List.set_cons_succ]
      refine takeH (i := 5) (some 158) undef rfl rfl (by kernel_rfl) (by kernel_rfl) (by kernel_rfl) (fun _ _ _ h => h) (Or.inr ⟨by rfl, rfl⟩) (by assumption) ?_
      simp only [Act.put, List.setIfInBounds_toArray, List.set_cons_zero, List.set_cons_succ]
      refine takeH (i := 6) (some 159) (.bool false) rfl rfl (by kernel_rfl) (by kernel_rfl) (by kernel_rfl) (fun _ _ _ h => h) (Or.inl ⟨by rfl, fun w hSw => by (try dsimp only at hSw); go_simp⟩) (by assumption) ?_
      simp only [Act.put, List.setIfInBounds_toArray, List.set_cons_zero, List.set_cons_succ]
      refine takeH (i := 7) (some 160) (.bool false) rfl rfl (by kernel_rfl) (by kernel_rfl) (by kernel_rfl) (fun _ _ _ h => h) (Or.inl ⟨by rfl, fun w hSw => by (try dsimp only at hSw); go_simp⟩) (by assumption) ?_
      simp only [Act.put, List.setIfInBounds_toArray, List.set_cons_zero, List.set_cons_succ]
      refine takeH (i := 8) (some 161) (.int .i64 (c8 + 1)) rfl rfl (by kernel_rfl) (by kernel_rfl) (by kernel_rfl) (fun _ _ _ h => h) (Or.inl ⟨by rfl, fun w hSw => by (try dsimp only at hSw); go_simp⟩) (by assumption) ?_
      simp only [Act.put, List.setIfInBounds_toArray, List.set_cons_zero, List.set_cons_succ]
      refine takeH (i := 9) (some 162) (.pointer (some ⟨p8, 0, none⟩)) rfl rfl (by kernel_rfl) (by kernel_rfl) (by kernel_rfl) (fun _ _ _ h => h) (Or.inl ⟨by rfl, fun w hSw => by (try dsimp only at hSw); go_simp⟩) (by assumption) ?_
      simp only [Act.put, List.setIfInBounds_toArray, List.set_cons_zero, List.set_cons_succ]
      refine takeH (i := 10) (some 163) (.int .i64 c8) rfl rfl (by kernel_rfl) (by kernel_rfl) (by kernel_rfl) (fun _ _ _ h => h) (Or.inl ⟨by rfl, fun w hSw => by (try dsimp only at hSw); go_simp⟩) (by assumption) ?_
      simp only [Act.put, List.setIfInBounds_toArray, List.set_cons_zero, List.set_cons_succ]
      refine takeH (i := 11) (some 164) (.int .i64 (c8 + 1)) rfl rfl (by kernel_rfl) (by kernel_rfl) (by kernel_rfl) (fun _ _ _ h => h) (Or.inl ⟨by rfl, fun w hSw => by (try dsimp only at hSw); go_simp⟩) (by assumption) ?_
      simp only [Act.put, List.setIfInBounds_toArray, List.set_cons_zero, List.set_cons_succ]
      refine takeH (i := 12) (some 165) (.bool true) rfl rfl (by kernel_rfl) (by kernel_rfl) (by kernel_rfl) (fun _ _ _ h => h) (Or.inl ⟨by rfl, fun w hSw => by (try dsimp only at hSw); go_simp⟩) (by assumption) ?_
      simp only [Act.put, List.setIfInBounds_toArray, List.set_cons_zero, List.set_cons_succ]
      refine takeH (i := 13) (some 166) (.bool true) rfl rfl (by kernel_rfl) (by kernel_rfl) (by kernel_rfl) (fun _ _ _ h => h) (Or.inl ⟨by rfl, fun w hSw => by (try dsimp only at hSw); go_simp⟩) (by assumption) ?_
      simp only [Act.put, List.setIfInBounds_toArray, List.set_cons_zero, List.set_cons_succ]
      refine takeH (i := 14) (some 167) (.pointer (some ⟨p9, 0, none⟩)) rfl rfl (by kernel_rfl) (by kernel_rfl) (by kernel_rfl) (fun _ _ _ h => h) (Or.inl ⟨by rfl, fun w hSw => by (try dsimp only at hSw); go_simp⟩) (by assumption) ?_
      simp only [Act.put, List.setIfInBounds_toArray, List.set_cons_zero, List.set_cons_succ]
      refine takeH (i := 15) (some 168) (.int .i64 (c8 + 1)) rfl rfl (by kernel_rfl) (by kernel_rfl) (by kernel_rfl) (fun _ _ _ h => h) (Or.inl ⟨by rfl, fun w hSw => by (try dsimp only at hSw); go_simp⟩) (by assumption) ?_
      simp only [Act.put, List.setIfInBounds_toArray, List.set_cons_zero, List.set_cons_succ]
      refine takeH (i := 16) (some 169) (.int .i64 (c8 + 1)) rfl rfl (by kernel_rfl) (by kernel_rfl) (by kernel_rfl) (fun _ _ _ h => h) (Or.inl ⟨by rfl, fun w hSw => by (try dsimp only at hSw); go_simp⟩) (by assumption) ?_
      simp only [Act.put, List.setIfInBounds_toArray, List.set_cons_zero, List.set_cons_succ]
      refine takeH (i := 17) (some 170) (.bool true) rfl rfl (by kernel_rfl) (by kernel_rfl) (by kernel_rfl) (fun _ _ _ h => h) (Or.inl ⟨by rfl, fun w hSw => by (try dsimp only at hSw); go_simp⟩) (by assumption) ?_
      simp only [Act.put, List.setIfInBounds_toArray, List.set_cons_zero, List.set_cons_succ]
      refine takeH (i := 18) (some 171) (.bool true) rfl rfl (by kernel_rfl) (by kernel_rfl) (by kernel_rfl) (fun _ _ _ h => h) (Or.inl ⟨by rfl, fun w hSw => by (try dsimp only at hSw); go_simp⟩) (by assumption) ?_
      simp only [Act.put, List.setIfInBounds_toArray, List.set_cons_zero, List.set_cons_succ]
      refine takeH (i := 19) (some 172) (.bool true) rfl rfl (by kernel_rfl) (by kernel_rfl) (by kernel_rfl) (fun _ _ _ h => h) (Or.inl ⟨by rfl, fun w hSw => by (try dsimp only at hSw); go_simp⟩) (by assumption) ?_
      simp only [Act.put, List.setIfInBounds_toArray, List.set_cons_zero, List.set_cons_succ]
      refine takeH (i := 20) (some 173) (.agg #[.int .i64 (c8 + 1), .slice a9 n9 cap9]) rfl rfl (by kernel_rfl) (by kernel_rfl) (by kernel_rfl) (fun _ _ _ h => h) (Or.inl ⟨by rfl, fun w hSw => by (try dsimp only at hSw); go_simp⟩) (by assumption) ?_
      simp only [Act.put, List.setIfInBounds_toArray, List.set_cons_zero, List.set_cons_succ]
      refine wpAnyH_ready (rs := [21]) (by kernel_rfl) (by simp) ?_
      refine AllReadyH.cons rfl (fun K hK => ?_) AllReadyH.nil
      go_simp
      refine (specOk (c8 + 1) _ wt WD.heap.size WD M9.sees (Nat.le_refl _)).mono ?_
      rintro e wn ⟨rfl, b⟩
      rw [hok']
      have M8 := M8.on b
      have M9 := M9.on b
      have bel := bel.trans (b.mono bel.size)
      go_simp
      refine hK.out _ _ ⟨M8.X.c0, M8.X.c1, M9.X.c0, M9.X.c1⟩ (fun hHeld' => ?_)
      clear hK K b
      refine takeH (i := 22) (some 175) (.bool true) rfl rfl (by kernel_rfl) (by kernel_rfl) (by kernel_rfl) (fun _ _ _ h => h) (Or.inl ⟨by rfl, fun w hSw => by (try dsimp only at hSw); go_simp⟩) (by assumption) ?_
      simp only [Act.put, List.setIfInBounds_toArray, List.set_cons_zero, List.set_cons_succ]
      refine takeH (i := 23) (some 176) (.bool true) rfl rfl (by kernel_rfl) (by kernel_rfl) (by kernel_rfl) (fun _ _ _ h => h) (Or.inl ⟨by rfl, fun w hSw => by (try dsimp only at hSw); go_simp⟩) (by assumption) ?_
      simp only [Act.put, List.setIfInBounds_toArray, List.set_cons_zero, List.set_cons_succ]
      refine takeH (i := 24) (some 177) (.agg #[.int .i64 (c8 + 1), .slice a9 n9 cap9]) rfl rfl (by kernel_rfl) (by kernel_rfl) (by kernel_rfl) (fun _ _ _ h => h) (Or.inl ⟨by rfl, fun w hSw => by (try dsimp only at hSw); go_simp⟩) (by assumption) ?_
      simp only [Act.put, List.setIfInBounds_toArray, List.set_cons_zero, List.set_cons_succ]
      refine takeH (i := 26) (some 179) (.agg #[.int .i64 c8, .slice a8 n8 cap8]) rfl rfl (by kernel_rfl) (by kernel_rfl) (by kernel_rfl) (fun _ _ _ h => h) (Or.inl ⟨by rfl, fun w hSw => by (try dsimp only at hSw); go_simp⟩) (by assumption) ?_
      simp only [Act.put, List.setIfInBounds_toArray, List.set_cons_zero, List.set_cons_succ]
      refine wpAnyH_ready (rs := [25]) (by kernel_rfl) (by simp) ?_
      refine AllReadyH.cons rfl (fun K hK => ?_) AllReadyH.nil
      go_simp
      refine (implValues (c8 + 1) _ wt wn.heap.size wn M9.sees (Nat.le_refl _)).mono ?_
      rintro e wm ⟨vm, rfl, Om, b⟩
      obtain ⟨am, capm, rfl⟩ := Om.form
      obtain ⟨lm, hlm⟩ : ∃ n, (values (c8 + 1) wt).length = n := ⟨_, rfl⟩
      rw [hlm] at Om ⊢
      have M8 := M8.on b; have M9 := M9.on b; have bel := bel.trans (b.mono bel.size)
      go_simp
      refine hK.out _ _ ⟨M8.X.c0, M8.X.c1, M9.X.c0, M9.X.c1⟩ (fun hHeld2 => ?_)
      clear hK K b
      refine wpAnyH_ready (rs := [27]) (by kernel_rfl) (by simp) ?_
      refine AllReadyH.cons rfl (fun K hK => ?_) AllReadyH.nil
      go_simp
      refine (implValues c8 _ wt wm.heap.size wm M8.sees (Nat.le_refl _)).mono ?_
      rintro e wk ⟨vk, rfl, Ok, b⟩
      obtain ⟨ak, capk, rfl⟩ := Ok.form
      obtain ⟨lk, hlk⟩ : ∃ n, (values (c8) wt).length = n := ⟨_, rfl⟩
      rw [hlk] at Ok ⊢
      have Om := Om.on b (Nat.le_refl _)
      have M8 := M8.on b; have M9 := M9.on b; have bel := bel.trans (b.mono bel.size)
      go_simp
      refine hK.out _ _ ⟨M8.X.c0, M8.X.c1, M9.X.c0, M9.X.c1⟩ (fun hHeld3 => ?_)
      clear hK K b
      rw [hvl] at Om
      refine wpAnyH_ready (rs := [28]) (by kernel_rfl) (by simp) ?_
      refine AllReadyH.cons rfl (fun K hK => ?_) AllReadyH.nil
      go_simp
      refine (Ints.sameIntsC _ _ (values c8 wt) wk.heap.size wk Om.sees Ok.sees (Nat.le_refl _)).mono ?_
      rintro e wl ⟨rfl, b⟩
      have M8 := M8.on b; have M9 := M9.on b; have bel := bel.trans (b.mono bel.size)
      go_simp
      refine hK.out _ _ ⟨M8.X.c0, M8.X.c1, M9.X.c0, M9.X.c1⟩ (fun hHeld4 => ?_)
      clear hK K b
      refine takeH (i := 29) (some 182) (.bool true) rfl rfl (by kernel_rfl) (by kernel_rfl) (by kernel_rfl) (fun _ _ _ h => h) (Or.inl ⟨by rfl, fun w hSw => by (try dsimp only at hSw); go_simp⟩) (by assumption) ?_
      simp only [Act.put, List.setIfInBounds_toArray, List.set_cons_zero, List.set_cons_succ]
      refine takeH (i := 30) (some 183) (.bool true) rfl rfl (by kernel_rfl) (by kernel_rfl) (by kernel_rfl) (fun _ _ _ h => h) (Or.inl ⟨by rfl, fun w hSw => by (try dsimp only at hSw); go_simp⟩) (by assumption) ?_
      simp only [Act.put, List.setIfInBounds_toArray, List.set_cons_zero, List.set_cons_succ]
      refine takeH (i := 31) (some 2) (.bool true) rfl rfl (by kernel_rfl) (by kernel_rfl) (by kernel_rfl) (fun _ _ _ h => h) (Or.inl ⟨by rfl, fun w hSw => by (try dsimp only at hSw); go_simp⟩) (by assumption) ?_
      simp only [Act.put, List.setIfInBounds_toArray, List.set_cons_zero, List.set_cons_succ]
      refine wpAnyH_done (by kernel_rfl) ?_ _
      go_wp2
      go_ret
      exact ⟨rfl, bel⟩
  · have HL := locked HQ.out
    obtain ⟨l1, l2, l3, l4, l5, l6, l7, l8, l9⟩ := HL
    have hlx : (lockTo c ws i who).length ≤ 8 := by rw [lockTo_length]; exact h8
    obtain ⟨wx, hwx⟩ : ∃ wx, lockTo c ws i who = wx := ⟨_, rfl⟩
    rw [hwx] at O M2 l1 l2 l3 l4 l5 l6 l7 l8 l9 hlx
    have hly : (storeTo c wx i who 77).length ≤ 8 := by rw [storeTo_length]; exact hlx
    obtain ⟨wy, hwy⟩ : ∃ wy, storeTo c wx i who 77 = wy := ⟨_, rfl⟩
    rw [hwy] at l5 l6 l7 l8 l9 hly
    have hlz : (unlockTo c wy i who c).length ≤ 8 := by rw [unlockTo_length]; exact hly
    obtain ⟨wz, hwz⟩ : ∃ wz, unlockTo c wy i who c = wz := ⟨_, rfl⟩
    rw [hwz] at l6 l7 l8 l9 hlz
    have L1 : Hid (memOk c wx = true) := l1; have L2 : Hid (lockMay c wx i who = false) := l2; have L3 : Hid (storeMay c wx i who 77 = true) := l3; have L4 : Hid (storeMay c wx i (who % 99 + 1) 5 = false) := l4; have L5 : Hid (unlockMay c wy i who c = true) := l5
    have L6 : Hid (memOk c wz = true) := l6; have L7 : Hid (valAt c wz i = 77) := l7; have L8 : Hid (verAt c wz i = c) := l8; have L9 : Hid (ownAt c wz i = 0) := l9
    have HY : Hid (storeTo c wx i who 77 = wy) := hwy; have HZ : Hid (unlockTo c wy i who c = wz) := hwz
    clear l1 l2 l3 l4 l5 l6 l7 l8 l9 hwx hwy hwz
    obtain ⟨a3, cap3, rfl⟩ := O.form
    obtain ⟨n3, hn3⟩ : ∃ n, (wx).length = n := ⟨_, rfl⟩
    rw [hn3] at O ⊢
    have Bn := alloc_below w3 (.cells #[.int .i64 (c), .slice a3 n3 cap3] 26)
    have bb := b.trans (Bn.mono b.size)
    have M1 := M1.on bb
    have M2 := M2.on bb
    have bel := bel.trans (bb.mono bel.size)
    have hE := hE.on bb (Nat.le_refl _)
    have M3 : MemV (w3.alloc (.cells #[.int .i64 (c), .slice a3 n3 cap3] 26)) w3.heap.size (c) (.slice a3 n3 cap3) (wx) := MemV.new O
    obtain ⟨W3, hW3⟩ : ∃ W, w3.alloc (.cells #[.int .i64 (c), .slice a3 n3 cap3] 26) = W := ⟨_, rfl⟩
    obtain ⟨p3, hp3⟩ : ∃ p, w3.heap.size = p := ⟨_, rfl⟩
    rw [hW3] at M1 M2 bel hE M3
    rw [hp3] at M3
    clear O b Bn bb
    have xM2 := M2.X.c0; have yM2 := M2.X.c1
    go_wp2_with fail
    clear hW3 hp3 xM2 yM2
    refine (specOk c _ wx W3.heap.size W3 M2.sees (Nat.le_refl _)).mono ?_
    rw [L1.out]
    rintro e w4 ⟨rfl, b⟩
    clear M3
    have M1 := M1.on b
    have M2 := M2.on b
    have bel := bel.trans (b.mono bel.size)
    have hE := hE.on b (Nat.le_refl _)
    clear b
    have xM2 := M2.X.c0; have yM2 := M2.X.c1
    go_wp2_with fail
    clear xM2 yM2
    refine (implLock c _ wx i who w4.heap.size w4 bE M2.sees (Nat.le_refl _) hE (by omega)).mono ?_
    rw [L2.out]
    rintro e w5 ⟨v5, rfl, O, b⟩
    obtain ⟨a5, cap5, rfl⟩ := O.form
    obtain ⟨n5, hn5⟩ : ∃ n, (lockTo c wx i who).length = n := ⟨_, rfl⟩
    rw [hn5] at O ⊢
    have Bn := alloc_below w5 (.cells #[.int .i64 (c), .slice a5 n5 cap5] 26)
    have bb := b.trans (Bn.mono b.size)
    have M1 := M1.on bb
    have M2 := M2.on bb
    have bel := bel.trans (bb.mono bel.size)
    have hE := hE.on bb (Nat.le_refl _)
    have M5 : MemV (w5.alloc (.cells #[.int .i64 (c), .slice a5 n5 cap5] 26)) w5.heap.size (c) (.slice a5 n5 cap5) (lockTo c wx i who) := MemV.new O
    obtain ⟨W5, hW5⟩ : ∃ W, w5.alloc (.cells #[.int .i64 (c), .slice a5 n5 cap5] 26) = W := ⟨_, rfl⟩
    obtain ⟨p5, hp5⟩ : ∃ p, w5.heap.size = p := ⟨_, rfl⟩
    rw [hW5] at M1 M2 bel hE M5
    rw [hp5] at M5
    clear O b Bn bb
    have xM2 := M2.X.c0; have yM2 := M2.X.c1
    go_wp2_with fail
    clear hW5 hp5 xM2 yM2
    clear M5
    refine (implStore c _ wx i who 77 W5.heap.size W5 bE M2.sees (Nat.le_refl _) hE (by omega)).mono ?_
    rw [L3.out, HY.out]
    rintro e w6 ⟨v6, rfl, O, b⟩
    obtain ⟨a6, cap6, rfl⟩ := O.form
    obtain ⟨n6, hn6⟩ : ∃ n, (wy).length = n := ⟨_, rfl⟩
    rw [hn6] at O ⊢
    have Bn := alloc_below w6 (.cells #[.int .i64 (c), .slice a6 n6 cap6] 26)
    have bb := b.trans (Bn.mono b.size)
    have M1 := M1.on bb
    have M2 := M2.on bb
    have bel := bel.trans (bb.mono bel.size)
    have hE := hE.on bb (Nat.le_refl _)
    have M6 : MemV (w6.alloc (.cells #[.int .i64 (c), .slice a6 n6 cap6] 26)) w6.heap.size (c) (.slice a6 n6 cap6) (wy) := MemV.new O
    obtain ⟨W6, hW6⟩ : ∃ W, w6.alloc (.cells #[.int .i64 (c), .slice a6 n6 cap6] 26) = W := ⟨_, rfl⟩
    obtain ⟨p6, hp6⟩ : ∃ p, w6.heap.size = p := ⟨_, rfl⟩
    rw [hW6] at M1 M2 bel hE M6
    rw [hp6] at M6
    clear O b Bn bb
    have xM6 := M6.X.c0; have yM6 := M6.X.c1
    go_wp2_with fail
    clear hW6 hp6 xM6 yM6
    refine (implUnlock c _ wy i who c W6.heap.size W6 bE M6.sees (Nat.le_refl _) hE (by omega)).mono ?_
    rw [L5.out, HZ.out]
    rintro e w7 ⟨v7, rfl, O, b⟩
    clear M6
    obtain ⟨a7, cap7, rfl⟩ := O.form
    obtain ⟨n7, hn7⟩ : ∃ n, (wz).length = n := ⟨_, rfl⟩
    rw [hn7] at O ⊢
    have Bn := alloc_below w7 (.cells #[.int .i64 (c), .slice a7 n7 cap7] 26)
    have bb := b.trans (Bn.mono b.size)
    have M1 := M1.on bb
    have M2 := M2.on bb
    have bel := bel.trans (bb.mono bel.size)
    have hE := hE.on bb (Nat.le_refl _)
    have M7 : MemV (w7.alloc (.cells #[.int .i64 (c), .slice a7 n7 cap7] 26)) w7.heap.size (c) (.slice a7 n7 cap7) (wz) := MemV.new O
    obtain ⟨W7, hW7⟩ : ∃ W, w7.alloc (.cells #[.int .i64 (c), .slice a7 n7 cap7] 26) = W := ⟨_, rfl⟩
    obtain ⟨p7, hp7⟩ : ∃ p, w7.heap.size = p := ⟨_, rfl⟩
    rw [hW7] at M1 M2 bel hE M7
    rw [hp7] at M7
    clear O b Bn bb
    have xM2 := M2.X.c0; have yM2 := M2.X.c1
    go_wp2_with fail
    clear hW7 hp7 xM2 yM2
    refine (implStore c _ wx i (who % 99 + 1) 5 W7.heap.size W7 bE M2.sees (Nat.le_refl _) hE (by omega)).mono ?_
    rw [L4.out]
    rintro e wa ⟨va, rfl, O, b⟩
    clear M2
    obtain ⟨aa, capa, rfl⟩ := O.form
    obtain ⟨na, hna⟩ : ∃ n, (storeTo c wx i (who % 99 + 1) 5).length = n := ⟨_, rfl⟩
    rw [hna] at O ⊢
    have Bn := alloc_below wa (.cells #[.int .i64 (c), .slice aa na capa] 26)
    have bb := b.trans (Bn.mono b.size)
    have M1 := M1.on bb
    have M7 := M7.on bb
    have bel := bel.trans (bb.mono bel.size)
    have hE := hE.on bb (Nat.le_refl _)
    have Ma : MemV (wa.alloc (.cells #[.int .i64 (c), .slice aa na capa] 26)) wa.heap.size (c) (.slice aa na capa) (storeTo c wx i (who % 99 + 1) 5) := MemV.new O
    obtain ⟨Wa, hWa⟩ : ∃ W, wa.alloc (.cells #[.int .i64 (c), .slice aa na capa] 26) = W := ⟨_, rfl⟩
    obtain ⟨pa, hpa⟩ : ∃ p, wa.heap.size = p := ⟨_, rfl⟩
    rw [hWa] at M1 M7 bel hE Ma
    rw [hpa] at Ma
    clear O b Bn bb
    have xM7 := M7.X.c0; have yM7 := M7.X.c1
    go_wp2_with fail
    clear hWa hpa xM7 yM7
    clear Ma
    refine (implLoadVal c _ wz i Wa.heap.size Wa bE M7.sees (Nat.le_refl _) hE).mono ?_
    rw [L7.out]
    rintro e wb ⟨rfl, b⟩
    have M1 := M1.on b
    have M7 := M7.on b
    have bel := bel.trans (b.mono bel.size)
    have hE := hE.on b (Nat.le_refl _)
    clear b
    have xM7 := M7.X.c0; have yM7 := M7.X.c1
    go_wp2_with fail
    clear xM7 yM7
    refine (implLoadLock c _ wz i wb.heap.size wb bE M7.sees (Nat.le_refl _) hE).mono ?_
    rw [L8.out, L9.out]
    rintro e wc ⟨rfl, b⟩
    have M1 := M1.on b
    have M7 := M7.on b
    have bel := bel.trans (b.mono bel.size)
    have hE := hE.on b (Nat.le_refl _)
    clear b
    have xM1 := M1.X.c0; have yM1 := M1.X.c1
    have xM7 := M7.X.c0; have yM7 := M7.X.c1
    go_wp2_with fail
    clear xM1 yM1 xM7 yM7
    refine (specOk c _ wz wc.heap.size wc M7.sees (Nat.le_refl _)).mono ?_
    rw [L6.out]
    rintro e wd ⟨rfl, b⟩
    have bel := bel.trans (b.mono bel.size)
    have hE := hE.on b (Nat.le_refl _)
    clear b
    clear M1 M7
    go_wp2_with fail
    have hC8 := hC.below bel
    refine (drawTickC w.heap.size _ l _ hC8 bel.size hl).mono ?_
    rintro e w8 ⟨c8, v8, wt, rfl, O, h8', c80, c81, b⟩
    obtain ⟨a8, cap8, rfl⟩ := O.form
    obtain ⟨n8, hn8⟩ : ∃ n, (wt).length = n := ⟨_, rfl⟩
    rw [hn8] at O ⊢
    have Bn := alloc_below w8 (.cells #[.int .i64 (c8), .slice a8 n8 cap8] 26)
    have bb := b.trans (Bn.mono b.size)
    have bel := bel.trans (bb.mono bel.size)
    have hE := hE.on bb (Nat.le_refl _)
    have M8 : MemV (w8.alloc (.cells #[.int .i64 (c8), .slice a8 n8 cap8] 26)) w8.heap.size (c8) (.slice a8 n8 cap8) (wt) := MemV.new O
    obtain ⟨W8, hW8⟩ : ∃ W, w8.alloc (.cells #[.int .i64 (c8), .slice a8 n8 cap8] 26) = W := ⟨_, rfl⟩
    obtain ⟨p8, hp8⟩ : ∃ p, w8.heap.size = p := ⟨_, rfl⟩
    rw [hW8] at  bel hE M8
    rw [hp8] at M8
    clear O b Bn bb
    have xM8 := M8.X.c0; have yM8 := M8.X.c1
    go_wp2_with fail
    clear hW8 hp8 xM8 yM8
    refine (implTick c8 _ wt W8.heap.size W8 M8.sees (Nat.le_refl _) (by omega)).mono ?_
    rintro e w9 ⟨v9, rfl, O, b⟩
    have hcs := tick_cases c8 wt
    obtain ⟨ct, hct⟩ : ∃ ct, tickC c8 wt = ct := ⟨_, rfl⟩
    obtain ⟨rt, hrt⟩ : ∃ rt, tickR c8 wt = rt := ⟨_, rfl⟩
    rw [hct, hrt] at hcs
    rw [hct, hrt]
    clear hct hrt
    obtain ⟨a9, cap9, rfl⟩ := O.form
    obtain ⟨n9, hn9⟩ : ∃ n, (wt).length = n := ⟨_, rfl⟩
    rw [hn9] at O ⊢
    have Bn := alloc_below w9 (.cells #[.int .i64 (ct), .slice a9 n9 cap9] 26)
    have bb := b.trans (Bn.mono b.size)
    have M8 := M8.on bb
    have bel := bel.trans (bb.mono bel.size)
    have hE := hE.on bb (Nat.le_refl _)
    have M9 : MemV (w9.alloc (.cells #[.int .i64 (ct), .slice a9 n9 cap9] 26)) w9.heap.size (ct) (.slice a9 n9 cap9) (wt) := MemV.new O
    obtain ⟨W9, hW9⟩ : ∃ W, w9.alloc (.cells #[.int .i64 (ct), .slice a9 n9 cap9] 26) = W := ⟨_, rfl⟩
    obtain ⟨p9, hp9⟩ : ∃ p, w9.heap.size = p := ⟨_, rfl⟩
    rw [hW9] at M8 bel hE M9
    rw [hp9] at M9
    clear O b Bn bb
    have xM8 := M8.X.c0; have yM8 := M8.X.c1; have xM9 := M9.X.c0; have yM9 := M9.X.c1
    rcases (show (c8 = ct ∧ 0 = rt) ∨ (memOk c8 wt = true ∧ 0 ≤ c8 ∧ c8 < 1000000 ∧ c8 + 1 = ct ∧ c8 + 1 = rt) from hcs.elim (fun h => .inl ⟨h.2.1.symm, h.2.2.symm⟩) (fun h => h.elim (fun h => .inl ⟨h.2.2.1.symm, h.2.2.2.symm⟩) (fun h => .inr ⟨h.1, h.2.1, h.2.2.1, h.2.2.2.1.symm, h.2.2.2.2.symm⟩))) with ⟨rfl, rfl⟩ | ⟨hok, k0, k1, rfl, rfl⟩
    · go_wp2_with fail
      clear hW9 hp9
      refine wp_region_held_drew (S := fun W => W.cell? ⟨p8, 0, none⟩ = some (.int .i64 c8) ∧ W.cell? ⟨p8, 1, none⟩ = some (.slice a8 n8 cap8) ∧ W.cell? ⟨p9, 0, none⟩ = some (.int .i64 (c8)) ∧ W.cell? ⟨p9, 1, none⟩ = some (.slice a9 n9 cap9)) (by kernel_rfl) ⟨xM8, yM8, xM9, yM9⟩ (fun hHeld => ?_)
      clear xM8 yM8 xM9 yM9
      have M8 := M8.drew; have M9 := M9.drew; have bel := bel.drew; have hE := hE.drew
      obtain ⟨WD, hWD⟩ : ∃ WD, W9.drew = WD := ⟨_, rfl⟩
      rw [hWD] at M8 M9 bel hE hHeld ⊢
      clear hWD
      refine takeH (i := 0) (some 153) (.int .i64 0) rfl rfl (by kernel_rfl) (by kernel_rfl) (by kernel_rfl) (fun _ _ _ h => h) (Or.inl ⟨by rfl, fun w hSw => by (try dsimp only at hSw); go_simp⟩) (by assumption) ?_
      simp only [Act.put, List.setIfInBounds_toArray, List.set_cons_zero, List.set_cons_succ]
      refine takeH (i := 1) (some 154) (.bool true) rfl rfl (by kernel_rfl) (by kernel_rfl) (by kernel_rfl) (fun _ _ _ h => h) (Or.inl ⟨by rfl, fun w hSw => by (try dsimp only at hSw); go_simp⟩) (by assumption) ?_
      simp only [Act.put, List.setIfInBounds_toArray, List.set_cons_zero, List.set_cons_succ]
      refine takeH (i := 2) (some 155) (.bool true) rfl rfl (by kernel_rfl) (by kernel_rfl) (by kernel_rfl) (fun _ _ _ h => h) (Or.inl ⟨by rfl, fun w hSw => by (try dsimp only at hSw); go_simp⟩) (by assumption) ?_
      simp only [Act.put, List.setIfInBounds_toArray, List.set_cons_zero, List.set_cons_succ]
      refine takeH (i := 3) (some 156) (.agg #[.int .i64 (c8), .slice a9 n9 cap9]) rfl rfl (by kernel_rfl) (by kernel_rfl) (by kernel_rfl) (fun _ _ _ h => h) (Or.inl ⟨by rfl, fun w hSw => by (try dsimp only at hSw); go_simp⟩) (by assumption) ?_
      simp only [Act.put, List.setIfInBounds_toArray, List.set_cons_zero, List.set_cons_succ]
      refine takeH (i := 4) (some 157) (.agg #[.int .i64 c8, .slice a8 n8 cap8]) rfl rfl (by kernel_rfl) (by kernel_rfl) (by kernel_rfl) (fun _ _ _ h => h) (Or.inl ⟨by rfl, fun w hSw => by (try dsimp only at hSw); go_simp⟩) (by assumption) ?_
      simp only [Act.put, List.setIfInBounds_toArray, List.set_cons_zero, List.set_cons_succ]
      refine wpAnyH_ready (rs := [5]) (by kernel_rfl) (by simp) ?_
      refine AllReadyH.cons rfl (fun K hK => ?_) AllReadyH.nil
      go_simp
      refine (sameMemC c8 _ _ wt WD.heap.size WD M9.sees M8.sees (Nat.le_refl _)).mono ?_
      rintro e wn ⟨rfl, b⟩
      have M8 := M8.on b
      have M9 := M9.on b
      have bel := bel.trans (b.mono bel.size)
      go_simp
      refine hK.out _ _ ⟨M8.X.c0, M8.X.c1, M9.X.c0, M9.X.c1⟩ (fun hHeld' => ?_)
      clear hK K b
      refine takeH (i := 6) (some 159) (.bool true) rfl rfl (by kernel_rfl) (by kernel_rfl) (by kernel_rfl) (fun _ _ _ h => h) (Or.inl ⟨by rfl, fun w hSw => by (try dsimp only at hSw); go_simp⟩) (by assumption) ?_
      simp only [Act.put, List.setIfInBounds_toArray, List.set_cons_zero, List.set_cons_succ]
      refine takeH (i := 7) (some 160) (.bool true) rfl rfl (by kernel_rfl) (by kernel_rfl) (by kernel_rfl) (fun _ _ _ h => h) (Or.inl ⟨by rfl, fun w hSw => by (try dsimp only at hSw); go_simp⟩) (by assumption) ?_
      simp only [Act.put, List.setIfInBounds_toArray, List.set_cons_zero, List.set_cons_succ]
      refine takeH (i := 8) (some 161) undef rfl rfl (by kernel_rfl) (by kernel_rfl) (by kernel_rfl) (fun _ _ _ h => h) (Or.inr ⟨by rfl, rfl⟩) (by assumption) ?_
      simp only [Act.put, List.setIfInBounds_toArray, List.set_cons_zero, List.set_cons_succ]
      refine takeH (i := 9) (some 162) undef rfl rfl (by kernel_rfl) (by kernel_rfl) (by kernel_rfl) (fun _ _ _ h => h) (Or.inr ⟨by rfl, rfl⟩) (by assumption) ?_
      simp only [Act.put, List.setIfInBounds_toArray, List.set_cons_zero, List.set_cons_succ]
      refine takeH (i := 10) (some 163) undef rfl rfl (by kernel_rfl) (by kernel_rfl) (by kernel_rfl) (fun _ _ _ h => h) (Or.inr ⟨by rfl, rfl⟩) (by assumption) ?_
      simp only [Act.put, List.setIfInBounds_toArray, List.set_cons_zero, List.set_cons_succ]
      refine takeH (i := 11) (some 164) undef rfl rfl (by kernel_rfl) (by kernel_rfl) (by kernel_rfl) (fun _ _ _ h => h) (Or.inr ⟨by rfl, rfl⟩) (by assumption) ?_
      simp only [Act.put, List.setIfInBounds_toArray, List.set_cons_zero, List.set_cons_succ]
      refine takeH (i := 12) (some 165) undef rfl rfl (by kernel_rfl) (by kernel_rfl) (by kernel_rfl) (fun _ _ _ h => h) (Or.inr ⟨by rfl, rfl⟩) (by assumption) ?_
      simp only [Act.put, List.setIfInBounds_toArray, List.set_cons_zero, List.set_cons_succ]
      refine takeH (i := 13) (some 166) undef rfl rfl (by kernel_rfl) (by kernel_rfl) (by kernel_rfl) (fun _ _ _ h => h) (Or.inr ⟨by rfl, rfl⟩) (by assumption) ?_
      simp only [Act.put, List.setIfInBounds_toArray, List.set_cons_zero, List.set_cons_succ]
      refine takeH (i := 14) (some 167) undef rfl rfl (by kernel_rfl) (by kernel_rfl) (by kernel_rfl) (fun _ _ _ h => h) (Or.inr ⟨by rfl, rfl⟩) (by assumption) ?_
      simp only [Act.put, List.setIfInBounds_toArray, List.set_cons_zero, List.set_cons_succ]
      refine takeH (i := 15) (some 168) undef rfl rfl (by kernel_rfl) (by kernel_rfl) (by kernel_rfl) (fun _ _ _ h => h) (Or.inr ⟨by rfl, rfl⟩) (by assumption) ?_
      simp only [Act.put, List.setIfInBounds_toArray, List.set_cons_zero, List.set_cons_succ]
      refine takeH (i := 16) (some 169) undef rfl rfl (by kernel_rfl) (by kernel_rfl) (by kernel_rfl) (fun _ _ _ h => h) (Or.inr ⟨by rfl, rfl⟩) (by assumption) ?_
      simp only [Act.put, List.setIfInBounds_toArray, List.set_cons_zero, List.set_cons_succ]
      refine takeH (i := 17) (some 170) undef rfl rfl (by kernel_rfl) (by kernel_rfl) (by kernel_rfl) (fun _ _ _ h => h) (Or.inr ⟨by rfl, rfl⟩) (by assumption) ?_
      simp only [Act.put, List.setIfInBounds_toArray, List.set_cons_zero, List.set_cons_succ]
      refine takeH (i := 18) (some 171) undef rfl rfl (by kernel_rfl) (by kernel_rfl) (by kernel_rfl) (fun _ _ _ h => h) (Or.inr ⟨by rfl, rfl⟩) (by assumption) ?_
      simp only [Act.put, List.setIfInBounds_toArray, List.set_cons_zero, List.set_cons_succ]
      refine takeH (i := 19) (some 172) undef rfl rfl (by kernel_rfl) (by kernel_rfl) (by kernel_rfl) (fun _ _ _ h => h) (Or.inr ⟨by rfl, rfl⟩) (by assumption) ?_
      simp only [Act.put, List.setIfInBounds_toArray, List.set_cons_zero, List.set_cons_succ]
      refine takeH (i := 20) (some 173) undef rfl rfl (by kernel_rfl) (by kernel_rfl) (by kernel_rfl) (fun _ _ _ h => h) (Or.inr ⟨by rfl, rfl⟩) (by assumption) ?_
      simp only [Act.put, List.setIfInBounds_toArray, List.set_cons_zero, List.set_cons_succ]
      refine takeH (i := 21) (some 174) undef rfl rfl (by kernel_rfl) (by kernel_rfl) (by kernel_rfl) (fun _ _ _ h => h) (Or.inr ⟨by rfl, rfl⟩) (by assumption) ?_
      simp only [Act.put, List.setIfInBounds_toArray, List.set_cons_zero, List.set_cons_succ]
      refine takeH (i := 22) (some 175) undef rfl rfl (by kernel_rfl) (by kernel_rfl) (by kernel_rfl) (fun _ _ _ h => h) (Or.inr ⟨by rfl, rfl⟩) (by assumption) ?_
      simp only [Act.put, List.setIfInBounds_toArray, List.set_cons_zero, List.set_cons_succ]
      refine takeH (i := 23) (some 176) undef rfl rfl (by kernel_rfl) (by kernel_rfl) (by kernel_rfl) (fun _ _ _ h => h) (Or.inr ⟨by rfl, rfl⟩) (by assumption) ?_
      simp only [Act.put, List.setIfInBounds_toArray, List.set_cons_zero, List.set_cons_succ]
      refine takeH (i := 24) (some 177) undef rfl rfl (by kernel_rfl) (by kernel_rfl) (by kernel_rfl) (fun _ _ _ h => h) (Or.inr ⟨by rfl, rfl⟩) (by assumption) ?_
      simp only [Act.put, List.setIfInBounds_toArray, List.set_cons_zero, List.set_cons_succ]
      refine takeH (i := 25) (some 178) undef rfl rfl (by kernel_rfl) (by kernel_rfl) (by kernel_rfl) (fun _ _ _ h => h) (Or.inr ⟨by rfl, rfl⟩) (by assumption) ?_
      simp only [Act.put, List.setIfInBounds_toArray, List.set_cons_zero, List.set_cons_succ]
      refine takeH (i := 26) (some 179) undef rfl rfl (by kernel_rfl) (by kernel_rfl) (by kernel_rfl) (fun _ _ _ h => h) (Or.inr ⟨by rfl, rfl⟩) (by assumption) ?_
      simp only [Act.put, List.setIfInBounds_toArray, List.set_cons_zero, List.set_cons_succ]
      refine takeH (i := 27) (some 180) undef rfl rfl (by kernel_rfl) (by kernel_rfl) (by kernel_rfl) (fun _ _ _ h => h) (Or.inr ⟨by rfl, rfl⟩) (by assumption) ?_
      simp only [Act.put, List.setIfInBounds_toArray, List.set_cons_zero, List.set_cons_succ]
      refine takeH (i := 28) (some 181) undef rfl rfl (by kernel_rfl) (by kernel_rfl) (by kernel_rfl) (fun _ _ _ h => h) (Or.inr ⟨by rfl, rfl⟩) (by assumption) ?_
      simp only [Act.put, List.setIfInBounds_toArray, List.set_cons_zero, List.set_cons_succ]
      refine takeH (i := 29) (some 182) undef rfl rfl (by kernel_rfl) (by kernel_rfl) (by kernel_rfl) (fun _ _ _ h => h) (Or.inr ⟨by rfl, rfl⟩) (by assumption) ?_
      simp only [Act.put, List.setIfInBounds_toArray, List.set_cons_zero, List.set_cons_succ]
      refine takeH (i := 30) (some 183) (.bool true) rfl rfl (by kernel_rfl) (by kernel_rfl) (by kernel_rfl) (fun _ _ _ h => h) (Or.inl ⟨by rfl, fun w hSw => by (try dsimp only at hSw); go_simp⟩) (by assumption) ?_
      simp only [Act.put, List.setIfInBounds_toArray, List.set_cons_zero, List.set_cons_succ]
      refine takeH (i := 31) (some 2) (.bool true) rfl rfl (by kernel_rfl) (by kernel_rfl) (by kernel_rfl) (fun _ _ _ h => h) (Or.inl ⟨by rfl, fun w hSw => by (try dsimp only at hSw); go_simp⟩) (by assumption) ?_
      simp only [Act.put, List.setIfInBounds_toArray, List.set_cons_zero, List.set_cons_succ]
      refine wpAnyH_done (by kernel_rfl) ?_ _
      go_wp2
      go_ret
      exact ⟨rfl, bel⟩
    · have d0 : (c8 + 1 == 0) = false := by simp; omega
      have dw : IntKind.i64.wrap (c8 + 1) = c8 + 1 := by rw [IntKind.wrap_i64]; omega
      have hok' := tick_ok hok k1
      have hvl := tick_values hok k1
      go_wp2_with fail
      clear hW9 hp9
      refine wp_region_held_drew (S := fun W => W.cell? ⟨p8, 0, none⟩ = some (.int .i64 c8) ∧ W.cell? ⟨p8, 1, none⟩ = some (.slice a8 n8 cap8) ∧ W.cell? ⟨p9, 0, none⟩ = some (.int .i64 (c8 + 1)) ∧ W.cell? ⟨p9, 1, none⟩ = some (.slice a9 n9 cap9)) (by kernel_rfl) ⟨xM8, yM8, xM9, yM9⟩ (fun hHeld => ?_)
      clear xM8 yM8 xM9 yM9
      have M8 := M8.drew; have M9 := M9.drew; have bel := bel.drew; have hE := hE.drew
      obtain ⟨WD, hWD⟩ : ∃ WD, W9.drew = WD := ⟨_, rfl⟩
      rw [hWD] at M8 M9 bel hE hHeld ⊢
      clear hWD
      refine takeH (i := 0) (some 153) (.int .i64 (c8 + 1)) rfl rfl (by kernel_rfl) (by kernel_rfl) (by kernel_rfl) (fun _ _ _ h => h) (Or.inl ⟨by rfl, fun w hSw => by (try dsimp only at hSw); go_simp⟩) (by assumption) ?_
      simp only [Act.put, List.setIfInBounds_toArray, List.set_cons_zero, List.set_cons_succ]
      refine takeH (i := 1) (some 154) (.bool false) rfl rfl (by kernel_rfl) (by kernel_rfl) (by kernel_rfl) (fun _ _ _ h => h) (Or.inl ⟨by rfl, fun w hSw => by (try dsimp only at hSw); go_simp⟩) (by assumption) ?_
      simp only [Act.put, List.setIfInBounds_toArray, List.set_cons_zero, List.set_cons_succ]
      refine takeH (i := 2) (some 155) (.bool false) rfl rfl (by kernel_rfl) (by kernel_rfl) (by kernel_rfl) (fun _ _ _ h => h) (Or.inl ⟨by rfl, fun w hSw => by (try dsimp only at hSw); go_simp⟩) (by assumption) ?_
      simp only [Act.put, List.setIfInBounds_toArray, List.set_cons_zero, List.set_cons_succ]
      refine takeH (i := 3) (some 156) undef rfl rfl (by kernel_rfl) (by kernel_rfl) (by kernel_rfl) (fun _ _ _ h => h) (Or.inr ⟨by rfl, rfl⟩) (by assumption) ?_
      simp only [Act.put, List.setIfInBounds_toArray, List.set_cons_zero, List.set_cons_succ]
      refine takeH (i := 4) (some 157) undef rfl rfl (by kernel_rfl) (by kernel_rfl) (by kernel_rfl) (fun _ _ _ h => h) (Or.inr ⟨by rfl, rfl⟩) (by assumption) ?_
      simp only [Act.put, List.setIfInBounds_toArray, List.set_cons_zero, List.set_cons_succ]
      refine takeH (i := 5) (some 158) undef rfl rfl (by kernel_rfl) (by kernel_rfl) (by kernel_rfl) (fun _ _ _ h => h) (Or.inr ⟨by rfl, rfl⟩) (by assumption) ?_
      simp only [Act.put, List.setIfInBounds_toArray, List.set_cons_zero, List.set_cons_succ]
      refine takeH (i := 6) (some 159) (.bool false) rfl rfl (by kernel_rfl) (by kernel_rfl) (by kernel_rfl) (fun _ _ _ h => h) (Or.inl ⟨by rfl, fun w hSw => by (try dsimp only at hSw); go_simp⟩) (by assumption) ?_
      simp only [Act.put, List.setIfInBounds_toArray, List.set_cons_zero, List.set_cons_succ]
      refine takeH (i := 7) (some 160) (.bool false) rfl rfl (by kernel_rfl) (by kernel_rfl) (by kernel_rfl) (fun _ _ _ h => h) (Or.inl ⟨by rfl, fun w hSw => by (try dsimp only at hSw); go_simp⟩) (by assumption) ?_
      simp only [Act.put, List.setIfInBounds_toArray, List.set_cons_zero, List.set_cons_succ]
      refine takeH (i := 8) (some 161) (.int .i64 (c8 + 1)) rfl rfl (by kernel_rfl) (by kernel_rfl) (by kernel_rfl) (fun _ _ _ h => h) (Or.inl ⟨by rfl, fun w hSw => by (try dsimp only at hSw); go_simp⟩) (by assumption) ?_
      simp only [Act.put, List.setIfInBounds_toArray, List.set_cons_zero, List.set_cons_succ]
      refine takeH (i := 9) (some 162) (.pointer (some ⟨p8, 0, none⟩)) rfl rfl (by kernel_rfl) (by kernel_rfl) (by kernel_rfl) (fun _ _ _ h => h) (Or.inl ⟨by rfl, fun w hSw => by (try dsimp only at hSw); go_simp⟩) (by assumption) ?_
      simp only [Act.put, List.setIfInBounds_toArray, List.set_cons_zero, List.set_cons_succ]
      refine takeH (i := 10) (some 163) (.int .i64 c8) rfl rfl (by kernel_rfl) (by kernel_rfl) (by kernel_rfl) (fun _ _ _ h => h) (Or.inl ⟨by rfl, fun w hSw => by (try dsimp only at hSw); go_simp⟩) (by assumption) ?_
      simp only [Act.put, List.setIfInBounds_toArray, List.set_cons_zero, List.set_cons_succ]
      refine takeH (i := 11) (some 164) (.int .i64 (c8 + 1)) rfl rfl (by kernel_rfl) (by kernel_rfl) (by kernel_rfl) (fun _ _ _ h => h) (Or.inl ⟨by rfl, fun w hSw => by (try dsimp only at hSw); go_simp⟩) (by assumption) ?_
      simp only [Act.put, List.setIfInBounds_toArray, List.set_cons_zero, List.set_cons_succ]
      refine takeH (i := 12) (some 165) (.bool true) rfl rfl (by kernel_rfl) (by kernel_rfl) (by kernel_rfl) (fun _ _ _ h => h) (Or.inl ⟨by rfl, fun w hSw => by (try dsimp only at hSw); go_simp⟩) (by assumption) ?_
      simp only [Act.put, List.setIfInBounds_toArray, List.set_cons_zero, List.set_cons_succ]
      refine takeH (i := 13) (some 166) (.bool true) rfl rfl (by kernel_rfl) (by kernel_rfl) (by kernel_rfl) (fun _ _ _ h => h) (Or.inl ⟨by rfl, fun w hSw => by (try dsimp only at hSw); go_simp⟩) (by assumption) ?_
      simp only [Act.put, List.setIfInBounds_toArray, List.set_cons_zero, List.set_cons_succ]
      refine takeH (i := 14) (some 167) (.pointer (some ⟨p9, 0, none⟩)) rfl rfl (by kernel_rfl) (by kernel_rfl) (by kernel_rfl) (fun _ _ _ h => h) (Or.inl ⟨by rfl, fun w hSw => by (try dsimp only at hSw); go_simp⟩) (by assumption) ?_
      simp only [Act.put, List.setIfInBounds_toArray, List.set_cons_zero, List.set_cons_succ]
      refine takeH (i := 15) (some 168) (.int .i64 (c8 + 1)) rfl rfl (by kernel_rfl) (by kernel_rfl) (by kernel_rfl) (fun _ _ _ h => h) (Or.inl ⟨by rfl, fun w hSw => by (try dsimp only at hSw); go_simp⟩) (by assumption) ?_
      simp only [Act.put, List.setIfInBounds_toArray, List.set_cons_zero, List.set_cons_succ]
      refine takeH (i := 16) (some 169) (.int .i64 (c8 + 1)) rfl rfl (by kernel_rfl) (by kernel_rfl) (by kernel_rfl) (fun _ _ _ h => h) (Or.inl ⟨by rfl, fun w hSw => by (try dsimp only at hSw); go_simp⟩) (by assumption) ?_
      simp only [Act.put, List.setIfInBounds_toArray, List.set_cons_zero, List.set_cons_succ]
      refine takeH (i := 17) (some 170) (.bool true) rfl rfl (by kernel_rfl) (by kernel_rfl) (by kernel_rfl) (fun _ _ _ h => h) (Or.inl ⟨by rfl, fun w hSw => by (try dsimp only at hSw); go_simp⟩) (by assumption) ?_
      simp only [Act.put, List.setIfInBounds_toArray, List.set_cons_zero, List.set_cons_succ]
      refine takeH (i := 18) (some 171) (.bool true) rfl rfl (by kernel_rfl) (by kernel_rfl) (by kernel_rfl) (fun _ _ _ h => h) (Or.inl ⟨by rfl, fun w hSw => by (try dsimp only at hSw); go_simp⟩) (by assumption) ?_
      simp only [Act.put, List.setIfInBounds_toArray, List.set_cons_zero, List.set_cons_succ]
      refine takeH (i := 19) (some 172) (.bool true) rfl rfl (by kernel_rfl) (by kernel_rfl) (by kernel_rfl) (fun _ _ _ h => h) (Or.inl ⟨by rfl, fun w hSw => by (try dsimp only at hSw); go_simp⟩) (by assumption) ?_
      simp only [Act.put, List.setIfInBounds_toArray, List.set_cons_zero, List.set_cons_succ]
      refine takeH (i := 20) (some 173) (.agg #[.int .i64 (c8 + 1), .slice a9 n9 cap9]) rfl rfl (by kernel_rfl) (by kernel_rfl) (by kernel_rfl) (fun _ _ _ h => h) (Or.inl ⟨by rfl, fun w hSw => by (try dsimp only at hSw); go_simp⟩) (by assumption) ?_
      simp only [Act.put, List.setIfInBounds_toArray, List.set_cons_zero, List.set_cons_succ]
      refine wpAnyH_ready (rs := [21]) (by kernel_rfl) (by simp) ?_
      refine AllReadyH.cons rfl (fun K hK => ?_) AllReadyH.nil
      go_simp
      refine (specOk (c8 + 1) _ wt WD.heap.size WD M9.sees (Nat.le_refl _)).mono ?_
      rintro e wn ⟨rfl, b⟩
      rw [hok']
      have M8 := M8.on b
      have M9 := M9.on b
      have bel := bel.trans (b.mono bel.size)
      go_simp
      refine hK.out _ _ ⟨M8.X.c0, M8.X.c1, M9.X.c0, M9.X.c1⟩ (fun hHeld' => ?_)
      clear hK K b
      refine takeH (i := 22) (some 175) (.bool true) rfl rfl (by kernel_rfl) (by kernel_rfl) (by kernel_rfl) (fun _ _ _ h => h) (Or.inl ⟨by rfl, fun w hSw => by (try dsimp only at hSw); go_simp⟩) (by assumption) ?_
      simp only [Act.put, List.setIfInBounds_toArray, List.set_cons_zero, List.set_cons_succ]
      refine takeH (i := 23) (some 176) (.bool true) rfl rfl (by kernel_rfl) (by kernel_rfl) (by kernel_rfl) (fun _ _ _ h => h) (Or.inl ⟨by rfl, fun w hSw => by (try dsimp only at hSw); go_simp⟩) (by assumption) ?_
      simp only [Act.put, List.setIfInBounds_toArray, List.set_cons_zero, List.set_cons_succ]
      refine takeH (i := 24) (some 177) (.agg #[.int .i64 (c8 + 1), .slice a9 n9 cap9]) rfl rfl (by kernel_rfl) (by kernel_rfl) (by kernel_rfl) (fun _ _ _ h => h) (Or.inl ⟨by rfl, fun w hSw => by (try dsimp only at hSw); go_simp⟩) (by assumption) ?_
      simp only [Act.put, List.setIfInBounds_toArray, List.set_cons_zero, List.set_cons_succ]
      refine takeH (i := 26) (some 179) (.agg #[.int .i64 c8, .slice a8 n8 cap8]) rfl rfl (by kernel_rfl) (by kernel_rfl) (by kernel_rfl) (fun _ _ _ h => h) (Or.inl ⟨by rfl, fun w hSw => by (try dsimp only at hSw); go_simp⟩) (by assumption) ?_
      simp only [Act.put, List.setIfInBounds_toArray, List.set_cons_zero, List.set_cons_succ]
      refine wpAnyH_ready (rs := [25]) (by kernel_rfl) (by simp) ?_
      refine AllReadyH.cons rfl (fun K hK => ?_) AllReadyH.nil
      go_simp
      refine (implValues (c8 + 1) _ wt wn.heap.size wn M9.sees (Nat.le_refl _)).mono ?_
      rintro e wm ⟨vm, rfl, Om, b⟩
      obtain ⟨am, capm, rfl⟩ := Om.form
      obtain ⟨lm, hlm⟩ : ∃ n, (values (c8 + 1) wt).length = n := ⟨_, rfl⟩
      rw [hlm] at Om ⊢
      have M8 := M8.on b; have M9 := M9.on b; have bel := bel.trans (b.mono bel.size)
      go_simp
      refine hK.out _ _ ⟨M8.X.c0, M8.X.c1, M9.X.c0, M9.X.c1⟩ (fun hHeld2 => ?_)
      clear hK K b
      refine wpAnyH_ready (rs := [27]) (by kernel_rfl) (by simp) ?_
      refine AllReadyH.cons rfl (fun K hK => ?_) AllReadyH.nil
      go_simp
      refine (implValues c8 _ wt wm.heap.size wm M8.sees (Nat.le_refl _)).mono ?_
      rintro e wk ⟨vk, rfl, Ok, b⟩
      obtain ⟨ak, capk, rfl⟩ := Ok.form
      obtain ⟨lk, hlk⟩ : ∃ n, (values (c8) wt).length = n := ⟨_, rfl⟩
      rw [hlk] at Ok ⊢
      have Om := Om.on b (Nat.le_refl _)
      have M8 := M8.on b; have M9 := M9.on b; have bel := bel.trans (b.mono bel.size)
      go_simp
      refine hK.out _ _ ⟨M8.X.c0, M8.X.c1, M9.X.c0, M9.X.c1⟩ (fun hHeld3 => ?_)
      clear hK K b
      rw [hvl] at Om
      refine wpAnyH_ready (rs := [28]) (by kernel_rfl) (by simp) ?_
      refine AllReadyH.cons rfl (fun K hK => ?_) AllReadyH.nil
      go_simp
      refine (Ints.sameIntsC _ _ (values c8 wt) wk.heap.size wk Om.sees Ok.sees (Nat.le_refl _)).mono ?_
      rintro e wl ⟨rfl, b⟩
      have M8 := M8.on b; have M9 := M9.on b; have bel := bel.trans (b.mono bel.size)
      go_simp
      refine hK.out _ _ ⟨M8.X.c0, M8.X.c1, M9.X.c0, M9.X.c1⟩ (fun hHeld4 => ?_)
      clear hK K b
      refine takeH (i := 29) (some 182) (.bool true) rfl rfl (by kernel_rfl) (by kernel_rfl) (by kernel_rfl) (fun _ _ _ h => h) (Or.inl ⟨by rfl, fun w hSw => by (try dsimp only at hSw); go_simp⟩) (by assumption) ?_
      simp only [Act.put, List.setIfInBounds_toArray, List.set_cons_zero, List.set_cons_succ]
      refine takeH (i := 30) (some 183) (.bool true) rfl rfl (by kernel_rfl) (by kernel_rfl) (by kernel_rfl) (fun _ _ _ h => h) (Or.inl ⟨by rfl, fun w hSw => by (try dsimp only at hSw); go_simp⟩) (by assumption) ?_
      simp only [Act.put, List.setIfInBounds_toArray, List.set_cons_zero, List.set_cons_succ]
      refine takeH (i := 31) (some 2) (.bool true) rfl rfl (by kernel_rfl) (by kernel_rfl) (by kernel_rfl) (fun _ _ _ h => h) (Or.inl ⟨by rfl, fun w hSw => by (try dsimp only at hSw); go_simp⟩) (by assumption) ?_
      simp only [Act.put, List.setIfInBounds_toArray, List.set_cons_zero, List.set_cons_succ]
      refine wpAnyH_done (by kernel_rfl) ?_ _
      go_wp2
      go_ret
      exact ⟨rfl, bel⟩

theorem walkMemory (a : Option Addr) (len cap : Nat) (zs : List Int) (w : World) (hrow : Args.IsRow .u8 w a len cap zs) (bE : Addr) (hE : Err w bE) :
    Calls Tryd.prog 3 #[.slice a len cap] w fun e w' => e = .returned (.bool true) ∧ Below w.heap.size w w' := by
  by_cases hb : 1048576 < len
  · exact fnBig a len cap w hb
  · obtain ⟨l, hl, hC⟩ := Args.code hrow
    subst hl
    exact fnMemory l a cap w bE hC (by omega) hE
end Words
end Go.Proofs.YtbkhghndlcmfiaaDoor
