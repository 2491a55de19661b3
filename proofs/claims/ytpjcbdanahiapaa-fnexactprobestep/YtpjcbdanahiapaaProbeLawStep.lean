/- The law of ProbeStep. -/
import Derived.Test.YtpjcbdanahiapaaProbeImpl
import Derived.Test.YtpjcbdanahiapaaWordEq
import Derived.Test.YtpjcbdanahiapaaWordKeep
import Derived.Test.YtpjcbdanahiapaaTake
set_option linter.unusedVariables false
set_option linter.unusedSimpArgs false
namespace Go.Proofs.Ytpjcbdanahiapaa
open Go.RowKit
namespace Probes
open Bas

/-- what the law holds of its arguments -/
structure LSt (w W : World) (c : Int) (v : Value) (ws : List Words.W3) (p : P4) : Prop where
  m : Words.Box W w.heap.size c v 45
  p : Blk W (w.heap.size + 1) #[.int .i64 p.cell, .int .i64 p.phase, .int .i64 p.ver, .int .i64 p.val] 38
  s : Words.Sees w.heap.size W v ws
  b : Below w.heap.size w W
section
variable {w W W' : World} {c : Int} {v : Value} {ws : List Words.W3} {p : P4}
theorem LSt.on (h : LSt w W c v ws p) (hb : Below W.heap.size W W') : LSt w W' c v ws p :=
  { m := h.m.on hb h.m.lt, p := h.p.on hb h.p.lt, s := h.s.on hb h.b.size, b := h.b.trans (hb.mono h.b.size) }
theorem LSt.drew (h : LSt w W c v ws p) : LSt w W.drew c v ws p := h.on ⟨rfl, rfl, rfl, Nat.le_refl _, fun _ _ => rfl⟩
theorem LSt.new (w : World) (c : Int) (v : Value) (p : P4) (hs : Words.Sees w.heap.size w v ws) :
    LSt w ((w.alloc (.cells #[.int .i64 c, v] 45)).alloc (.cells #[.int .i64 p.cell, .int .i64 p.phase, .int .i64 p.ver, .int .i64 p.val] 38)) c v ws p := by
  have a1 := alloc_below w (.cells #[.int .i64 c, v] 45)
  have M1 := Words.Box.new w c v 45
  have z1 : (w.alloc (.cells #[.int .i64 c, v] 45)).heap.size = w.heap.size + 1 := by simp
  obtain ⟨w1, hw1⟩ : ∃ W, w.alloc (.cells #[.int .i64 c, v] 45) = W := ⟨_, rfl⟩
  rw [hw1] at a1 M1 z1 ⊢
  have a2 := alloc_below w1 (.cells #[.int .i64 p.cell, .int .i64 p.phase, .int .i64 p.ver, .int .i64 p.val] 38)
  have P2 := Blk.new w1 #[.int .i64 p.cell, .int .i64 p.phase, .int .i64 p.ver, .int .i64 p.val] 38
  rw [z1] at P2
  have b2 := a1.trans (a2.mono (by omega))
  exact { m := M1.on a2 M1.lt, p := P2, s := hs.on b2 (Nat.le_refl _), b := b2 }
theorem LSt.cells (h : LSt w W c v ws p) : W.cell? ⟨w.heap.size, 0, none⟩ = some (.int .i64 c) ∧ W.cell? ⟨w.heap.size, 1, none⟩ = some v ∧ W.cell? ⟨w.heap.size + 1, 0, none⟩ = some (.int .i64 p.cell) ∧ W.cell? ⟨w.heap.size + 1, 1, none⟩ = some (.int .i64 p.phase) ∧ W.cell? ⟨w.heap.size + 1, 2, none⟩ = some (.int .i64 p.ver) ∧ W.cell? ⟨w.heap.size + 1, 3, none⟩ = some (.int .i64 p.val) :=
  ⟨h.m.c0, h.m.c1, h.p.cell 0, h.p.cell 1, h.p.cell 2, h.p.cell 3⟩
theorem LSt.big (h : LSt w W c v ws p) : w.heap.size + 1 < W.heap.size := h.p.lt
theorem LSt.four (h : LSt w W c v ws p) {N : Nat} (hN : w.heap.size + 1 < N) (u0 u1 u2 u3 : Value) : LSt w ((((W.setCell ⟨N, 0, none⟩ u0).setCell ⟨N, 1, none⟩ u1).setCell ⟨N, 2, none⟩ u2).setCell ⟨N, 3, none⟩ u3) c v ws p :=
  { m := (((Blk.other (t := 45) h.m (by omega) 0 u0).other (by omega) 1 u1).other (by omega) 2 u2).other (by omega) 3 u3
    p := (((h.p.other (by omega) 0 u0).other (by omega) 1 u1).other (by omega) 2 u2).other (by omega) 3 u3
    s := h.s.on (below_four (Below.refl w.heap.size W) (by omega) u0 u1 u2 u3) (Nat.le_refl _)
    b := below_four h.b (by omega) u0 u1 u2 u3 }
/-- and of what the specification answered, and of the copy that the program is given -/
structure LS2 (w W : World) (c : Int) (v : Value) (ws : List Words.W3) (p : P4) (N5 : Nat) (q : P4) (N6 : Nat) (u : Value) : Prop where
  l : LSt w W c v ws p
  y : Blk W N5 #[.int .i64 q.cell, .int .i64 q.phase, .int .i64 q.ver, .int .i64 q.val] 28
  x : Words.Box W N6 c u 26
  o : Words.Owns w.heap.size W u ws
  hN5 : w.heap.size + 1 < N5
  hN6 : w.heap.size + 1 < N6
  hne : N5 ≠ N6
section
variable {N5 N6 : Nat} {q : P4} {u : Value}
theorem LS2.on (h : LS2 w W c v ws p N5 q N6 u) (hb : Below W.heap.size W W') : LS2 w W' c v ws p N5 q N6 u :=
  { l := h.l.on hb, y := h.y.on hb h.y.lt, x := h.x.on hb h.x.lt, o := h.o.on hb (Nat.le_refl _), hN5 := h.hN5, hN6 := h.hN6, hne := h.hne }
theorem LS2.drew (h : LS2 w W c v ws p N5 q N6 u) : LS2 w W.drew c v ws p N5 q N6 u := h.on ⟨rfl, rfl, rfl, Nat.le_refl _, fun _ _ => rfl⟩
theorem LS2.cells (h : LS2 w W c v ws p N5 q N6 u) : W.cell? ⟨N6, 0, none⟩ = some (.int .i64 c) ∧ W.cell? ⟨N6, 1, none⟩ = some u ∧ W.cell? ⟨w.heap.size + 1, 0, none⟩ = some (.int .i64 p.cell) ∧ W.cell? ⟨w.heap.size + 1, 1, none⟩ = some (.int .i64 p.phase) ∧ W.cell? ⟨w.heap.size + 1, 2, none⟩ = some (.int .i64 p.ver) ∧ W.cell? ⟨w.heap.size + 1, 3, none⟩ = some (.int .i64 p.val) :=
  ⟨h.x.c0, h.x.c1, h.l.p.cell 0, h.l.p.cell 1, h.l.p.cell 2, h.l.p.cell 3⟩
theorem LS2.big (h : LS2 w W c v ws p N5 q N6 u) : w.heap.size + 1 < W.heap.size ∧ N5 < W.heap.size ∧ N6 < W.heap.size ∧ ∀ k, u.ownBlock = some k → k < W.heap.size := ⟨h.l.p.lt, h.y.lt, h.x.lt, fun k e => (h.o.at k e).2⟩
theorem LS2.four (h : LS2 w W c v ws p N5 q N6 u) {N : Nat} (hN : w.heap.size + 1 < N ∧ N5 < N ∧ N6 < N ∧ ∀ k, u.ownBlock = some k → k < N) (u0 u1 u2 u3 : Value) : LS2 w ((((W.setCell ⟨N, 0, none⟩ u0).setCell ⟨N, 1, none⟩ u1).setCell ⟨N, 2, none⟩ u2).setCell ⟨N, 3, none⟩ u3) c v ws p N5 q N6 u :=
  { l := h.l.four hN.1 u0 u1 u2 u3
    y := (((h.y.other (by omega) 0 u0).other (by omega) 1 u1).other (by omega) 2 u2).other (by omega) 3 u3
    x := (((Blk.other (t := 26) h.x (by omega) 0 u0).other (by omega) 1 u1).other (by omega) 2 u2).other (by omega) 3 u3
    o := (((h.o.other (p := ⟨N, 0, none⟩) (fun k e => by have := hN.2.2.2 k e; show k ≠ N; omega) u0).other (p := ⟨N, 1, none⟩) (fun k e => by have := hN.2.2.2 k e; show k ≠ N; omega) u1).other (p := ⟨N, 2, none⟩) (fun k e => by have := hN.2.2.2 k e; show k ≠ N; omega) u2).other (p := ⟨N, 3, none⟩) (fun k e => by have := hN.2.2.2 k e; show k ≠ N; omega) u3
    hN5 := h.hN5, hN6 := h.hN6, hne := h.hne }
end
end

set_option maxRecDepth 100000 in
set_option maxHeartbeats 12800000 in
theorem lawStep (c : Int) (v : Value) (ws : List Words.W3) (rv : Int) (p : P4) (w : World) (_hc : (Lit.int .i64 c).wf = true) (hv : Words.Sees w.heap.size w v ws) (_hr : (Lit.int .i64 rv).wf = true) :
    Calls Try.prog 6 #[.agg #[.int .i64 c, v], .int .i64 rv, p.agg] w fun e w' => e = .returned (.bool true) ∧ Below w.heap.size w w' := by
  obtain ⟨a, cap, rfl⟩ := hv.form
  have L0 := LSt.new w c (.slice a ws.length cap) p hv
  obtain ⟨W0, hW0⟩ : ∃ W, (w.alloc (.cells #[.int .i64 c, .slice a ws.length cap] 45)).alloc (.cells #[.int .i64 p.cell, .int .i64 p.phase, .int .i64 p.ver, .int .i64 p.val] 38) = W := ⟨_, rfl⟩
  rw [hW0] at L0
  have k0 := L0.m.c0; have k1 := L0.m.c1
  by_cases hlen : ws.length ≤ 1048576
  · have cZ := Words.szMem_le c _ ws _ W0 L0.s hlen
    obtain ⟨n, hn⟩ : ∃ n, ws.length = n := ⟨_, rfl⟩
    have HN := (show Hid _ from hn)
    have cT := fun W (h : LSt w W c (.slice a ws.length cap) ws p) => Words.toMemC c _ ws _ W h.s h.b.size hlen
    have cS := fun u B W (h : Words.Sees B W u ws) hB => specStep c u ws rv p B W h hB
    have cI := fun u B W (h : Words.Sees B W u ws) hB => implStep c u ws rv p B W h hB
    obtain ⟨q, hq⟩ : ∃ q, stepOf c ws rv p = q := ⟨_, rfl⟩
    rw [hq] at cS cI
    rw [hn] at cZ cT L0 k1 hW0 hlen ⊢
    have hpos : 0 ≤ 1048576 - (n : Int) := by omega
    clear hq hn
    obtain ⟨q0, q1, q2, q3⟩ := q
    go_enter Try.func6, Try.ntmps6
    go_wp2_with fail
    clear hW0 k0 k1
    refine cZ.mono ?_
    rintro e w1 ⟨rfl, b1⟩
    clear cZ
    have L1 := L0.on b1
    have k0 := L1.m.c0; have k1 := L1.m.c1
    clear b1 L0
    go_wp2_with fail
    refine Code.wp_mono (Q := fun e a' W' => e = .normal ∧ ∃ N a2 cap2, a' = ⟨#[.agg #[.int .i64 c, .slice a n cap], .int .i64 rv, p.agg, .pointer (some ⟨w.heap.size, 0, none⟩), undef, .pointer (some ⟨w.heap.size + 1, 0, none⟩), .bool false, .int .i64 (1048576 - (n : Int)), .pointer (some ⟨N, 0, none⟩), undef, undef, .agg #[.int .i64 c, .slice a n cap], .int .i64 1048576, .int .i64 (1048576 - (n : Int)), .int .i64 (1048576 - (n : Int)), .bool (decide (1048576 - (n : Int) < 0)), .agg #[.int .i64 c, .slice a n cap], .agg #[.int .i64 c, .slice a2 n cap2], .int .i64 rv, p.agg, p.agg, .agg #[.int .i64 q0, .int .i64 q1, .int .i64 q2, .int .i64 q3], undef, undef, undef, undef, undef, undef, undef, undef, undef, undef, undef, undef, undef, undef, undef, undef], []⟩ ∧ LSt w W' c (.slice a n cap) ws p ∧ Blk W' N #[.int .i64 q0, .int .i64 q1, .int .i64 q2, .int .i64 q3] 28 ∧ w.heap.size + 1 < N) ?_ ?_
    rotate_left
    · have LD := L1.drew
      obtain ⟨WD, hWD⟩ : ∃ WD, w1.drew = WD := ⟨_, rfl⟩
      refine wp_region_held_drew (S := fun W => W.cell? ⟨w.heap.size, 0, none⟩ = some (.int .i64 c) ∧ W.cell? ⟨w.heap.size, 1, none⟩ = some (.slice a n cap) ∧ W.cell? ⟨w.heap.size + 1, 0, none⟩ = some (.int .i64 p.cell) ∧ W.cell? ⟨w.heap.size + 1, 1, none⟩ = some (.int .i64 p.phase) ∧ W.cell? ⟨w.heap.size + 1, 2, none⟩ = some (.int .i64 p.ver) ∧ W.cell? ⟨w.heap.size + 1, 3, none⟩ = some (.int .i64 p.val)) (by kernel_rfl) L1.drew.cells (fun hHeld => ?_)
      rw [hWD] at LD hHeld ⊢
      clear hWD k0 k1
      refine takeH (i := 0) (some 16) (.agg #[.int .i64 c, .slice a n cap]) rfl rfl (by kernel_rfl) (by kernel_rfl) (by kernel_rfl) (fun _ _ _ h => by cases h.1) (Or.inl ⟨by rfl, fun w hSw => by (try dsimp only at hSw); go_simp⟩) (by assumption) ?_
      simp only [Act.put, List.setIfInBounds_toArray, List.set_cons_zero, List.set_cons_succ]
      refine takeH (i := 2) (some 18) (.int .i64 rv) rfl rfl (by kernel_rfl) (by kernel_rfl) (by kernel_rfl) (fun _ _ _ h => by cases h.1) (Or.inl ⟨by rfl, fun w hSw => by (try dsimp only at hSw); go_simp⟩) (by assumption) ?_
      simp only [Act.put, List.setIfInBounds_toArray, List.set_cons_zero, List.set_cons_succ]
      refine takeH (i := 3) (some 19) (p.agg) rfl rfl (by kernel_rfl) (by kernel_rfl) (by kernel_rfl) (fun _ _ _ h => by cases h.1) (Or.inl ⟨by rfl, fun w hSw => by (try dsimp only at hSw); go_simp⟩) (by assumption) ?_
      simp only [Act.put, List.setIfInBounds_toArray, List.set_cons_zero, List.set_cons_succ]
      refine wpAnyH_ready (rs := [1, 6]) (by kernel_rfl) (by simp) ?_
      refine AllReadyH.cons rfl (fun K hK => ?_) (AllReadyH.cons rfl (fun K hK => ?_) AllReadyH.nil)
      · go_simp
        refine (cT _ LD).mono ?_
        rintro e V1 ⟨v2, rfl, O2, b1⟩
        have L1c := LD.on b1
        obtain ⟨a2, cap2, rfl⟩ := O2.form
        rw [HN.out] at O2 ⊢
        go_simp
        refine hK.out _ _ L1c.cells (fun _ => ?_)
        clear hK K
        try simp only [Act.put, List.setIfInBounds_toArray, List.set_cons_zero, List.set_cons_succ]
        refine wpAnyH_ready (rs := [4, 6]) (by kernel_rfl) (by simp) ?_
        refine AllReadyH.cons rfl (fun K hK => ?_) (AllReadyH.cons rfl (fun K hK => ?_) AllReadyH.nil)
        · go_simp
          refine (toProbeC p _).mono ?_
          rintro e V2 ⟨rfl, b2⟩
          have L2c := L1c.on b2
          have O2 := O2.on b2 (Nat.le_refl _)
          go_simp
          refine hK.out _ _ L2c.cells (fun _ => ?_)
          clear hK K
          try simp only [Act.put, List.setIfInBounds_toArray, List.set_cons_zero, List.set_cons_succ]
          refine wpAnyH_ready (rs := [5, 6]) (by kernel_rfl) (by simp) ?_
          refine AllReadyH.cons rfl (fun K hK => ?_) (AllReadyH.cons rfl (fun K hK => ?_) AllReadyH.nil)
          · go_simp
            refine (cS _ _ _ O2.sees (Nat.le_refl _)).mono ?_
            rintro e V3 ⟨rfl, b3⟩
            have L3c := L2c.on b3
            have O2 := O2.on b3 (Nat.le_refl _)
            go_simp
            refine hK.out _ _ L3c.cells (fun _ => ?_)
            clear hK K
            try simp only [Act.put, List.setIfInBounds_toArray, List.set_cons_zero, List.set_cons_succ]
            refine wpAnyH_ready (rs := [6]) (by kernel_rfl) (by simp) ?_
            refine AllReadyH.cons rfl (fun K hK => ?_) (AllReadyH.nil)
            go_simp
            have A4 := alloc_below V3 (.cells #[.int .i64 0, .int .i64 0, .int .i64 0, .int .i64 0] 28)
            have Y4 := Blk.new V3 #[.int .i64 0, .int .i64 0, .int .i64 0, .int .i64 0] 28
            have L4a := L3c.on A4
            have hNY4 := L3c.big
            have O2 := O2.on A4 (Nat.le_refl _)
            refine hK.out _ _ L4a.cells (fun _ => ?_)
            clear hK K A4
            try simp only [Act.put, List.setIfInBounds_toArray, List.set_cons_zero, List.set_cons_succ]
            obtain ⟨W4a, hW4a⟩ : ∃ W, V3.alloc (.cells #[.int .i64 0, .int .i64 0, .int .i64 0, .int .i64 0] 28) = W := ⟨_, rfl⟩
            obtain ⟨N4, hN4⟩ : ∃ N, V3.heap.size = N := ⟨_, rfl⟩
            rw [hW4a] at L4a Y4 O2 ⊢
            rw [hN4] at Y4 hNY4 ⊢
            clear hW4a hN4
            have y5 := fun i => Y4.cell i; have yf5 := fun i => Y4.froz i
            refine wpAnyH_ready (rs := [7]) (by kernel_rfl) (by simp) ?_
            refine AllReadyH.cons rfl (fun K hK => ?_) AllReadyH.nil
            go_simp
            have hS5 := L4a.four hNY4 (.int .i64 q0) (.int .i64 q1) (.int .i64 q2) (.int .i64 q3)
            have hY5 := (((Y4.set 0 (.int .i64 q0)).set 1 (.int .i64 q1)).set 2 (.int .i64 q2)).set 3 (.int .i64 q3)
            refine hK.out _ _ hS5.cells (fun _ => ?_)
            clear hK K
            refine wpAnyH_done (by kernel_rfl) ?_ _
            exact ⟨rfl, _, _, _, rfl, hS5, hY5, hNY4⟩
          · go_simp
            have A3 := alloc_below V2 (.cells #[.int .i64 0, .int .i64 0, .int .i64 0, .int .i64 0] 28)
            have Y3 := Blk.new V2 #[.int .i64 0, .int .i64 0, .int .i64 0, .int .i64 0] 28
            have L3a := L2c.on A3
            have hNY3 := L2c.big
            have O2 := O2.on A3 (Nat.le_refl _)
            refine hK.out _ _ L3a.cells (fun _ => ?_)
            clear hK K A3
            try simp only [Act.put, List.setIfInBounds_toArray, List.set_cons_zero, List.set_cons_succ]
            obtain ⟨W3a, hW3a⟩ : ∃ W, V2.alloc (.cells #[.int .i64 0, .int .i64 0, .int .i64 0, .int .i64 0] 28) = W := ⟨_, rfl⟩
            obtain ⟨N3, hN3⟩ : ∃ N, V2.heap.size = N := ⟨_, rfl⟩
            rw [hW3a] at L3a Y3 O2 ⊢
            rw [hN3] at Y3 hNY3 ⊢
            clear hW3a hN3
            refine wpAnyH_ready (rs := [5]) (by kernel_rfl) (by simp) ?_
            refine AllReadyH.cons rfl (fun K hK => ?_) (AllReadyH.nil)
            go_simp
            refine (cS _ _ _ O2.sees (Nat.le_refl _)).mono ?_
            rintro e V6 ⟨rfl, b6⟩
            have L6c := L3a.on b6
            have Y3c := Y3.on b6 Y3.lt; have hNY3c := hNY3
            have O2 := O2.on b6 (Nat.le_refl _)
            go_simp
            refine hK.out _ _ L6c.cells (fun _ => ?_)
            clear hK K
            try simp only [Act.put, List.setIfInBounds_toArray, List.set_cons_zero, List.set_cons_succ]
            have y7 := fun i => Y3c.cell i; have yf7 := fun i => Y3c.froz i
            refine wpAnyH_ready (rs := [7]) (by kernel_rfl) (by simp) ?_
            refine AllReadyH.cons rfl (fun K hK => ?_) AllReadyH.nil
            go_simp
            have hS7 := L6c.four hNY3c (.int .i64 q0) (.int .i64 q1) (.int .i64 q2) (.int .i64 q3)
            have hY7 := (((Y3c.set 0 (.int .i64 q0)).set 1 (.int .i64 q1)).set 2 (.int .i64 q2)).set 3 (.int .i64 q3)
            refine hK.out _ _ hS7.cells (fun _ => ?_)
            clear hK K
            refine wpAnyH_done (by kernel_rfl) ?_ _
            exact ⟨rfl, _, _, _, rfl, hS7, hY7, hNY3c⟩
        · go_simp
          have A2 := alloc_below V1 (.cells #[.int .i64 0, .int .i64 0, .int .i64 0, .int .i64 0] 28)
          have Y2 := Blk.new V1 #[.int .i64 0, .int .i64 0, .int .i64 0, .int .i64 0] 28
          have L2a := L1c.on A2
          have hNY2 := L1c.big
          have O2 := O2.on A2 (Nat.le_refl _)
          refine hK.out _ _ L2a.cells (fun _ => ?_)
          clear hK K A2
          try simp only [Act.put, List.setIfInBounds_toArray, List.set_cons_zero, List.set_cons_succ]
          obtain ⟨W2a, hW2a⟩ : ∃ W, V1.alloc (.cells #[.int .i64 0, .int .i64 0, .int .i64 0, .int .i64 0] 28) = W := ⟨_, rfl⟩
          obtain ⟨N2, hN2⟩ : ∃ N, V1.heap.size = N := ⟨_, rfl⟩
          rw [hW2a] at L2a Y2 O2 ⊢
          rw [hN2] at Y2 hNY2 ⊢
          clear hW2a hN2
          refine wpAnyH_ready (rs := [4]) (by kernel_rfl) (by simp) ?_
          refine AllReadyH.cons rfl (fun K hK => ?_) (AllReadyH.nil)
          go_simp
          refine (toProbeC p _).mono ?_
          rintro e V8 ⟨rfl, b8⟩
          have L8c := L2a.on b8
          have Y2c := Y2.on b8 Y2.lt; have hNY2c := hNY2
          have O2 := O2.on b8 (Nat.le_refl _)
          go_simp
          refine hK.out _ _ L8c.cells (fun _ => ?_)
          clear hK K
          try simp only [Act.put, List.setIfInBounds_toArray, List.set_cons_zero, List.set_cons_succ]
          refine wpAnyH_ready (rs := [5]) (by kernel_rfl) (by simp) ?_
          refine AllReadyH.cons rfl (fun K hK => ?_) (AllReadyH.nil)
          go_simp
          refine (cS _ _ _ O2.sees (Nat.le_refl _)).mono ?_
          rintro e V9 ⟨rfl, b9⟩
          have L9c := L8c.on b9
          have Y2cc := Y2c.on b9 Y2c.lt; have hNY2cc := hNY2c
          have O2 := O2.on b9 (Nat.le_refl _)
          go_simp
          refine hK.out _ _ L9c.cells (fun _ => ?_)
          clear hK K
          try simp only [Act.put, List.setIfInBounds_toArray, List.set_cons_zero, List.set_cons_succ]
          have y10 := fun i => Y2cc.cell i; have yf10 := fun i => Y2cc.froz i
          refine wpAnyH_ready (rs := [7]) (by kernel_rfl) (by simp) ?_
          refine AllReadyH.cons rfl (fun K hK => ?_) AllReadyH.nil
          go_simp
          have hS10 := L9c.four hNY2cc (.int .i64 q0) (.int .i64 q1) (.int .i64 q2) (.int .i64 q3)
          have hY10 := (((Y2cc.set 0 (.int .i64 q0)).set 1 (.int .i64 q1)).set 2 (.int .i64 q2)).set 3 (.int .i64 q3)
          refine hK.out _ _ hS10.cells (fun _ => ?_)
          clear hK K
          refine wpAnyH_done (by kernel_rfl) ?_ _
          exact ⟨rfl, _, _, _, rfl, hS10, hY10, hNY2cc⟩
      · go_simp
        have A1 := alloc_below WD (.cells #[.int .i64 0, .int .i64 0, .int .i64 0, .int .i64 0] 28)
        have Y1 := Blk.new WD #[.int .i64 0, .int .i64 0, .int .i64 0, .int .i64 0] 28
        have L1a := LD.on A1
        have hNY1 := LD.big
        refine hK.out _ _ L1a.cells (fun _ => ?_)
        clear hK K A1
        try simp only [Act.put, List.setIfInBounds_toArray, List.set_cons_zero, List.set_cons_succ]
        obtain ⟨W1a, hW1a⟩ : ∃ W, WD.alloc (.cells #[.int .i64 0, .int .i64 0, .int .i64 0, .int .i64 0] 28) = W := ⟨_, rfl⟩
        obtain ⟨N1, hN1⟩ : ∃ N, WD.heap.size = N := ⟨_, rfl⟩
        rw [hW1a] at L1a Y1  ⊢
        rw [hN1] at Y1 hNY1 ⊢
        clear hW1a hN1
        refine wpAnyH_ready (rs := [1]) (by kernel_rfl) (by simp) ?_
        refine AllReadyH.cons rfl (fun K hK => ?_) (AllReadyH.nil)
        go_simp
        refine (cT _ L1a).mono ?_
        rintro e V11 ⟨v2, rfl, O2, b11⟩
        have L11c := L1a.on b11
        have Y1c := Y1.on b11 Y1.lt; have hNY1c := hNY1
        obtain ⟨a2, cap2, rfl⟩ := O2.form
        rw [HN.out] at O2 ⊢
        go_simp
        refine hK.out _ _ L11c.cells (fun _ => ?_)
        clear hK K
        try simp only [Act.put, List.setIfInBounds_toArray, List.set_cons_zero, List.set_cons_succ]
        refine wpAnyH_ready (rs := [4]) (by kernel_rfl) (by simp) ?_
        refine AllReadyH.cons rfl (fun K hK => ?_) (AllReadyH.nil)
        go_simp
        refine (toProbeC p _).mono ?_
        rintro e V12 ⟨rfl, b12⟩
        have L12c := L11c.on b12
        have Y1cc := Y1c.on b12 Y1c.lt; have hNY1cc := hNY1c
        have O2 := O2.on b12 (Nat.le_refl _)
        go_simp
        refine hK.out _ _ L12c.cells (fun _ => ?_)
        clear hK K
        try simp only [Act.put, List.setIfInBounds_toArray, List.set_cons_zero, List.set_cons_succ]
        refine wpAnyH_ready (rs := [5]) (by kernel_rfl) (by simp) ?_
        refine AllReadyH.cons rfl (fun K hK => ?_) (AllReadyH.nil)
        go_simp
        refine (cS _ _ _ O2.sees (Nat.le_refl _)).mono ?_
        rintro e V13 ⟨rfl, b13⟩
        have L13c := L12c.on b13
        have Y1ccc := Y1cc.on b13 Y1cc.lt; have hNY1ccc := hNY1cc
        have O2 := O2.on b13 (Nat.le_refl _)
        go_simp
        refine hK.out _ _ L13c.cells (fun _ => ?_)
        clear hK K
        try simp only [Act.put, List.setIfInBounds_toArray, List.set_cons_zero, List.set_cons_succ]
        have y14 := fun i => Y1ccc.cell i; have yf14 := fun i => Y1ccc.froz i
        refine wpAnyH_ready (rs := [7]) (by kernel_rfl) (by simp) ?_
        refine AllReadyH.cons rfl (fun K hK => ?_) AllReadyH.nil
        go_simp
        have hS14 := L13c.four hNY1ccc (.int .i64 q0) (.int .i64 q1) (.int .i64 q2) (.int .i64 q3)
        have hY14 := (((Y1ccc.set 0 (.int .i64 q0)).set 1 (.int .i64 q1)).set 2 (.int .i64 q2)).set 3 (.int .i64 q3)
        refine hK.out _ _ hS14.cells (fun _ => ?_)
        clear hK K
        refine wpAnyH_done (by kernel_rfl) ?_ _
        exact ⟨rfl, _, _, _, rfl, hS14, hY14, hNY1ccc⟩
    rintro e a' W2 ⟨rfl, N5, a2, cap2, rfl, L2, Y2, hN5⟩
    clear L1 k0 k1
    have k0 := L2.m.c0; have k1 := L2.m.c1
    go_wp2_with fail
    refine (cT _ L2).mono ?_
    rintro e w3 ⟨v3, rfl, O3, b3⟩
    have L3 := L2.on b3
    have Y3 := Y2.on b3 Y2.lt
    have hb3 := b3.size
    have hz2 := L2.b.size
    have O3 := O3.mono hz2
    obtain ⟨a3, cap3, rfl⟩ := O3.form
    rw [HN.out] at O3 ⊢
    clear k0 k1 L2 Y2
    have b4 := alloc_below w3 (.cells #[.int .i64 c, .slice a3 n cap3] 26)
    have X4 := Words.Box.new w3 c (.slice a3 n cap3) 26
    have L4 := L3.on b4
    have Y4 := Y3.on b4 Y3.lt
    have O4 := O3.on b4 (Nat.le_refl _)
    have hN6 := L3.big
    have hne : N5 ≠ w3.heap.size := by have := Y3.lt; omega
    obtain ⟨W4, hW4⟩ : ∃ W, w3.alloc (.cells #[.int .i64 c, .slice a3 n cap3] 26) = W := ⟨_, rfl⟩
    rw [hW4] at X4 L4 Y4 O4
    have j0 := X4.c0; have j1 := X4.c1
    have jf := fun i => Blk.froz (t := 26) X4 i
    clear L3 Y3 O3 b3
    go_wp2_with fail
    try rw [hW4]
    obtain ⟨N6, hN6e⟩ : ∃ N, w3.heap.size = N := ⟨_, rfl⟩
    rw [hN6e] at X4 hN6 hne ⊢
    clear hW4 j0 j1 jf hN6e b4 hb3 hz2
    have M4 : LS2 w W4 c (.slice a n cap) ws p N5 ⟨q0, q1, q2, q3⟩ N6 (.slice a3 n cap3) := { l := L4, y := Y4, x := X4, o := O4, hN5 := hN5, hN6 := hN6, hne := hne }
    clear L4 Y4 X4 O4 hN5 hN6 hne
    refine Code.wp_mono (Q := fun e a' W' => e = .normal ∧ ∃ N, a' = ⟨#[.agg #[.int .i64 c, .slice a n cap], .int .i64 rv, p.agg, .pointer (some ⟨w.heap.size, 0, none⟩), undef, .pointer (some ⟨w.heap.size + 1, 0, none⟩), .bool false, .int .i64 (1048576 - (n : Int)), .pointer (some ⟨N5, 0, none⟩), .pointer (some ⟨N6, 0, none⟩), .pointer (some ⟨N, 0, none⟩), .agg #[.int .i64 c, .slice a n cap], .int .i64 1048576, .int .i64 (1048576 - (n : Int)), .int .i64 (1048576 - (n : Int)), .bool (decide (1048576 - (n : Int) < 0)), .agg #[.int .i64 c, .slice a n cap], .agg #[.int .i64 c, .slice a2 n cap2], .int .i64 rv, p.agg, p.agg, .agg #[.int .i64 q0, .int .i64 q1, .int .i64 q2, .int .i64 q3], .agg #[.int .i64 c, .slice a n cap], .agg #[.int .i64 c, .slice a3 n cap3], .agg #[.int .i64 c, .slice a3 n cap3], .int .i64 rv, p.agg, p.agg, .agg #[.int .i64 q0, .int .i64 q1, .int .i64 q2, .int .i64 q3], undef, undef, undef, undef, undef, undef, undef, undef, undef], []⟩ ∧ LS2 w W' c (.slice a n cap) ws p N5 ⟨q0, q1, q2, q3⟩ N6 (.slice a3 n cap3) ∧ Blk W' N #[.int .i64 q0, .int .i64 q1, .int .i64 q2, .int .i64 q3] 28) ?_ ?_
    rotate_left
    · have LD := M4.drew
      obtain ⟨WD, hWD⟩ : ∃ WD, W4.drew = WD := ⟨_, rfl⟩
      refine wp_region_held_drew (S := fun W => W.cell? ⟨N6, 0, none⟩ = some (.int .i64 c) ∧ W.cell? ⟨N6, 1, none⟩ = some (.slice a3 n cap3) ∧ W.cell? ⟨w.heap.size + 1, 0, none⟩ = some (.int .i64 p.cell) ∧ W.cell? ⟨w.heap.size + 1, 1, none⟩ = some (.int .i64 p.phase) ∧ W.cell? ⟨w.heap.size + 1, 2, none⟩ = some (.int .i64 p.ver) ∧ W.cell? ⟨w.heap.size + 1, 3, none⟩ = some (.int .i64 p.val)) (by kernel_rfl) M4.drew.cells (fun hHeld => ?_)
      rw [hWD] at LD hHeld ⊢
      clear hWD
      refine takeH (i := 0) (some 24) (.agg #[.int .i64 c, .slice a3 n cap3]) rfl rfl (by kernel_rfl) (by kernel_rfl) (by kernel_rfl) (fun _ _ _ h => by cases h.1) (Or.inl ⟨by rfl, fun w hSw => by (try dsimp only at hSw); go_simp⟩) (by assumption) ?_
      simp only [Act.put, List.setIfInBounds_toArray, List.set_cons_zero, List.set_cons_succ]
      refine takeH (i := 1) (some 25) (.int .i64 rv) rfl rfl (by kernel_rfl) (by kernel_rfl) (by kernel_rfl) (fun _ _ _ h => by cases h.1) (Or.inl ⟨by rfl, fun w hSw => by (try dsimp only at hSw); go_simp⟩) (by assumption) ?_
      simp only [Act.put, List.setIfInBounds_toArray, List.set_cons_zero, List.set_cons_succ]
      refine takeH (i := 2) (some 26) (p.agg) rfl rfl (by kernel_rfl) (by kernel_rfl) (by kernel_rfl) (fun _ _ _ h => by cases h.1) (Or.inl ⟨by rfl, fun w hSw => by (try dsimp only at hSw); go_simp⟩) (by assumption) ?_
      simp only [Act.put, List.setIfInBounds_toArray, List.set_cons_zero, List.set_cons_succ]
      refine wpAnyH_ready (rs := [3, 5]) (by kernel_rfl) (by simp) ?_
      refine AllReadyH.cons rfl (fun K hK => ?_) (AllReadyH.cons rfl (fun K hK => ?_) AllReadyH.nil)
      · go_simp
        refine (toProbeC p _).mono ?_
        rintro e V1 ⟨rfl, b1⟩
        have L1c := LD.on b1
        go_simp
        refine hK.out _ _ L1c.cells (fun _ => ?_)
        clear hK K
        try simp only [Act.put, List.setIfInBounds_toArray, List.set_cons_zero, List.set_cons_succ]
        refine wpAnyH_ready (rs := [4, 5]) (by kernel_rfl) (by simp) ?_
        refine AllReadyH.cons rfl (fun K hK => ?_) (AllReadyH.cons rfl (fun K hK => ?_) AllReadyH.nil)
        · go_simp
          refine (cI _ _ _ L1c.o.sees (Nat.le_refl _)).mono ?_
          rintro e V2 ⟨rfl, b2⟩
          have L2c := L1c.on b2
          go_simp
          refine hK.out _ _ L2c.cells (fun _ => ?_)
          clear hK K
          try simp only [Act.put, List.setIfInBounds_toArray, List.set_cons_zero, List.set_cons_succ]
          refine wpAnyH_ready (rs := [5]) (by kernel_rfl) (by simp) ?_
          refine AllReadyH.cons rfl (fun K hK => ?_) (AllReadyH.nil)
          go_simp
          have A3 := alloc_below V2 (.cells #[.int .i64 0, .int .i64 0, .int .i64 0, .int .i64 0] 28)
          have Y3 := Blk.new V2 #[.int .i64 0, .int .i64 0, .int .i64 0, .int .i64 0] 28
          have L3a := L2c.on A3
          have hNY3 := L2c.big
          refine hK.out _ _ L3a.cells (fun _ => ?_)
          clear hK K A3
          try simp only [Act.put, List.setIfInBounds_toArray, List.set_cons_zero, List.set_cons_succ]
          obtain ⟨W3a, hW3a⟩ : ∃ W, V2.alloc (.cells #[.int .i64 0, .int .i64 0, .int .i64 0, .int .i64 0] 28) = W := ⟨_, rfl⟩
          obtain ⟨N3, hN3⟩ : ∃ N, V2.heap.size = N := ⟨_, rfl⟩
          rw [hW3a] at L3a Y3  ⊢
          rw [hN3] at Y3 hNY3 ⊢
          clear hW3a hN3
          have y4 := fun i => Y3.cell i; have yf4 := fun i => Y3.froz i
          refine wpAnyH_ready (rs := [6]) (by kernel_rfl) (by simp) ?_
          refine AllReadyH.cons rfl (fun K hK => ?_) AllReadyH.nil
          go_simp
          have hS4 := L3a.four hNY3 (.int .i64 q0) (.int .i64 q1) (.int .i64 q2) (.int .i64 q3)
          have hY4 := (((Y3.set 0 (.int .i64 q0)).set 1 (.int .i64 q1)).set 2 (.int .i64 q2)).set 3 (.int .i64 q3)
          refine hK.out _ _ hS4.cells (fun _ => ?_)
          clear hK K
          refine wpAnyH_done (by kernel_rfl) ?_ _
          exact ⟨rfl, _, rfl, hS4, hY4⟩
        · go_simp
          have A2 := alloc_below V1 (.cells #[.int .i64 0, .int .i64 0, .int .i64 0, .int .i64 0] 28)
          have Y2 := Blk.new V1 #[.int .i64 0, .int .i64 0, .int .i64 0, .int .i64 0] 28
          have L2a := L1c.on A2
          have hNY2 := L1c.big
          refine hK.out _ _ L2a.cells (fun _ => ?_)
          clear hK K A2
          try simp only [Act.put, List.setIfInBounds_toArray, List.set_cons_zero, List.set_cons_succ]
          obtain ⟨W2a, hW2a⟩ : ∃ W, V1.alloc (.cells #[.int .i64 0, .int .i64 0, .int .i64 0, .int .i64 0] 28) = W := ⟨_, rfl⟩
          obtain ⟨N2, hN2⟩ : ∃ N, V1.heap.size = N := ⟨_, rfl⟩
          rw [hW2a] at L2a Y2  ⊢
          rw [hN2] at Y2 hNY2 ⊢
          clear hW2a hN2
          refine wpAnyH_ready (rs := [4]) (by kernel_rfl) (by simp) ?_
          refine AllReadyH.cons rfl (fun K hK => ?_) (AllReadyH.nil)
          go_simp
          refine (cI _ _ _ L2a.o.sees (Nat.le_refl _)).mono ?_
          rintro e V5 ⟨rfl, b5⟩
          have L5c := L2a.on b5
          have Y2c := Y2.on b5 Y2.lt; have hNY2c := hNY2
          go_simp
          refine hK.out _ _ L5c.cells (fun _ => ?_)
          clear hK K
          try simp only [Act.put, List.setIfInBounds_toArray, List.set_cons_zero, List.set_cons_succ]
          have y6 := fun i => Y2c.cell i; have yf6 := fun i => Y2c.froz i
          refine wpAnyH_ready (rs := [6]) (by kernel_rfl) (by simp) ?_
          refine AllReadyH.cons rfl (fun K hK => ?_) AllReadyH.nil
          go_simp
          have hS6 := L5c.four hNY2c (.int .i64 q0) (.int .i64 q1) (.int .i64 q2) (.int .i64 q3)
          have hY6 := (((Y2c.set 0 (.int .i64 q0)).set 1 (.int .i64 q1)).set 2 (.int .i64 q2)).set 3 (.int .i64 q3)
          refine hK.out _ _ hS6.cells (fun _ => ?_)
          clear hK K
          refine wpAnyH_done (by kernel_rfl) ?_ _
          exact ⟨rfl, _, rfl, hS6, hY6⟩
      · go_simp
        have A1 := alloc_below WD (.cells #[.int .i64 0, .int .i64 0, .int .i64 0, .int .i64 0] 28)
        have Y1 := Blk.new WD #[.int .i64 0, .int .i64 0, .int .i64 0, .int .i64 0] 28
        have L1a := LD.on A1
        have hNY1 := LD.big
        refine hK.out _ _ L1a.cells (fun _ => ?_)
        clear hK K A1
        try simp only [Act.put, List.setIfInBounds_toArray, List.set_cons_zero, List.set_cons_succ]
        obtain ⟨W1a, hW1a⟩ : ∃ W, WD.alloc (.cells #[.int .i64 0, .int .i64 0, .int .i64 0, .int .i64 0] 28) = W := ⟨_, rfl⟩
        obtain ⟨N1, hN1⟩ : ∃ N, WD.heap.size = N := ⟨_, rfl⟩
        rw [hW1a] at L1a Y1  ⊢
        rw [hN1] at Y1 hNY1 ⊢
        clear hW1a hN1
        refine wpAnyH_ready (rs := [3]) (by kernel_rfl) (by simp) ?_
        refine AllReadyH.cons rfl (fun K hK => ?_) (AllReadyH.nil)
        go_simp
        refine (toProbeC p _).mono ?_
        rintro e V7 ⟨rfl, b7⟩
        have L7c := L1a.on b7
        have Y1c := Y1.on b7 Y1.lt; have hNY1c := hNY1
        go_simp
        refine hK.out _ _ L7c.cells (fun _ => ?_)
        clear hK K
        try simp only [Act.put, List.setIfInBounds_toArray, List.set_cons_zero, List.set_cons_succ]
        refine wpAnyH_ready (rs := [4]) (by kernel_rfl) (by simp) ?_
        refine AllReadyH.cons rfl (fun K hK => ?_) (AllReadyH.nil)
        go_simp
        refine (cI _ _ _ L7c.o.sees (Nat.le_refl _)).mono ?_
        rintro e V8 ⟨rfl, b8⟩
        have L8c := L7c.on b8
        have Y1cc := Y1c.on b8 Y1c.lt; have hNY1cc := hNY1c
        go_simp
        refine hK.out _ _ L8c.cells (fun _ => ?_)
        clear hK K
        try simp only [Act.put, List.setIfInBounds_toArray, List.set_cons_zero, List.set_cons_succ]
        have y9 := fun i => Y1cc.cell i; have yf9 := fun i => Y1cc.froz i
        refine wpAnyH_ready (rs := [6]) (by kernel_rfl) (by simp) ?_
        refine AllReadyH.cons rfl (fun K hK => ?_) AllReadyH.nil
        go_simp
        have hS9 := L8c.four hNY1cc (.int .i64 q0) (.int .i64 q1) (.int .i64 q2) (.int .i64 q3)
        have hY9 := (((Y1cc.set 0 (.int .i64 q0)).set 1 (.int .i64 q1)).set 2 (.int .i64 q2)).set 3 (.int .i64 q3)
        refine hK.out _ _ hS9.cells (fun _ => ?_)
        clear hK K
        refine wpAnyH_done (by kernel_rfl) ?_ _
        exact ⟨rfl, _, rfl, hS9, hY9⟩
    rintro e a' W5 ⟨rfl, N, rfl, M5, Y5⟩
    clear M4
    have y5 := fun i => M5.y.cell i; have z5 := fun i => Y5.cell i
    go_wp2_with fail
    refine (eqProbeC ⟨q0, q1, q2, q3⟩ _).mono ?_
    rintro e w6 ⟨rfl, b6⟩
    have M6 := M5.on b6
    clear y5 z5 Y5 M5 b6 cS cI
    have k0 := M6.l.m.c0; have k1 := M6.l.m.c1; have j0 := M6.x.c0; have j1 := M6.x.c1
    have hs6 := M6.x.lt
    go_wp2_with fail
    go_region_with (first
      | (go_at_call 21; refine (Words.toMemC c _ ws w.heap.size _ ?_ ?_ ?_).mono ?_; exact M6.l.s; exact M6.l.b.size; (rw [HN.out]; exact hlen); rintro e w7 ⟨v7, rfl, O7, b7⟩; obtain ⟨a7, cap7, rfl⟩ := O7.form; have M7 : LS2 w w7 c (.slice a n cap) ws p N5 ⟨q0, q1, q2, q3⟩ N6 (.slice a3 n cap3) := (by first | exact M6.on b7 | exact M6.drew.on b7); have i0 := M7.x.c0; have i1 := M7.x.c1; rw [HN.out] at O7; rw [HN.out])
      | (go_at_call 22; refine (Words.eqMemC c _ _ ws w7.heap.size w7 ?_ ?_ ?_).mono ?_; exact M7.o.sees; exact O7.sees; exact Nat.le_refl _; rintro e w8 ⟨rfl, b8⟩; have M8 : LS2 w w8 c (.slice a n cap) ws p N5 ⟨q0, q1, q2, q3⟩ N6 (.slice a3 n cap3) := M7.on b8))
    all_goals
      clear i0 i1 k0 k1 j0 j1
      go_wp2
      go_ret
      exact ⟨rfl, by first | exact M8.l.b | exact M8.l.b.drew⟩
  · have cZ := Words.szMem_gt c _ ws _ W0 L0.s hlen
    go_enter Try.func6, Try.ntmps6
    go_wp2_with fail
    refine cZ.mono ?_
    rintro e w1 ⟨rfl, b1⟩
    have L1 := L0.on b1
    clear cZ L0 k0 k1 hW0
    go_wp2
    go_ret
    exact ⟨rfl, L1.b⟩
end Probes
end Go.Proofs.Ytpjcbdanahiapaa
