/- The law of Values. -/
import Derived.Test.YtcohdglnobmciaaWordSt
import Derived.Test.YtcohdglnobmciaaWordVals
import Derived.Deep.RegionHeld3
namespace Go.Proofs.Ytcohdglnobmciaa
open Go.RowKit
namespace Words

/-- what the law of Values holds -/
structure StV (w W : World) (c : Int) (v v3 v4 v6 : Value) (s p2 : Nat) (ws : List W3) (zr : List Int) (wx : List W3) (zg : List Int) : Prop where
  bel : Below w.heap.size w W
  X : Box W w.heap.size c v 24
  see : Sees w.heap.size W v ws
  O3 : Ints.Owns w.heap.size W v3 zr
  Q : Box W p2 c v4 29
  O4 : Owns w.heap.size W v4 wx
  O6 : Ints.Owns w.heap.size W v6 zg
  d3 : ∀ k, v3.ownBlock = some k → w.heap.size < k ∧ k < s
  d4 : ∀ k, v4.ownBlock = some k → s ≤ k ∧ k < p2
  d6 : ∀ k, v6.ownBlock = some k → p2 < k
  q1 : w.heap.size < s
  q2 : s ≤ p2

section
variable {w W W' : World} {c : Int} {v v3 v4 v6 : Value} {s p2 : Nat} {ws wx : List W3} {zr zg : List Int}
theorem StV.on (h : StV w W c v v3 v4 v6 s p2 ws zr wx zg) (hb : Below W.heap.size W W') : StV w W' c v v3 v4 v6 s p2 ws zr wx zg :=
  { h with bel := h.bel.trans (hb.mono h.bel.size), X := h.X.on hb h.X.lt, see := h.see.on hb h.bel.size, O3 := h.O3.on hb (Nat.le_refl _), Q := h.Q.on hb h.Q.lt, O4 := h.O4.on hb (Nat.le_refl _), O6 := h.O6.on hb (Nat.le_refl _) }
theorem StV.drew (h : StV w W c v v3 v4 v6 s p2 ws zr wx zg) : StV w W.drew c v v3 v4 v6 s p2 ws zr wx zg := { h with bel := h.bel.drew }
theorem StV.mark4 (h : StV w W c v v3 v4 v6 s p2 ws zr wx zg) (hg : W.grownBy W' v4.ownBlock) {wx' : List W3} (hO : Owns w.heap.size W' v4 wx') : StV w W' c v v3 v4 v6 s p2 ws zr wx' zg :=
  have a1 := h.q1; have a2 := h.q2
  { h with
    bel := h.bel.grown hg h.bel.size (fun k hk => by have := h.d4 k hk; omega),
    X := h.X.grown hg (fun e => by have := h.d4 _ e.symm; omega),
    see := h.see.grown hg h.bel.size (fun k hk => by have := h.d4 k hk; omega),
    O3 := h.O3.grown hg (fun k hk e => by have := h.d4 _ e.symm; have := h.d3 k hk; omega), Q := h.Q.grown hg (fun e => by have := h.d4 _ e.symm; omega), O4 := hO, O6 := h.O6.grown hg (fun k hk e => by have := h.d4 _ e.symm; have := h.d6 k hk; omega) }
theorem StV.mark6 (h : StV w W c v v3 v4 v6 s p2 ws zr wx zg) (hg : W.grownBy W' v6.ownBlock) {zg' : List Int} (hO : Ints.Owns w.heap.size W' v6 zg') : StV w W' c v v3 v4 v6 s p2 ws zr wx zg' :=
  have a1 := h.q1; have a2 := h.q2
  { h with
    bel := h.bel.grown hg h.bel.size (fun k hk => by have := h.d6 k hk; omega),
    X := h.X.grown hg (fun e => by have := h.d6 _ e.symm; omega),
    see := h.see.grown hg h.bel.size (fun k hk => by have := h.d6 k hk; omega),
    O3 := h.O3.grown hg (fun k hk e => by have := h.d6 _ e.symm; have := h.d3 k hk; omega), Q := h.Q.grown hg (fun e => by have := h.d6 _ e.symm; omega), O4 := h.O4.grown hg (fun k hk e => by have := h.d6 _ e.symm; have := h.d4 k hk; omega), O6 := hO }
end

theorem values_len (c : Int) (ws : List W3) : (values c ws).length ≤ 8 := by
  unfold values
  split
  · rename_i h; rw [valsOf_length, (memOk_out h).1]; omega
  · simp

set_option maxRecDepth 100000 in
set_option maxHeartbeats 4000000 in
theorem lawValues (c : Int) (v : Value) (ws : List W3) (w : World) (_hc : (Lit.int .i64 c).wf = true) (hv : Sees w.heap.size w v ws) :
    Calls Try.prog 5 #[.agg #[.int .i64 c, v]] w fun e w' => e = .returned (.bool true) ∧ Below w.heap.size w w' := by
  obtain ⟨a, cap, rfl⟩ := hv.form
  have hb0 := (Below.refl w.heap.size w).alloc (Nat.le_refl _) (.cells #[.int .i64 c, .slice a ws.length cap] 24)
  have hv0 := hv.on hb0 (Nat.le_refl _)
  have X0 := Box.new w c (.slice a ws.length cap) 24
  by_cases hlen : ws.length ≤ 1048576
  · have cS := fun (u : Value) (W : World) (h : Sees W.heap.size W u ws) => specValues c u ws _ W h (Nat.le_refl _)
    have cI := fun (u : Value) (W : World) (h : Sees W.heap.size W u ws) => implValues c u ws _ W h (Nat.le_refl _)
    have hzl := values_len c ws
    obtain ⟨zr, hzr⟩ : ∃ zr, values c ws = zr := ⟨_, rfl⟩
    rw [hzr] at cS cI hzl
    clear hzr
    obtain ⟨n, hn⟩ : ∃ n, ws.length = n := ⟨_, rfl⟩
    obtain ⟨m, hm⟩ : ∃ m, zr.length = m := ⟨_, rfl⟩
    have c0 := szMem_le c _ ws _ _ hv0 hlen
    rw [hn] at c0 hv0 hv hb0 X0 hlen ⊢
    have hpos : 0 ≤ 1048576 - (n : Int) := by omega
    have hm1 : 0 ≤ 1 + (m : Int) := by omega
    have hn1 : 0 ≤ 1 + 3 * (n : Int) := by omega
    obtain ⟨W0, hW0⟩ : ∃ W0, w.alloc (.cells #[.int .i64 c, .slice a n cap] 24) = W0 := ⟨_, rfl⟩
    rw [hW0] at c0 hv0 hb0 X0
    have k0 := X0.c0; have k1 := X0.c1
    have hs0 := X0.lt
    go_enter Try.func5, Try.ntmps5
    go_wp2_with fail
    clear hW0 k0 k1
    refine c0.mono ?_
    rintro e w1 ⟨rfl, b1⟩
    clear c0
    have X1 := X0.on b1 hs0; have k0 := X1.c0; have k1 := X1.c1
    have hv1 := hv0.on b1 (by omega)
    go_wp2_with fail
    clear k0 k1
    refine (toMemC c _ ws _ _ hv1 (by have := b1.size; omega) (by omega)).mono ?_
    rintro e w2 ⟨v2, rfl, O2, b2'⟩
    obtain ⟨a2, cap2, rfl⟩ := O2.form
    rw [hn] at O2 ⊢
    have b2 := b1.trans (b2'.mono b1.size)
    go_wp2_with fail
    refine (cS _ w2 O2.sees).mono ?_
    rintro e w3 ⟨v3, rfl, O3, b3'⟩
    obtain ⟨a3, cap3, rfl⟩ := O3.form
    rw [hm] at O3 ⊢
    have b3 := b2.trans (b3'.mono b2.size)
    have d3 : ∀ k, (Value.slice a3 m cap3).ownBlock = some k → w.heap.size < k ∧ k < w3.heap.size := fun k hk => by have := O3.at k hk; have := b2.size; omega
    have X3 := X0.on b3 hs0
    have hv3 := hv0.on b3 (by omega)
    have O3 := O3.mono (show w.heap.size ≤ w2.heap.size by have := b2.size; omega)
    have hq1 : w.heap.size < w3.heap.size := X3.lt
    have k0 := X3.c0; have k1 := X3.c1
    clear X1 hv1 O2 b2' b2 b1 b3'
    go_wp2_with fail
    clear k0 k1
    refine (toMemC c _ ws _ w3 hv3 (by omega) (by omega)).mono ?_
    rintro e w4 ⟨v4, rfl, O4, b4'⟩
    obtain ⟨a4, cap4, rfl⟩ := O4.form
    rw [hn] at O4 ⊢
    have d4 : ∀ k, (Value.slice a4 n cap4).ownBlock = some k → w3.heap.size ≤ k ∧ k < w4.heap.size := fun k hk => O4.at k hk
    have Bn := (Below.refl w4.heap.size w4).alloc (Nat.le_refl _) (.cells #[.int .i64 c, .slice a4 n cap4] 29)
    have b5 := b4'.trans (Bn.mono b4'.size)
    have X5 := X3.on b5 (by omega)
    have hv5 := hv3.on b5 (by omega)
    have O3 := O3.on b5 (Nat.le_refl _)
    have Q5 := Box.new w4 c (.slice a4 n cap4) 29
    have O4 := (O4.on Bn (Nat.le_refl _)).mono (show w.heap.size ≤ w3.heap.size by omega)
    have b5 := b3.trans (b5.mono b3.size)
    obtain ⟨W5, hW5⟩ : ∃ W5, w4.alloc (.cells #[.int .i64 c, .slice a4 n cap4] 29) = W5 := ⟨_, rfl⟩
    obtain ⟨p2, hp2⟩ : ∃ p2, w4.heap.size = p2 := ⟨_, rfl⟩
    have hq2 : w3.heap.size ≤ p2 := by have := b4'.size; omega
    rw [hW5] at X5 Q5 hv5 O3 O4 b5
    rw [hp2] at Q5 d4
    have j0 := Q5.c0; have j1 := Q5.c1
    clear b4' Bn b3 X3 hv3
    go_wp2_with fail
    clear hW5 hp2 j0 j1
    have hsz5 := Q5.lt
    refine (cI _ W5 O4.sees).mono ?_
    rintro e w6 ⟨v6, rfl, O6, b6'⟩
    obtain ⟨a6, cap6, rfl⟩ := O6.form
    rw [hm] at O6 ⊢
    have S7 : StV w w6 c (.slice a n cap) (.slice a3 m cap3) (.slice a4 n cap4) (.slice a6 m cap6) w3.heap.size p2 ws zr ws zr :=
      { bel := b5.trans (b6'.mono b5.size) |> fun h => hb0.trans (h.mono (by omega)), X := X5.on b6' (by omega), see := hv5.on b6' (by omega), O3 := O3.on b6' (Nat.le_refl _), Q := Q5.on b6' hsz5, O4 := O4.on b6' (Nat.le_refl _),
        O6 := O6.mono (by omega), d3 := d3, d4 := d4, d6 := fun k hk => by have := O6.at k hk; omega, q1 := hq1, q2 := hq2 }
    obtain ⟨s, hs⟩ : ∃ s, w3.heap.size = s := ⟨_, rfl⟩
    rw [hs] at S7
    clear X5 Q5 hv5 O3 O4 b5 b6' O6 d3 d4 X0 hv0 hv hs
    go_wp2_with fail
    refine (Ints.eqIntsC _ _ zr w6.heap.size w6 S7.O6.sees S7.O3.sees (Nat.le_refl _)).mono ?_
    rintro e w8 ⟨rfl, b8⟩
    have S8 := S7.on b8
    have k0 := S8.X.c0; have k1 := S8.X.c1; have j0 := S8.Q.c0; have j1 := S8.Q.c1
    clear S7 b8
    go_wp2_with fail
    go_region_held3 (fun W => W.cell? ⟨w.heap.size, 0, none⟩ = some (.int .i64 c) ∧ W.cell? ⟨w.heap.size, 1, none⟩ = some (.slice a n cap) ∧ W.cell? ⟨p2, 0, none⟩ = some (.int .i64 c) ∧ W.cell? ⟨p2, 1, none⟩ = some (.slice a4 n cap4)) (go_keep) ((first
      | (go_at_call 9; refine (toMemC c _ ws w.heap.size _ ?_ ?_ ?_).mono ?_; exact S8.drew.see; exact S8.drew.bel.size; omega; rintro e w9 ⟨v9, rfl, O9, b9⟩; obtain ⟨a9, cap9, rfl⟩ := O9.form; rw [hn] at O9; rw [hn]; have S9 := S8.drew.on b9; have kk0 := S9.X.c0; have kk1 := S9.X.c1; have jj0 := S9.Q.c0; have jj1 := S9.Q.c1)
      | (go_at_call 11; refine (eqMemC c _ _ ws w9.heap.size w9 ?_ ?_ ?_).mono ?_; exact S9.O4.sees; exact O9.sees; exact Nat.le_refl _; rintro e w10 ⟨rfl, b10⟩; have S10 := S9.on b10; have ka0 := S10.X.c0; have ka1 := S10.X.c1; have ja0 := S10.Q.c0; have ja1 := S10.Q.c1)))
    clear k0 k1 j0 j1 kk0 kk1 jj0 jj1 ka0 ka1 ja0 ja1 S8 S9 O9 b9 b10
    have j0 := S10.Q.c0; have j1 := S10.Q.c1
    go_wp2_with fail
    clear j0 j1
    refine (markMemC c _ ws w.heap.size w10 S10.O4 (by omega)).mono ?_
    rintro e w11 ⟨rfl, M11, g11⟩
    rw [hn] at M11 ⊢
    have S11 := S10.mark4 g11 M11
    clear S10 M11 g11
    go_wp2_with fail
    refine (Ints.eqIntsC _ _ zr w11.heap.size w11 S11.O6.sees S11.O3.sees (Nat.le_refl _)).mono ?_
    rintro e w12 ⟨rfl, b12⟩
    have S12 := S11.on b12
    clear S11 b12
    go_wp2_with fail
    refine (Ints.markIntsC _ zr w.heap.size w12 S12.O6 (by omega)).mono ?_
    rintro e w13 ⟨rfl, M13, g13⟩
    rw [hm] at M13 ⊢
    have S13 := S12.mark6 g13 M13
    clear S12 M13 g13
    go_wp2_with fail
    refine (Ints.heldIntsC _ m _ w13 S13.O6.sees (by omega)).mono ?_
    rintro e w14 ⟨rfl, rfl⟩
    have k0 := S13.X.c0; have k1 := S13.X.c1
    go_wp2_with fail
    clear k0 k1
    refine (toMemC c _ ws w.heap.size w13 S13.see S13.bel.size (by omega)).mono ?_
    rintro e w15 ⟨v15, rfl, O15, b15⟩
    obtain ⟨a15, cap15, rfl⟩ := O15.form
    rw [hn] at O15 ⊢
    have S15 := S13.on b15
    clear S13 b15
    go_wp2_with fail
    refine (cI _ w15 O15.sees).mono ?_
    rintro e w16 ⟨v16, rfl, O16, b16⟩
    obtain ⟨a16, cap16, rfl⟩ := O16.form
    rw [hm] at O16 ⊢
    have S16 := S15.on b16
    clear S15 b16 O15
    go_wp2_with fail
    refine (Ints.eqIntsC _ _ zr w16.heap.size w16 O16.sees S16.O3.sees (Nat.le_refl _)).mono ?_
    rintro e w18 ⟨rfl, b18⟩
    have S18 := S16.on b18
    clear S16 b18 O16
    go_wp2_with fail
    refine (Ints.heldIntsC _ m _ w18 S18.O6.sees (by omega)).mono ?_
    rintro e w19 ⟨rfl, rfl⟩
    go_wp2
    go_ret
    exact ⟨rfl, S18.bel⟩
  · have c0 := szMem_gt c _ ws _ _ hv0 hlen
    go_enter Try.func5, Try.ntmps5
    go_wp2_with fail
    refine c0.mono ?_
    rintro e w1 ⟨rfl, b1⟩
    clear c0
    go_wp2
    go_ret
    exact ⟨rfl, hb0.trans (b1.mono (by simp))⟩
end Words
end Go.Proofs.Ytcohdglnobmciaa
