/- The walk of the law of Unlock, given what both functions answer. -/
import Derived.Test.YtcohdglnobmciaaDoorWordSt
import Derived.Deep.RegionHeld3
namespace Go.Proofs.YtcohdglnobmciaaDoor
open Go.RowKit
namespace Words

set_option maxRecDepth 100000 in
set_option maxHeartbeats 4000000 in
theorem walkUnlock (c : Int) (i who y : Int) (v : Value) (ws : List W3) (w : World) (hv : Sees w.heap.size w v ws) (C : Int) (r : Bool) (wr : List W3) (hlr0 : ws.length ≤ 1048576 → wr.length ≤ 1048576)
    (cS : ∀ (u : Value) (W : World), Sees W.heap.size W u ws → ws.length ≤ 1048576 → Calls Tryd.prog 22 #[.agg #[.int .i64 c, u], .int .i64 i, .int .i64 who, .int .i64 y] W fun e w' => ∃ v', e = .returned (.tuple #[.agg #[.int .i64 C, v'], .bool r]) ∧ Owns W.heap.size w' v' wr ∧ Below W.heap.size W w')
    (cI : ∀ (u : Value) (W : World), Below w.heap.size w W → Sees W.heap.size W u ws → ws.length ≤ 1048576 → Calls Tryd.prog 23 #[.agg #[.int .i64 c, u], .int .i64 i, .int .i64 who, .int .i64 y] W fun e w' => ∃ v', e = .returned (.tuple #[.agg #[.int .i64 C, v'], .bool r]) ∧ Owns W.heap.size w' v' wr ∧ Below W.heap.size W w') :
    Calls Tryd.prog 7 #[.agg #[.int .i64 c, v], .int .i64 i, .int .i64 who, .int .i64 y] w fun e w' => e = .returned (.bool true) ∧ Below w.heap.size w w' := by
  obtain ⟨a, cap, rfl⟩ := hv.form
  have hb0 := (Below.refl w.heap.size w).alloc (Nat.le_refl _) (.cells #[.int .i64 c, .slice a ws.length cap] 24)
  have hv0 := hv.on hb0 (Nat.le_refl _)
  have X0 := Box.new w c (.slice a ws.length cap) 24
  by_cases hlen : ws.length ≤ 1048576
  · have hlr := hlr0 hlen
    clear hlr0
    obtain ⟨n, hn⟩ : ∃ n, ws.length = n := ⟨_, rfl⟩
    obtain ⟨m, hm⟩ : ∃ m, wr.length = m := ⟨_, rfl⟩
    have c0 := szMem_le c _ ws _ _ hv0 hlen
    rw [hn] at c0 hv0 hv hb0 X0 hlen cS cI ⊢
    have hpos : 0 ≤ 1048576 - (n : Int) := by omega
    have hm1 : 0 ≤ 1 + 3 * (m : Int) := by omega
    have hn1 : 0 ≤ 1 + 3 * (n : Int) := by omega
    obtain ⟨W0, hW0⟩ : ∃ W0, w.alloc (.cells #[.int .i64 c, .slice a n cap] 24) = W0 := ⟨_, rfl⟩
    rw [hW0] at c0 hv0 hb0 X0
    have k0 := X0.c0; have k1 := X0.c1
    have hs0 := X0.lt
    go_enter Tryd.func7, Tryd.ntmps7
    go_wp2_with fail
    clear hW0 k0 k1
    refine c0.mono ?_
    rintro e w1 ⟨rfl, b1⟩
    clear c0
    have X1 := X0.on b1 hs0; have k0 := X1.c0; have k1 := X1.c1
    have hv1 := hv0.on b1 (by omega)
    go_wp2_with fail
    clear k0 k1
    refine (toMemC c _ ws _ _ hv1 (by have := b1.size; omega) (by omega)).mono ?_
    rintro e w2 ⟨v2, rfl, O2, b2'⟩
    obtain ⟨a2, cap2, rfl⟩ := O2.form
    rw [hn] at O2 ⊢
    have b2 := b1.trans (b2'.mono b1.size)
    go_wp2_with fail
    refine (cS _ w2 O2.sees hlen).mono ?_
    rintro e w3 ⟨v3, rfl, O3, b3'⟩
    obtain ⟨a3, cap3, rfl⟩ := O3.form
    rw [hm] at O3 ⊢
    have b3 := b2.trans (b3'.mono b2.size)
    have d3 : ∀ k, (Value.slice a3 m cap3).ownBlock = some k → w.heap.size < k ∧ k < w3.heap.size := fun k hk => by have := O3.at k hk; have := b2.size; omega
    have Bn := (Below.refl w3.heap.size w3).alloc (Nat.le_refl _) (.cells #[.int .i64 C, .slice a3 m cap3] 30)
    have X3 := (X0.on b3 hs0).on Bn (by have := b3.size; omega)
    have P3 := Box.new w3 C (.slice a3 m cap3) 30
    have hv3 := (hv0.on b3 (by omega)).on Bn (by have := b3.size; omega)
    have O3 := (O3.on Bn (Nat.le_refl _)).mono (show w.heap.size ≤ w2.heap.size by have := b2.size; omega)
    have b3 := b3.trans (Bn.mono b3.size)
    obtain ⟨W3, hW3⟩ : ∃ W3, w3.alloc (.cells #[.int .i64 C, .slice a3 m cap3] 30) = W3 := ⟨_, rfl⟩
    obtain ⟨p1, hp1⟩ : ∃ p1, w3.heap.size = p1 := ⟨_, rfl⟩
    have hq1 : w.heap.size < p1 := by have := b2.size; have := b3'.size; omega
    rw [hW3] at X3 P3 hv3 O3 b3
    rw [hp1] at P3 d3
    have k0 := X3.c0; have k1 := X3.c1
    clear X1 hv1 O2 b2' b2 b1 b3' Bn
    go_wp2_with fail
    clear hW3 hp1 k0 k1
    have hsz3 := P3.lt
    refine (toMemC c _ ws _ W3 hv3 (by omega) (by omega)).mono ?_
    rintro e w4 ⟨v4, rfl, O4, b4'⟩
    obtain ⟨a4, cap4, rfl⟩ := O4.form
    rw [hn] at O4 ⊢
    have d4 : ∀ k, (Value.slice a4 n cap4).ownBlock = some k → p1 < k ∧ k < w4.heap.size := fun k hk => by have := O4.at k hk; omega
    have Bn := (Below.refl w4.heap.size w4).alloc (Nat.le_refl _) (.cells #[.int .i64 c, .slice a4 n cap4] 30)
    have b5 := b4'.trans (Bn.mono b4'.size)
    have X5 := X3.on b5 (by omega)
    have P5 := P3.on b5 hsz3
    have hv5 := hv3.on b5 (by omega)
    have O3 := O3.on b5 (Nat.le_refl _)
    have Q5 := Box.new w4 c (.slice a4 n cap4) 30
    have O4 := (O4.on Bn (Nat.le_refl _)).mono (show w.heap.size ≤ W3.heap.size by omega)
    have b5 := b3.trans (b5.mono b3.size)
    obtain ⟨W5, hW5⟩ : ∃ W5, w4.alloc (.cells #[.int .i64 c, .slice a4 n cap4] 30) = W5 := ⟨_, rfl⟩
    obtain ⟨p2, hp2⟩ : ∃ p2, w4.heap.size = p2 := ⟨_, rfl⟩
    have hq2 : p1 < p2 := by have := b4'.size; omega
    rw [hW5] at X5 P5 Q5 hv5 O3 O4 b5
    rw [hp2] at Q5 d4
    have j0 := Q5.c0; have j1 := Q5.c1
    clear b4' Bn b3 X3 P3 hv3
    go_wp2_with fail
    clear hW5 hp2 j0 j1
    have hsz5 := Q5.lt
    refine (cI _ W5 (hb0.trans (b5.mono (by omega))) O4.sees hlen).mono ?_
    rintro e w6 ⟨v6, rfl, O6, b6'⟩
    obtain ⟨a6, cap6, rfl⟩ := O6.form
    rw [hm] at O6 ⊢
    have d6 : ∀ k, (Value.slice a6 m cap6).ownBlock = some k → p2 < k ∧ k < w6.heap.size := fun k hk => by have := O6.at k hk; omega
    have Bn := (Below.refl w6.heap.size w6).alloc (Nat.le_refl _) (.cells #[.int .i64 C, .slice a6 m cap6] 30)
    have b7 := b6'.trans (Bn.mono b6'.size)
    have S7 : St w (w6.alloc (.cells #[.int .i64 C, .slice a6 m cap6] 30)) c C (.slice a n cap) (.slice a3 m cap3) (.slice a4 n cap4) (.slice a6 m cap6) p1 p2 w6.heap.size ws wr ws wr :=
      { bel := b5.trans (b7.mono b5.size) |> fun h => hb0.trans (h.mono (by omega)), X := X5.on b7 (by omega), see := hv5.on b7 (by omega), P := P5.on b7 (by omega), O3 := O3.on b7 (Nat.le_refl _), Q := Q5.on b7 hsz5, O4 := O4.on b7 (Nat.le_refl _),
        G := Box.new w6 C _ _, O6 := (O6.on Bn (Nat.le_refl _)).mono (by omega), d3 := d3, d4 := d4, d6 := d6, q1 := hq1, q2 := hq2, q3 := by have := b6'.size; omega }
    obtain ⟨W7, hW7⟩ : ∃ W7, w6.alloc (.cells #[.int .i64 C, .slice a6 m cap6] 30) = W7 := ⟨_, rfl⟩
    obtain ⟨p3, hp3⟩ : ∃ p3, w6.heap.size = p3 := ⟨_, rfl⟩
    rw [hW7, hp3] at S7
    have l0 := S7.G.c0; have l1 := S7.G.c1; have i0 := S7.P.c0; have i1 := S7.P.c1
    clear X5 P5 Q5 hv5 O3 O4 b5 b7 b6' Bn O6 d3 d4 d6 X0 hv0 hv
    go_wp2_with fail
    clear hW7 hp3 l0 l1 i0 i1
    refine (eqMemC C _ _ wr W7.heap.size W7 S7.O6.sees S7.O3.sees (Nat.le_refl _)).mono ?_
    rintro e w8 ⟨rfl, b8⟩
    have S8 := S7.on b8
    have k0 := S8.X.c0; have k1 := S8.X.c1; have j0 := S8.Q.c0; have j1 := S8.Q.c1
    clear S7 b8
    go_wp2_with fail
    go_region_held3 (fun W => W.cell? ⟨w.heap.size, 0, none⟩ = some (.int .i64 c) ∧ W.cell? ⟨w.heap.size, 1, none⟩ = some (.slice a n cap) ∧ W.cell? ⟨p2, 0, none⟩ = some (.int .i64 c) ∧ W.cell? ⟨p2, 1, none⟩ = some (.slice a4 n cap4)) (go_keep) ((first
      | (go_at_call 11; refine (toMemC c _ ws w.heap.size _ ?_ ?_ ?_).mono ?_; exact S8.drew.see; exact S8.drew.bel.size; omega; rintro e w9 ⟨v9, rfl, O9, b9⟩; obtain ⟨a9, cap9, rfl⟩ := O9.form; rw [hn] at O9; rw [hn]; have S9 := S8.drew.on b9; have kk0 := S9.X.c0; have kk1 := S9.X.c1; have jj0 := S9.Q.c0; have jj1 := S9.Q.c1)
      | (go_at_call 13; refine (eqMemC c _ _ ws w9.heap.size w9 ?_ ?_ ?_).mono ?_; exact S9.O4.sees; exact O9.sees; exact Nat.le_refl _; rintro e w10 ⟨rfl, b10⟩; have S10 := S9.on b10; have ka0 := S10.X.c0; have ka1 := S10.X.c1; have ja0 := S10.Q.c0; have ja1 := S10.Q.c1)))
    clear k0 k1 j0 j1 kk0 kk1 jj0 jj1 ka0 ka1 ja0 ja1 S8 S9 O9 b9 b10
    have j0 := S10.Q.c0; have j1 := S10.Q.c1
    go_wp2_with fail
    clear j0 j1
    refine (markMemC c _ ws w.heap.size w10 S10.O4 (by omega)).mono ?_
    rintro e w11 ⟨rfl, M11, g11⟩
    rw [hn] at M11 ⊢
    have S11 := S10.mark4 g11 M11
    have l0 := S11.G.c0; have l1 := S11.G.c1; have i0 := S11.P.c0; have i1 := S11.P.c1
    clear S10 M11 g11
    go_wp2_with fail
    clear l0 l1 i0 i1
    refine (eqMemC C _ _ wr w11.heap.size w11 S11.O6.sees S11.O3.sees (Nat.le_refl _)).mono ?_
    rintro e w12 ⟨rfl, b12⟩
    have S12 := S11.on b12
    have l0 := S12.G.c0; have l1 := S12.G.c1
    clear S11 b12
    go_wp2_with fail
    clear l0 l1
    refine (markMemC C _ wr w.heap.size w12 S12.O6 hlr).mono ?_
    rintro e w13 ⟨rfl, M13, g13⟩
    rw [hm] at M13 ⊢
    have S13 := S12.mark6 g13 M13
    have l0 := S13.G.c0; have l1 := S13.G.c1
    clear S12 M13 g13
    go_wp2_with fail
    clear l0 l1
    refine (heldMemC C _ m w.heap.size w13 S13.O6 (by omega)).mono ?_
    rintro e w14 ⟨rfl, b14⟩
    have S14 := S13.on b14
    have k0 := S14.X.c0; have k1 := S14.X.c1
    clear S13 b14
    go_wp2_with fail
    clear k0 k1
    refine (toMemC c _ ws w.heap.size w14 S14.see S14.bel.size (by omega)).mono ?_
    rintro e w15 ⟨v15, rfl, O15, b15⟩
    obtain ⟨a15, cap15, rfl⟩ := O15.form
    rw [hn] at O15 ⊢
    have S15 := S14.on b15
    clear S14 b15
    go_wp2_with fail
    refine (cI _ w15 S15.bel O15.sees hlen).mono ?_
    rintro e w16 ⟨v16, rfl, O16, b16⟩
    obtain ⟨a16, cap16, rfl⟩ := O16.form
    rw [hm] at O16 ⊢
    have Bn := (Below.refl w16.heap.size w16).alloc (Nat.le_refl _) (.cells #[.int .i64 C, .slice a16 m cap16] 30)
    have S17 := (S15.on b16).on Bn
    have H17 := Box.new w16 C (.slice a16 m cap16) 30
    have O17 := O16.on Bn (Nat.le_refl _)
    obtain ⟨W17, hW17⟩ : ∃ W17, w16.alloc (.cells #[.int .i64 C, .slice a16 m cap16] 30) = W17 := ⟨_, rfl⟩
    obtain ⟨p4, hp4⟩ : ∃ p4, w16.heap.size = p4 := ⟨_, rfl⟩
    rw [hW17] at S17 H17 O17
    rw [hp4] at H17
    have h0 := H17.c0; have h1 := H17.c1; have i0 := S17.P.c0; have i1 := S17.P.c1
    clear S15 O15 O16 b16 Bn
    go_wp2_with fail
    clear hW17 hp4 h0 h1 i0 i1
    refine (eqMemC C _ _ wr W17.heap.size W17 O17.sees S17.O3.sees (Nat.le_refl _)).mono ?_
    rintro e w18 ⟨rfl, b18⟩
    have S18 := S17.on b18
    have l0 := S18.G.c0; have l1 := S18.G.c1
    clear S17 b18 H17 O17
    go_wp2_with fail
    clear l0 l1
    refine (heldMemC C _ m w.heap.size w18 S18.O6 (by omega)).mono ?_
    rintro e w19 ⟨rfl, b19⟩
    have S19 := S18.on b19
    clear S18 b19
    go_wp2
    go_ret
    exact ⟨rfl, S19.bel⟩
  · have c0 := szMem_gt c _ ws _ _ hv0 hlen
    go_enter Tryd.func7, Tryd.ntmps7
    go_wp2_with fail
    refine c0.mono ?_
    rintro e w1 ⟨rfl, b1⟩
    clear c0
    go_wp2
    go_ret
    exact ⟨rfl, hb0.trans (b1.mono (by simp))⟩
end Words
end Go.Proofs.YtcohdglnobmciaaDoor
