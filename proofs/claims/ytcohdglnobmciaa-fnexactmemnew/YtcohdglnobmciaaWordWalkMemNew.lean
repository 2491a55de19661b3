/- The law of MemNew. -/
import Derived.Test.YtcohdglnobmciaaWordSt
import Derived.Test.YtcohdglnobmciaaWordNew
namespace Go.Proofs.Ytcohdglnobmciaa
open Go.RowKit
namespace Words

/-- what the law of MemNew holds -/
structure StN (w W : World) (v v3 v4 v6 : Value) (p1 s p3 : Nat) (zs : List Int) (wr : List W3) (zx : List Int) (wg : List W3) : Prop where
  bel : Below w.heap.size w W
  see : Ints.Sees w.heap.size W v zs
  P : Box W p1 0 v3 29
  O3 : Owns w.heap.size W v3 wr
  O4 : Ints.Owns w.heap.size W v4 zx
  G : Box W p3 0 v6 29
  O6 : Owns w.heap.size W v6 wg
  d3 : ∀ k, v3.ownBlock = some k → w.heap.size ≤ k ∧ k < p1
  d4 : ∀ k, v4.ownBlock = some k → p1 < k ∧ k < s
  d6 : ∀ k, v6.ownBlock = some k → s ≤ k ∧ k < p3
  q1 : w.heap.size ≤ p1
  q2 : p1 < s
  q3 : s ≤ p3

section
variable {w W W' : World} {v v3 v4 v6 : Value} {p1 s p3 : Nat} {zs zx : List Int} {wr wg : List W3}
theorem StN.on (h : StN w W v v3 v4 v6 p1 s p3 zs wr zx wg) (hb : Below W.heap.size W W') : StN w W' v v3 v4 v6 p1 s p3 zs wr zx wg :=
  { h with
    bel := h.bel.trans (hb.mono h.bel.size)
    see := h.see.on hb h.bel.size
    P := h.P.on hb h.P.lt
    O3 := h.O3.on hb (Nat.le_refl _)
    O4 := h.O4.on hb (Nat.le_refl _)
    G := h.G.on hb h.G.lt
    O6 := h.O6.on hb (Nat.le_refl _) }
theorem StN.mark4 (h : StN w W v v3 v4 v6 p1 s p3 zs wr zx wg) (hg : W.grownBy W' v4.ownBlock) {zx' : List Int} (hO : Ints.Owns w.heap.size W' v4 zx') : StN w W' v v3 v4 v6 p1 s p3 zs wr zx' wg :=
  have a1 := h.q1; have a2 := h.q2; have a3 := h.q3
  { h with
    bel := h.bel.grown hg h.bel.size (fun k hk => by have := h.d4 k hk; omega)
    see := h.see.grown hg h.bel.size (fun k hk => by have := h.d4 k hk; omega)
    P := h.P.grown hg (fun e => by have := h.d4 _ e.symm; omega)
    O3 := h.O3.grown hg (fun k hk e => by have := h.d4 _ e.symm; have := h.d3 k hk; omega)
    O4 := hO
    G := h.G.grown hg (fun e => by have := h.d4 _ e.symm; omega)
    O6 := h.O6.grown hg (fun k hk e => by have := h.d4 _ e.symm; have := h.d6 k hk; omega) }
theorem StN.mark6 (h : StN w W v v3 v4 v6 p1 s p3 zs wr zx wg) (hg : W.grownBy W' v6.ownBlock) {wg' : List W3} (hO : Owns w.heap.size W' v6 wg') : StN w W' v v3 v4 v6 p1 s p3 zs wr zx wg' :=
  have a1 := h.q1; have a2 := h.q2; have a3 := h.q3
  { h with
    bel := h.bel.grown hg h.bel.size (fun k hk => by have := h.d6 k hk; omega)
    see := h.see.grown hg h.bel.size (fun k hk => by have := h.d6 k hk; omega)
    P := h.P.grown hg (fun e => by have := h.d6 _ e.symm; omega)
    O3 := h.O3.grown hg (fun k hk e => by have := h.d6 _ e.symm; have := h.d3 k hk; omega)
    O4 := h.O4.grown hg (fun k hk e => by have := h.d6 _ e.symm; have := h.d4 k hk; omega)
    G := h.G.grown hg (fun e => by have := h.d6 _ e.symm; omega)
    O6 := hO }
end
theorem newOf_len (zs : List Int) : (newOf zs).length ≤ 8 := by
  unfold newOf
  split
  · rename_i h; rw [List.length_map, valsOk_out h]; omega
  · simp

set_option maxRecDepth 100000 in
set_option maxHeartbeats 4000000 in
theorem lawMemNew (v : Value) (zs : List Int) (w : World) (hv : Ints.Sees w.heap.size w v zs) :
    Calls Try.prog 4 #[v] w fun e w' => e = .returned (.bool true) ∧ Below w.heap.size w w' := by
  obtain ⟨a, cap, rfl⟩ := hv.form
  by_cases hlen : zs.length ≤ 1048576
  · have cS := fun (u : Value) (W : World) (h : Ints.Sees W.heap.size W u zs) => specNew u zs _ W h (Nat.le_refl _)
    have cI := fun (u : Value) (W : World) (h : Ints.Sees W.heap.size W u zs) => implNew u zs _ W h (Nat.le_refl _)
    have hrl := newOf_len zs
    obtain ⟨wr, hwr⟩ : ∃ wr, newOf zs = wr := ⟨_, rfl⟩
    obtain ⟨r, hr⟩ : ∃ r, valsOk zs = r := ⟨_, rfl⟩
    rw [hwr, hr] at cS cI
    rw [hwr] at hrl
    clear hwr hr
    obtain ⟨n, hn⟩ : ∃ n, zs.length = n := ⟨_, rfl⟩
    obtain ⟨m, hm⟩ : ∃ m, wr.length = m := ⟨_, rfl⟩
    rw [hn] at hv hlen ⊢
    have hle : (n : Int) ≤ 1048576 := by omega
    have hm1 : 0 ≤ 1 + 3 * (m : Int) := by omega
    have hn1 : 0 ≤ 1 + (n : Int) := by omega
    go_enter Try.func4, Try.ntmps4
    go_wp2_with fail
    refine (Ints.toIntsC _ zs _ w hv (Nat.le_refl _) (by omega)).mono ?_
    rintro e w2 ⟨v2, rfl, O2, b2⟩
    obtain ⟨a2, cap2, rfl⟩ := O2.form
    rw [hn] at O2 ⊢
    go_wp2_with fail
    refine (cS _ w2 O2.sees).mono ?_
    rintro e w3 ⟨v3, rfl, O3, b3'⟩
    obtain ⟨a3, cap3, rfl⟩ := O3.form
    rw [hm] at O3 ⊢
    have b3 := b2.trans (b3'.mono b2.size)
    have d3 : ∀ k, (Value.slice a3 m cap3).ownBlock = some k → w.heap.size ≤ k ∧ k < w3.heap.size := fun k hk => by have := O3.at k hk; have := b2.size; omega
    have Bn := (Below.refl w3.heap.size w3).alloc (Nat.le_refl _) (.cells #[.int .i64 0, .slice a3 m cap3] 29)
    have P3 := Box.new w3 0 (.slice a3 m cap3) 29
    have hv3 := (hv.on b3 (Nat.le_refl _)).on Bn b3.size
    have O3 := (O3.on Bn (Nat.le_refl _)).mono (show w.heap.size ≤ w2.heap.size from b2.size)
    have b3 := b3.trans (Bn.mono b3.size)
    obtain ⟨W3, hW3⟩ : ∃ W3, w3.alloc (.cells #[.int .i64 0, .slice a3 m cap3] 29) = W3 := ⟨_, rfl⟩
    obtain ⟨p1, hp1⟩ : ∃ p1, w3.heap.size = p1 := ⟨_, rfl⟩
    have hq1 : w.heap.size ≤ p1 := by have := b2.size; have := b3'.size; omega
    rw [hW3] at P3 hv3 O3 b3
    rw [hp1] at P3 d3
    clear O2 b2 b3' Bn
    go_wp2_with fail
    clear hW3 hp1
    have hsz3 := P3.lt
    refine (Ints.toIntsC _ zs _ W3 hv3 (by omega) (by omega)).mono ?_
    rintro e w4 ⟨v4, rfl, O4, b4⟩
    obtain ⟨a4, cap4, rfl⟩ := O4.form
    rw [hn] at O4 ⊢
    have d4 : ∀ k, (Value.slice a4 n cap4).ownBlock = some k → p1 < k ∧ k < w4.heap.size := fun k hk => by have := O4.at k hk; omega
    have P4 := P3.on b4 hsz3
    have hv4 := hv3.on b4 (by omega)
    have O3 := O3.on b4 (Nat.le_refl _)
    have O4s := O4.sees
    have O4 := O4.mono (show w.heap.size ≤ W3.heap.size by omega)
    have b5 := b3.trans (b4.mono b3.size)
    have hq2 : p1 < w4.heap.size := by have := b4.size; omega
    clear P3 hv3 b3 b4
    go_wp2_with fail
    refine (cI _ w4 O4s).mono ?_
    rintro e w6 ⟨v6, rfl, O6, b6⟩
    obtain ⟨a6, cap6, rfl⟩ := O6.form
    rw [hm] at O6 ⊢
    have Bn := (Below.refl w6.heap.size w6).alloc (Nat.le_refl _) (.cells #[.int .i64 0, .slice a6 m cap6] 29)
    have b7 := b6.trans (Bn.mono b6.size)
    have S7 : StN w (w6.alloc (.cells #[.int .i64 0, .slice a6 m cap6] 29)) (.slice a n cap) (.slice a3 m cap3) (.slice a4 n cap4) (.slice a6 m cap6) p1 w4.heap.size w6.heap.size zs wr zs wr :=
      { bel := b5.trans (b7.mono b5.size)
        see := hv4.on b7 (by omega)
        P := P4.on b7 (by omega)
        O3 := O3.on b7 (Nat.le_refl _)
        O4 := O4.on b7 (Nat.le_refl _)
        G := Box.new w6 0 _ _
        O6 := (O6.on Bn (Nat.le_refl _)).mono (by omega)
        d3 := d3
        d4 := d4
        d6 := fun k hk => O6.at k hk
        q1 := hq1
        q2 := hq2
        q3 := b6.size }
    obtain ⟨W7, hW7⟩ : ∃ W7, w6.alloc (.cells #[.int .i64 0, .slice a6 m cap6] 29) = W7 := ⟨_, rfl⟩
    obtain ⟨p3, hp3⟩ : ∃ p3, w6.heap.size = p3 := ⟨_, rfl⟩
    rw [hW7, hp3] at S7
    have l0 := S7.G.c0; have l1 := S7.G.c1; have i0 := S7.P.c0; have i1 := S7.P.c1
    clear P4 hv4 O3 O4 O4s b5 b7 b6 Bn O6 d3 d4 hv
    go_wp2_with fail
    clear hW7 hp3 l0 l1 i0 i1
    refine (eqMemC 0 _ _ wr W7.heap.size W7 S7.O6.sees S7.O3.sees (Nat.le_refl _)).mono ?_
    rintro e w8 ⟨rfl, b8⟩
    have S8 := S7.on b8
    clear S7 b8
    go_wp2_with fail
    refine (Ints.toIntsC _ zs w.heap.size w8 S8.see S8.bel.size (by omega)).mono ?_
    rintro e w9 ⟨v9, rfl, O9, b9⟩
    obtain ⟨a9, cap9, rfl⟩ := O9.form
    rw [hn] at O9 ⊢
    have S9 := S8.on b9
    clear S8 b9
    go_wp2_with fail
    refine (Ints.eqIntsC _ _ zs w9.heap.size w9 S9.O4.sees O9.sees (Nat.le_refl _)).mono ?_
    rintro e w10 ⟨rfl, b10⟩
    have S10 := S9.on b10
    clear S9 b10 O9
    go_wp2_with fail
    refine (Ints.markIntsC _ zs w.heap.size w10 S10.O4 (by omega)).mono ?_
    rintro e w11 ⟨rfl, M11, g11⟩
    rw [hn] at M11 ⊢
    have S11 := S10.mark4 g11 M11
    have l0 := S11.G.c0; have l1 := S11.G.c1; have i0 := S11.P.c0; have i1 := S11.P.c1
    clear S10 M11 g11
    go_wp2_with fail
    clear l0 l1 i0 i1
    refine (eqMemC 0 _ _ wr w11.heap.size w11 S11.O6.sees S11.O3.sees (Nat.le_refl _)).mono ?_
    rintro e w12 ⟨rfl, b12⟩
    have S12 := S11.on b12
    have l0 := S12.G.c0; have l1 := S12.G.c1
    clear S11 b12
    go_wp2_with fail
    clear l0 l1
    refine (markMemC 0 _ wr w.heap.size w12 S12.O6 (by omega)).mono ?_
    rintro e w13 ⟨rfl, M13, g13⟩
    rw [hm] at M13 ⊢
    have S13 := S12.mark6 g13 M13
    have l0 := S13.G.c0; have l1 := S13.G.c1
    clear S12 M13 g13
    go_wp2_with fail
    clear l0 l1
    refine (heldMemC 0 _ m w.heap.size w13 S13.O6 (by omega)).mono ?_
    rintro e w14 ⟨rfl, b14⟩
    have S14 := S13.on b14
    clear S13 b14
    go_wp2_with fail
    refine (Ints.toIntsC _ zs w.heap.size w14 S14.see S14.bel.size (by omega)).mono ?_
    rintro e w15 ⟨v15, rfl, O15, b15⟩
    obtain ⟨a15, cap15, rfl⟩ := O15.form
    rw [hn] at O15 ⊢
    have S15 := S14.on b15
    clear S14 b15
    go_wp2_with fail
    refine (cI _ w15 O15.sees).mono ?_
    rintro e w16 ⟨v16, rfl, O16, b16⟩
    obtain ⟨a16, cap16, rfl⟩ := O16.form
    rw [hm] at O16 ⊢
    have Bn := (Below.refl w16.heap.size w16).alloc (Nat.le_refl _) (.cells #[.int .i64 0, .slice a16 m cap16] 29)
    have S17 := (S15.on b16).on Bn
    have H17 := Box.new w16 0 (.slice a16 m cap16) 29
    have O17 := O16.on Bn (Nat.le_refl _)
    obtain ⟨W17, hW17⟩ : ∃ W17, w16.alloc (.cells #[.int .i64 0, .slice a16 m cap16] 29) = W17 := ⟨_, rfl⟩
    obtain ⟨p4, hp4⟩ : ∃ p4, w16.heap.size = p4 := ⟨_, rfl⟩
    rw [hW17] at S17 H17 O17
    rw [hp4] at H17
    have h0 := H17.c0; have h1 := H17.c1; have i0 := S17.P.c0; have i1 := S17.P.c1
    clear S15 O15 O16 b16 Bn
    go_wp2_with fail
    clear hW17 hp4 h0 h1 i0 i1
    refine (eqMemC 0 _ _ wr W17.heap.size W17 O17.sees S17.O3.sees (Nat.le_refl _)).mono ?_
    rintro e w18 ⟨rfl, b18⟩
    have S18 := S17.on b18
    have l0 := S18.G.c0; have l1 := S18.G.c1
    clear S17 b18 H17 O17
    go_wp2_with fail
    clear l0 l1
    refine (heldMemC 0 _ m w.heap.size w18 S18.O6 (by omega)).mono ?_
    rintro e w19 ⟨rfl, b19⟩
    have S19 := S18.on b19
    clear S18 b19
    go_wp2
    go_ret
    exact ⟨rfl, S19.bel⟩
  · obtain ⟨a', cap', he, h1, h2, -⟩ := hv
    have h3 : (zs.length : Int) ≤ 9223372036854775807 := by unfold maxLen at h2; omega
    obtain ⟨n, hn⟩ : ∃ n, zs.length = n := ⟨_, rfl⟩
    rw [hn] at h3 hlen ⊢
    have hlt : 1048576 < (n : Int) := by omega
    clear hn he h1 h2
    go_enter Try.func4, Try.ntmps4
    go_wp2
    go_ret
    exact ⟨rfl, Below.refl _ _⟩
end Words
end Go.Proofs.Ytcohdglnobmciaa
