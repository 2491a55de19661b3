/- The law of MemOk. -/
import Derived.Test.YtcohdglnobmciaaWordImplOk
import Derived.Test.YtcohdglnobmciaaWordEq
namespace Go.Proofs.Ytcohdglnobmciaa
open Go.RowKit
namespace Words

set_option maxRecDepth 100000 in
set_option maxHeartbeats 1600000 in
theorem walkOk (c : Int) (v : Value) (ws : List W3) (w : World) (_hc : (Lit.int .i64 c).wf = true) (hv : Sees w.heap.size w v ws) :
    Calls Try.prog 3 #[.agg #[.int .i64 c, v]] w fun e w' => e = .returned (.bool true) ∧ Below w.heap.size w w' := by
  obtain ⟨a, cap, rfl⟩ := hv.form
  have hb0 := (Below.refl w.heap.size w).alloc (Nat.le_refl _) (.cells #[.int .i64 c, .slice a ws.length cap] 24)
  have hv0 := hv.on hb0 (Nat.le_refl _)
  have X0 := Box.new w c (.slice a ws.length cap) 24
  by_cases hlen : ws.length ≤ 1048576
  · obtain ⟨n, hn⟩ : ∃ n, ws.length = n := ⟨_, rfl⟩
    have c0 := szMem_le c _ ws _ _ hv0 hlen
    rw [hn] at c0 hv0 hv hb0 X0 hlen ⊢
    have hpos : 0 ≤ 1048576 - (n : Int) := by omega
    obtain ⟨W0, hW0⟩ : ∃ W0, w.alloc (.cells #[.int .i64 c, .slice a n cap] 24) = W0 := ⟨_, rfl⟩
    rw [hW0] at c0 hv0 hb0 X0
    have k0 := X0.c0; have k1 := X0.c1
    have hs0 := X0.lt
    go_enter Try.func3, Try.ntmps3
    go_wp2_with fail
    clear hW0 k0 k1
    refine c0.mono ?_
    rintro e w1 ⟨rfl, b1⟩
    clear c0
    have X1 := X0.on b1 hs0; have k0 := X1.c0; have k1 := X1.c1
    have hv1 := hv0.on b1 (by omega)
    go_wp2_with fail
    clear k0 k1
    refine (toMemC c _ ws _ _ hv1 (by have := b1.size; omega) (by omega)).mono ?_
    rintro e w2 ⟨v2, rfl, O2, b2'⟩
    obtain ⟨a2, cap2, rfl⟩ := O2.form
    rw [hn] at O2 ⊢
    have b2 := b1.trans (b2'.mono b1.size)
    go_wp2_with fail
    refine (specOk c _ ws _ w2 O2.sees (Nat.le_refl _)).mono ?_
    rintro e w3 ⟨rfl, b3'⟩
    have b3 := b2.trans (b3'.mono b2.size)
    have hv3 := hv0.on b3 (by omega)
    have X3 := X0.on b3 hs0; have k0 := X3.c0; have k1 := X3.c1
    clear b3' b2' X1 hv1 O2
    go_wp2_with fail
    clear k0 k1
    refine (toMemC c _ ws _ w3 hv3 (by have := b3.size; omega) (by omega)).mono ?_
    rintro e w4 ⟨v4, rfl, O4, b4'⟩
    obtain ⟨a4, cap4, rfl⟩ := O4.form
    rw [hn] at O4 ⊢
    have b4 := b3.trans (b4'.mono b3.size)
    have b5 := b4.alloc b4.size (.cells #[.int .i64 c, .slice a4 n cap4] 29)
    have X5 := X0.on b5 hs0; have k0 := X5.c0; have k1 := X5.c1
    have Y5 := Box.new w4 c (.slice a4 n cap4) 29
    have O5 := O4.on ((Below.refl w4.heap.size w4).alloc (Nat.le_refl _) (.cells #[.int .i64 c, .slice a4 n cap4] 29)) (Nat.le_refl _)
    obtain ⟨W5, hW5⟩ : ∃ W5, w4.alloc (.cells #[.int .i64 c, .slice a4 n cap4] 29) = W5 := ⟨_, rfl⟩
    rw [hW5] at k0 k1 b5 X5 Y5 O5
    have j0 := Y5.c0; have j1 := Y5.c1; have hs5 := Y5.lt
    have hs4 : w.heap.size < w4.heap.size := by have := b4.size; omega
    clear b4' b3 b4 X3 hv3 O4
    go_wp2_with fail
    clear hW5 k0 k1 j0 j1
    refine (implOk c _ ws _ W5 O5.sees (Nat.le_refl _)).mono ?_
    rintro e w6 ⟨rfl, b6'⟩
    have b6 := b5.trans (b6'.mono b5.size)
    have X6 := X0.on b6 hs0; have k0 := X6.c0; have k1 := X6.c1
    have Y6 := Y5.on b6' hs5; have j0 := Y6.c0; have j1 := Y6.c1
    have O6 := O5.on b6' (Nat.le_refl _)
    have hv6 := hv0.on b6 (by omega)
    have hs6 := Y6.lt
    have hB6 : w.heap.size ≤ w6.heap.size := by omega
    go_wp2_with fail
    go_region_with (first
      | (go_at_call 9; refine (toMemC c _ ws w.heap.size _ ?_ ?_ ?_).mono ?_; exact hv6; exact hB6; omega; rintro e w7 ⟨v7, rfl, O7, b7'⟩; obtain ⟨a7, cap7, rfl⟩ := O7.form; have Y7 : Box w7 w4.heap.size c (.slice a4 n cap4) 29 := (by first | exact Y6.on b7' hs6 | exact Box.on (W := w6.drew) Y6 b7' hs6); have i0 := Y7.c0; have i1 := Y7.c1; rw [hn] at O7; rw [hn])
      | (go_at_call 11; refine (eqMemC c _ _ ws w7.heap.size w7 ?_ ?_ ?_).mono ?_; (first | exact (O6.on b7' (Nat.le_refl _)).sees | exact (Owns.on (w := w6.drew) O6 b7' (Nat.le_refl _)).sees); exact O7.sees; exact Nat.le_refl _; rintro e w8 ⟨rfl, b8'⟩))
    all_goals
      have hB7 : Below w.heap.size w w7 := by
        first | exact (hb0.trans (b6.mono (by omega))).trans (b7'.mono hB6) | exact (hb0.trans (b6.mono (by omega))).drew.trans (b7'.mono hB6)
      have hB8 : Below w.heap.size w w8 := hB7.trans (b8'.mono hB7.size)
      clear hB7 b8' b7' Y7 O7 i0 i1 k0 k1 j0 j1
      go_wp2
      go_ret
      exact ⟨rfl, by first | exact hB8 | exact hB8.drew⟩
  · have c0 := szMem_gt c _ ws _ _ hv0 hlen
    go_enter Try.func3, Try.ntmps3
    go_wp2_with fail
    refine c0.mono ?_
    rintro e w1 ⟨rfl, b1⟩
    clear c0
    go_wp2
    go_ret
    exact ⟨rfl, hb0.trans (b1.mono (by simp))⟩
end Words
end Go.Proofs.Ytcohdglnobmciaa
