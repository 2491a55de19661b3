/- The walk of the law of LoadLock, given what both functions answer. -/
import Derived.Test.YtcohdglnobmciaaDoorWordSt
import Derived.Deep.RegionHeld3
namespace Go.Proofs.YtcohdglnobmciaaDoor
open Go.RowKit
namespace Words

set_option maxRecDepth 100000 in
set_option maxHeartbeats 4000000 in
theorem walkLoadLock (c : Int) (i : Int) (v : Value) (ws : List W3) (w : World) (hv : Sees w.heap.size w v ws) (r1 r2 : Int) (r3 : Bool)
    (cS : ∀ (u : Value) (W : World), Below w.heap.size w W → Sees W.heap.size W u ws → Calls Tryd.prog 10 #[.agg #[.int .i64 c, u], .int .i64 i] W fun e w' => e = .returned (.tuple #[.int .i64 r1, .int .i64 r2, .bool r3]) ∧ Below W.heap.size W w')
    (cI : ∀ (u : Value) (W : World), Below w.heap.size w W → Sees W.heap.size W u ws → Calls Tryd.prog 12 #[.agg #[.int .i64 c, u], .int .i64 i] W fun e w' => e = .returned (.tuple #[.int .i64 r1, .int .i64 r2, .bool r3]) ∧ Below W.heap.size W w') :
    Calls Tryd.prog 3 #[.agg #[.int .i64 c, v], .int .i64 i] w fun e w' => e = .returned (.bool true) ∧ Below w.heap.size w w' := by
  obtain ⟨a, cap, rfl⟩ := hv.form
  have hb0 := (Below.refl w.heap.size w).alloc (Nat.le_refl _) (.cells #[.int .i64 c, .slice a ws.length cap] 24)
  have hv0 := hv.on hb0 (Nat.le_refl _)
  have X0 := Box.new w c (.slice a ws.length cap) 24
  by_cases hlen : ws.length ≤ 1048576
  · obtain ⟨n, hn⟩ : ∃ n, ws.length = n := ⟨_, rfl⟩
    have c0 := szMem_le c _ ws _ _ hv0 hlen
    rw [hn] at c0 hv0 hv hb0 X0 hlen ⊢
    have hpos : 0 ≤ 1048576 - (n : Int) := by omega
    obtain ⟨W0, hW0⟩ : ∃ W0, w.alloc (.cells #[.int .i64 c, .slice a n cap] 24) = W0 := ⟨_, rfl⟩
    rw [hW0] at c0 hv0 hb0 X0
    have k0 := X0.c0; have k1 := X0.c1
    have hs0 := X0.lt
    go_enter Tryd.func3, Tryd.ntmps3
    go_wp2_with fail
    clear hW0 k0 k1
    refine c0.mono ?_
    rintro e w1 ⟨rfl, b1⟩
    clear c0
    have X1 := X0.on b1 hs0; have k0 := X1.c0; have k1 := X1.c1
    have hv1 := hv0.on b1 (by omega)
    go_wp2_with fail
    clear k0 k1
    refine (toMemC c _ ws _ _ hv1 (by have := b1.size; omega) (by omega)).mono ?_
    rintro e w2 ⟨v2, rfl, O2, b2'⟩
    obtain ⟨a2, cap2, rfl⟩ := O2.form
    rw [hn] at O2 ⊢
    have b2 := b1.trans (b2'.mono b1.size)
    go_wp2_with fail
    refine (cS _ w2 (hb0.trans (b2.mono hb0.size)) O2.sees).mono ?_
    rintro e w3 ⟨rfl, b3'⟩
    have b3 := b2.trans (b3'.mono b2.size)
    have hv3 := hv0.on b3 (by omega)
    have X3 := X0.on b3 hs0; have k0 := X3.c0; have k1 := X3.c1
    clear b3' b2' X1 hv1 O2
    go_wp2_with fail
    clear k0 k1
    refine (toMemC c _ ws _ w3 hv3 (by have := b3.size; omega) (by omega)).mono ?_
    rintro e w4 ⟨v4, rfl, O4, b4'⟩
    obtain ⟨a4, cap4, rfl⟩ := O4.form
    rw [hn] at O4 ⊢
    have b4 := b3.trans (b4'.mono b3.size)
    have b5 := b4.alloc b4.size (.cells #[.int .i64 c, .slice a4 n cap4] 30)
    have X5 := X0.on b5 hs0; have k0 := X5.c0; have k1 := X5.c1
    have Y5 := Box.new w4 c (.slice a4 n cap4) 30
    have O5 := O4.on ((Below.refl w4.heap.size w4).alloc (Nat.le_refl _) (.cells #[.int .i64 c, .slice a4 n cap4] 30)) (Nat.le_refl _)
    obtain ⟨W5, hW5⟩ : ∃ W5, w4.alloc (.cells #[.int .i64 c, .slice a4 n cap4] 30) = W5 := ⟨_, rfl⟩
    obtain ⟨p2, hp2⟩ : ∃ p2, w4.heap.size = p2 := ⟨_, rfl⟩
    rw [hW5] at k0 k1 b5 X5 Y5 O5
    rw [hp2] at Y5
    have j0 := Y5.c0; have j1 := Y5.c1; have hs5 := Y5.lt
    clear b4' b3 b4 X3 hv3 O4
    go_wp2_with fail
    clear hW5 hp2 k0 k1 j0 j1
    refine (cI _ W5 (hb0.trans (b5.mono hb0.size)) O5.sees).mono ?_
    rintro e w6 ⟨rfl, b6'⟩
    have b6 := b5.trans (b6'.mono b5.size)
    have X6 := X0.on b6 hs0; have k0 := X6.c0; have k1 := X6.c1
    have Y6 := Y5.on b6' hs5; have j0 := Y6.c0; have j1 := Y6.c1
    have O6 := O5.on b6' (Nat.le_refl _)
    have hv6 := hv0.on b6 (by omega)
    have bw6 := (hb0.trans (b6.mono hb0.size)).drew
    clear b6' O5 Y5 X5 b5 hs5
    go_wp2_with fail
    go_region_held3 (fun W => W.cell? ⟨w.heap.size, 0, none⟩ = some (.int .i64 c) ∧ W.cell? ⟨w.heap.size, 1, none⟩ = some (.slice a n cap) ∧ W.cell? ⟨p2, 0, none⟩ = some (.int .i64 c) ∧ W.cell? ⟨p2, 1, none⟩ = some (.slice a4 n cap4)) (go_keep) ((first
      | (go_at_call 11; refine (toMemC c _ ws w.heap.size w6.drew ?_ ?_ ?_).mono ?_; exact hv6; exact bw6.size; omega; rintro e w9 ⟨v9, rfl, O9, b9⟩; obtain ⟨a9, cap9, rfl⟩ := O9.form; rw [hn] at O9; rw [hn]; have X9 := (Box.drew X6).on b9 X6.lt; have Y9 := (Box.drew Y6).on b9 Y6.lt; have O69 := (Owns.drew O6).on b9 (Nat.le_refl _); have bw9 := bw6.trans (b9.mono bw6.size); have kk0 := X9.c0; have kk1 := X9.c1; have jj0 := Y9.c0; have jj1 := Y9.c1)
      | (go_at_call 13; refine (eqMemC c _ _ ws w9.heap.size w9 ?_ ?_ ?_).mono ?_; exact O69.sees; exact O9.sees; exact Nat.le_refl _; rintro e w10 ⟨rfl, b10⟩; have X10 := X9.on b10 X9.lt; have Y10 := Y9.on b10 Y9.lt; have bw10 := bw9.trans (b10.mono bw9.size); have ka0 := X10.c0; have ka1 := X10.c1; have ja0 := Y10.c0; have ja1 := Y10.c1)))
    go_wp2
    go_ret
    exact ⟨rfl, bw10⟩
  · have c0 := szMem_gt c _ ws _ _ hv0 hlen
    go_enter Tryd.func3, Tryd.ntmps3
    go_wp2_with fail
    refine c0.mono ?_
    rintro e w1 ⟨rfl, b1⟩
    clear c0
    go_wp2
    go_ret
    exact ⟨rfl, hb0.trans (b1.mono (by simp))⟩
end Words
end Go.Proofs.YtcohdglnobmciaaDoor
