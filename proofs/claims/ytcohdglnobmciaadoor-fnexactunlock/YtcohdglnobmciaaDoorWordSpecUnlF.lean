/- spec.Unlock of what is not one's own. -/
import Derived.Test.YtcohdglnobmciaaDoorWordSpecLock
import Derived.Deep.RegionLaw
namespace Go.Proofs.YtcohdglnobmciaaDoor
open Go.RowKit
namespace Words

theorem undrew {B : Nat} {w w' : World} (h : Below B w.drew w') : Below B w w' := ⟨h.os, h.tape, h.output, h.size, h.block⟩
set_option maxRecDepth 100000 in
theorem inYes (x a b : Int) (h1 : a ≤ x) (h2 : x ≤ b) (w : World) : Calls Tryd.prog 39 #[.int .i64 x, .int .i64 a, .int .i64 b] w fun e w' => e = .returned (.bool true) ∧ w = w' := by
  go_enter Tryd.func39, Tryd.ntmps39
  go_wp2
  go_ret
  exact ⟨rfl, rfl⟩
set_option maxRecDepth 100000 in
theorem inNo (x a b : Int) (h : x < a ∨ (a ≤ x ∧ b < x)) (w : World) : Calls Tryd.prog 39 #[.int .i64 x, .int .i64 a, .int .i64 b] w fun e w' => e = .returned (.bool false) ∧ w = w' := by
  rcases h with h | ⟨h1, h2⟩
  · go_enter Tryd.func39, Tryd.ntmps39
    go_wp2
    go_ret
    exact ⟨rfl, rfl⟩
  · have h3 : decide (x ≤ b) = false := by simp; omega
    go_enter Tryd.func39, Tryd.ntmps39
    go_wp2
    go_ret
    exact ⟨rfl, rfl⟩

set_option maxRecDepth 100000 in
set_option maxHeartbeats 1600000 in
theorem specUnlockF (c : Int) (v : Value) (ws : List W3) (i who y : Int) (B : Nat) (w : World) (hv : Sees B w v ws) (hB : B ≤ w.heap.size) (hlen : ws.length ≤ 1048576) (hm : mine c ws i who = false) :
    Calls Tryd.prog 22 #[.agg #[.int .i64 c, v], .int .i64 i, .int .i64 who, .int .i64 y] w fun e w' => ∃ v', e = .returned (.tuple #[.agg #[.int .i64 c, v'], .bool false]) ∧ Owns w.heap.size w' v' ws ∧ Below w.heap.size w w' := by
  obtain ⟨a, cap, rfl⟩ := hv.form
  have hb0 := ((Below.refl w.heap.size w).alloc (Nat.le_refl _) (.cells #[.int .i64 c, .slice a ws.length cap] 30)).alloc (by simp) (.cells #[.int .i64 0, .slice none 0 0] 30)
  have X0 : Box ((w.alloc (.cells #[.int .i64 c, .slice a ws.length cap] 30)).alloc (.cells #[.int .i64 0, .slice none 0 0] 30)) w.heap.size c (.slice a ws.length cap) 30 := heap_alloc2_old _ _ _
  have Y0 : Box ((w.alloc (.cells #[.int .i64 c, .slice a ws.length cap] 30)).alloc (.cells #[.int .i64 0, .slice none 0 0] 30)) (w.heap.size + 1) 0 (.slice none 0 0) 30 := heap_alloc2_new _ _ _
  have hv0 := hv.on hb0 hB
  obtain ⟨n, hn⟩ : ∃ n, ws.length = n := ⟨_, rfl⟩
  rw [hn] at hv hb0 X0 Y0 hv0 ⊢
  obtain ⟨W0, hW0⟩ : ∃ W0, (w.alloc (.cells #[.int .i64 c, .slice a n cap] 30)).alloc (.cells #[.int .i64 0, .slice none 0 0] 30) = W0 := ⟨_, rfl⟩
  rw [hW0] at hb0 X0 Y0 hv0
  have k0 := X0.c0; have k1 := X0.c1; have hs0 := Y0.lt
  have cC := specCopy c _ ws B W0 hv0 (by omega) hlen
  -- what is so behind the copy, in its box at p, and a call that only makes memory
  have tail : ∀ w1 (a1 : Option Addr) (cap1 : Nat), Below W0.heap.size W0 w1 → Owns W0.heap.size w1 (.slice a1 n cap1) ws →
      Box (w1.alloc (.cells #[.int .i64 c, .slice a1 n cap1] 30)) w.heap.size c (.slice a n cap) 30 ∧ Sees B (w1.alloc (.cells #[.int .i64 c, .slice a1 n cap1] 30)) (.slice a n cap) ws ∧
      ∀ w2, Below (w1.alloc (.cells #[.int .i64 c, .slice a1 n cap1] 30)).heap.size (w1.alloc (.cells #[.int .i64 c, .slice a1 n cap1] 30)) w2 →
        Box w2 w.heap.size c (.slice a n cap) 30 ∧ Box w2 (w.heap.size + 1) 0 (.slice none 0 0) 30 ∧ Box w2 w1.heap.size c (.slice a1 n cap1) 30 ∧ Sees B w2 (.slice a n cap) ws ∧ Owns W0.heap.size w2 (.slice a1 n cap1) ws ∧ Below w.heap.size w w2 := by
    intro w1 a1 cap1 b1 O1
    have Bn := (Below.refl w1.heap.size w1).alloc (Nat.le_refl _) (.cells #[.int .i64 c, .slice a1 n cap1] 30)
    have b2 := b1.trans (Bn.mono b1.size)
    refine ⟨X0.on b2 (by omega), hv0.on b2 (by omega), fun w2 b3 => ?_⟩
    have b4 := b2.trans (b3.mono b2.size)
    exact ⟨X0.on b4 (by omega), Y0.on b4 hs0, (Box.new w1 c (.slice a1 n cap1) 30).on b3 (by simp), hv0.on b4 (by omega), (O1.on Bn (Nat.le_refl _)).on b3 (Nat.le_refl _), hb0.trans (b4.mono hb0.size)⟩
  go_enter Tryd.func22, Tryd.ntmps22
  go_wp2_with fail
  refine cC.mono ?_
  rintro e w1 ⟨v1, rfl, O1, b1⟩
  obtain ⟨a1, cap1, rfl⟩ := O1.form
  rw [hn] at O1 ⊢
  obtain ⟨Xa, hva, rest⟩ := tail w1 a1 cap1 b1 O1
  have l0 := Xa.c0; have l1 := Xa.c1
  have hsz1 : W0.heap.size ≤ w1.heap.size := b1.size
  have own1 := O1.at
  have hva' : Sees B (w1.alloc (.cells #[.int .i64 c, .slice a1 n cap1] 30)).drew (.slice a n cap) ws := hva
  have cO := specMine c _ ws i who B _ hva' (by show B ≤ (w1.alloc (.cells #[.int .i64 c, .slice a1 n cap1] 30)).heap.size; simp; omega)
  rw [hm] at cO
  clear cC tail hW0 k0 k1
  go_wp2_with fail
  refine wp_region_any (by kernel_rfl) ?_
  change wpAny _ _ _ _ _ _ _ (World.drew _)
  refine wpAny_take (i := 1) (v := .int .i64 i) rfl (by kernel_rfl) (by kernel_rfl) (by kernel_rfl) (fun _ _ _ h => h) (Or.inl ⟨by rfl, fun w => by go_simp⟩) ?_
  refine wpAny_take (i := 2) (v := .int .i64 who) rfl (by kernel_rfl) (by kernel_rfl) (by kernel_rfl) (fun _ _ _ h => h) (Or.inl ⟨by rfl, fun w => by go_simp⟩) ?_
  (refine wpAny_ready (rs := [0]) (by kernel_rfl) (by simp) ?_; refine AllReady.cons rfl (fun K hK => ?_) AllReady.nil; go_simp; refine hK _ _ ?_; clear hK K)
  refine wpAny_ready (rs := [3]) (by kernel_rfl) (by simp) ?_
  refine AllReady.cons rfl (fun K hK => ?_) AllReady.nil
  go_simp
  refine cO.mono ?_
  rintro e w2 ⟨rfl, b2'⟩
  have b2 := undrew b2'
  obtain ⟨X2, Y2, Z2, hv2, O2, bw2⟩ := rest w2 b2
  have k0 := X2.c0; have k1 := X2.c1; have j0 := Y2.c0; have j1 := Y2.c1; have i0 := Z2.c0; have i1 := Z2.c1
  have f0 := fun j => frozen_of_row w2 (w.heap.size + 1) j _ _ Y2
  go_simp
  refine hK _ _ ?_
  clear hK K
  (refine wpAny_ready (rs := [4]) (by kernel_rfl) (by simp) ?_; refine AllReady.cons rfl (fun K hK => ?_) AllReady.nil; go_simp; refine hK _ _ ?_; clear hK K)
  (refine wpAny_ready (rs := [5]) (by kernel_rfl) (by simp) ?_; refine AllReady.cons rfl (fun K hK => ?_) AllReady.nil; go_simp; refine hK _ _ ?_; clear hK K)
  refine wpAny_take (i := 6) (v := undef) rfl (by kernel_rfl) (by kernel_rfl) (by kernel_rfl) (fun _ _ _ h => h) (Or.inr ⟨by rfl, rfl⟩) ?_
  refine wpAny_take (i := 7) (v := undef) rfl (by kernel_rfl) (by kernel_rfl) (by kernel_rfl) (fun _ _ _ h => h) (Or.inr ⟨by rfl, rfl⟩) ?_
  refine wpAny_take (i := 9) (v := undef) rfl (by kernel_rfl) (by kernel_rfl) (by kernel_rfl) (fun _ _ _ h => h) (Or.inr ⟨by rfl, rfl⟩) ?_
  refine wpAny_take (i := 13) (v := undef) rfl (by kernel_rfl) (by kernel_rfl) (by kernel_rfl) (fun _ _ _ h => h) (Or.inr ⟨by rfl, rfl⟩) ?_
  (refine wpAny_ready (rs := [8, 14]) (by kernel_rfl) (by simp) ?_; refine AllReady.cons rfl (fun K hK => ?_) (AllReady.cons rfl (fun K hK => ?_) AllReady.nil) <;> (go_simp; refine hK _ _ ?_; clear hK K))
  · refine wpAny_take (i := 10) (v := undef) rfl (by kernel_rfl) (by kernel_rfl) (by kernel_rfl) (fun _ _ _ h => h) (Or.inr ⟨by rfl, rfl⟩) ?_
    refine wpAny_take (i := 11) (v := undef) rfl (by kernel_rfl) (by kernel_rfl) (by kernel_rfl) (fun _ _ _ h => h) (Or.inr ⟨by rfl, rfl⟩) ?_
    (refine wpAny_ready (rs := [12, 14]) (by kernel_rfl) (by simp) ?_; refine AllReady.cons rfl (fun K hK => ?_) (AllReady.cons rfl (fun K hK => ?_) AllReady.nil) <;> (go_simp; refine hK _ _ ?_; clear hK K))
    · (refine wpAny_ready (rs := [14]) (by kernel_rfl) (by simp) ?_; refine AllReady.cons rfl (fun K hK => ?_) AllReady.nil; go_simp; refine hK _ _ ?_; clear hK K)
      (refine wpAny_ready (rs := [15]) (by kernel_rfl) (by simp) ?_; refine AllReady.cons rfl (fun K hK => ?_) AllReady.nil; go_simp; refine hK _ _ ?_; clear hK K)
      refine wpAny_take (i := 16) (v := undef) rfl (by kernel_rfl) (by kernel_rfl) (by kernel_rfl) (fun _ _ _ h => h) (Or.inr ⟨by rfl, rfl⟩) ?_
      (refine wpAny_ready (rs := [17]) (by kernel_rfl) (by simp) ?_; refine AllReady.cons rfl (fun K hK => ?_) AllReady.nil; go_simp; refine hK _ _ ?_; clear hK K)
      refine wpAny_done (by kernel_rfl) ?_ _
      clear cO rest l0 l1 Xa hva hva'
      go_wp2
      refine bodyPost_ret (v := .tuple #[.agg #[.int .i64 c, .slice a1 n cap1], .bool false]) (by simp [results, Tryd.results22, go_sem, j0, j1]) rfl ⟨_, rfl, ?_, ?_⟩
      · exact ((O2.setCell (by simp; omega) _).setCell (by simp; omega) _).mono hb0.size
      · first | exact (bw2.setCell (by simp) _).setCell (by simp) _ | exact (bw2.drew.setCell (by simp) _).setCell (by simp) _
    · (refine wpAny_ready (rs := [12]) (by kernel_rfl) (by simp) ?_; refine AllReady.cons rfl (fun K hK => ?_) AllReady.nil; go_simp; refine hK _ _ ?_; clear hK K)
      (refine wpAny_ready (rs := [15]) (by kernel_rfl) (by simp) ?_; refine AllReady.cons rfl (fun K hK => ?_) AllReady.nil; go_simp; refine hK _ _ ?_; clear hK K)
      refine wpAny_take (i := 16) (v := undef) rfl (by kernel_rfl) (by kernel_rfl) (by kernel_rfl) (fun _ _ _ h => h) (Or.inr ⟨by rfl, rfl⟩) ?_
      (refine wpAny_ready (rs := [17]) (by kernel_rfl) (by simp) ?_; refine AllReady.cons rfl (fun K hK => ?_) AllReady.nil; go_simp; refine hK _ _ ?_; clear hK K)
      refine wpAny_done (by kernel_rfl) ?_ _
      clear cO rest l0 l1 Xa hva hva'
      go_wp2
      refine bodyPost_ret (v := .tuple #[.agg #[.int .i64 c, .slice a1 n cap1], .bool false]) (by simp [results, Tryd.results22, go_sem, j0, j1]) rfl ⟨_, rfl, ?_, ?_⟩
      · exact ((O2.setCell (by simp; omega) _).setCell (by simp; omega) _).mono hb0.size
      · first | exact (bw2.setCell (by simp) _).setCell (by simp) _ | exact (bw2.drew.setCell (by simp) _).setCell (by simp) _
  · (refine wpAny_ready (rs := [8]) (by kernel_rfl) (by simp) ?_; refine AllReady.cons rfl (fun K hK => ?_) AllReady.nil; go_simp; refine hK _ _ ?_; clear hK K)
    refine wpAny_take (i := 10) (v := undef) rfl (by kernel_rfl) (by kernel_rfl) (by kernel_rfl) (fun _ _ _ h => h) (Or.inr ⟨by rfl, rfl⟩) ?_
    refine wpAny_take (i := 11) (v := undef) rfl (by kernel_rfl) (by kernel_rfl) (by kernel_rfl) (fun _ _ _ h => h) (Or.inr ⟨by rfl, rfl⟩) ?_
    (refine wpAny_ready (rs := [12]) (by kernel_rfl) (by simp) ?_; refine AllReady.cons rfl (fun K hK => ?_) AllReady.nil; go_simp; refine hK _ _ ?_; clear hK K)
    (refine wpAny_ready (rs := [15]) (by kernel_rfl) (by simp) ?_; refine AllReady.cons rfl (fun K hK => ?_) AllReady.nil; go_simp; refine hK _ _ ?_; clear hK K)
    refine wpAny_take (i := 16) (v := undef) rfl (by kernel_rfl) (by kernel_rfl) (by kernel_rfl) (fun _ _ _ h => h) (Or.inr ⟨by rfl, rfl⟩) ?_
    (refine wpAny_ready (rs := [17]) (by kernel_rfl) (by simp) ?_; refine AllReady.cons rfl (fun K hK => ?_) AllReady.nil; go_simp; refine hK _ _ ?_; clear hK K)
    refine wpAny_done (by kernel_rfl) ?_ _
    clear cO rest l0 l1 Xa hva hva'
    go_wp2
    refine bodyPost_ret (v := .tuple #[.agg #[.int .i64 c, .slice a1 n cap1], .bool false]) (by simp [results, Tryd.results22, go_sem, j0, j1]) rfl ⟨_, rfl, ?_, ?_⟩
    · exact ((O2.setCell (by simp; omega) _).setCell (by simp; omega) _).mono hb0.size
    · first | exact (bw2.setCell (by simp) _).setCell (by simp) _ | exact (bw2.drew.setCell (by simp) _).setCell (by simp) _
end Words
end Go.Proofs.YtcohdglnobmciaaDoor
