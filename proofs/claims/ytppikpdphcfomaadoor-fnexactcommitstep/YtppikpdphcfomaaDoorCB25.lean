/- Several texts of one proof, in build order: WordSpecUnlF, WordSpecUnlock. -/
import Derived.Deep.RegionLaw
import Derived.Test.YtppikpdphcfomaaDoorCB24
/- spec.Unlock of what is not one's own. -/
namespace Go.Proofs.YtppikpdphcfomaaDoor
open Go.RowKit
namespace Words

theorem undrew {B : Nat} {w w' : World} (h : Below B w.drew w') : Below B w w' := ⟨h.os, h.tape, h.output, h.size, h.block⟩
set_option maxRecDepth 100000 in
theorem inYes (x a b : Int) (h1 : a ≤ x) (h2 : x ≤ b) (w : World) : Calls Tryd.prog 52 #[.int .i64 x, .int .i64 a, .int .i64 b] w fun e w' => e = .returned (.bool true) ∧ w = w' := by
  go_enter Tryd.func52, Tryd.ntmps52
  go_wp2
  go_ret
  exact ⟨rfl, rfl⟩
set_option maxRecDepth 100000 in
theorem inNo (x a b : Int) (h : x < a ∨ (a ≤ x ∧ b < x)) (w : World) : Calls Tryd.prog 52 #[.int .i64 x, .int .i64 a, .int .i64 b] w fun e w' => e = .returned (.bool false) ∧ w = w' := by
  rcases h with h | ⟨h1, h2⟩
  · go_enter Tryd.func52, Tryd.ntmps52
    go_wp2
    go_ret
    exact ⟨rfl, rfl⟩
  · have h3 : decide (x ≤ b) = false := by simp; omega
    go_enter Tryd.func52, Tryd.ntmps52
    go_wp2
    go_ret
    exact ⟨rfl, rfl⟩

set_option maxRecDepth 100000 in
set_option maxHeartbeats 1600000 in
theorem specUnlockF (c : Int) (v : Value) (ws : List W3) (i who y : Int) (B : Nat) (w : World) (hv : Sees B w v ws) (hB : B ≤ w.heap.size) (hlen : ws.length ≤ 1048576) (hm : mine c ws i who = false) :
    Calls Tryd.prog 28 #[.agg #[.int .i64 c, v], .int .i64 i, .int .i64 who, .int .i64 y] w fun e w' => ∃ v', e = .returned (.tuple #[.agg #[.int .i64 c, v'], .bool false]) ∧ Owns w.heap.size w' v' ws ∧ Below w.heap.size w w' := by
  obtain ⟨a, cap, rfl⟩ := hv.form
  have hb0 := ((Below.refl w.heap.size w).alloc (Nat.le_refl _) (.cells #[.int .i64 c, .slice a ws.length cap] 33)).alloc (by simp) (.cells #[.int .i64 0, .slice none 0 0] 33)
  have X0 : Box ((w.alloc (.cells #[.int .i64 c, .slice a ws.length cap] 33)).alloc (.cells #[.int .i64 0, .slice none 0 0] 33)) w.heap.size c (.slice a ws.length cap) 33 := heap_alloc2_old _ _ _
  have Y0 : Box ((w.alloc (.cells #[.int .i64 c, .slice a ws.length cap] 33)).alloc (.cells #[.int .i64 0, .slice none 0 0] 33)) (w.heap.size + 1) 0 (.slice none 0 0) 33 := heap_alloc2_new _ _ _
  have hv0 := hv.on hb0 hB
  obtain ⟨n, hn⟩ : ∃ n, ws.length = n := ⟨_, rfl⟩
  rw [hn] at hv hb0 X0 Y0 hv0 ⊢
  obtain ⟨W0, hW0⟩ : ∃ W0, (w.alloc (.cells #[.int .i64 c, .slice a n cap] 33)).alloc (.cells #[.int .i64 0, .slice none 0 0] 33) = W0 := ⟨_, rfl⟩
  rw [hW0] at hb0 X0 Y0 hv0
  have k0 := X0.c0; have k1 := X0.c1; have hs0 := Y0.lt
  have cC := specCopy c _ ws B W0 hv0 (by omega) hlen
  -- what is so behind the copy, in its box at p, and a call that only makes memory
  have tail : ∀ w1 (a1 : Option Addr) (cap1 : Nat), Below W0.heap.size W0 w1 → Owns W0.heap.size w1 (.slice a1 n cap1) ws →
      Box (w1.alloc (.cells #[.int .i64 c, .slice a1 n cap1] 33)) w.heap.size c (.slice a n cap) 33 ∧ Sees B (w1.alloc (.cells #[.int .i64 c, .slice a1 n cap1] 33)) (.slice a n cap) ws ∧
      ∀ w2, Below (w1.alloc (.cells #[.int .i64 c, .slice a1 n cap1] 33)).heap.size (w1.alloc (.cells #[.int .i64 c, .slice a1 n cap1] 33)) w2 →
        Box w2 w.heap.size c (.slice a n cap) 33 ∧ Box w2 (w.heap.size + 1) 0 (.slice none 0 0) 33 ∧ Box w2 w1.heap.size c (.slice a1 n cap1) 33 ∧ Sees B w2 (.slice a n cap) ws ∧ Owns W0.heap.size w2 (.slice a1 n cap1) ws ∧ Below w.heap.size w w2 := by
    intro w1 a1 cap1 b1 O1
    have Bn := (Below.refl w1.heap.size w1).alloc (Nat.le_refl _) (.cells #[.int .i64 c, .slice a1 n cap1] 33)
    have b2 := b1.trans (Bn.mono b1.size)
    refine ⟨X0.on b2 (by omega), hv0.on b2 (by omega), fun w2 b3 => ?_⟩
    have b4 := b2.trans (b3.mono b2.size)
    exact ⟨X0.on b4 (by omega), Y0.on b4 hs0, (Box.new w1 c (.slice a1 n cap1) 33).on b3 (by simp), hv0.on b4 (by omega), (O1.on Bn (Nat.le_refl _)).on b3 (Nat.le_refl _), hb0.trans (b4.mono hb0.size)⟩
  go_enter Tryd.func28, Tryd.ntmps28
  go_wp2_with fail
  refine cC.mono ?_
  rintro e w1 ⟨v1, rfl, O1, b1⟩
  obtain ⟨a1, cap1, rfl⟩ := O1.form
  rw [hn] at O1 ⊢
  obtain ⟨Xa, hva, rest⟩ := tail w1 a1 cap1 b1 O1
  have l0 := Xa.c0; have l1 := Xa.c1
  have hsz1 : W0.heap.size ≤ w1.heap.size := b1.size
  have own1 := O1.at
  have hva' : Sees B (w1.alloc (.cells #[.int .i64 c, .slice a1 n cap1] 33)).drew (.slice a n cap) ws := hva
  have cO := specMine c _ ws i who B _ hva' (by show B ≤ (w1.alloc (.cells #[.int .i64 c, .slice a1 n cap1] 33)).heap.size; simp; omega)
  rw [hm] at cO
  clear cC tail hW0 k0 k1
  go_wp2_with fail
  refine wp_region_any (by kernel_rfl) ?_
  change wpAny _ _ _ _ _ _ _ (World.drew _)
  refine wpAny_take (i := 1) (v := .int .i64 i) rfl (by kernel_rfl) (by kernel_rfl) (by kernel_rfl) (fun _ _ _ h => h) (Or.inl ⟨by rfl, fun w => by go_simp⟩) ?_
  refine wpAny_take (i := 2) (v := .int .i64 who) rfl (by kernel_rfl) (by kernel_rfl) (by kernel_rfl) (fun _ _ _ h => h) (Or.inl ⟨by rfl, fun w => by go_simp⟩) ?_
  (refine wpAny_ready (rs := [0]) (by kernel_rfl) (by simp) ?_; refine AllReady.cons rfl (fun K hK => ?_) AllReady.nil; go_simp; refine hK _ _ ?_; clear hK K)
  refine wpAny_ready (rs := [3]) (by kernel_rfl) (by simp) ?_
  refine AllReady.cons rfl (fun K hK => ?_) AllReady.nil
  go_simp
  refine cO.mono ?_
  rintro e w2 ⟨rfl, b2'⟩
  have b2 := undrew b2'
  obtain ⟨X2, Y2, Z2, hv2, O2, bw2⟩ := rest w2 b2
  have k0 := X2.c0; have k1 := X2.c1; have j0 := Y2.c0; have j1 := Y2.c1; have i0 := Z2.c0; have i1 := Z2.c1
  have f0 := fun j => frozen_of_row w2 (w.heap.size + 1) j _ _ Y2
  go_simp
  refine hK _ _ ?_
  clear hK K
  (refine wpAny_ready (rs := [4]) (by kernel_rfl) (by simp) ?_; refine AllReady.cons rfl (fun K hK => ?_) AllReady.nil; go_simp; refine hK _ _ ?_; clear hK K)
  (refine wpAny_ready (rs := [5]) (by kernel_rfl) (by simp) ?_; refine AllReady.cons rfl (fun K hK => ?_) AllReady.nil; go_simp; refine hK _ _ ?_; clear hK K)
  refine wpAny_take (i := 6) (v := undef) rfl (by kernel_rfl) (by kernel_rfl) (by kernel_rfl) (fun _ _ _ h => h) (Or.inr ⟨by rfl, rfl⟩) ?_
  refine wpAny_take (i := 7) (v := undef) rfl (by kernel_rfl) (by kernel_rfl) (by kernel_rfl) (fun _ _ _ h => h) (Or.inr ⟨by rfl, rfl⟩) ?_
  refine wpAny_take (i := 9) (v := undef) rfl (by kernel_rfl) (by kernel_rfl) (by kernel_rfl) (fun _ _ _ h => h) (Or.inr ⟨by rfl, rfl⟩) ?_
  refine wpAny_take (i := 13) (v := undef) rfl (by kernel_rfl) (by kernel_rfl) (by kernel_rfl) (fun _ _ _ h => h) (Or.inr ⟨by rfl, rfl⟩) ?_
  (refine wpAny_ready (rs := [8, 14]) (by kernel_rfl) (by simp) ?_; refine AllReady.cons rfl (fun K hK => ?_) (AllReady.cons rfl (fun K hK => ?_) AllReady.nil) <;> (go_simp; refine hK _ _ ?_; clear hK K))
  · refine wpAny_take (i := 10) (v := undef) rfl (by kernel_rfl) (by kernel_rfl) (by kernel_rfl) (fun _ _ _ h => h) (Or.inr ⟨by rfl, rfl⟩) ?_
    refine wpAny_take (i := 11) (v := undef) rfl (by kernel_rfl) (by kernel_rfl) (by kernel_rfl) (fun _ _ _ h => h) (Or.inr ⟨by rfl, rfl⟩) ?_
    (refine wpAny_ready (rs := [12, 14]) (by kernel_rfl) (by simp) ?_; refine AllReady.cons rfl (fun K hK => ?_) (AllReady.cons rfl (fun K hK => ?_) AllReady.nil) <;> (go_simp; refine hK _ _ ?_; clear hK K))
    · (refine wpAny_ready (rs := [14]) (by kernel_rfl) (by simp) ?_; refine AllReady.cons rfl (fun K hK => ?_) AllReady.nil; go_simp; refine hK _ _ ?_; clear hK K)
      (refine wpAny_ready (rs := [15]) (by kernel_rfl) (by simp) ?_; refine AllReady.cons rfl (fun K hK => ?_) AllReady.nil; go_simp; refine hK _ _ ?_; clear hK K)
      refine wpAny_take (i := 16) (v := undef) rfl (by kernel_rfl) (by kernel_rfl) (by kernel_rfl) (fun _ _ _ h => h) (Or.inr ⟨by rfl, rfl⟩) ?_
      (refine wpAny_ready (rs := [17]) (by kernel_rfl) (by simp) ?_; refine AllReady.cons rfl (fun K hK => ?_) AllReady.nil; go_simp; refine hK _ _ ?_; clear hK K)
      refine wpAny_done (by kernel_rfl) ?_ _
      clear cO rest l0 l1 Xa hva hva'
      go_wp2
      refine bodyPost_ret (v := .tuple #[.agg #[.int .i64 c, .slice a1 n cap1], .bool false]) (by simp [results, Tryd.results28, go_sem, j0, j1]) rfl ⟨_, rfl, ?_, ?_⟩
      · exact ((O2.setCell (by simp; omega) _).setCell (by simp; omega) _).mono hb0.size
      · first | exact (bw2.setCell (by simp) _).setCell (by simp) _ | exact (bw2.drew.setCell (by simp) _).setCell (by simp) _
    · (refine wpAny_ready (rs := [12]) (by kernel_rfl) (by simp) ?_; refine AllReady.cons rfl (fun K hK => ?_) AllReady.nil; go_simp; refine hK _ _ ?_; clear hK K)
      (refine wpAny_ready (rs := [15]) (by kernel_rfl) (by simp) ?_; refine AllReady.cons rfl (fun K hK => ?_) AllReady.nil; go_simp; refine hK _ _ ?_; clear hK K)
      refine wpAny_take (i := 16) (v := undef) rfl (by kernel_rfl) (by kernel_rfl) (by kernel_rfl) (fun _ _ _ h => h) (Or.inr ⟨by rfl, rfl⟩) ?_
      (refine wpAny_ready (rs := [17]) (by kernel_rfl) (by simp) ?_; refine AllReady.cons rfl (fun K hK => ?_) AllReady.nil; go_simp; refine hK _ _ ?_; clear hK K)
      refine wpAny_done (by kernel_rfl) ?_ _
      clear cO rest l0 l1 Xa hva hva'
      go_wp2
      refine bodyPost_ret (v := .tuple #[.agg #[.int .i64 c, .slice a1 n cap1], .bool false]) (by simp [results, Tryd.results28, go_sem, j0, j1]) rfl ⟨_, rfl, ?_, ?_⟩
      · exact ((O2.setCell (by simp; omega) _).setCell (by simp; omega) _).mono hb0.size
      · first | exact (bw2.setCell (by simp) _).setCell (by simp) _ | exact (bw2.drew.setCell (by simp) _).setCell (by simp) _
  · (refine wpAny_ready (rs := [8]) (by kernel_rfl) (by simp) ?_; refine AllReady.cons rfl (fun K hK => ?_) AllReady.nil; go_simp; refine hK _ _ ?_; clear hK K)
    refine wpAny_take (i := 10) (v := undef) rfl (by kernel_rfl) (by kernel_rfl) (by kernel_rfl) (fun _ _ _ h => h) (Or.inr ⟨by rfl, rfl⟩) ?_
    refine wpAny_take (i := 11) (v := undef) rfl (by kernel_rfl) (by kernel_rfl) (by kernel_rfl) (fun _ _ _ h => h) (Or.inr ⟨by rfl, rfl⟩) ?_
    (refine wpAny_ready (rs := [12]) (by kernel_rfl) (by simp) ?_; refine AllReady.cons rfl (fun K hK => ?_) AllReady.nil; go_simp; refine hK _ _ ?_; clear hK K)
    (refine wpAny_ready (rs := [15]) (by kernel_rfl) (by simp) ?_; refine AllReady.cons rfl (fun K hK => ?_) AllReady.nil; go_simp; refine hK _ _ ?_; clear hK K)
    refine wpAny_take (i := 16) (v := undef) rfl (by kernel_rfl) (by kernel_rfl) (by kernel_rfl) (fun _ _ _ h => h) (Or.inr ⟨by rfl, rfl⟩) ?_
    (refine wpAny_ready (rs := [17]) (by kernel_rfl) (by simp) ?_; refine AllReady.cons rfl (fun K hK => ?_) AllReady.nil; go_simp; refine hK _ _ ?_; clear hK K)
    refine wpAny_done (by kernel_rfl) ?_ _
    clear cO rest l0 l1 Xa hva hva'
    go_wp2
    refine bodyPost_ret (v := .tuple #[.agg #[.int .i64 c, .slice a1 n cap1], .bool false]) (by simp [results, Tryd.results28, go_sem, j0, j1]) rfl ⟨_, rfl, ?_, ?_⟩
    · exact ((O2.setCell (by simp; omega) _).setCell (by simp; omega) _).mono hb0.size
    · first | exact (bw2.setCell (by simp) _).setCell (by simp) _ | exact (bw2.drew.setCell (by simp) _).setCell (by simp) _
end Words
end Go.Proofs.YtppikpdphcfomaaDoor
/- spec.Unlock. -/
namespace Go.Proofs.YtppikpdphcfomaaDoor
open Go.RowKit
namespace Words


set_option maxRecDepth 100000 in
set_option maxHeartbeats 1600000 in
theorem specUnlock (c : Int) (v : Value) (ws : List W3) (i who y : Int) (B : Nat) (w : World) (hv : Sees B w v ws) (hB : B ≤ w.heap.size) (hlen : ws.length ≤ 1048576) :
    Calls Tryd.prog 28 #[.agg #[.int .i64 c, v], .int .i64 i, .int .i64 who, .int .i64 y] w fun e w' => ∃ v', e = .returned (.tuple #[.agg #[.int .i64 c, v'], .bool (unlockMay c ws i who y)]) ∧ Owns w.heap.size w' v' (unlockTo c ws i who y) ∧ Below w.heap.size w w' := by
  obtain ⟨a, cap, rfl⟩ := hv.form
  have hb0 := ((Below.refl w.heap.size w).alloc (Nat.le_refl _) (.cells #[.int .i64 c, .slice a ws.length cap] 33)).alloc (by simp) (.cells #[.int .i64 0, .slice none 0 0] 33)
  have X0 : Box ((w.alloc (.cells #[.int .i64 c, .slice a ws.length cap] 33)).alloc (.cells #[.int .i64 0, .slice none 0 0] 33)) w.heap.size c (.slice a ws.length cap) 33 := heap_alloc2_old _ _ _
  have Y0 : Box ((w.alloc (.cells #[.int .i64 c, .slice a ws.length cap] 33)).alloc (.cells #[.int .i64 0, .slice none 0 0] 33)) (w.heap.size + 1) 0 (.slice none 0 0) 33 := heap_alloc2_new _ _ _
  have hv0 := hv.on hb0 hB
  obtain ⟨n, hn⟩ : ∃ n, ws.length = n := ⟨_, rfl⟩
  rw [hn] at hv hb0 X0 Y0 hv0 ⊢
  obtain ⟨W0, hW0⟩ : ∃ W0, (w.alloc (.cells #[.int .i64 c, .slice a n cap] 33)).alloc (.cells #[.int .i64 0, .slice none 0 0] 33) = W0 := ⟨_, rfl⟩
  rw [hW0] at hb0 X0 Y0 hv0
  have k0 := X0.c0; have k1 := X0.c1; have hs0 := Y0.lt
  have cC := specCopy c _ ws B W0 hv0 (by omega) hlen
  -- what is so behind the copy, in its box at p, and a call that only makes memory
  have tail : ∀ w1 (a1 : Option Addr) (cap1 : Nat), Below W0.heap.size W0 w1 → Owns W0.heap.size w1 (.slice a1 n cap1) ws →
      Box (w1.alloc (.cells #[.int .i64 c, .slice a1 n cap1] 33)) w.heap.size c (.slice a n cap) 33 ∧ Sees B (w1.alloc (.cells #[.int .i64 c, .slice a1 n cap1] 33)) (.slice a n cap) ws ∧
      ∀ w2, Below (w1.alloc (.cells #[.int .i64 c, .slice a1 n cap1] 33)).heap.size (w1.alloc (.cells #[.int .i64 c, .slice a1 n cap1] 33)) w2 →
        Box w2 w.heap.size c (.slice a n cap) 33 ∧ Box w2 (w.heap.size + 1) 0 (.slice none 0 0) 33 ∧ Box w2 w1.heap.size c (.slice a1 n cap1) 33 ∧ Sees B w2 (.slice a n cap) ws ∧ Owns W0.heap.size w2 (.slice a1 n cap1) ws ∧ Below w.heap.size w w2 := by
    intro w1 a1 cap1 b1 O1
    have Bn := (Below.refl w1.heap.size w1).alloc (Nat.le_refl _) (.cells #[.int .i64 c, .slice a1 n cap1] 33)
    have b2 := b1.trans (Bn.mono b1.size)
    refine ⟨X0.on b2 (by omega), hv0.on b2 (by omega), fun w2 b3 => ?_⟩
    have b4 := b2.trans (b3.mono b2.size)
    exact ⟨X0.on b4 (by omega), Y0.on b4 hs0, (Box.new w1 c (.slice a1 n cap1) 33).on b3 (by simp), hv0.on b4 (by omega), (O1.on Bn (Nat.le_refl _)).on b3 (Nat.le_refl _), hb0.trans (b4.mono hb0.size)⟩
  by_cases h : unlockMay c ws i who y = true
  · have e1 : unlockTo c ws i who y = put ws i ⟨(wAt ws i).val, y, 0⟩ := by unfold unlockTo; rw [if_pos h]
    obtain ⟨hm, hw1, hw2⟩ := unlock_yes h
    have hcan := (mine_out hm).1
    obtain ⟨hok, hi0, hi8⟩ := canAt_out hcan
    have hl := (memOk_out hok).1
    rw [e1, h]
    obtain ⟨k, rfl⟩ := Int.eq_ofNat_of_zero_le hi0
    obtain ⟨x, hx⟩ : ∃ x, wAt ws (k : Int) = x := ⟨_, rfl⟩
    have HX : Hid (wAt ws (k : Int) = x) := hx
    rw [hx] at hw1 ⊢
    have h7 : (k : Int) ≤ 7 := by omega
    obtain rfl : n = 8 := by omega
    clear h e1 hx hcan
    go_enter Tryd.func28, Tryd.ntmps28
    go_wp2_with fail
    refine cC.mono ?_
    rintro e w1 ⟨v1, rfl, O1, b1⟩
    obtain ⟨a1, cap1, rfl⟩ := O1.form
    rw [hn] at O1 ⊢
    obtain ⟨Xa, hva, rest⟩ := tail w1 a1 cap1 b1 O1
    have l0 := Xa.c0; have l1 := Xa.c1
    have hsz1 : W0.heap.size ≤ w1.heap.size := b1.size
    have own1 := O1.at
    have hva' : Sees B (w1.alloc (.cells #[.int .i64 c, .slice a1 8 cap1] 33)).drew (.slice a 8 cap) ws := hva
    have cO := specMine c _ ws k who B _ hva' (by show B ≤ (w1.alloc (.cells #[.int .i64 c, .slice a1 8 cap1] 33)).heap.size; simp; omega)
    rw [hm] at cO
    clear cC tail hW0 k0 k1
    go_wp2_with fail
    go_region_with (first
      | (go_at_call 58; refine cO.mono ?_; rintro e w2 ⟨rfl, b2'⟩; have b2 := undrew b2'; obtain ⟨X2, Y2, Z2, hv2, O2, bw2⟩ := rest w2 b2; have k0 := X2.c0; have k1 := X2.c1; have j0 := Y2.c0; have j1 := Y2.c1; have i0 := Z2.c0; have i1 := Z2.c1; have f0 := fun j => frozen_of_row w2 (w.heap.size + 1) j _ _ Y2; obtain ⟨b, off, rfl, hb, a0, a1', a2⟩ := at_of hv2 k (by omega); rw [HX.out] at a0 a1' a2)
      | (go_at_call 52; refine (inYes y x.ver c hw1 hw2 _).mono ?_; rintro e w3 ⟨rfl, rfl⟩))
    all_goals
      obtain ⟨g, cap', hge⟩ := O2.form8 hl
      obtain ⟨rfl, rfl⟩ : a1 = some ⟨g, 0, none⟩ ∧ cap1 = cap' := by simp at hge; exact ⟨hge.1, hge.2⟩
      clear hge
      obtain ⟨hgl, hgs⟩ := own1 g rfl
      have R2 : w2.ownsRow W0.heap.size 61 3 (.slice (some ⟨g, 0, none⟩) 8 cap1) 8 (wv ws) := by have := O2; unfold Owns at this; rw [hn] at this; exact this
      have fg := fun j => R2.frozenAt j
      obtain ⟨c0, c1, c2⟩ := owns_at R2 k (by omega)
      have hg0 : g ≠ w.heap.size + 1 := by omega
      have hg1 : g ≠ w1.heap.size := by omega
      have hg0' : w.heap.size + 1 ≠ g := by omega
      have hg1' : w1.heap.size ≠ g := by omega
      clear a0 a1' a2 cO rest l0 l1 Xa hva hva'
      go_wp2
      have R3 := ((R2.stored (k * 3 + 2) (.int .i64 0)).1.stored (k * 3 + 1) (.int .i64 y)).1
      rw [wv_ver ws k (by omega), HX.out] at R3
      have R4 := ownsRow_setCell_below (ownsRow_setCell_below R3 (a := ⟨w.heap.size + 1, 0, none⟩) (by simp; omega) (.int .i64 c)) (a := ⟨w.heap.size + 1, 1, none⟩) (by simp; omega) (.slice (some ⟨g, 0, none⟩) 8 cap1)
      refine bodyPost_ret (v := .tuple #[.agg #[.int .i64 c, .slice (some ⟨g, 0, none⟩) 8 cap1], .bool true]) (by simp [results, Tryd.results28, go_sem, j0, j1]) rfl ⟨.slice (some ⟨g, 0, none⟩) 8 cap1, rfl, ?_, ?_⟩
      · refine Owns.mono (B := W0.heap.size) ?_ hb0.size
        unfold Owns; rw [put_length, hn]; exact R4
      · first | exact (((bw2.setCell (by simp; omega) _).setCell (by simp; omega) _).setCell (by simp) _).setCell (by simp) _ | exact ((((bw2.drew).setCell (by simp; omega) _).setCell (by simp; omega) _).setCell (by simp) _).setCell (by simp) _
  · have h' : unlockMay c ws i who y = false := by simpa using h
    have e1 : unlockTo c ws i who y = ws := by unfold unlockTo; rw [if_neg h]
    rw [e1, h']
    clear h' e1
    by_cases hc : mine c ws i who = true
    · have hcase := unlock_no h hc
      have hm := hc
      have hcan := (mine_out hc).1
      obtain ⟨hok, hi0, hi8⟩ := canAt_out hcan
      have hl := (memOk_out hok).1
      obtain ⟨k, rfl⟩ := Int.eq_ofNat_of_zero_le hi0
      obtain ⟨x, hx⟩ : ∃ x, wAt ws (k : Int) = x := ⟨_, rfl⟩
      have HX : Hid (wAt ws (k : Int) = x) := hx
      rw [hx] at hcase
      have HC : Hid _ := hcase
      have h7 : (k : Int) ≤ 7 := by omega
      obtain rfl : n = 8 := by omega
      clear h hx hcan hcase hc
      go_enter Tryd.func28, Tryd.ntmps28
      go_wp2_with fail
      refine cC.mono ?_
      rintro e w1 ⟨v1, rfl, O1, b1⟩
      obtain ⟨a1, cap1, rfl⟩ := O1.form
      rw [hn] at O1 ⊢
      obtain ⟨Xa, hva, rest⟩ := tail w1 a1 cap1 b1 O1
      have l0 := Xa.c0; have l1 := Xa.c1
      have hsz1 : W0.heap.size ≤ w1.heap.size := b1.size
      have own1 := O1.at
      have hva' : Sees B (w1.alloc (.cells #[.int .i64 c, .slice a1 8 cap1] 33)).drew (.slice a 8 cap) ws := hva
      have cO := specMine c _ ws k who B _ hva' (by show B ≤ (w1.alloc (.cells #[.int .i64 c, .slice a1 8 cap1] 33)).heap.size; simp; omega)
      rw [hm] at cO
      clear cC tail hW0 k0 k1
      go_wp2_with fail
      go_region_with (first
        | (go_at_call 58; refine cO.mono ?_; rintro e w2 ⟨rfl, b2'⟩; have b2 := undrew b2'; obtain ⟨X2, Y2, Z2, hv2, O2, bw2⟩ := rest w2 b2; have k0 := X2.c0; have k1 := X2.c1; have j0 := Y2.c0; have j1 := Y2.c1; have i0 := Z2.c0; have i1 := Z2.c1; have f0 := fun j => frozen_of_row w2 (w.heap.size + 1) j _ _ Y2; obtain ⟨b, off, rfl, hb, a0, a1', a2⟩ := at_of hv2 k (by omega); rw [HX.out] at a0 a1' a2)
        | (go_at_call 52; refine (inNo y x.ver c HC.out _).mono ?_; rintro e w3 ⟨rfl, rfl⟩))
      all_goals
        clear a0 a1' a2 cO rest l0 l1 Xa hva hva'
        go_wp2
        refine bodyPost_ret (v := .tuple #[.agg #[.int .i64 c, .slice a1 8 cap1], .bool false]) (by simp [results, Tryd.results28, go_sem, j0, j1]) rfl ⟨_, rfl, ?_, ?_⟩
        · exact ((O2.setCell (by simp; omega) _).setCell (by simp; omega) _).mono hb0.size
        · first | exact (bw2.setCell (by simp) _).setCell (by simp) _ | exact (bw2.drew.setCell (by simp) _).setCell (by simp) _
    · have hm : mine c ws i who = false := by simpa using hc
      exact specUnlockF c _ ws i who y B w hv hB hlen hm
end Words
end Go.Proofs.YtppikpdphcfomaaDoor
