/- Several texts of one proof, in build order: WordImplLock. -/
import Derived.Test.YtppikpdphcfomaaDoorCB14
/- impl.Lock, Store and Unlock. -/
namespace Go.Proofs.YtppikpdphcfomaaDoor
open Go.RowKit
namespace Words

def lockMay (c : Int) (ws : List W3) (i who : Int) : Bool := canAt c ws i && (isWho who && decide ((wAt ws i).own = 0))
def lockTo (c : Int) (ws : List W3) (i who : Int) : List W3 := if lockMay c ws i who = true then put ws i ⟨(wAt ws i).val, (wAt ws i).ver, who⟩ else ws
def storeMay (c : Int) (ws : List W3) (i who y : Int) : Bool := mine c ws i who && decide (0 ≤ y ∧ y ≤ 65535)
def storeTo (c : Int) (ws : List W3) (i who y : Int) : List W3 := if storeMay c ws i who y = true then put ws i ⟨y, (wAt ws i).ver, (wAt ws i).own⟩ else ws
def unlockMay (c : Int) (ws : List W3) (i who y : Int) : Bool := mine c ws i who && decide ((wAt ws i).ver ≤ y ∧ y ≤ c)
def unlockTo (c : Int) (ws : List W3) (i who y : Int) : List W3 := if unlockMay c ws i who y = true then put ws i ⟨(wAt ws i).val, y, 0⟩ else ws

theorem lock_yes {c : Int} {ws : List W3} {i who : Int} (h : lockMay c ws i who = true) : canAt c ws i = true ∧ 1 ≤ who ∧ who ≤ 99 ∧ (wAt ws i).own = 0 := by
  unfold lockMay isWho at h; simp at h; exact ⟨h.1, h.2.1.1, h.2.1.2, h.2.2⟩
theorem lock_no {c : Int} {ws : List W3} {i who : Int} (h : ¬ lockMay c ws i who = true) (hc : canAt c ws i = true) : who < 1 ∨ (1 ≤ who ∧ 99 < who) ∨ (1 ≤ who ∧ who ≤ 99 ∧ ((wAt ws i).own != 0) = true) := by
  unfold lockMay isWho at h
  simp [hc] at h
  by_cases h1 : 1 ≤ who
  · by_cases h2 : who ≤ 99
    · exact .inr (.inr ⟨h1, h2, by simpa using h h1 h2⟩)
    · exact .inr (.inl ⟨h1, by omega⟩)
  · exact .inl (by omega)
theorem store_yes {c : Int} {ws : List W3} {i who y : Int} (h : storeMay c ws i who y = true) : mine c ws i who = true ∧ 0 ≤ y ∧ y ≤ 65535 := by
  unfold storeMay at h; simp at h; exact h
theorem store_no {c : Int} {ws : List W3} {i who y : Int} (h : ¬ storeMay c ws i who y = true) (hc : mine c ws i who = true) : y < 0 ∨ (0 ≤ y ∧ 65535 < y) := by
  unfold storeMay at h; simp [hc] at h; omega
theorem unlock_yes {c : Int} {ws : List W3} {i who y : Int} (h : unlockMay c ws i who y = true) : mine c ws i who = true ∧ (wAt ws i).ver ≤ y ∧ y ≤ c := by
  unfold unlockMay at h; simp at h; exact h
theorem unlock_no {c : Int} {ws : List W3} {i who y : Int} (h : ¬ unlockMay c ws i who y = true) (hc : mine c ws i who = true) : y < (wAt ws i).ver ∨ ((wAt ws i).ver ≤ y ∧ c < y) := by
  unfold unlockMay at h; simp [hc] at h; omega

set_option maxRecDepth 100000 in
set_option maxHeartbeats 1600000 in
theorem implLock (c : Int) (v : Value) (ws : List W3) (i who : Int) (B : Nat) (w : World) (bE : Addr) (hv : Sees B w v ws) (hB : B ≤ w.heap.size) (hE : Err w bE) (hlen : ws.length ≤ 1048576) :
    Calls Tryd.prog 69 #[.agg #[.int .i64 c, v], .int .i64 i, .int .i64 who] w fun e w' => ∃ v', e = .returned (.tuple #[.agg #[.int .i64 c, v'], .bool (lockMay c ws i who)]) ∧ Owns w.heap.size w' v' (lockTo c ws i who) ∧ Below w.heap.size w w' := by
  obtain ⟨a, cap, rfl⟩ := hv.form
  have hb0 := ((Below.refl w.heap.size w).alloc (Nat.le_refl _) (.cells #[.int .i64 c, .slice a ws.length cap] 33)).alloc (by simp) (.cells #[.int .i64 0, .slice none 0 0] 33)
  have X0 : Box ((w.alloc (.cells #[.int .i64 c, .slice a ws.length cap] 33)).alloc (.cells #[.int .i64 0, .slice none 0 0] 33)) w.heap.size c (.slice a ws.length cap) 33 := heap_alloc2_old _ _ _
  have Y0 : Box ((w.alloc (.cells #[.int .i64 c, .slice a ws.length cap] 33)).alloc (.cells #[.int .i64 0, .slice none 0 0] 33)) (w.heap.size + 1) 0 (.slice none 0 0) 33 := heap_alloc2_new _ _ _
  have hv0 := hv.on hb0 hB
  have E0 := hE.on hb0 (Nat.le_refl _)
  obtain ⟨n, hn⟩ : ∃ n, ws.length = n := ⟨_, rfl⟩
  rw [hn] at hv hb0 X0 Y0 hv0 E0 ⊢
  obtain ⟨W0, hW0⟩ : ∃ W0, (w.alloc (.cells #[.int .i64 c, .slice a n cap] 33)).alloc (.cells #[.int .i64 0, .slice none 0 0] 33) = W0 := ⟨_, rfl⟩
  rw [hW0] at hb0 X0 Y0 hv0 E0
  have k0 := X0.c0; have k1 := X0.c1; have hs0 := Y0.lt
  -- what is so behind the cell's own block, in whatever world
  have tail : ∀ w1, Below W0.heap.size W0 w1 → ∀ o : Obj, Box (w1.alloc o) w.heap.size c (.slice a n cap) 33 ∧ Box (w1.alloc o) (w.heap.size + 1) 0 (.slice none 0 0) 33 ∧ Err (w1.alloc o) bE ∧ Sees B (w1.alloc o) (.slice a n cap) ws ∧ Below w.heap.size w (w1.alloc o) ∧ w.heap.size + 1 < w1.heap.size := by
    intro w1 b1 o
    have b2 := b1.alloc b1.size o
    exact ⟨X0.on b2 (by omega), Y0.on b2 hs0, E0.on b2 (Nat.le_refl _), hv0.on b2 (by omega), hb0.trans (b2.mono hb0.size), by have := b1.size; omega⟩
  by_cases h : lockMay c ws i who = true
  · have e1 : lockTo c ws i who = put ws i ⟨(wAt ws i).val, (wAt ws i).ver, who⟩ := by unfold lockTo; rw [if_pos h]
    obtain ⟨hc, hw1, hw2, ho⟩ := lock_yes h
    have hcan := hc
    obtain ⟨hok, hi0, hi8⟩ := canAt_out hcan
    have hl := (memOk_out hok).1
    have cF := findYes c _ ws i B W0 hv0 (by omega) hc
    rw [e1, h]
    obtain ⟨k, rfl⟩ := Int.eq_ofNat_of_zero_le hi0
    obtain ⟨x, hx⟩ : ∃ x, wAt ws (k : Int) = x := ⟨_, rfl⟩
    rw [hx] at cF ho ⊢
    clear h hc e1 hx hok hcan
    have ho' : (x.own != 0) = false := by simp [ho]
    clear ho
    go_enter Tryd.func69, Tryd.ntmps69
    go_wp2_with fail
    clear hW0 k0 k1
    refine cF.mono ?_
    rintro e w1 ⟨rfl, b1⟩
    obtain ⟨X1, Y1, E1, -, bw1, hs1⟩ := tail w1 b1 (.cells #[.int .i64 x.val, .int .i64 x.ver, .int .i64 x.own] 85)
    obtain ⟨X2, Y2, E2, hv2, bw2, -⟩ := tail w1 b1 (.cells #[.int .i64 x.val, .int .i64 x.ver, .int .i64 who] 85)
    have e0 : (w1.alloc (.cells #[.int .i64 x.val, .int .i64 x.ver, .int .i64 x.own] 85)).cell? ⟨0, 0, none⟩ = some (.iface 116 (.pointer (some bE))) := E1
    have k0 := X1.c0; have k1 := X1.c1; have l0 := X2.c0; have l1 := X2.c1
    clear cF tail
    go_wp2_with (first | (go_at_call 80; refine (is_nil bE _).mono ?_; rintro e w2 ⟨rfl, rfl⟩) | (go_at_call 63; go_in))
    refine (withCellC c _ ws k ⟨x.val, x.ver, who⟩ B _ hv2 (by have := b1.size; simp; omega) hl (by omega)).mono ?_
    rintro e w3 ⟨v3, rfl, O3, b3⟩
    obtain ⟨a3, cap3, rfl⟩ := O3.form
    rw [put_length, hn] at O3 ⊢
    have Y3 := Y2.on b3 (by simp; omega)
    have j0 := Y3.c0; have j1 := Y3.c1
    have f0 := fun j => frozen_of_row w3 (w.heap.size + 1) j _ _ Y3
    have bw3 := bw2.trans (b3.mono bw2.size)
    clear k0 k1 l0 l1 e0
    go_wp2_with fail
    refine bodyPost_ret (v := .tuple #[.agg #[.int .i64 c, .slice a3 n cap3], .bool true]) (by simp [results, Tryd.results69, go_sem, j0, j1]) rfl ⟨_, rfl, ?_, (bw3.setCell (by simp) _).setCell (by simp) _⟩
    exact ((O3.setCell (by simp; omega) _).setCell (by simp; omega) _).mono bw2.size
  · have h' : lockMay c ws i who = false := by simpa using h
    have e1 : lockTo c ws i who = ws := by unfold lockTo; rw [if_neg h]
    rw [e1, h']
    clear h' e1
    -- the copy, and the end
    have cC := fun (W : World) (hW : Sees B W (.slice a n cap) ws) (hWB : B ≤ W.heap.size) => implCopy c _ ws B W hW hWB hlen
    by_cases hc : canAt c ws i = true
    · have cF := findYes c _ ws i B W0 hv0 (by omega) hc
      have hcase := lock_no h hc
      obtain ⟨x, hx⟩ : ∃ x, wAt ws i = x := ⟨_, rfl⟩
      rw [hx] at cF hcase
      clear h hc hx
      rcases hcase with h1 | ⟨h1, h2⟩ | ⟨h1, h2, h3⟩
      all_goals
        skip
        go_enter Tryd.func69, Tryd.ntmps69
        go_wp2_with fail
        refine cF.mono ?_
        rintro e w1 ⟨rfl, b1⟩
        obtain ⟨X1, Y1, E1, hv1, bw1, hs1⟩ := tail w1 b1 (.cells #[.int .i64 x.val, .int .i64 x.ver, .int .i64 x.own] 85)
        have e0 : (w1.alloc (.cells #[.int .i64 x.val, .int .i64 x.ver, .int .i64 x.own] 85)).cell? ⟨0, 0, none⟩ = some (.iface 116 (.pointer (some bE))) := E1
        have l0 := X1.c0; have l1 := X1.c1
        clear cF tail hW0 k0 k1
        go_wp2_with (first | (go_at_call 80; refine (is_nil bE _).mono ?_; rintro e w2 ⟨rfl, rfl⟩) | (go_at_call 63; go_in))
        refine (cC _ hv1 (by have := b1.size; simp; omega)).mono ?_
        rintro e w3 ⟨v3, rfl, O3, b3⟩
        obtain ⟨a3, cap3, rfl⟩ := O3.form
        rw [hn] at O3 ⊢
        have Y3 := Y1.on b3 (by simp; omega)
        have j0 := Y3.c0; have j1 := Y3.c1
        have f0 := fun j => frozen_of_row w3 (w.heap.size + 1) j _ _ Y3
        have bw3 := bw1.trans (b3.mono bw1.size)
        clear l0 l1 e0
        go_wp2_with fail
        refine bodyPost_ret (v := .tuple #[.agg #[.int .i64 c, .slice a3 n cap3], .bool false]) (by simp [results, Tryd.results69, go_sem, j0, j1]) rfl ⟨_, rfl, ?_, (bw3.setCell (by simp) _).setCell (by simp) _⟩
        exact ((O3.setCell (by simp; omega) _).setCell (by simp; omega) _).mono bw1.size
    · have cF := findNo c _ ws i B W0 bE hv0 (by omega) E0 hc
      clear h hc
      go_enter Tryd.func69, Tryd.ntmps69
      go_wp2_with fail
      refine cF.mono ?_
      rintro e w1 ⟨rfl, b1⟩
      obtain ⟨X1, Y1, E1, hv1, bw1, hs1⟩ := tail w1 b1 (.cells #[.int .i64 0, .int .i64 0, .int .i64 0] 85)
      have e0 : (w1.alloc (.cells #[.int .i64 0, .int .i64 0, .int .i64 0] 85)).cell? ⟨0, 0, none⟩ = some (.iface 116 (.pointer (some bE))) := E1
      have l0 := X1.c0; have l1 := X1.c1
      clear cF tail hW0 k0 k1
      unfold nought
      go_wp2_with (go_at_call 80; refine (is_same bE _).mono ?_; rintro e w2 ⟨rfl, rfl⟩)
      refine (cC _ hv1 (by have := b1.size; simp; omega)).mono ?_
      rintro e w3 ⟨v3, rfl, O3, b3⟩
      obtain ⟨a3, cap3, rfl⟩ := O3.form
      rw [hn] at O3 ⊢
      have Y3 := Y1.on b3 (by simp; omega)
      have j0 := Y3.c0; have j1 := Y3.c1
      have f0 := fun j => frozen_of_row w3 (w.heap.size + 1) j _ _ Y3
      have bw3 := bw1.trans (b3.mono bw1.size)
      clear l0 l1 e0
      go_wp2_with fail
      refine bodyPost_ret (v := .tuple #[.agg #[.int .i64 c, .slice a3 n cap3], .bool false]) (by simp [results, Tryd.results69, go_sem, j0, j1]) rfl ⟨_, rfl, ?_, (bw3.setCell (by simp) _).setCell (by simp) _⟩
      exact ((O3.setCell (by simp; omega) _).setCell (by simp; omega) _).mono bw1.size

set_option maxRecDepth 100000 in
set_option maxHeartbeats 1600000 in
theorem implStore (c : Int) (v : Value) (ws : List W3) (i who y : Int) (B : Nat) (w : World) (bE : Addr) (hv : Sees B w v ws) (hB : B ≤ w.heap.size) (hE : Err w bE) (hlen : ws.length ≤ 1048576) :
    Calls Tryd.prog 73 #[.agg #[.int .i64 c, v], .int .i64 i, .int .i64 who, .int .i64 y] w fun e w' => ∃ v', e = .returned (.tuple #[.agg #[.int .i64 c, v'], .bool (storeMay c ws i who y)]) ∧ Owns w.heap.size w' v' (storeTo c ws i who y) ∧ Below w.heap.size w w' := by
  obtain ⟨a, cap, rfl⟩ := hv.form
  have hb0 := ((Below.refl w.heap.size w).alloc (Nat.le_refl _) (.cells #[.int .i64 c, .slice a ws.length cap] 33)).alloc (by simp) (.cells #[.int .i64 0, .slice none 0 0] 33)
  have X0 : Box ((w.alloc (.cells #[.int .i64 c, .slice a ws.length cap] 33)).alloc (.cells #[.int .i64 0, .slice none 0 0] 33)) w.heap.size c (.slice a ws.length cap) 33 := heap_alloc2_old _ _ _
  have Y0 : Box ((w.alloc (.cells #[.int .i64 c, .slice a ws.length cap] 33)).alloc (.cells #[.int .i64 0, .slice none 0 0] 33)) (w.heap.size + 1) 0 (.slice none 0 0) 33 := heap_alloc2_new _ _ _
  have hv0 := hv.on hb0 hB
  have E0 := hE.on hb0 (Nat.le_refl _)
  obtain ⟨n, hn⟩ : ∃ n, ws.length = n := ⟨_, rfl⟩
  rw [hn] at hv hb0 X0 Y0 hv0 E0 ⊢
  obtain ⟨W0, hW0⟩ : ∃ W0, (w.alloc (.cells #[.int .i64 c, .slice a n cap] 33)).alloc (.cells #[.int .i64 0, .slice none 0 0] 33) = W0 := ⟨_, rfl⟩
  rw [hW0] at hb0 X0 Y0 hv0 E0
  have k0 := X0.c0; have k1 := X0.c1; have hs0 := Y0.lt
  -- what is so behind the cell's own block, in whatever world
  have tail : ∀ w1, Below W0.heap.size W0 w1 → ∀ o : Obj, Box (w1.alloc o) w.heap.size c (.slice a n cap) 33 ∧ Box (w1.alloc o) (w.heap.size + 1) 0 (.slice none 0 0) 33 ∧ Err (w1.alloc o) bE ∧ Sees B (w1.alloc o) (.slice a n cap) ws ∧ Below w.heap.size w (w1.alloc o) ∧ w.heap.size + 1 < w1.heap.size := by
    intro w1 b1 o
    have b2 := b1.alloc b1.size o
    exact ⟨X0.on b2 (by omega), Y0.on b2 hs0, E0.on b2 (Nat.le_refl _), hv0.on b2 (by omega), hb0.trans (b2.mono hb0.size), by have := b1.size; omega⟩
  by_cases h : storeMay c ws i who y = true
  · have e1 : storeTo c ws i who y = put ws i ⟨y, (wAt ws i).ver, (wAt ws i).own⟩ := by unfold storeTo; rw [if_pos h]
    obtain ⟨hc, hw1, hw2⟩ := store_yes h
    have hcan := (mine_out hc).1
    obtain ⟨hok, hi0, hi8⟩ := canAt_out hcan
    have hl := (memOk_out hok).1
    have cF := ownYes c _ ws i who B W0 hv0 (by omega) hc
    rw [e1, h]
    obtain ⟨k, rfl⟩ := Int.eq_ofNat_of_zero_le hi0
    obtain ⟨x, hx⟩ : ∃ x, wAt ws (k : Int) = x := ⟨_, rfl⟩
    rw [hx] at cF ⊢
    clear h hc e1 hx hok hcan
    skip
    go_enter Tryd.func73, Tryd.ntmps73
    go_wp2_with fail
    clear hW0 k0 k1
    refine cF.mono ?_
    rintro e w1 ⟨rfl, b1⟩
    obtain ⟨X1, Y1, E1, -, bw1, hs1⟩ := tail w1 b1 (.cells #[.int .i64 x.val, .int .i64 x.ver, .int .i64 x.own] 85)
    obtain ⟨X2, Y2, E2, hv2, bw2, -⟩ := tail w1 b1 (.cells #[.int .i64 y, .int .i64 x.ver, .int .i64 x.own] 85)
    have e0 : (w1.alloc (.cells #[.int .i64 x.val, .int .i64 x.ver, .int .i64 x.own] 85)).cell? ⟨0, 0, none⟩ = some (.iface 116 (.pointer (some bE))) := E1
    have k0 := X1.c0; have k1 := X1.c1; have l0 := X2.c0; have l1 := X2.c1
    clear cF tail
    go_wp2_with (first | (go_at_call 80; refine (is_nil bE _).mono ?_; rintro e w2 ⟨rfl, rfl⟩) | (go_at_call 78; go_in))
    refine (withCellC c _ ws k ⟨y, x.ver, x.own⟩ B _ hv2 (by have := b1.size; simp; omega) hl (by omega)).mono ?_
    rintro e w3 ⟨v3, rfl, O3, b3⟩
    obtain ⟨a3, cap3, rfl⟩ := O3.form
    rw [put_length, hn] at O3 ⊢
    have Y3 := Y2.on b3 (by simp; omega)
    have j0 := Y3.c0; have j1 := Y3.c1
    have f0 := fun j => frozen_of_row w3 (w.heap.size + 1) j _ _ Y3
    have bw3 := bw2.trans (b3.mono bw2.size)
    clear k0 k1 l0 l1 e0
    go_wp2_with fail
    refine bodyPost_ret (v := .tuple #[.agg #[.int .i64 c, .slice a3 n cap3], .bool true]) (by simp [results, Tryd.results73, go_sem, j0, j1]) rfl ⟨_, rfl, ?_, (bw3.setCell (by simp) _).setCell (by simp) _⟩
    exact ((O3.setCell (by simp; omega) _).setCell (by simp; omega) _).mono bw2.size
  · have h' : storeMay c ws i who y = false := by simpa using h
    have e1 : storeTo c ws i who y = ws := by unfold storeTo; rw [if_neg h]
    rw [e1, h']
    clear h' e1
    -- the copy, and the end
    have cC := fun (W : World) (hW : Sees B W (.slice a n cap) ws) (hWB : B ≤ W.heap.size) => implCopy c _ ws B W hW hWB hlen
    by_cases hc : mine c ws i who = true
    · have cF := ownYes c _ ws i who B W0 hv0 (by omega) hc
      have hcase := store_no h hc
      obtain ⟨x, hx⟩ : ∃ x, wAt ws i = x := ⟨_, rfl⟩
      rw [hx] at cF 
      clear h hc hx
      rcases hcase with h1 | ⟨h1, h2⟩
      all_goals
        try have h9 : decide (y ≤ 65535) = false := by (simp; omega)
        go_enter Tryd.func73, Tryd.ntmps73
        go_wp2_with fail
        refine cF.mono ?_
        rintro e w1 ⟨rfl, b1⟩
        obtain ⟨X1, Y1, E1, hv1, bw1, hs1⟩ := tail w1 b1 (.cells #[.int .i64 x.val, .int .i64 x.ver, .int .i64 x.own] 85)
        have e0 : (w1.alloc (.cells #[.int .i64 x.val, .int .i64 x.ver, .int .i64 x.own] 85)).cell? ⟨0, 0, none⟩ = some (.iface 116 (.pointer (some bE))) := E1
        have l0 := X1.c0; have l1 := X1.c1
        clear cF tail hW0 k0 k1
        go_wp2_with (first | (go_at_call 80; refine (is_nil bE _).mono ?_; rintro e w2 ⟨rfl, rfl⟩) | (go_at_call 78; go_in))
        refine (cC _ hv1 (by have := b1.size; simp; omega)).mono ?_
        rintro e w3 ⟨v3, rfl, O3, b3⟩
        obtain ⟨a3, cap3, rfl⟩ := O3.form
        rw [hn] at O3 ⊢
        have Y3 := Y1.on b3 (by simp; omega)
        have j0 := Y3.c0; have j1 := Y3.c1
        have f0 := fun j => frozen_of_row w3 (w.heap.size + 1) j _ _ Y3
        have bw3 := bw1.trans (b3.mono bw1.size)
        clear l0 l1 e0
        go_wp2_with fail
        refine bodyPost_ret (v := .tuple #[.agg #[.int .i64 c, .slice a3 n cap3], .bool false]) (by simp [results, Tryd.results73, go_sem, j0, j1]) rfl ⟨_, rfl, ?_, (bw3.setCell (by simp) _).setCell (by simp) _⟩
        exact ((O3.setCell (by simp; omega) _).setCell (by simp; omega) _).mono bw1.size
    · have cF := ownNo c _ ws i who B W0 bE hv0 (by omega) E0 hc
      clear h hc
      go_enter Tryd.func73, Tryd.ntmps73
      go_wp2_with fail
      refine cF.mono ?_
      rintro e w1 ⟨rfl, b1⟩
      obtain ⟨X1, Y1, E1, hv1, bw1, hs1⟩ := tail w1 b1 (.cells #[.int .i64 0, .int .i64 0, .int .i64 0] 85)
      have e0 : (w1.alloc (.cells #[.int .i64 0, .int .i64 0, .int .i64 0] 85)).cell? ⟨0, 0, none⟩ = some (.iface 116 (.pointer (some bE))) := E1
      have l0 := X1.c0; have l1 := X1.c1
      clear cF tail hW0 k0 k1
      unfold nought
      go_wp2_with (go_at_call 80; refine (is_same bE _).mono ?_; rintro e w2 ⟨rfl, rfl⟩)
      refine (cC _ hv1 (by have := b1.size; simp; omega)).mono ?_
      rintro e w3 ⟨v3, rfl, O3, b3⟩
      obtain ⟨a3, cap3, rfl⟩ := O3.form
      rw [hn] at O3 ⊢
      have Y3 := Y1.on b3 (by simp; omega)
      have j0 := Y3.c0; have j1 := Y3.c1
      have f0 := fun j => frozen_of_row w3 (w.heap.size + 1) j _ _ Y3
      have bw3 := bw1.trans (b3.mono bw1.size)
      clear l0 l1 e0
      go_wp2_with fail
      refine bodyPost_ret (v := .tuple #[.agg #[.int .i64 c, .slice a3 n cap3], .bool false]) (by simp [results, Tryd.results73, go_sem, j0, j1]) rfl ⟨_, rfl, ?_, (bw3.setCell (by simp) _).setCell (by simp) _⟩
      exact ((O3.setCell (by simp; omega) _).setCell (by simp; omega) _).mono bw1.size

set_option maxRecDepth 100000 in
set_option maxHeartbeats 1600000 in
theorem implUnlock (c : Int) (v : Value) (ws : List W3) (i who y : Int) (B : Nat) (w : World) (bE : Addr) (hv : Sees B w v ws) (hB : B ≤ w.heap.size) (hE : Err w bE) (hlen : ws.length ≤ 1048576) :
    Calls Tryd.prog 74 #[.agg #[.int .i64 c, v], .int .i64 i, .int .i64 who, .int .i64 y] w fun e w' => ∃ v', e = .returned (.tuple #[.agg #[.int .i64 c, v'], .bool (unlockMay c ws i who y)]) ∧ Owns w.heap.size w' v' (unlockTo c ws i who y) ∧ Below w.heap.size w w' := by
  obtain ⟨a, cap, rfl⟩ := hv.form
  have hb0 := ((Below.refl w.heap.size w).alloc (Nat.le_refl _) (.cells #[.int .i64 c, .slice a ws.length cap] 33)).alloc (by simp) (.cells #[.int .i64 0, .slice none 0 0] 33)
  have X0 : Box ((w.alloc (.cells #[.int .i64 c, .slice a ws.length cap] 33)).alloc (.cells #[.int .i64 0, .slice none 0 0] 33)) w.heap.size c (.slice a ws.length cap) 33 := heap_alloc2_old _ _ _
  have Y0 : Box ((w.alloc (.cells #[.int .i64 c, .slice a ws.length cap] 33)).alloc (.cells #[.int .i64 0, .slice none 0 0] 33)) (w.heap.size + 1) 0 (.slice none 0 0) 33 := heap_alloc2_new _ _ _
  have hv0 := hv.on hb0 hB
  have E0 := hE.on hb0 (Nat.le_refl _)
  obtain ⟨n, hn⟩ : ∃ n, ws.length = n := ⟨_, rfl⟩
  rw [hn] at hv hb0 X0 Y0 hv0 E0 ⊢
  obtain ⟨W0, hW0⟩ : ∃ W0, (w.alloc (.cells #[.int .i64 c, .slice a n cap] 33)).alloc (.cells #[.int .i64 0, .slice none 0 0] 33) = W0 := ⟨_, rfl⟩
  rw [hW0] at hb0 X0 Y0 hv0 E0
  have k0 := X0.c0; have k1 := X0.c1; have hs0 := Y0.lt
  -- what is so behind the cell's own block, in whatever world
  have tail : ∀ w1, Below W0.heap.size W0 w1 → ∀ o : Obj, Box (w1.alloc o) w.heap.size c (.slice a n cap) 33 ∧ Box (w1.alloc o) (w.heap.size + 1) 0 (.slice none 0 0) 33 ∧ Err (w1.alloc o) bE ∧ Sees B (w1.alloc o) (.slice a n cap) ws ∧ Below w.heap.size w (w1.alloc o) ∧ w.heap.size + 1 < w1.heap.size := by
    intro w1 b1 o
    have b2 := b1.alloc b1.size o
    exact ⟨X0.on b2 (by omega), Y0.on b2 hs0, E0.on b2 (Nat.le_refl _), hv0.on b2 (by omega), hb0.trans (b2.mono hb0.size), by have := b1.size; omega⟩
  by_cases h : unlockMay c ws i who y = true
  · have e1 : unlockTo c ws i who y = put ws i ⟨(wAt ws i).val, y, 0⟩ := by unfold unlockTo; rw [if_pos h]
    obtain ⟨hc, hw1, hw2⟩ := unlock_yes h
    have hcan := (mine_out hc).1
    obtain ⟨hok, hi0, hi8⟩ := canAt_out hcan
    have hl := (memOk_out hok).1
    have cF := ownYes c _ ws i who B W0 hv0 (by omega) hc
    rw [e1, h]
    obtain ⟨k, rfl⟩ := Int.eq_ofNat_of_zero_le hi0
    obtain ⟨x, hx⟩ : ∃ x, wAt ws (k : Int) = x := ⟨_, rfl⟩
    rw [hx] at cF hw1 ⊢
    clear h hc e1 hx hok hcan
    skip
    go_enter Tryd.func74, Tryd.ntmps74
    go_wp2_with fail
    clear hW0 k0 k1
    refine cF.mono ?_
    rintro e w1 ⟨rfl, b1⟩
    obtain ⟨X1, Y1, E1, -, bw1, hs1⟩ := tail w1 b1 (.cells #[.int .i64 x.val, .int .i64 x.ver, .int .i64 x.own] 85)
    obtain ⟨X2, Y2, E2, hv2, bw2, -⟩ := tail w1 b1 (.cells #[.int .i64 x.val, .int .i64 y, .int .i64 0] 85)
    have e0 : (w1.alloc (.cells #[.int .i64 x.val, .int .i64 x.ver, .int .i64 x.own] 85)).cell? ⟨0, 0, none⟩ = some (.iface 116 (.pointer (some bE))) := E1
    have k0 := X1.c0; have k1 := X1.c1; have l0 := X2.c0; have l1 := X2.c1
    clear cF tail
    go_wp2_with (first | (go_at_call 80; refine (is_nil bE _).mono ?_; rintro e w2 ⟨rfl, rfl⟩))
    refine (withCellC c _ ws k ⟨x.val, y, 0⟩ B _ hv2 (by have := b1.size; simp; omega) hl (by omega)).mono ?_
    rintro e w3 ⟨v3, rfl, O3, b3⟩
    obtain ⟨a3, cap3, rfl⟩ := O3.form
    rw [put_length, hn] at O3 ⊢
    have Y3 := Y2.on b3 (by simp; omega)
    have j0 := Y3.c0; have j1 := Y3.c1
    have f0 := fun j => frozen_of_row w3 (w.heap.size + 1) j _ _ Y3
    have bw3 := bw2.trans (b3.mono bw2.size)
    clear k0 k1 l0 l1 e0
    go_wp2_with fail
    refine bodyPost_ret (v := .tuple #[.agg #[.int .i64 c, .slice a3 n cap3], .bool true]) (by simp [results, Tryd.results74, go_sem, j0, j1]) rfl ⟨_, rfl, ?_, (bw3.setCell (by simp) _).setCell (by simp) _⟩
    exact ((O3.setCell (by simp; omega) _).setCell (by simp; omega) _).mono bw2.size
  · have h' : unlockMay c ws i who y = false := by simpa using h
    have e1 : unlockTo c ws i who y = ws := by unfold unlockTo; rw [if_neg h]
    rw [e1, h']
    clear h' e1
    -- the copy, and the end
    have cC := fun (W : World) (hW : Sees B W (.slice a n cap) ws) (hWB : B ≤ W.heap.size) => implCopy c _ ws B W hW hWB hlen
    by_cases hc : mine c ws i who = true
    · have cF := ownYes c _ ws i who B W0 hv0 (by omega) hc
      have hcase := unlock_no h hc
      obtain ⟨x, hx⟩ : ∃ x, wAt ws i = x := ⟨_, rfl⟩
      rw [hx] at cF hcase
      clear h hc hx
      rcases hcase with h1 | ⟨h1, h2⟩
      all_goals
        skip
        go_enter Tryd.func74, Tryd.ntmps74
        go_wp2_with fail
        refine cF.mono ?_
        rintro e w1 ⟨rfl, b1⟩
        obtain ⟨X1, Y1, E1, hv1, bw1, hs1⟩ := tail w1 b1 (.cells #[.int .i64 x.val, .int .i64 x.ver, .int .i64 x.own] 85)
        have e0 : (w1.alloc (.cells #[.int .i64 x.val, .int .i64 x.ver, .int .i64 x.own] 85)).cell? ⟨0, 0, none⟩ = some (.iface 116 (.pointer (some bE))) := E1
        have l0 := X1.c0; have l1 := X1.c1
        clear cF tail hW0 k0 k1
        go_wp2_with (first | (go_at_call 80; refine (is_nil bE _).mono ?_; rintro e w2 ⟨rfl, rfl⟩))
        refine (cC _ hv1 (by have := b1.size; simp; omega)).mono ?_
        rintro e w3 ⟨v3, rfl, O3, b3⟩
        obtain ⟨a3, cap3, rfl⟩ := O3.form
        rw [hn] at O3 ⊢
        have Y3 := Y1.on b3 (by simp; omega)
        have j0 := Y3.c0; have j1 := Y3.c1
        have f0 := fun j => frozen_of_row w3 (w.heap.size + 1) j _ _ Y3
        have bw3 := bw1.trans (b3.mono bw1.size)
        clear l0 l1 e0
        go_wp2_with fail
        refine bodyPost_ret (v := .tuple #[.agg #[.int .i64 c, .slice a3 n cap3], .bool false]) (by simp [results, Tryd.results74, go_sem, j0, j1]) rfl ⟨_, rfl, ?_, (bw3.setCell (by simp) _).setCell (by simp) _⟩
        exact ((O3.setCell (by simp; omega) _).setCell (by simp; omega) _).mono bw1.size
    · have cF := ownNo c _ ws i who B W0 bE hv0 (by omega) E0 hc
      clear h hc
      go_enter Tryd.func74, Tryd.ntmps74
      go_wp2_with fail
      refine cF.mono ?_
      rintro e w1 ⟨rfl, b1⟩
      obtain ⟨X1, Y1, E1, hv1, bw1, hs1⟩ := tail w1 b1 (.cells #[.int .i64 0, .int .i64 0, .int .i64 0] 85)
      have e0 : (w1.alloc (.cells #[.int .i64 0, .int .i64 0, .int .i64 0] 85)).cell? ⟨0, 0, none⟩ = some (.iface 116 (.pointer (some bE))) := E1
      have l0 := X1.c0; have l1 := X1.c1
      clear cF tail hW0 k0 k1
      unfold nought
      go_wp2_with (go_at_call 80; refine (is_same bE _).mono ?_; rintro e w2 ⟨rfl, rfl⟩)
      refine (cC _ hv1 (by have := b1.size; simp; omega)).mono ?_
      rintro e w3 ⟨v3, rfl, O3, b3⟩
      obtain ⟨a3, cap3, rfl⟩ := O3.form
      rw [hn] at O3 ⊢
      have Y3 := Y1.on b3 (by simp; omega)
      have j0 := Y3.c0; have j1 := Y3.c1
      have f0 := fun j => frozen_of_row w3 (w.heap.size + 1) j _ _ Y3
      have bw3 := bw1.trans (b3.mono bw1.size)
      clear l0 l1 e0
      go_wp2_with fail
      refine bodyPost_ret (v := .tuple #[.agg #[.int .i64 c, .slice a3 n cap3], .bool false]) (by simp [results, Tryd.results74, go_sem, j0, j1]) rfl ⟨_, rfl, ?_, (bw3.setCell (by simp) _).setCell (by simp) _⟩
      exact ((O3.setCell (by simp; omega) _).setCell (by simp; omega) _).mono bw1.size

end Words
end Go.Proofs.YtppikpdphcfomaaDoor
