/- Several texts of one proof, in build order: WordSpecLock. -/
import Derived.Deep.RegionHeld3
import Derived.Test.YtppikpdphcfomaaDoorCB15
/- spec.Lock, Store and Unlock. -/
namespace Go.Proofs.YtppikpdphcfomaaDoor
open Go.RowKit
namespace Words

theorem set_same {α : Type} {l : List α} {j : Nat} {a : α} (h : l[j]? = some a) : l.set j a = l := by
  apply List.ext_getElem?
  intro i
  rw [List.getElem?_set]
  split
  · rename_i e; subst e; rw [h]; have := (List.getElem?_eq_some_iff.1 h).1; simp [this]
  · rfl
theorem wAt_get (ws : List W3) (k : Nat) (h : k < ws.length) : wAt ws (k : Int) = ws[k] := by simp [wAt, List.getD, h]
theorem wv_at (ws : List W3) (k : Nat) (h : k < ws.length) : (wv ws)[k * 3]? = some (.int .i64 (wAt ws k).val) ∧ (wv ws)[k * 3 + 1]? = some (.int .i64 (wAt ws k).ver) ∧ (wv ws)[k * 3 + 2]? = some (.int .i64 (wAt ws k).own) := by
  rw [wAt_get ws k h]; exact wv_get ws k h
theorem wv_own (ws : List W3) (k : Nat) (h : k < ws.length) (y : Int) : (wv ws).set (k * 3 + 2) (.int .i64 y) = wv (put ws k ⟨(wAt ws k).val, (wAt ws k).ver, y⟩) := by
  obtain ⟨h0, h1, h2⟩ := wv_at ws k h
  unfold put
  rw [show (k : Int).toNat = k by omega, wv_set, set_same h0, set_same h1]
theorem wv_val (ws : List W3) (k : Nat) (h : k < ws.length) (y : Int) : (wv ws).set (k * 3) (.int .i64 y) = wv (put ws k ⟨y, (wAt ws k).ver, (wAt ws k).own⟩) := by
  obtain ⟨h0, h1, h2⟩ := wv_at ws k h
  unfold put
  rw [show (k : Int).toNat = k by omega, wv_set, set_same (l := (wv ws).set (k * 3) _) (by rw [List.getElem?_set, if_neg (by omega)]; exact h1), set_same (l := (wv ws).set (k * 3) _) (by rw [List.getElem?_set, if_neg (by omega)]; exact h2)]
theorem wv_ver (ws : List W3) (k : Nat) (h : k < ws.length) (y : Int) : ((wv ws).set (k * 3 + 2) (.int .i64 0)).set (k * 3 + 1) (.int .i64 y) = wv (put ws k ⟨(wAt ws k).val, y, 0⟩) := by
  obtain ⟨h0, h1, h2⟩ := wv_at ws k h
  unfold put
  rw [show (k : Int).toNat = k by omega, wv_set, set_same h0, List.set_comm _ _ (by omega)]

theorem can_no {c : Int} {ws : List W3} {i : Int} (h : ¬ canAt c ws i = true) : memOk c ws = false ∨ (memOk c ws = true ∧ i < 0) ∨ (memOk c ws = true ∧ 0 ≤ i ∧ decide (i ≤ 7) = false) := by
  rcases canAt_no h with h | h | ⟨h1, h2, h3⟩
  · exact .inl h
  · exact .inr (.inl h)
  · exact .inr (.inr ⟨h1, h2, by simp; omega⟩)
theorem mine_no' {c : Int} {ws : List W3} {i who : Int} (h : ¬ mine c ws i who = true) (hc : canAt c ws i = true) : who < 1 ∨ (1 ≤ who ∧ decide (who ≤ 99) = false) ∨ (1 ≤ who ∧ who ≤ 99 ∧ ((wAt ws i).own == who) = false) := by
  rcases mine_no h hc with h | ⟨h1, h2⟩ | ⟨h1, h2, h3⟩
  · exact .inl h
  · exact .inr (.inl ⟨h1, by simp; omega⟩)
  · exact .inr (.inr ⟨h1, h2, by simpa using h3⟩)

set_option maxRecDepth 100000 in
set_option maxHeartbeats 800000 in
theorem specMine (c : Int) (v : Value) (ws : List W3) (i who : Int) (B : Nat) (w : World) (hv : Sees B w v ws) (hB : B ≤ w.heap.size) :
    Calls Tryd.prog 58 #[.agg #[.int .i64 c, v], .int .i64 i, .int .i64 who] w fun e w' => e = .returned (.bool (mine c ws i who)) ∧ Below w.heap.size w w' := by
  obtain ⟨a, cap, rfl⟩ := hv.form
  have hb0 := (Below.refl w.heap.size w).alloc (Nat.le_refl _) (.cells #[.int .i64 c, .slice a ws.length cap] 33)
  have hv0 := hv.on hb0 hB
  have X0 := Box.new w c (.slice a ws.length cap) 33
  have cO := specOk c _ ws B _ hv0 (by simp; omega)
  by_cases hc : canAt c ws i = true
  · obtain ⟨hok, h0, h8⟩ := canAt_out hc
    have hl := (memOk_out hok).1
    rw [hok] at cO
    obtain ⟨k, rfl⟩ := Int.eq_ofNat_of_zero_le h0
    rw [hl] at cO hb0 hv0 X0 ⊢
    have h7 : (k : Int) ≤ 7 := by omega
    obtain ⟨x, hx⟩ : ∃ x, wAt ws (k : Int) = x := ⟨_, rfl⟩
    have HX : Hid (wAt ws (k : Int) = x) := hx
    have part : ∀ b, mine c ws k who = b → (b = true ∧ 1 ≤ who ∧ who ≤ 99 ∧ (x.own == who) = true) ∨ (b = false ∧ who < 1) ∨ (b = false ∧ 1 ≤ who ∧ decide (who ≤ 99) = false) ∨ (b = false ∧ 1 ≤ who ∧ who ≤ 99 ∧ (x.own == who) = false) := by
      intro b hb
      cases b
      · rcases mine_no' (by rw [hb]; simp) hc with h | h | h
        · exact .inr (.inl ⟨rfl, h⟩)
        · exact .inr (.inr (.inl ⟨rfl, h⟩))
        · rw [hx] at h; exact .inr (.inr (.inr ⟨rfl, h⟩))
      · obtain ⟨-, h1, h2, h3⟩ := mine_out hb
        rw [hx] at h3
        exact .inl ⟨rfl, h1, h2, by simp [h3]⟩
    obtain ⟨b, hb⟩ : ∃ b, mine c ws k who = b := ⟨_, rfl⟩
    have hp := part b hb
    rw [hb]
    clear part hb hc hok hx
    rcases hp with ⟨rfl, h1, h2, h3⟩ | ⟨rfl, h1⟩ | ⟨rfl, h1, h2⟩ | ⟨rfl, h1, h2, h3⟩
    all_goals
      go_enter Tryd.func58, Tryd.ntmps58
      go_wp2_with fail
      refine cO.mono ?_
      rintro e w1 ⟨rfl, b1⟩
      have hv1 := hv0.on b1 (by simp; omega)
      obtain ⟨b, off, rfl, hb, a0, a1, a2⟩ := at_of hv1 k (by omega)
      rw [HX.out] at a0 a1 a2
      have X1 := X0.on b1 (by simp); have k0 := X1.c0; have k1 := X1.c1
      have hbw := hb0.trans (b1.mono hb0.size)
      clear cO
      go_wp2
      go_ret
      exact ⟨rfl, hbw⟩
  · have hm : mine c ws i who = false := by unfold mine; simp [show canAt c ws i = false by simpa using hc]
    have hcase := can_no hc
    rw [hm]
    clear hc hm
    rcases hcase with hok | ⟨hok, h1⟩ | ⟨hok, h1, h2⟩
    all_goals
      rw [hok] at cO
      clear hok
      go_enter Tryd.func58, Tryd.ntmps58
      go_wp2_with fail
      refine cO.mono ?_
      rintro e w1 ⟨rfl, b1⟩
      have hbw := hb0.trans (b1.mono hb0.size)
      clear cO
      go_wp2
      go_ret
      exact ⟨rfl, hbw⟩

theorem lock_no' {c : Int} {ws : List W3} {i who : Int} (h : ¬ lockMay c ws i who = true) (hc : canAt c ws i = true) : who < 1 ∨ (1 ≤ who ∧ decide (who ≤ 99) = false) ∨ (1 ≤ who ∧ who ≤ 99 ∧ ((wAt ws i).own != 0) = true) := by
  rcases lock_no h hc with h | ⟨h1, h2⟩ | h
  · exact .inl h
  · exact .inr (.inl ⟨h1, by simp; omega⟩)
  · exact .inr (.inr h)
theorem store_no' {c : Int} {ws : List W3} {i who y : Int} (h : ¬ storeMay c ws i who y = true) (hc : mine c ws i who = true) : y < 0 ∨ (0 ≤ y ∧ decide (y ≤ 65535) = false) := by
  rcases store_no h hc with h | ⟨h1, h2⟩
  · exact .inl h
  · exact .inr ⟨h1, by simp; omega⟩

set_option maxRecDepth 100000 in
set_option maxHeartbeats 1600000 in
theorem specLock (c : Int) (v : Value) (ws : List W3) (i who : Int) (B : Nat) (w : World) (hv : Sees B w v ws) (hB : B ≤ w.heap.size) (hlen : ws.length ≤ 1048576) :
    Calls Tryd.prog 23 #[.agg #[.int .i64 c, v], .int .i64 i, .int .i64 who] w fun e w' => ∃ v', e = .returned (.tuple #[.agg #[.int .i64 c, v'], .bool (lockMay c ws i who)]) ∧ Owns w.heap.size w' v' (lockTo c ws i who) ∧ Below w.heap.size w w' := by
  obtain ⟨a, cap, rfl⟩ := hv.form
  have hb0 := ((Below.refl w.heap.size w).alloc (Nat.le_refl _) (.cells #[.int .i64 c, .slice a ws.length cap] 33)).alloc (by simp) (.cells #[.int .i64 0, .slice none 0 0] 33)
  have X0 : Box ((w.alloc (.cells #[.int .i64 c, .slice a ws.length cap] 33)).alloc (.cells #[.int .i64 0, .slice none 0 0] 33)) w.heap.size c (.slice a ws.length cap) 33 := heap_alloc2_old _ _ _
  have Y0 : Box ((w.alloc (.cells #[.int .i64 c, .slice a ws.length cap] 33)).alloc (.cells #[.int .i64 0, .slice none 0 0] 33)) (w.heap.size + 1) 0 (.slice none 0 0) 33 := heap_alloc2_new _ _ _
  have hv0 := hv.on hb0 hB
  obtain ⟨n, hn⟩ : ∃ n, ws.length = n := ⟨_, rfl⟩
  rw [hn] at hv hb0 X0 Y0 hv0 ⊢
  obtain ⟨W0, hW0⟩ : ∃ W0, (w.alloc (.cells #[.int .i64 c, .slice a n cap] 33)).alloc (.cells #[.int .i64 0, .slice none 0 0] 33) = W0 := ⟨_, rfl⟩
  rw [hW0] at hb0 X0 Y0 hv0
  have k0 := X0.c0; have k1 := X0.c1; have hs0 := Y0.lt
  have cC := specCopy c _ ws B W0 hv0 (by omega) hlen
  -- what is so behind the copy, in its box at p, and a call that only makes memory
  have tail : ∀ w1 (a1 : Option Addr) (cap1 : Nat), Below W0.heap.size W0 w1 → Owns W0.heap.size w1 (.slice a1 n cap1) ws →
      Box (w1.alloc (.cells #[.int .i64 c, .slice a1 n cap1] 33)) w.heap.size c (.slice a n cap) 33 ∧ Sees B (w1.alloc (.cells #[.int .i64 c, .slice a1 n cap1] 33)) (.slice a n cap) ws ∧
      ∀ w2, Below (w1.alloc (.cells #[.int .i64 c, .slice a1 n cap1] 33)).heap.size (w1.alloc (.cells #[.int .i64 c, .slice a1 n cap1] 33)) w2 →
        Box w2 w.heap.size c (.slice a n cap) 33 ∧ Box w2 (w.heap.size + 1) 0 (.slice none 0 0) 33 ∧ Box w2 w1.heap.size c (.slice a1 n cap1) 33 ∧ Sees B w2 (.slice a n cap) ws ∧ Owns W0.heap.size w2 (.slice a1 n cap1) ws ∧ Below w.heap.size w w2 := by
    intro w1 a1 cap1 b1 O1
    have Bn := (Below.refl w1.heap.size w1).alloc (Nat.le_refl _) (.cells #[.int .i64 c, .slice a1 n cap1] 33)
    have b2 := b1.trans (Bn.mono b1.size)
    refine ⟨X0.on b2 (by omega), hv0.on b2 (by omega), fun w2 b3 => ?_⟩
    have b4 := b2.trans (b3.mono b2.size)
    exact ⟨X0.on b4 (by omega), Y0.on b4 hs0, (Box.new w1 c (.slice a1 n cap1) 33).on b3 (by simp), hv0.on b4 (by omega), (O1.on Bn (Nat.le_refl _)).on b3 (Nat.le_refl _), hb0.trans (b4.mono hb0.size)⟩
  by_cases h : lockMay c ws i who = true
  · have e1 : lockTo c ws i who = put ws i ⟨(wAt ws i).val, (wAt ws i).ver, who⟩ := by unfold lockTo; rw [if_pos h]
    obtain ⟨hcan, hw1, hw2, ho⟩ := lock_yes h
    skip
    obtain ⟨hok, hi0, hi8⟩ := canAt_out hcan
    have hl := (memOk_out hok).1
    rw [e1, h]
    obtain ⟨k, rfl⟩ := Int.eq_ofNat_of_zero_le hi0
    obtain ⟨x, hx⟩ : ∃ x, wAt ws (k : Int) = x := ⟨_, rfl⟩
    have HX : Hid (wAt ws (k : Int) = x) := hx
    rw [hx] at ho ⊢
    have h7 : (k : Int) ≤ 7 := by omega
    obtain rfl : n = 8 := by omega
    have ho' : (x.own != 0) = false := by simp [ho]
    clear ho
    clear h e1 hx hcan
    go_enter Tryd.func23, Tryd.ntmps23
    go_wp2_with fail
    refine cC.mono ?_
    rintro e w1 ⟨v1, rfl, O1, b1⟩
    obtain ⟨a1, cap1, rfl⟩ := O1.form
    rw [hn] at O1 ⊢
    obtain ⟨Xa, hva, rest⟩ := tail w1 a1 cap1 b1 O1
    have l0 := Xa.c0; have l1 := Xa.c1
    have hsz1 : W0.heap.size ≤ w1.heap.size := b1.size
    have own1 := O1.at
    clear cC tail hW0 k0 k1
    go_wp2_with fail
    have cO := specOk c _ ws B _ hva (by simp; omega)
    rw [hok] at cO
    refine cO.mono ?_
    rintro e w2 ⟨rfl, b2⟩
    obtain ⟨X2, Y2, Z2, hv2, O2, bw2⟩ := rest w2 b2
    have k0 := X2.c0; have k1 := X2.c1; have j0 := Y2.c0; have j1 := Y2.c1; have i0 := Z2.c0; have i1 := Z2.c1
    have f0 := fun j => frozen_of_row w2 (w.heap.size + 1) j _ _ Y2
    clear rest l0 l1 Xa hva
    obtain ⟨g, cap', hge⟩ := O2.form8 hl
    obtain ⟨rfl, rfl⟩ : a1 = some ⟨g, 0, none⟩ ∧ cap1 = cap' := by simp at hge; exact ⟨hge.1, hge.2⟩
    clear hge
    obtain ⟨hgl, hgs⟩ := own1 g rfl
    have R2 : w2.ownsRow W0.heap.size 61 3 (.slice (some ⟨g, 0, none⟩) 8 cap1) 8 (wv ws) := by have := O2; unfold Owns at this; rw [hn] at this; exact this
    have fg := fun j => R2.frozenAt j
    obtain ⟨c0, c1, c2⟩ := owns_at R2 k (by omega)
    have hg0 : g ≠ w.heap.size + 1 := by omega
    have hg1 : g ≠ w1.heap.size := by omega
    have hg0' : w.heap.size + 1 ≠ g := by omega
    have hg1' : w1.heap.size ≠ g := by omega
    obtain ⟨b, off, rfl, hb, a0, a1', a2⟩ := at_of hv2 k (by omega)
    rw [HX.out] at a0 a1' a2
    have hbg : b ≠ g := by omega
    have hbs : b ≠ w.heap.size + 1 := by omega
    go_wp2
    have R3 := (R2.stored (k * 3 + 2) (.int .i64 who)).1
    rw [wv_own ws k (by omega), HX.out] at R3
    have R4 := ownsRow_setCell_below (ownsRow_setCell_below R3 (a := ⟨w.heap.size + 1, 0, none⟩) (by simp; omega) (.int .i64 c)) (a := ⟨w.heap.size + 1, 1, none⟩) (by simp; omega) (.slice (some ⟨g, 0, none⟩) 8 cap1)
    refine bodyPost_ret (v := .tuple #[.agg #[.int .i64 c, .slice (some ⟨g, 0, none⟩) 8 cap1], .bool true]) (by simp [results, Tryd.results23, go_sem, j0, j1]) rfl ⟨.slice (some ⟨g, 0, none⟩) 8 cap1, rfl, ?_, ?_⟩
    · refine Owns.mono (B := W0.heap.size) ?_ hb0.size
      unfold Owns; rw [put_length, hn]; exact R4
    · exact ((bw2.setCell (by simp; omega) _).setCell (by simp) _).setCell (by simp) _
  · have h' : lockMay c ws i who = false := by simpa using h
    have e1 : lockTo c ws i who = ws := by unfold lockTo; rw [if_neg h]
    rw [e1, h']
    clear h' e1
    by_cases hc : canAt c ws i = true
    · have hcase := lock_no' h hc
      have hcan := hc
      obtain ⟨hok, hi0, hi8⟩ := canAt_out hcan
      have hl := (memOk_out hok).1
      obtain ⟨k, rfl⟩ := Int.eq_ofNat_of_zero_le hi0
      obtain ⟨x, hx⟩ : ∃ x, wAt ws (k : Int) = x := ⟨_, rfl⟩
      have HX : Hid (wAt ws (k : Int) = x) := hx
      rw [hx] at hcase
      have h7 : (k : Int) ≤ 7 := by omega
      obtain rfl : n = 8 := by omega
      clear h hx hcan
      rcases hcase with h1 | ⟨h1, h2⟩ | ⟨h1, h2, h3⟩
      all_goals
        go_enter Tryd.func23, Tryd.ntmps23
        go_wp2_with fail
        refine cC.mono ?_
        rintro e w1 ⟨v1, rfl, O1, b1⟩
        obtain ⟨a1, cap1, rfl⟩ := O1.form
        rw [hn] at O1 ⊢
        obtain ⟨Xa, hva, rest⟩ := tail w1 a1 cap1 b1 O1
        have l0 := Xa.c0; have l1 := Xa.c1
        have hsz1 : W0.heap.size ≤ w1.heap.size := b1.size
        have own1 := O1.at
        clear cC tail hW0 k0 k1
        go_wp2_with fail
        have cO := specOk c _ ws B _ hva (by simp; omega)
        rw [hok] at cO
        refine cO.mono ?_
        rintro e w2 ⟨rfl, b2⟩
        obtain ⟨X2, Y2, Z2, hv2, O2, bw2⟩ := rest w2 b2
        have k0 := X2.c0; have k1 := X2.c1; have j0 := Y2.c0; have j1 := Y2.c1; have i0 := Z2.c0; have i1 := Z2.c1
        have f0 := fun j => frozen_of_row w2 (w.heap.size + 1) j _ _ Y2
        clear rest l0 l1 Xa hva
        obtain ⟨b, off, rfl, hb, a0, a1', a2⟩ := at_of hv2 k (by omega)
        rw [HX.out] at a0 a1' a2
        go_wp2
        refine bodyPost_ret (v := .tuple #[.agg #[.int .i64 c, .slice a1 8 cap1], .bool false]) (by simp [results, Tryd.results23, go_sem, j0, j1]) rfl ⟨_, rfl, ?_, (bw2.setCell (by simp) _).setCell (by simp) _⟩
        exact ((O2.setCell (by simp; omega) _).setCell (by simp; omega) _).mono hb0.size
    · skip
      have hcase := can_no hc
      clear h hc
      rcases hcase with hok | ⟨hok, h1⟩ | ⟨hok, h1, h2⟩
      all_goals
        go_enter Tryd.func23, Tryd.ntmps23
        go_wp2_with fail
        refine cC.mono ?_
        rintro e w1 ⟨v1, rfl, O1, b1⟩
        obtain ⟨a1, cap1, rfl⟩ := O1.form
        rw [hn] at O1 ⊢
        obtain ⟨Xa, hva, rest⟩ := tail w1 a1 cap1 b1 O1
        have l0 := Xa.c0; have l1 := Xa.c1
        have hsz1 : W0.heap.size ≤ w1.heap.size := b1.size
        have own1 := O1.at
        clear cC tail hW0 k0 k1
        go_wp2_with fail
        have cO := specOk c _ ws B _ hva (by simp; omega)
        rw [hok] at cO
        refine cO.mono ?_
        rintro e w2 ⟨rfl, b2⟩
        obtain ⟨X2, Y2, Z2, hv2, O2, bw2⟩ := rest w2 b2
        have k0 := X2.c0; have k1 := X2.c1; have j0 := Y2.c0; have j1 := Y2.c1; have i0 := Z2.c0; have i1 := Z2.c1
        have f0 := fun j => frozen_of_row w2 (w.heap.size + 1) j _ _ Y2
        clear rest l0 l1 Xa hva
        go_wp2
        refine bodyPost_ret (v := .tuple #[.agg #[.int .i64 c, .slice a1 n cap1], .bool false]) (by simp [results, Tryd.results23, go_sem, j0, j1]) rfl ⟨_, rfl, ?_, (bw2.setCell (by simp) _).setCell (by simp) _⟩
        exact ((O2.setCell (by simp; omega) _).setCell (by simp; omega) _).mono hb0.size

set_option maxRecDepth 100000 in
set_option maxHeartbeats 1600000 in
theorem specStore (c : Int) (v : Value) (ws : List W3) (i who y : Int) (B : Nat) (w : World) (hv : Sees B w v ws) (hB : B ≤ w.heap.size) (hlen : ws.length ≤ 1048576) :
    Calls Tryd.prog 27 #[.agg #[.int .i64 c, v], .int .i64 i, .int .i64 who, .int .i64 y] w fun e w' => ∃ v', e = .returned (.tuple #[.agg #[.int .i64 c, v'], .bool (storeMay c ws i who y)]) ∧ Owns w.heap.size w' v' (storeTo c ws i who y) ∧ Below w.heap.size w w' := by
  obtain ⟨a, cap, rfl⟩ := hv.form
  have hb0 := ((Below.refl w.heap.size w).alloc (Nat.le_refl _) (.cells #[.int .i64 c, .slice a ws.length cap] 33)).alloc (by simp) (.cells #[.int .i64 0, .slice none 0 0] 33)
  have X0 : Box ((w.alloc (.cells #[.int .i64 c, .slice a ws.length cap] 33)).alloc (.cells #[.int .i64 0, .slice none 0 0] 33)) w.heap.size c (.slice a ws.length cap) 33 := heap_alloc2_old _ _ _
  have Y0 : Box ((w.alloc (.cells #[.int .i64 c, .slice a ws.length cap] 33)).alloc (.cells #[.int .i64 0, .slice none 0 0] 33)) (w.heap.size + 1) 0 (.slice none 0 0) 33 := heap_alloc2_new _ _ _
  have hv0 := hv.on hb0 hB
  obtain ⟨n, hn⟩ : ∃ n, ws.length = n := ⟨_, rfl⟩
  rw [hn] at hv hb0 X0 Y0 hv0 ⊢
  obtain ⟨W0, hW0⟩ : ∃ W0, (w.alloc (.cells #[.int .i64 c, .slice a n cap] 33)).alloc (.cells #[.int .i64 0, .slice none 0 0] 33) = W0 := ⟨_, rfl⟩
  rw [hW0] at hb0 X0 Y0 hv0
  have k0 := X0.c0; have k1 := X0.c1; have hs0 := Y0.lt
  have cC := specCopy c _ ws B W0 hv0 (by omega) hlen
  -- what is so behind the copy, in its box at p, and a call that only makes memory
  have tail : ∀ w1 (a1 : Option Addr) (cap1 : Nat), Below W0.heap.size W0 w1 → Owns W0.heap.size w1 (.slice a1 n cap1) ws →
      Box (w1.alloc (.cells #[.int .i64 c, .slice a1 n cap1] 33)) w.heap.size c (.slice a n cap) 33 ∧ Sees B (w1.alloc (.cells #[.int .i64 c, .slice a1 n cap1] 33)) (.slice a n cap) ws ∧
      ∀ w2, Below (w1.alloc (.cells #[.int .i64 c, .slice a1 n cap1] 33)).heap.size (w1.alloc (.cells #[.int .i64 c, .slice a1 n cap1] 33)) w2 →
        Box w2 w.heap.size c (.slice a n cap) 33 ∧ Box w2 (w.heap.size + 1) 0 (.slice none 0 0) 33 ∧ Box w2 w1.heap.size c (.slice a1 n cap1) 33 ∧ Sees B w2 (.slice a n cap) ws ∧ Owns W0.heap.size w2 (.slice a1 n cap1) ws ∧ Below w.heap.size w w2 := by
    intro w1 a1 cap1 b1 O1
    have Bn := (Below.refl w1.heap.size w1).alloc (Nat.le_refl _) (.cells #[.int .i64 c, .slice a1 n cap1] 33)
    have b2 := b1.trans (Bn.mono b1.size)
    refine ⟨X0.on b2 (by omega), hv0.on b2 (by omega), fun w2 b3 => ?_⟩
    have b4 := b2.trans (b3.mono b2.size)
    exact ⟨X0.on b4 (by omega), Y0.on b4 hs0, (Box.new w1 c (.slice a1 n cap1) 33).on b3 (by simp), hv0.on b4 (by omega), (O1.on Bn (Nat.le_refl _)).on b3 (Nat.le_refl _), hb0.trans (b4.mono hb0.size)⟩
  by_cases h : storeMay c ws i who y = true
  · have e1 : storeTo c ws i who y = put ws i ⟨y, (wAt ws i).ver, (wAt ws i).own⟩ := by unfold storeTo; rw [if_pos h]
    obtain ⟨hm, hw1, hw2⟩ := store_yes h
    have hcan := (mine_out hm).1
    obtain ⟨hok, hi0, hi8⟩ := canAt_out hcan
    have hl := (memOk_out hok).1
    rw [e1, h]
    obtain ⟨k, rfl⟩ := Int.eq_ofNat_of_zero_le hi0
    obtain ⟨x, hx⟩ : ∃ x, wAt ws (k : Int) = x := ⟨_, rfl⟩
    have HX : Hid (wAt ws (k : Int) = x) := hx
    rw [hx]
    have h7 : (k : Int) ≤ 7 := by omega
    obtain rfl : n = 8 := by omega
    skip
    clear h e1 hx hcan
    go_enter Tryd.func27, Tryd.ntmps27
    go_wp2_with fail
    refine cC.mono ?_
    rintro e w1 ⟨v1, rfl, O1, b1⟩
    obtain ⟨a1, cap1, rfl⟩ := O1.form
    rw [hn] at O1 ⊢
    obtain ⟨Xa, hva, rest⟩ := tail w1 a1 cap1 b1 O1
    have l0 := Xa.c0; have l1 := Xa.c1
    have hsz1 : W0.heap.size ≤ w1.heap.size := b1.size
    have own1 := O1.at
    clear cC tail hW0 k0 k1
    go_wp2_with fail
    have cO := specMine c _ ws k who B _ hva (by simp; omega)
    rw [hm] at cO
    refine cO.mono ?_
    rintro e w2 ⟨rfl, b2⟩
    obtain ⟨X2, Y2, Z2, hv2, O2, bw2⟩ := rest w2 b2
    have k0 := X2.c0; have k1 := X2.c1; have j0 := Y2.c0; have j1 := Y2.c1; have i0 := Z2.c0; have i1 := Z2.c1
    have f0 := fun j => frozen_of_row w2 (w.heap.size + 1) j _ _ Y2
    clear rest l0 l1 Xa hva
    obtain ⟨g, cap', hge⟩ := O2.form8 hl
    obtain ⟨rfl, rfl⟩ : a1 = some ⟨g, 0, none⟩ ∧ cap1 = cap' := by simp at hge; exact ⟨hge.1, hge.2⟩
    clear hge
    obtain ⟨hgl, hgs⟩ := own1 g rfl
    have R2 : w2.ownsRow W0.heap.size 61 3 (.slice (some ⟨g, 0, none⟩) 8 cap1) 8 (wv ws) := by have := O2; unfold Owns at this; rw [hn] at this; exact this
    have fg := fun j => R2.frozenAt j
    obtain ⟨c0, c1, c2⟩ := owns_at R2 k (by omega)
    have hg0 : g ≠ w.heap.size + 1 := by omega
    have hg1 : g ≠ w1.heap.size := by omega
    have hg0' : w.heap.size + 1 ≠ g := by omega
    have hg1' : w1.heap.size ≠ g := by omega
    obtain ⟨b, off, rfl, hb, a0, a1', a2⟩ := at_of hv2 k (by omega)
    rw [HX.out] at a0 a1' a2
    have hbg : b ≠ g := by omega
    have hbs : b ≠ w.heap.size + 1 := by omega
    go_wp2
    have R3 := (R2.stored (k * 3) (.int .i64 y)).1
    rw [wv_val ws k (by omega), HX.out] at R3
    have R4 := ownsRow_setCell_below (ownsRow_setCell_below R3 (a := ⟨w.heap.size + 1, 0, none⟩) (by simp; omega) (.int .i64 c)) (a := ⟨w.heap.size + 1, 1, none⟩) (by simp; omega) (.slice (some ⟨g, 0, none⟩) 8 cap1)
    refine bodyPost_ret (v := .tuple #[.agg #[.int .i64 c, .slice (some ⟨g, 0, none⟩) 8 cap1], .bool true]) (by simp [results, Tryd.results27, go_sem, j0, j1]) rfl ⟨.slice (some ⟨g, 0, none⟩) 8 cap1, rfl, ?_, ?_⟩
    · refine Owns.mono (B := W0.heap.size) ?_ hb0.size
      unfold Owns; rw [put_length, hn]; exact R4
    · exact ((bw2.setCell (by simp; omega) _).setCell (by simp) _).setCell (by simp) _
  · have h' : storeMay c ws i who y = false := by simpa using h
    have e1 : storeTo c ws i who y = ws := by unfold storeTo; rw [if_neg h]
    rw [e1, h']
    clear h' e1
    by_cases hc : mine c ws i who = true
    · have hcase := store_no' h hc
      have hm := hc
      have hcan := (mine_out hc).1
      obtain ⟨hok, hi0, hi8⟩ := canAt_out hcan
      have hl := (memOk_out hok).1
      obtain ⟨k, rfl⟩ := Int.eq_ofNat_of_zero_le hi0
      obtain ⟨x, hx⟩ : ∃ x, wAt ws (k : Int) = x := ⟨_, rfl⟩
      have HX : Hid (wAt ws (k : Int) = x) := hx
      skip
      have h7 : (k : Int) ≤ 7 := by omega
      obtain rfl : n = 8 := by omega
      clear h hx hcan
      rcases hcase with h1 | ⟨h1, h2⟩
      all_goals
        go_enter Tryd.func27, Tryd.ntmps27
        go_wp2_with fail
        refine cC.mono ?_
        rintro e w1 ⟨v1, rfl, O1, b1⟩
        obtain ⟨a1, cap1, rfl⟩ := O1.form
        rw [hn] at O1 ⊢
        obtain ⟨Xa, hva, rest⟩ := tail w1 a1 cap1 b1 O1
        have l0 := Xa.c0; have l1 := Xa.c1
        have hsz1 : W0.heap.size ≤ w1.heap.size := b1.size
        have own1 := O1.at
        clear cC tail hW0 k0 k1
        go_wp2_with fail
        have cO := specMine c _ ws k who B _ hva (by simp; omega)
        rw [hm] at cO
        refine cO.mono ?_
        rintro e w2 ⟨rfl, b2⟩
        obtain ⟨X2, Y2, Z2, hv2, O2, bw2⟩ := rest w2 b2
        have k0 := X2.c0; have k1 := X2.c1; have j0 := Y2.c0; have j1 := Y2.c1; have i0 := Z2.c0; have i1 := Z2.c1
        have f0 := fun j => frozen_of_row w2 (w.heap.size + 1) j _ _ Y2
        clear rest l0 l1 Xa hva
        obtain ⟨b, off, rfl, hb, a0, a1', a2⟩ := at_of hv2 k (by omega)
        rw [HX.out] at a0 a1' a2
        go_wp2
        refine bodyPost_ret (v := .tuple #[.agg #[.int .i64 c, .slice a1 8 cap1], .bool false]) (by simp [results, Tryd.results27, go_sem, j0, j1]) rfl ⟨_, rfl, ?_, (bw2.setCell (by simp) _).setCell (by simp) _⟩
        exact ((O2.setCell (by simp; omega) _).setCell (by simp; omega) _).mono hb0.size
    · have hm : mine c ws i who = false := by simpa using hc
      clear h
      go_enter Tryd.func27, Tryd.ntmps27
      go_wp2_with fail
      refine cC.mono ?_
      rintro e w1 ⟨v1, rfl, O1, b1⟩
      obtain ⟨a1, cap1, rfl⟩ := O1.form
      rw [hn] at O1 ⊢
      obtain ⟨Xa, hva, rest⟩ := tail w1 a1 cap1 b1 O1
      have l0 := Xa.c0; have l1 := Xa.c1
      have hsz1 : W0.heap.size ≤ w1.heap.size := b1.size
      have own1 := O1.at
      clear cC tail hW0 k0 k1
      go_wp2_with fail
      have cO := specMine c _ ws i who B _ hva (by simp; omega)
      rw [hm] at cO
      refine cO.mono ?_
      rintro e w2 ⟨rfl, b2⟩
      obtain ⟨X2, Y2, Z2, hv2, O2, bw2⟩ := rest w2 b2
      have k0 := X2.c0; have k1 := X2.c1; have j0 := Y2.c0; have j1 := Y2.c1; have i0 := Z2.c0; have i1 := Z2.c1
      have f0 := fun j => frozen_of_row w2 (w.heap.size + 1) j _ _ Y2
      clear rest l0 l1 Xa hva
      go_wp2
      refine bodyPost_ret (v := .tuple #[.agg #[.int .i64 c, .slice a1 n cap1], .bool false]) (by simp [results, Tryd.results27, go_sem, j0, j1]) rfl ⟨_, rfl, ?_, (bw2.setCell (by simp) _).setCell (by simp) _⟩
      exact ((O2.setCell (by simp; omega) _).setCell (by simp; omega) _).mono hb0.size

end Words
end Go.Proofs.YtppikpdphcfomaaDoor
