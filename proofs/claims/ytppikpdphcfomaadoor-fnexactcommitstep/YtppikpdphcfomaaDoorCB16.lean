/- Several texts of one proof, in build order: WordTick. -/
import Derived.Test.YtppikpdphcfomaaDoorCB12
import Derived.Test.YtppikpdphcfomaaDoorCB13
/- Both Tick. -/
namespace Go.Proofs.YtppikpdphcfomaaDoor
open Go.RowKit
namespace Words

/-- may the clock go on? -/
def mayTick (c : Int) (ws : List W3) : Bool := memOk c ws && decide (c < 1000000)
def tickC (c : Int) (ws : List W3) : Int := if mayTick c ws = true then c + 1 else c
def tickR (c : Int) (ws : List W3) : Int := if mayTick c ws = true then c + 1 else 0

theorem tick_cases (c : Int) (ws : List W3) :
    (memOk c ws = false ∧ tickC c ws = c ∧ tickR c ws = 0) ∨ (memOk c ws = true ∧ c = 1000000 ∧ tickC c ws = c ∧ tickR c ws = 0) ∨ (memOk c ws = true ∧ 0 ≤ c ∧ c < 1000000 ∧ tickC c ws = c + 1 ∧ tickR c ws = c + 1) := by
  by_cases h : memOk c ws = true
  · obtain ⟨-, h1, h2, -⟩ := memOk_out h
    by_cases h3 : c < 1000000
    · exact .inr (.inr ⟨h, h1, h3, by simp [tickC, mayTick, h, h3], by simp [tickR, mayTick, h, h3]⟩)
    · exact .inr (.inl ⟨h, by omega, by simp [tickC, mayTick, h3], by simp [tickR, mayTick, h3]⟩)
  · have h' : memOk c ws = false := by simpa using h
    exact .inl ⟨h', by simp [tickC, mayTick, h'], by simp [tickR, mayTick, h']⟩

set_option maxRecDepth 100000 in
set_option maxHeartbeats 800000 in
theorem specTick (c : Int) (v : Value) (ws : List W3) (B : Nat) (w : World) (hv : Sees B w v ws) (hB : B ≤ w.heap.size) (hlen : ws.length ≤ 1048576) :
    Calls Tryd.prog 26 #[.agg #[.int .i64 c, v]] w fun e w' => ∃ v', e = .returned (.tuple #[.agg #[.int .i64 (tickC c ws), v'], .int .i64 (tickR c ws)]) ∧ Owns w.heap.size w' v' ws ∧ Below w.heap.size w w' := by
  obtain ⟨a, cap, rfl⟩ := hv.form
  have hb0 := ((Below.refl w.heap.size w).alloc (Nat.le_refl _) (.cells #[.int .i64 c, .slice a ws.length cap] 33)).alloc (by simp) (.cells #[.int .i64 0, .slice none 0 0] 33)
  have X0 : Box ((w.alloc (.cells #[.int .i64 c, .slice a ws.length cap] 33)).alloc (.cells #[.int .i64 0, .slice none 0 0] 33)) w.heap.size c (.slice a ws.length cap) 33 := heap_alloc2_old _ _ _
  have Y0 : Box ((w.alloc (.cells #[.int .i64 c, .slice a ws.length cap] 33)).alloc (.cells #[.int .i64 0, .slice none 0 0] 33)) (w.heap.size + 1) 0 (.slice none 0 0) 33 := heap_alloc2_new _ _ _
  have hv0 := hv.on hb0 hB
  obtain ⟨n, hn⟩ : ∃ n, ws.length = n := ⟨_, rfl⟩
  rw [hn] at hv hb0 X0 Y0 hv0 ⊢
  obtain ⟨W0, hW0⟩ : ∃ W0, (w.alloc (.cells #[.int .i64 c, .slice a n cap] 33)).alloc (.cells #[.int .i64 0, .slice none 0 0] 33) = W0 := ⟨_, rfl⟩
  rw [hW0] at hb0 X0 Y0 hv0
  have k0 := X0.c0; have k1 := X0.c1; have hs0 := Y0.lt
  go_enter Tryd.func26, Tryd.ntmps26
  go_wp2_with fail
  clear hW0 k0 k1
  refine (specCopy c _ ws B W0 hv0 (by omega) hlen).mono ?_
  rintro e w1 ⟨v1, rfl, O1, b1⟩
  obtain ⟨a1, cap1, rfl⟩ := O1.form
  rw [hn] at O1 ⊢
  have X1 := (X0.on b1 (by omega)).on ((Below.refl w1.heap.size w1).alloc (Nat.le_refl _) (.cells #[.int .i64 c, .slice a1 n cap1] 33)) (by have := b1.size; omega)
  have Y1 := (Y0.on b1 (by omega)).on ((Below.refl w1.heap.size w1).alloc (Nat.le_refl _) (.cells #[.int .i64 c, .slice a1 n cap1] 33)) (by have := b1.size; omega)
  have Z1 := Box.new w1 c (.slice a1 n cap1) 33
  have hv1 := hv0.on (b1.alloc b1.size (.cells #[.int .i64 c, .slice a1 n cap1] 33)) (by omega)
  have b2 := b1.alloc b1.size (.cells #[.int .i64 c, .slice a1 n cap1] 33)
  have O2 := O1.on ((Below.refl w1.heap.size w1).alloc (Nat.le_refl _) (.cells #[.int .i64 c, .slice a1 n cap1] 33)) (Nat.le_refl _)
  obtain ⟨W1, hW1⟩ : ∃ W1, w1.alloc (.cells #[.int .i64 c, .slice a1 n cap1] 33) = W1 := ⟨_, rfl⟩
  rw [hW1] at X1 Y1 Z1 hv1 b2 O2
  have k0 := X1.c0; have k1 := X1.c1; have hs1 := Z1.lt
  have hle1 : W0.heap.size ≤ w1.heap.size := b1.size
  have own1 := O1.at
  clear O1 b1
  go_wp2_with fail
  clear hW1 k0 k1
  refine (specOk c _ ws B W1 hv1 (by omega)).mono ?_
  rintro e w2 ⟨rfl, b3⟩
  have X2 := X1.on b3 X1.lt; have Y2 := Y1.on b3 Y1.lt; have Z2 := Z1.on b3 Z1.lt
  have O3 := O2.on b3 (Nat.le_refl _)
  have b4 := b2.trans (b3.mono b2.size)
  have k0 := X2.c0; have k1 := X2.c1; have j0 := Y2.c0; have j1 := Y2.c1; have i0 := Z2.c0; have i1 := Z2.c1
  have f0 := fun j => frozen_of_row w2 (w.heap.size + 1) j _ _ Y2
  have f1 := fun j => frozen_of_row w2 w1.heap.size j _ _ Z2
  have hne : w.heap.size + 1 ≠ w1.heap.size := by omega
  have hne' : w1.heap.size ≠ w.heap.size + 1 := by omega
  rcases tick_cases c ws with ⟨hok, h1, h2⟩ | ⟨hok, hc, h1, h2⟩ | ⟨hok, hc0, hc, h1, h2⟩
  · have H1 : Hid _ := h1
    have H2 : Hid _ := h2
    rw [hok]
    clear h1 h2 hok
    go_wp2_with fail
    refine bodyPost_ret (v := .tuple #[.agg #[.int .i64 c, .slice a1 n cap1], .int .i64 0]) (by simp [results, Tryd.results26, go_sem, j0, j1]) rfl ⟨.slice a1 n cap1, by rw [H1.out, H2.out], ?_, ?_⟩
    · exact ((O3.setCell (by simp; omega) _).setCell (by simp; omega) _).mono hb0.size
    · exact ((hb0.trans (b4.mono hb0.size)).setCell (by simp) _).setCell (by simp) _
  · have H1 : Hid _ := h1
    have H2 : Hid _ := h2
    rw [hok]
    clear h1 h2 hok
    go_wp2_with fail
    refine bodyPost_ret (v := .tuple #[.agg #[.int .i64 1000000, .slice a1 n cap1], .int .i64 0]) (by simp [results, Tryd.results26, go_sem, j0, j1]) rfl ⟨.slice a1 n cap1, by rw [H1.out, H2.out, hc], ?_, ?_⟩
    · exact ((O3.setCell (by simp; omega) _).setCell (by simp; omega) _).mono hb0.size
    · exact ((hb0.trans (b4.mono hb0.size)).setCell (by simp) _).setCell (by simp) _
  · have H1 : Hid _ := h1
    have H2 : Hid _ := h2
    rw [hok]
    clear h1 h2 hok
    go_wp2_with fail
    go_region
    all_goals
      go_wp2
      refine bodyPost_ret (v := .tuple #[.agg #[.int .i64 (c + 1), .slice a1 n cap1], .int .i64 (c + 1)]) (by simp [results, Tryd.results26, go_sem, j0, j1]) rfl ⟨.slice a1 n cap1, by rw [H1.out, H2.out], ?_, ?_⟩
      · exact (((O3.other (p := ⟨w1.heap.size, 0, none⟩) (fun k hk => Nat.ne_of_lt (own1 k hk).2) _).setCell (by simp; omega) _).setCell (by simp; omega) _).mono hb0.size
      · exact ((((hb0.trans (b4.mono hb0.size)).setCell (by simp; omega) _).setCell (by simp) _).setCell (by simp) _).drew

set_option maxRecDepth 100000 in
set_option maxHeartbeats 800000 in
theorem implTick (c : Int) (v : Value) (ws : List W3) (B : Nat) (w : World) (hv : Sees B w v ws) (hB : B ≤ w.heap.size) (hlen : ws.length ≤ 1048576) :
    Calls Tryd.prog 72 #[.agg #[.int .i64 c, v]] w fun e w' => ∃ v', e = .returned (.tuple #[.agg #[.int .i64 (tickC c ws), v'], .int .i64 (tickR c ws)]) ∧ Owns w.heap.size w' v' ws ∧ Below w.heap.size w w' := by
  obtain ⟨a, cap, rfl⟩ := hv.form
  have hb0 := ((Below.refl w.heap.size w).alloc (Nat.le_refl _) (.cells #[.int .i64 c, .slice a ws.length cap] 33)).alloc (by simp) (.cells #[.int .i64 0, .slice none 0 0] 33)
  have X0 : Box ((w.alloc (.cells #[.int .i64 c, .slice a ws.length cap] 33)).alloc (.cells #[.int .i64 0, .slice none 0 0] 33)) w.heap.size c (.slice a ws.length cap) 33 := heap_alloc2_old _ _ _
  have Y0 : Box ((w.alloc (.cells #[.int .i64 c, .slice a ws.length cap] 33)).alloc (.cells #[.int .i64 0, .slice none 0 0] 33)) (w.heap.size + 1) 0 (.slice none 0 0) 33 := heap_alloc2_new _ _ _
  have hv0 := hv.on hb0 hB
  obtain ⟨n, hn⟩ : ∃ n, ws.length = n := ⟨_, rfl⟩
  rw [hn] at hv hb0 X0 Y0 hv0 ⊢
  obtain ⟨W0, hW0⟩ : ∃ W0, (w.alloc (.cells #[.int .i64 c, .slice a n cap] 33)).alloc (.cells #[.int .i64 0, .slice none 0 0] 33) = W0 := ⟨_, rfl⟩
  rw [hW0] at hb0 X0 Y0 hv0
  have k0 := X0.c0; have k1 := X0.c1; have hs0 := Y0.lt
  go_enter Tryd.func72, Tryd.ntmps72
  go_wp2_with fail
  clear hW0 k0 k1
  refine (implCopy c _ ws B W0 hv0 (by omega) hlen).mono ?_
  rintro e w1 ⟨v1, rfl, O1, b1⟩
  obtain ⟨a1, cap1, rfl⟩ := O1.form
  rw [hn] at O1 ⊢
  have X1 := (X0.on b1 (by omega)).on ((Below.refl w1.heap.size w1).alloc (Nat.le_refl _) (.cells #[.int .i64 c, .slice a1 n cap1] 33)) (by have := b1.size; omega)
  have Y1 := (Y0.on b1 (by omega)).on ((Below.refl w1.heap.size w1).alloc (Nat.le_refl _) (.cells #[.int .i64 c, .slice a1 n cap1] 33)) (by have := b1.size; omega)
  have Z1 := Box.new w1 c (.slice a1 n cap1) 33
  have hv1 := hv0.on (b1.alloc b1.size (.cells #[.int .i64 c, .slice a1 n cap1] 33)) (by omega)
  have b2 := b1.alloc b1.size (.cells #[.int .i64 c, .slice a1 n cap1] 33)
  have O2 := O1.on ((Below.refl w1.heap.size w1).alloc (Nat.le_refl _) (.cells #[.int .i64 c, .slice a1 n cap1] 33)) (Nat.le_refl _)
  obtain ⟨W1, hW1⟩ : ∃ W1, w1.alloc (.cells #[.int .i64 c, .slice a1 n cap1] 33) = W1 := ⟨_, rfl⟩
  rw [hW1] at X1 Y1 Z1 hv1 b2 O2
  have k0 := X1.c0; have k1 := X1.c1; have hs1 := Z1.lt
  have hle1 : W0.heap.size ≤ w1.heap.size := b1.size
  have own1 := O1.at
  clear O1 b1
  go_wp2_with fail
  clear hW1 k0 k1
  refine (implOk c _ ws B W1 hv1 (by omega)).mono ?_
  rintro e w2 ⟨rfl, b3⟩
  have X2 := X1.on b3 X1.lt; have Y2 := Y1.on b3 Y1.lt; have Z2 := Z1.on b3 Z1.lt
  have O3 := O2.on b3 (Nat.le_refl _)
  have b4 := b2.trans (b3.mono b2.size)
  have k0 := X2.c0; have k1 := X2.c1; have j0 := Y2.c0; have j1 := Y2.c1; have i0 := Z2.c0; have i1 := Z2.c1
  have f0 := fun j => frozen_of_row w2 (w.heap.size + 1) j _ _ Y2
  have f1 := fun j => frozen_of_row w2 w1.heap.size j _ _ Z2
  have hne : w.heap.size + 1 ≠ w1.heap.size := by omega
  have hne' : w1.heap.size ≠ w.heap.size + 1 := by omega
  rcases tick_cases c ws with ⟨hok, h1, h2⟩ | ⟨hok, hc, h1, h2⟩ | ⟨hok, hc0, hc, h1, h2⟩
  · have H1 : Hid _ := h1
    have H2 : Hid _ := h2
    rw [hok]
    clear h1 h2 hok
    go_wp2_with fail
    refine bodyPost_ret (v := .tuple #[.agg #[.int .i64 c, .slice a1 n cap1], .int .i64 0]) (by simp [results, Tryd.results72, go_sem, j0, j1]) rfl ⟨.slice a1 n cap1, by rw [H1.out, H2.out], ?_, ?_⟩
    · exact ((O3.setCell (by simp; omega) _).setCell (by simp; omega) _).mono hb0.size
    · exact ((hb0.trans (b4.mono hb0.size)).setCell (by simp) _).setCell (by simp) _
  · have H1 : Hid _ := h1
    have H2 : Hid _ := h2
    rw [hok]
    clear h1 h2 hok
    go_wp2_with fail
    refine bodyPost_ret (v := .tuple #[.agg #[.int .i64 1000000, .slice a1 n cap1], .int .i64 0]) (by simp [results, Tryd.results72, go_sem, j0, j1]) rfl ⟨.slice a1 n cap1, by rw [H1.out, H2.out, hc], ?_, ?_⟩
    · exact ((O3.setCell (by simp; omega) _).setCell (by simp; omega) _).mono hb0.size
    · exact ((hb0.trans (b4.mono hb0.size)).setCell (by simp) _).setCell (by simp) _
  · have H1 : Hid _ := h1
    have H2 : Hid _ := h2
    rw [hok]
    clear h1 h2 hok
    go_wp2_with fail
    go_region
    all_goals
      go_wp2
      refine bodyPost_ret (v := .tuple #[.agg #[.int .i64 (c + 1), .slice a1 n cap1], .int .i64 (c + 1)]) (by simp [results, Tryd.results72, go_sem, j0, j1]) rfl ⟨.slice a1 n cap1, by rw [H1.out, H2.out], ?_, ?_⟩
      · exact (((O3.other (p := ⟨w1.heap.size, 0, none⟩) (fun k hk => Nat.ne_of_lt (own1 k hk).2) _).setCell (by simp; omega) _).setCell (by simp; omega) _).mono hb0.size
      · exact ((((hb0.trans (b4.mono hb0.size)).setCell (by simp; omega) _).setCell (by simp) _).setCell (by simp) _).drew
end Words
end Go.Proofs.YtppikpdphcfomaaDoor
