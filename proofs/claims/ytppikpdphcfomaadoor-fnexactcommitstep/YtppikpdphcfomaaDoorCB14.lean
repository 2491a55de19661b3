/- Several texts of one proof, in build order: WordMay. -/
import Derived.Test.YtppikpdphcfomaaDoorCB13
/- What Lock, Store and Unlock ask; a memory with one cell put anew; the cell that is one's own. -/
namespace Go.Proofs.YtppikpdphcfomaaDoor
open Go.RowKit
namespace Words

def isWho (who : Int) : Bool := decide (1 ≤ who ∧ who ≤ 99)
def mine (c : Int) (ws : List W3) (i who : Int) : Bool := canAt c ws i && (isWho who && decide ((wAt ws i).own = who))
def put (ws : List W3) (i : Int) (x : W3) : List W3 := ws.set i.toNat x
theorem put_length (ws : List W3) (i : Int) (x : W3) : (put ws i x).length = ws.length := by simp [put]
theorem mine_out {c : Int} {ws : List W3} {i who : Int} (h : mine c ws i who = true) : canAt c ws i = true ∧ 1 ≤ who ∧ who ≤ 99 ∧ (wAt ws i).own = who := by
  unfold mine isWho at h
  simp at h
  exact ⟨h.1, h.2.1.1, h.2.1.2, h.2.2⟩
theorem mine_no {c : Int} {ws : List W3} {i who : Int} (h : ¬ mine c ws i who = true) (hc : canAt c ws i = true) : who < 1 ∨ (1 ≤ who ∧ 99 < who) ∨ (1 ≤ who ∧ who ≤ 99 ∧ ((wAt ws i).own != who) = true) := by
  unfold mine isWho at h
  simp [hc] at h
  by_cases h1 : 1 ≤ who
  · by_cases h2 : who ≤ 99
    · exact .inr (.inr ⟨h1, h2, by simpa using h h1 h2⟩)
    · exact .inr (.inl ⟨h1, by omega⟩)
  · exact .inl (by omega)
theorem wAt_wf {c : Int} {ws : List W3} {i : Int} (h : canAt c ws i = true) : wOk c (wAt ws i) = true := by
  obtain ⟨hok, h0, h8⟩ := canAt_out h
  obtain ⟨hl, -, -, ha⟩ := memOk_out hok
  have hi : i.toNat < ws.length := by omega
  have hx : wAt ws i = ws[i.toNat] := by simp [wAt, List.getD, hi]
  rw [hx]; exact ha _ hi

theorem Owns.form8 {B : Nat} {w : World} {v : Value} {ws : List W3} (h : Owns B w v ws) (hl : ws.length = 8) : ∃ g cap, v = .slice (some ⟨g, 0, none⟩) 8 cap := by
  obtain ⟨h1, h2⟩ := h
  rcases h2 with ⟨rfl, h0⟩ | ⟨g, cap, cur, rfl, _⟩
  · omega
  · exact ⟨g, cap, by rw [hl]⟩

set_option maxRecDepth 100000 in
set_option maxHeartbeats 800000 in
theorem withCellC (c : Int) (v : Value) (ws : List W3) (k : Nat) (x : W3) (B : Nat) (w : World) (hv : Sees B w v ws) (hB : B ≤ w.heap.size) (hl : ws.length = 8) (hk : k < 8) :
    Calls Tryd.prog 81 #[.agg #[.int .i64 c, v], .int .i64 (k : Int), x.agg] w fun e w' => ∃ v', e = .returned (.agg #[.int .i64 c, v']) ∧ Owns w.heap.size w' v' (put ws k x) ∧ Below w.heap.size w w' := by
  obtain ⟨a, cap, rfl⟩ := hv.form
  rw [hl] at hv ⊢
  have hb0 := (((Below.refl w.heap.size w).alloc (Nat.le_refl _) (.cells #[.int .i64 c, .slice a 8 cap] 33)).alloc (by simp) (.cells #[.int .i64 x.val, .int .i64 x.ver, .int .i64 x.own] 85)).alloc (by simp; omega) (.cells #[.int .i64 0, .slice none 0 0] 33)
  have X0 : Box (((w.alloc (.cells #[.int .i64 c, .slice a 8 cap] 33)).alloc (.cells #[.int .i64 x.val, .int .i64 x.ver, .int .i64 x.own] 85)).alloc (.cells #[.int .i64 0, .slice none 0 0] 33)) w.heap.size c (.slice a 8 cap) 33 := by
    unfold Box; rw [Below.heap_alloc _ _ _ (by simp; omega)]; exact heap_alloc2_old _ _ _
  have C0 : (((w.alloc (.cells #[.int .i64 c, .slice a 8 cap] 33)).alloc (.cells #[.int .i64 x.val, .int .i64 x.ver, .int .i64 x.own] 85)).alloc (.cells #[.int .i64 0, .slice none 0 0] 33)).heap[w.heap.size + 1]? = some (.cells #[.int .i64 x.val, .int .i64 x.ver, .int .i64 x.own] 85 (0, 0)) := by
    rw [Below.heap_alloc _ _ _ (by simp)]; exact heap_alloc2_new _ _ _
  have Y0 : Box (((w.alloc (.cells #[.int .i64 c, .slice a 8 cap] 33)).alloc (.cells #[.int .i64 x.val, .int .i64 x.ver, .int .i64 x.own] 85)).alloc (.cells #[.int .i64 0, .slice none 0 0] 33)) (w.heap.size + 2) 0 (.slice none 0 0) 33 := heap_alloc3_new _ _ _ _
  have hv0 := hv.on hb0 hB
  obtain ⟨W0, hW0⟩ : ∃ W0, ((w.alloc (.cells #[.int .i64 c, .slice a 8 cap] 33)).alloc (.cells #[.int .i64 x.val, .int .i64 x.ver, .int .i64 x.own] 85)).alloc (.cells #[.int .i64 0, .slice none 0 0] 33) = W0 := ⟨_, rfl⟩
  rw [hW0] at hb0 X0 Y0 C0 hv0
  have k0 := X0.c0; have k1 := X0.c1; have hs0 := Y0.lt
  go_enter Tryd.func81, Tryd.ntmps81
  go_wp2_with fail
  clear hW0 k0 k1
  refine (implCopy c _ ws B W0 hv0 (by omega) (by omega)).mono ?_
  rintro e w1 ⟨v1, rfl, O1, b1⟩
  obtain ⟨g, cap1, rfl⟩ := O1.form8 hl
  have X1 := X0.on b1 (by omega); have Y1 := Y0.on b1 hs0; have C1 := (b1.block _ (by omega)).trans C0
  have k0 := X1.c0; have k1 := X1.c1; have j0 := Y1.c0; have j1 := Y1.c1
  have i0 := fun j => cell_of_row w1 (w.heap.size + 1) j _ _ _ C1
  have f0 := fun j => frozen_of_row w1 w.heap.size j _ _ X1
  have f2 := fun j => frozen_of_row w1 (w.heap.size + 2) j _ _ Y1
  obtain ⟨hgl, hgs⟩ := O1.at g rfl
  have hg0 : g ≠ w.heap.size := by omega
  have hg1 : g ≠ w.heap.size + 1 := by omega
  have hg2 : g ≠ w.heap.size + 2 := by omega
  have hg0' : w.heap.size ≠ g := by omega
  have hg1' : w.heap.size + 1 ≠ g := by omega
  have hg2' : w.heap.size + 2 ≠ g := by omega
  have R1 : w1.ownsRow W0.heap.size 61 3 (.slice (some ⟨g, 0, none⟩) 8 cap1) 8 (wv ws) := by have := O1; unfold Owns at this; rw [hl] at this; exact this
  have fg := fun j => R1.frozenAt j
  obtain ⟨c0, c1, c2⟩ := owns_at R1 k (by omega)
  go_wp2
  have R2 : ((w1.setCell ⟨w.heap.size, 0, none⟩ (.int .i64 c)).setCell ⟨w.heap.size, 1, none⟩ (.slice (some ⟨g, 0, none⟩) 8 cap1)).ownsRow W0.heap.size 61 3 (.slice (some ⟨g, 0, none⟩) 8 cap1) 8 (wv ws) := ownsRow_setCell_below (ownsRow_setCell_below R1 (by simp; omega) _) (by simp; omega) _
  have R3 := owns_set3 R2 k x
  have R4 := ownsRow_setCell_below (ownsRow_setCell_below R3 (a := ⟨w.heap.size + 1 + 1, 0, none⟩) (by simp; omega) (.int .i64 c)) (a := ⟨w.heap.size + 1 + 1, 1, none⟩) (by simp; omega) (.slice (some ⟨g, 0, none⟩) 8 cap1)
  unfold set3 at R4
  refine bodyPost_ret (v := .agg #[.int .i64 c, .slice (some ⟨g, 0, none⟩) 8 cap1]) (by simp [results, Tryd.results81, go_sem, j0, j1]) rfl ⟨_, rfl, ?_, ?_⟩
  · refine Owns.mono (B := W0.heap.size) ?_ hb0.size
    unfold Owns; rw [put_length, hl]; exact R4
  · exact (((((((hb0.trans (b1.mono hb0.size)).setCell (by simp) _).setCell (by simp) _).setCell (by simp; omega) _).setCell (by simp; omega) _).setCell (by simp; omega) _).setCell (by simp; omega) _).setCell (by simp; omega) _

set_option maxRecDepth 100000 in
set_option maxHeartbeats 800000 in
theorem ownYes (c : Int) (v : Value) (ws : List W3) (i who : Int) (B : Nat) (w : World) (hv : Sees B w v ws) (hB : B ≤ w.heap.size) (h : mine c ws i who = true) :
    Calls Tryd.prog 83 #[.agg #[.int .i64 c, v], .int .i64 i, .int .i64 who] w fun e w' => e = .returned (.tuple #[(wAt ws i).agg, .nilIface]) ∧ Below w.heap.size w w' := by
  obtain ⟨hc, h1, h2, ho⟩ := mine_out h
  obtain ⟨a, cap, rfl⟩ := hv.form
  have hb0 := ((Below.refl w.heap.size w).alloc (Nat.le_refl _) (.cells #[.int .i64 c, .slice a ws.length cap] 33)).alloc (by simp) (.cells #[.int .i64 0, .int .i64 0, .int .i64 0] 85)
  have hv0 := hv.on hb0 hB
  have Y0 := heap_alloc2_new w (.cells #[.int .i64 c, .slice a ws.length cap] 33) (.cells #[.int .i64 0, .int .i64 0, .int .i64 0] 85)
  have cF := findYes c _ ws i B _ hv0 (by simp; omega) hc
  obtain ⟨x, hx⟩ : ∃ x, wAt ws i = x := ⟨_, rfl⟩
  rw [hx] at cF ho ⊢
  obtain rfl : who = x.own := ho.symm
  clear h hc hx ho
  go_enter Tryd.func83, Tryd.ntmps83
  go_wp2_with fail
  refine cF.mono ?_
  rintro e w1 ⟨rfl, b1⟩
  have Y1 := (b1.block _ (by simp)).trans Y0
  have j0 := fun j => cell_of_row w1 (w.heap.size + 1) j _ _ _ Y1
  have jf := fun j => frozen_of_row w1 (w.heap.size + 1) j _ _ Y1
  have hs1 : w.heap.size + 1 < w1.heap.size := by have := b1.size; simp at this; omega
  have hbw := hb0.trans (b1.mono hb0.size)
  clear cF
  go_wp2
  refine bodyPost_ret (v := .tuple #[x.agg, .nilIface]) (by simp [results, Tryd.results83, go_sem, j0, hs1]) rfl ⟨rfl, ?_⟩
  exact (((hbw.setCell (by simp) _).setCell (by simp) _).setCell (by simp) _).alloc (by simp; have := hbw.size; omega) _

set_option maxRecDepth 100000 in
set_option maxHeartbeats 800000 in
theorem ownNo (c : Int) (v : Value) (ws : List W3) (i who : Int) (B : Nat) (w : World) (bE : Addr) (hv : Sees B w v ws) (hB : B ≤ w.heap.size) (hE : Err w bE) (h : ¬ mine c ws i who = true) :
    Calls Tryd.prog 83 #[.agg #[.int .i64 c, v], .int .i64 i, .int .i64 who] w fun e w' => e = .returned (.tuple #[nought.agg, .iface 116 (.pointer (some bE))]) ∧ Below w.heap.size w w' := by
  obtain ⟨a, cap, rfl⟩ := hv.form
  have hb0 := ((Below.refl w.heap.size w).alloc (Nat.le_refl _) (.cells #[.int .i64 c, .slice a ws.length cap] 33)).alloc (by simp) (.cells #[.int .i64 0, .int .i64 0, .int .i64 0] 85)
  have hv0 := hv.on hb0 hB
  have E0 := hE.on hb0 (Nat.le_refl _)
  have Y0 := heap_alloc2_new w (.cells #[.int .i64 c, .slice a ws.length cap] 33) (.cells #[.int .i64 0, .int .i64 0, .int .i64 0] 85)
  by_cases hc : canAt c ws i = true
  · have cF := findYes c _ ws i B _ hv0 (by simp; omega) hc
    have hcase := mine_no h hc
    obtain ⟨x, hx⟩ : ∃ x, wAt ws i = x := ⟨_, rfl⟩
    rw [hx] at cF hcase
    clear h hc hx
    rcases hcase with h1 | ⟨h1, h2⟩ | ⟨h1, h2, h3⟩
    all_goals
      go_enter Tryd.func83, Tryd.ntmps83
      go_wp2_with fail
      refine cF.mono ?_
      rintro e w1 ⟨rfl, b1⟩
      have Y1 := (b1.block _ (by simp)).trans Y0
      have j0 := fun j => cell_of_row w1 (w.heap.size + 1) j _ _ _ Y1
      have jf := fun j => frozen_of_row w1 (w.heap.size + 1) j _ _ Y1
      have hs1 : w.heap.size + 1 < w1.heap.size := by have := b1.size; simp at this; omega
      have hbw := hb0.trans (b1.mono hb0.size)
      have e1 : w1.cell? ⟨0, 0, none⟩ = some (.iface 116 (.pointer (some bE))) := E0.on b1 (Nat.le_refl _)
      have hs2 : 0 < w1.heap.size := World.block_lt_of_cell? _ _ e1
      have hne : ¬ w.heap.size + 1 = 0 := by have := hE.lt; omega
      clear cF
      go_wp2
      go_region
      all_goals
        go_wp2
        refine bodyPost_ret (v := .tuple #[nought.agg, .iface 116 (.pointer (some bE))]) (by simp [results, Tryd.results83, go_sem, j0, nought, hs1]) rfl ⟨rfl, ?_⟩
        exact ((((hbw.setCell (by simp) _).setCell (by simp) _).setCell (by simp) _).alloc (by simp; have := hbw.size; omega) _).drew
  · have cF := findNo c _ ws i B _ bE hv0 (by simp; omega) E0 hc
    clear h hc
    go_enter Tryd.func83, Tryd.ntmps83
    go_wp2_with fail
    refine cF.mono ?_
    rintro e w1 ⟨rfl, b1⟩
    have Y1 := (b1.block _ (by simp)).trans Y0
    have j0 := fun j => cell_of_row w1 (w.heap.size + 1) j _ _ _ Y1
    have jf := fun j => frozen_of_row w1 (w.heap.size + 1) j _ _ Y1
    have hs1 : w.heap.size + 1 < w1.heap.size := by have := b1.size; simp at this; omega
    have hbw := hb0.trans (b1.mono hb0.size)
    clear cF
    unfold nought
    go_wp2
    refine bodyPost_ret (v := .tuple #[nought.agg, .iface 116 (.pointer (some bE))]) (by simp [results, Tryd.results83, go_sem, j0, nought, hs1]) rfl ⟨rfl, ?_⟩
    exact (((hbw.setCell (by simp) _).setCell (by simp) _).setCell (by simp) _).alloc (by simp; have := hbw.size; omega) _
end Words
end Go.Proofs.YtppikpdphcfomaaDoor
