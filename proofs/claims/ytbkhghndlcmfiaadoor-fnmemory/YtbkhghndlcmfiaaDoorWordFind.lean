/- findCell, LoadLock, LoadVal. -/
import Derived.Test.YtbkhghndlcmfiaaDoorWordImplOk
import Derived.Test.YtbkhghndlcmfiaaDoorWordKeep
import Derived.Test.YtbkhghndlcmfiaaDoorIsErr
namespace Go.Proofs.YtbkhghndlcmfiaaDoor
open Go.RowKit
namespace Words

/-- the sentinel lies in its variable -/
def Err (w : World) (b : Addr) : Prop := w.cell? ⟨0, 0, none⟩ = some (.iface 86 (.pointer (some b)))
theorem Err.lt {w : World} {b : Addr} (h : Err w b) : 0 < w.heap.size := World.block_lt_of_cell? _ _ h
theorem Err.on {w w' : World} {b : Addr} {B : Nat} (h : Err w b) (hb : Below B w w') (hB : w.heap.size ≤ B) : Err w' b :=
  (hb.cell (p := ⟨0, 0, none⟩) (by have := h.lt; show 0 < B; omega)).trans h

/-- a right memory has cell i -/
def canAt (c : Int) (ws : List W3) (i : Int) : Bool := memOk c ws && decide (0 ≤ i ∧ i < 8)
/-- the word of cell i -/
def wAt (ws : List W3) (i : Int) : W3 := ws.getD i.toNat nought
theorem canAt_out {c : Int} {ws : List W3} {i : Int} (h : canAt c ws i = true) : memOk c ws = true ∧ 0 ≤ i ∧ i < 8 := by
  unfold canAt at h; simpa using h
theorem canAt_no {c : Int} {ws : List W3} {i : Int} (h : ¬ canAt c ws i = true) : memOk c ws = false ∨ (memOk c ws = true ∧ i < 0) ∨ (memOk c ws = true ∧ 0 ≤ i ∧ 8 ≤ i) := by
  unfold canAt at h
  by_cases h1 : memOk c ws = true
  · simp [h1] at h
    rcases Int.lt_or_le i 0 with h2 | h2
    · exact .inr (.inl ⟨h1, h2⟩)
    · exact .inr (.inr ⟨h1, h2, h h2⟩)
  · left; simpa using h1
/-- what lies at cell i of a memory that is seen -/
theorem at_of {B : Nat} {w : World} {a : Option Addr} {n cap : Nat} {ws : List W3} (hv : Sees B w (.slice a n cap) ws) (k : Nat) (hk : k < ws.length) :
    ∃ b off, a = some ⟨b, off, none⟩ ∧ b < B ∧ At w b (off + k * 3) (wAt ws k) := by
  obtain ⟨a', cap', he, -, -, h3⟩ := hv
  obtain ⟨b, off, rfl, hb, hc⟩ := h3 (fun h => by simp [h] at hk)
  have e : a = some ⟨b, off, none⟩ := by simp at he; exact he.1
  have hx : wAt ws k = ws[k] := by simp [wAt, List.getD, hk]
  exact ⟨b, off, e, hb, by rw [hx]; exact hc k hk⟩

set_option maxRecDepth 100000 in
set_option maxHeartbeats 800000 in
theorem findYes (c : Int) (v : Value) (ws : List W3) (i : Int) (B : Nat) (w : World) (hv : Sees B w v ws) (hB : B ≤ w.heap.size) (h : canAt c ws i = true) :
    Calls Tryd.prog 22 #[.agg #[.int .i64 c, v], .int .i64 i] w fun e w' => e = .returned (.tuple #[(wAt ws i).agg, .nilIface]) ∧ Below w.heap.size w w' := by
  obtain ⟨hok, h0, h8⟩ := canAt_out h
  obtain ⟨k, rfl⟩ := Int.eq_ofNat_of_zero_le h0
  have hl := (memOk_out hok).1
  obtain ⟨a, cap, rfl⟩ := hv.form
  rw [hl] at hv ⊢
  have hb0 := ((Below.refl w.heap.size w).alloc (Nat.le_refl _) (.cells #[.int .i64 c, .slice a 8 cap] 26)).alloc (by simp) (.cells #[.int .i64 0, .int .i64 0, .int .i64 0] 50)
  have X0 : Box ((w.alloc (.cells #[.int .i64 c, .slice a 8 cap] 26)).alloc (.cells #[.int .i64 0, .int .i64 0, .int .i64 0] 50)) w.heap.size c (.slice a 8 cap) 26 := heap_alloc2_old _ _ _
  have Y0 := heap_alloc2_new w (.cells #[.int .i64 c, .slice a 8 cap] 26) (.cells #[.int .i64 0, .int .i64 0, .int .i64 0] 50)
  have hv0 := hv.on hb0 hB
  obtain ⟨W0, hW0⟩ : ∃ W0, (w.alloc (.cells #[.int .i64 c, .slice a 8 cap] 26)).alloc (.cells #[.int .i64 0, .int .i64 0, .int .i64 0] 50) = W0 := ⟨_, rfl⟩
  rw [hW0] at hb0 X0 hv0 Y0
  have k0 := X0.c0; have k1 := X0.c1
  have hs0 : w.heap.size + 1 < W0.heap.size := (Array.getElem?_eq_some_iff.1 Y0).1
  have cO := implOk c _ ws B W0 hv0 (by omega)
  rw [hok] at cO
  clear hok h
  go_enter Tryd.func22, Tryd.ntmps22
  go_wp2_with fail
  clear hW0 k0 k1
  refine cO.mono ?_
  rintro e w1 ⟨rfl, b1⟩
  clear cO
  have hv1 := hv0.on b1 (by omega)
  obtain ⟨b, off, rfl, hb, a0, a1, a2⟩ := at_of hv1 k (by omega)
  have X1 := X0.on b1 (by omega); have k0 := X1.c0; have k1 := X1.c1
  have Y1 := (b1.block _ hs0).trans Y0
  obtain ⟨x, hx⟩ : ∃ x, wAt ws (k : Int) = x := ⟨_, rfl⟩
  rw [hx] at a0 a1 a2
  have HX : Hid _ := hx
  clear hx
  go_wp2_with fail
  refine (cellOfC x _).mono ?_
  rintro e w2 ⟨rfl, b2⟩
  have Y2 := (b2.block _ (by have := b1.size; omega)).trans Y1
  have j0 := fun j => cell_of_row w2 (w.heap.size + 1) j _ _ _ Y2
  have jf := fun j => frozen_of_row w2 (w.heap.size + 1) j _ _ Y2
  clear k0 k1 a0 a1 a2
  go_wp2
  refine bodyPost_ret (v := .tuple #[x.agg, .nilIface]) (by simp [results, Tryd.results22, go_sem, j0]) rfl ⟨by rw [HX.out], ?_⟩
  exact (((hb0.trans (b1.mono hb0.size)).trans (b2.mono (by have := b1.size; omega))).setCell (by simp) _ |>.setCell (by simp) _).setCell (by simp) _

set_option maxRecDepth 100000 in
set_option maxHeartbeats 800000 in
theorem findNo (c : Int) (v : Value) (ws : List W3) (i : Int) (B : Nat) (w : World) (bE : Addr) (hv : Sees B w v ws) (hB : B ≤ w.heap.size) (hE : Err w bE) (h : ¬ canAt c ws i = true) :
    Calls Tryd.prog 22 #[.agg #[.int .i64 c, v], .int .i64 i] w fun e w' => e = .returned (.tuple #[nought.agg, .iface 86 (.pointer (some bE))]) ∧ Below w.heap.size w w' := by
  obtain ⟨a, cap, rfl⟩ := hv.form
  have hb0 := ((Below.refl w.heap.size w).alloc (Nat.le_refl _) (.cells #[.int .i64 c, .slice a ws.length cap] 26)).alloc (by simp) (.cells #[.int .i64 0, .int .i64 0, .int .i64 0] 50)
  have X0 : Box ((w.alloc (.cells #[.int .i64 c, .slice a ws.length cap] 26)).alloc (.cells #[.int .i64 0, .int .i64 0, .int .i64 0] 50)) w.heap.size c (.slice a ws.length cap) 26 := heap_alloc2_old _ _ _
  have Y0 := heap_alloc2_new w (.cells #[.int .i64 c, .slice a ws.length cap] 26) (.cells #[.int .i64 0, .int .i64 0, .int .i64 0] 50)
  have hv0 := hv.on hb0 hB
  have E0 := hE.on hb0 (Nat.le_refl _)
  obtain ⟨W0, hW0⟩ : ∃ W0, (w.alloc (.cells #[.int .i64 c, .slice a ws.length cap] 26)).alloc (.cells #[.int .i64 0, .int .i64 0, .int .i64 0] 50) = W0 := ⟨_, rfl⟩
  rw [hW0] at hb0 X0 hv0 Y0 E0
  have k0 := X0.c0; have k1 := X0.c1
  have hs0 : w.heap.size + 1 < W0.heap.size := (Array.getElem?_eq_some_iff.1 Y0).1
  have cO := implOk c _ ws B W0 hv0 (by omega)
  have hcase := canAt_no h
  clear h
  have tail : ∀ w1, Below W0.heap.size W0 w1 → Err w1 bE ∧ w1.heap[w.heap.size + 1]? = some (.cells #[.int .i64 0, .int .i64 0, .int .i64 0] 50 (0, 0)) ∧ Below w.heap.size w w1 := fun w1 b1 =>
    ⟨E0.on b1 (Nat.le_refl _), (b1.block _ hs0).trans Y0, hb0.trans (b1.mono hb0.size)⟩
  rcases hcase with hok | ⟨hok, h1⟩ | ⟨hok, h1, h2⟩
  all_goals
    rw [hok] at cO
    clear hok
    go_enter Tryd.func22, Tryd.ntmps22
    go_wp2_with fail
    refine cO.mono ?_
    rintro e w1 ⟨rfl, b1⟩
    obtain ⟨E1, Y1, bw1⟩ := tail w1 b1
    have e1 : w1.cell? ⟨0, 0, none⟩ = some (.iface 86 (.pointer (some bE))) := E1
    have j0 := fun j => cell_of_row w1 (w.heap.size + 1) j _ _ _ Y1
    have jf := fun j => frozen_of_row w1 (w.heap.size + 1) j _ _ Y1
    have hne : ¬ w.heap.size + 1 = 0 := by have := hE.lt; omega
    clear cO tail hW0 k0 k1
    go_wp2_with fail
    go_region
    all_goals
      go_wp2
      refine bodyPost_ret (v := .tuple #[nought.agg, .iface 86 (.pointer (some bE))]) (by simp [results, Tryd.results22, go_sem, j0, nought]) rfl ⟨rfl, ?_⟩
      exact (((bw1.setCell (by simp) _).setCell (by simp) _).setCell (by simp) _).drew

def valAt (c : Int) (ws : List W3) (i : Int) : Int := if canAt c ws i = true then (wAt ws i).val else 0
def verAt (c : Int) (ws : List W3) (i : Int) : Int := if canAt c ws i = true then (wAt ws i).ver else 0
def ownAt (c : Int) (ws : List W3) (i : Int) : Int := if canAt c ws i = true then (wAt ws i).own else 0

set_option maxRecDepth 100000 in
set_option maxHeartbeats 800000 in
theorem implLoadLock (c : Int) (v : Value) (ws : List W3) (i : Int) (B : Nat) (w : World) (bE : Addr) (hv : Sees B w v ws) (hB : B ≤ w.heap.size) (hE : Err w bE) :
    Calls Tryd.prog 13 #[.agg #[.int .i64 c, v], .int .i64 i] w fun e w' => e = .returned (.tuple #[.int .i64 (verAt c ws i), .int .i64 (ownAt c ws i), .bool (canAt c ws i)]) ∧ Below w.heap.size w w' := by
  obtain ⟨a, cap, rfl⟩ := hv.form
  have hb0 := (Below.refl w.heap.size w).alloc (Nat.le_refl _) (.cells #[.int .i64 c, .slice a ws.length cap] 26)
  have hv0 := hv.on hb0 hB
  have E0 := hE.on hb0 (Nat.le_refl _)
  by_cases h : canAt c ws i = true
  · have e1 : verAt c ws i = (wAt ws i).ver := by unfold verAt; rw [if_pos h]
    have e2 : ownAt c ws i = (wAt ws i).own := by unfold ownAt; rw [if_pos h]
    have cF := findYes c _ ws i B _ hv0 (by simp; omega) h
    rw [e1, e2, h]
    obtain ⟨x, hx⟩ : ∃ x, wAt ws i = x := ⟨_, rfl⟩
    rw [hx] at cF ⊢
    clear h e1 e2 hx
    go_enter Tryd.func13, Tryd.ntmps13
    go_wp2_with fail
    refine cF.mono ?_
    rintro e w1 ⟨rfl, b1⟩
    have E1 := (E0.on b1 (Nat.le_refl _)).on ((Below.refl w1.heap.size w1).alloc (Nat.le_refl _) (.cells #[.int .i64 x.val, .int .i64 x.ver, .int .i64 x.own] 50)) (Nat.le_refl _)
    have e0 : (w1.alloc (.cells #[.int .i64 x.val, .int .i64 x.ver, .int .i64 x.own] 50)).cell? ⟨0, 0, none⟩ = some (.iface 86 (.pointer (some bE))) := E1
    have hbw := hb0.trans (b1.mono hb0.size)
    clear cF
    go_wp2_with (go_at_call 23; refine (is_nil bE _).mono ?_; rintro e w2 ⟨rfl, rfl⟩)
    go_region
    all_goals
      go_wp2
      go_ret3
      exact ⟨rfl, by first | exact (hbw.alloc hbw.size _).drew | exact hbw.alloc hbw.size _⟩
  · have h' : canAt c ws i = false := by simpa using h
    have e1 : verAt c ws i = 0 := by unfold verAt; rw [if_neg h]
    have e2 : ownAt c ws i = 0 := by unfold ownAt; rw [if_neg h]
    have cF := findNo c _ ws i B _ bE hv0 (by simp; omega) E0 h
    rw [e1, e2, h']
    clear h h' e1 e2
    go_enter Tryd.func13, Tryd.ntmps13
    go_wp2_with fail
    refine cF.mono ?_
    rintro e w1 ⟨rfl, b1⟩
    have E1 := (E0.on b1 (Nat.le_refl _)).on ((Below.refl w1.heap.size w1).alloc (Nat.le_refl _) (.cells #[.int .i64 0, .int .i64 0, .int .i64 0] 50)) (Nat.le_refl _)
    have e0 : (w1.alloc (.cells #[.int .i64 0, .int .i64 0, .int .i64 0] 50)).cell? ⟨0, 0, none⟩ = some (.iface 86 (.pointer (some bE))) := E1
    have hbw := hb0.trans (b1.mono hb0.size)
    clear cF
    unfold nought
    go_wp2_with (go_at_call 23; refine (is_same bE _).mono ?_; rintro e w2 ⟨rfl, rfl⟩)
    go_ret3
    exact ⟨rfl, hbw.alloc hbw.size _⟩

set_option maxRecDepth 100000 in
set_option maxHeartbeats 800000 in
theorem implLoadVal (c : Int) (v : Value) (ws : List W3) (i : Int) (B : Nat) (w : World) (bE : Addr) (hv : Sees B w v ws) (hB : B ≤ w.heap.size) (hE : Err w bE) :
    Calls Tryd.prog 12 #[.agg #[.int .i64 c, v], .int .i64 i] w fun e w' => e = .returned (.tuple #[.int .i64 (valAt c ws i), .bool (canAt c ws i)]) ∧ Below w.heap.size w w' := by
  obtain ⟨a, cap, rfl⟩ := hv.form
  have hb0 := (Below.refl w.heap.size w).alloc (Nat.le_refl _) (.cells #[.int .i64 c, .slice a ws.length cap] 26)
  have hv0 := hv.on hb0 hB
  have E0 := hE.on hb0 (Nat.le_refl _)
  by_cases h : canAt c ws i = true
  · have e1 : valAt c ws i = (wAt ws i).val := by unfold valAt; rw [if_pos h]
    have cF := findYes c _ ws i B _ hv0 (by simp; omega) h
    rw [e1, h]
    obtain ⟨x, hx⟩ : ∃ x, wAt ws i = x := ⟨_, rfl⟩
    rw [hx] at cF ⊢
    clear h e1 hx
    go_enter Tryd.func12, Tryd.ntmps12
    go_wp2_with fail
    refine cF.mono ?_
    rintro e w1 ⟨rfl, b1⟩
    have E1 := (E0.on b1 (Nat.le_refl _)).on ((Below.refl w1.heap.size w1).alloc (Nat.le_refl _) (.cells #[.int .i64 x.val, .int .i64 x.ver, .int .i64 x.own] 50)) (Nat.le_refl _)
    have e0 : (w1.alloc (.cells #[.int .i64 x.val, .int .i64 x.ver, .int .i64 x.own] 50)).cell? ⟨0, 0, none⟩ = some (.iface 86 (.pointer (some bE))) := E1
    have hbw := hb0.trans (b1.mono hb0.size)
    clear cF
    go_wp2_with (go_at_call 23; refine (is_nil bE _).mono ?_; rintro e w2 ⟨rfl, rfl⟩)
    go_ret2
    exact ⟨rfl, hbw.alloc hbw.size _⟩
  · have h' : canAt c ws i = false := by simpa using h
    have e1 : valAt c ws i = 0 := by unfold valAt; rw [if_neg h]
    have cF := findNo c _ ws i B _ bE hv0 (by simp; omega) E0 h
    rw [e1, h']
    clear h h' e1
    go_enter Tryd.func12, Tryd.ntmps12
    go_wp2_with fail
    refine cF.mono ?_
    rintro e w1 ⟨rfl, b1⟩
    have E1 := (E0.on b1 (Nat.le_refl _)).on ((Below.refl w1.heap.size w1).alloc (Nat.le_refl _) (.cells #[.int .i64 0, .int .i64 0, .int .i64 0] 50)) (Nat.le_refl _)
    have e0 : (w1.alloc (.cells #[.int .i64 0, .int .i64 0, .int .i64 0] 50)).cell? ⟨0, 0, none⟩ = some (.iface 86 (.pointer (some bE))) := E1
    have hbw := hb0.trans (b1.mono hb0.size)
    clear cF
    unfold nought
    go_wp2_with (go_at_call 23; refine (is_same bE _).mono ?_; rintro e w2 ⟨rfl, rfl⟩)
    go_ret2
    exact ⟨rfl, hbw.alloc hbw.size _⟩
end Words
end Go.Proofs.YtbkhghndlcmfiaaDoor
