/- Several texts of one proof, in build order: WordFind, WordCopy. -/
import Derived.Deep.RegionHeld3
import Derived.Test.YtppikpdphcfomaaDoorCB11
import Derived.Test.YtppikpdphcfomaaDoorCB12
/- findCell, LoadLock, LoadVal. -/
namespace Go.Proofs.YtppikpdphcfomaaDoor
open Go.RowKit
namespace Words

/-- the sentinel lies in its variable -/
def Err (w : World) (b : Addr) : Prop := w.cell? ⟨0, 0, none⟩ = some (.iface 116 (.pointer (some b)))
theorem Err.lt {w : World} {b : Addr} (h : Err w b) : 0 < w.heap.size := World.block_lt_of_cell? _ _ h
theorem Err.on {w w' : World} {b : Addr} {B : Nat} (h : Err w b) (hb : Below B w w') (hB : w.heap.size ≤ B) : Err w' b :=
  (hb.cell (p := ⟨0, 0, none⟩) (by have := h.lt; show 0 < B; omega)).trans h

/-- a right memory has cell i -/
def canAt (c : Int) (ws : List W3) (i : Int) : Bool := memOk c ws && decide (0 ≤ i ∧ i < 8)
/-- the word of cell i -/
def wAt (ws : List W3) (i : Int) : W3 := ws.getD i.toNat nought
theorem canAt_out {c : Int} {ws : List W3} {i : Int} (h : canAt c ws i = true) : memOk c ws = true ∧ 0 ≤ i ∧ i < 8 := by
  unfold canAt at h; simpa using h
theorem canAt_no {c : Int} {ws : List W3} {i : Int} (h : ¬ canAt c ws i = true) : memOk c ws = false ∨ (memOk c ws = true ∧ i < 0) ∨ (memOk c ws = true ∧ 0 ≤ i ∧ 8 ≤ i) := by
  unfold canAt at h
  by_cases h1 : memOk c ws = true
  · simp [h1] at h
    rcases Int.lt_or_le i 0 with h2 | h2
    · exact .inr (.inl ⟨h1, h2⟩)
    · exact .inr (.inr ⟨h1, h2, h h2⟩)
  · left; simpa using h1
/-- what lies at cell i of a memory that is seen -/
theorem at_of {B : Nat} {w : World} {a : Option Addr} {n cap : Nat} {ws : List W3} (hv : Sees B w (.slice a n cap) ws) (k : Nat) (hk : k < ws.length) :
    ∃ b off, a = some ⟨b, off, none⟩ ∧ b < B ∧ At w b (off + k * 3) (wAt ws k) := by
  obtain ⟨a', cap', he, -, -, h3⟩ := hv
  obtain ⟨b, off, rfl, hb, hc⟩ := h3 (fun h => by simp [h] at hk)
  have e : a = some ⟨b, off, none⟩ := by simp at he; exact he.1
  have hx : wAt ws k = ws[k] := by simp [wAt, List.getD, hk]
  exact ⟨b, off, e, hb, by rw [hx]; exact hc k hk⟩

set_option maxRecDepth 100000 in
set_option maxHeartbeats 800000 in
theorem findYes (c : Int) (v : Value) (ws : List W3) (i : Int) (B : Nat) (w : World) (hv : Sees B w v ws) (hB : B ≤ w.heap.size) (h : canAt c ws i = true) :
    Calls Tryd.prog 79 #[.agg #[.int .i64 c, v], .int .i64 i] w fun e w' => e = .returned (.tuple #[(wAt ws i).agg, .nilIface]) ∧ Below w.heap.size w w' := by
  obtain ⟨hok, h0, h8⟩ := canAt_out h
  obtain ⟨k, rfl⟩ := Int.eq_ofNat_of_zero_le h0
  have hl := (memOk_out hok).1
  obtain ⟨a, cap, rfl⟩ := hv.form
  rw [hl] at hv ⊢
  have hb0 := ((Below.refl w.heap.size w).alloc (Nat.le_refl _) (.cells #[.int .i64 c, .slice a 8 cap] 33)).alloc (by simp) (.cells #[.int .i64 0, .int .i64 0, .int .i64 0] 85)
  have X0 : Box ((w.alloc (.cells #[.int .i64 c, .slice a 8 cap] 33)).alloc (.cells #[.int .i64 0, .int .i64 0, .int .i64 0] 85)) w.heap.size c (.slice a 8 cap) 33 := heap_alloc2_old _ _ _
  have Y0 := heap_alloc2_new w (.cells #[.int .i64 c, .slice a 8 cap] 33) (.cells #[.int .i64 0, .int .i64 0, .int .i64 0] 85)
  have hv0 := hv.on hb0 hB
  obtain ⟨W0, hW0⟩ : ∃ W0, (w.alloc (.cells #[.int .i64 c, .slice a 8 cap] 33)).alloc (.cells #[.int .i64 0, .int .i64 0, .int .i64 0] 85) = W0 := ⟨_, rfl⟩
  rw [hW0] at hb0 X0 hv0 Y0
  have k0 := X0.c0; have k1 := X0.c1
  have hs0 : w.heap.size + 1 < W0.heap.size := (Array.getElem?_eq_some_iff.1 Y0).1
  have cO := implOk c _ ws B W0 hv0 (by omega)
  rw [hok] at cO
  clear hok h
  go_enter Tryd.func79, Tryd.ntmps79
  go_wp2_with fail
  clear hW0 k0 k1
  refine cO.mono ?_
  rintro e w1 ⟨rfl, b1⟩
  clear cO
  have hv1 := hv0.on b1 (by omega)
  obtain ⟨b, off, rfl, hb, a0, a1, a2⟩ := at_of hv1 k (by omega)
  have X1 := X0.on b1 (by omega); have k0 := X1.c0; have k1 := X1.c1
  have Y1 := (b1.block _ hs0).trans Y0
  obtain ⟨x, hx⟩ : ∃ x, wAt ws (k : Int) = x := ⟨_, rfl⟩
  rw [hx] at a0 a1 a2
  have HX : Hid _ := hx
  clear hx
  go_wp2_with fail
  refine (cellOfC x _).mono ?_
  rintro e w2 ⟨rfl, b2⟩
  have Y2 := (b2.block _ (by have := b1.size; omega)).trans Y1
  have j0 := fun j => cell_of_row w2 (w.heap.size + 1) j _ _ _ Y2
  have jf := fun j => frozen_of_row w2 (w.heap.size + 1) j _ _ Y2
  clear k0 k1 a0 a1 a2
  go_wp2
  refine bodyPost_ret (v := .tuple #[x.agg, .nilIface]) (by simp [results, Tryd.results79, go_sem, j0]) rfl ⟨by rw [HX.out], ?_⟩
  exact (((hb0.trans (b1.mono hb0.size)).trans (b2.mono (by have := b1.size; omega))).setCell (by simp) _ |>.setCell (by simp) _).setCell (by simp) _

set_option maxRecDepth 100000 in
set_option maxHeartbeats 800000 in
theorem findNo (c : Int) (v : Value) (ws : List W3) (i : Int) (B : Nat) (w : World) (bE : Addr) (hv : Sees B w v ws) (hB : B ≤ w.heap.size) (hE : Err w bE) (h : ¬ canAt c ws i = true) :
    Calls Tryd.prog 79 #[.agg #[.int .i64 c, v], .int .i64 i] w fun e w' => e = .returned (.tuple #[nought.agg, .iface 116 (.pointer (some bE))]) ∧ Below w.heap.size w w' := by
  obtain ⟨a, cap, rfl⟩ := hv.form
  have hb0 := ((Below.refl w.heap.size w).alloc (Nat.le_refl _) (.cells #[.int .i64 c, .slice a ws.length cap] 33)).alloc (by simp) (.cells #[.int .i64 0, .int .i64 0, .int .i64 0] 85)
  have X0 : Box ((w.alloc (.cells #[.int .i64 c, .slice a ws.length cap] 33)).alloc (.cells #[.int .i64 0, .int .i64 0, .int .i64 0] 85)) w.heap.size c (.slice a ws.length cap) 33 := heap_alloc2_old _ _ _
  have Y0 := heap_alloc2_new w (.cells #[.int .i64 c, .slice a ws.length cap] 33) (.cells #[.int .i64 0, .int .i64 0, .int .i64 0] 85)
  have hv0 := hv.on hb0 hB
  have E0 := hE.on hb0 (Nat.le_refl _)
  obtain ⟨W0, hW0⟩ : ∃ W0, (w.alloc (.cells #[.int .i64 c, .slice a ws.length cap] 33)).alloc (.cells #[.int .i64 0, .int .i64 0, .int .i64 0] 85) = W0 := ⟨_, rfl⟩
  rw [hW0] at hb0 X0 hv0 Y0 E0
  have k0 := X0.c0; have k1 := X0.c1
  have hs0 : w.heap.size + 1 < W0.heap.size := (Array.getElem?_eq_some_iff.1 Y0).1
  have cO := implOk c _ ws B W0 hv0 (by omega)
  have hcase := canAt_no h
  clear h
  have tail : ∀ w1, Below W0.heap.size W0 w1 → Err w1 bE ∧ w1.heap[w.heap.size + 1]? = some (.cells #[.int .i64 0, .int .i64 0, .int .i64 0] 85 (0, 0)) ∧ Below w.heap.size w w1 := fun w1 b1 =>
    ⟨E0.on b1 (Nat.le_refl _), (b1.block _ hs0).trans Y0, hb0.trans (b1.mono hb0.size)⟩
  rcases hcase with hok | ⟨hok, h1⟩ | ⟨hok, h1, h2⟩
  all_goals
    rw [hok] at cO
    clear hok
    go_enter Tryd.func79, Tryd.ntmps79
    go_wp2_with fail
    refine cO.mono ?_
    rintro e w1 ⟨rfl, b1⟩
    obtain ⟨E1, Y1, bw1⟩ := tail w1 b1
    have e1 : w1.cell? ⟨0, 0, none⟩ = some (.iface 116 (.pointer (some bE))) := E1
    have j0 := fun j => cell_of_row w1 (w.heap.size + 1) j _ _ _ Y1
    have jf := fun j => frozen_of_row w1 (w.heap.size + 1) j _ _ Y1
    have hne : ¬ w.heap.size + 1 = 0 := by have := hE.lt; omega
    clear cO tail hW0 k0 k1
    go_wp2_with fail
    go_region
    all_goals
      go_wp2
      refine bodyPost_ret (v := .tuple #[nought.agg, .iface 116 (.pointer (some bE))]) (by simp [results, Tryd.results79, go_sem, j0, nought]) rfl ⟨rfl, ?_⟩
      exact (((bw1.setCell (by simp) _).setCell (by simp) _).setCell (by simp) _).drew

def valAt (c : Int) (ws : List W3) (i : Int) : Int := if canAt c ws i = true then (wAt ws i).val else 0
def verAt (c : Int) (ws : List W3) (i : Int) : Int := if canAt c ws i = true then (wAt ws i).ver else 0
def ownAt (c : Int) (ws : List W3) (i : Int) : Int := if canAt c ws i = true then (wAt ws i).own else 0

end Words
end Go.Proofs.YtppikpdphcfomaaDoor
/- Both copies of a memory: its words in new memory. -/
namespace Go.Proofs.YtppikpdphcfomaaDoor
open Go.RowKit
namespace Words

/-- words put behind what the call owns, as one step of a region that draws its order -/
theorem step_appW {ops : Array Oper} {o : Oper} {a : Act} {K : Act → World → Prop} {Q : Exit → Act → World → Prop} {E : Prop} (w w0 : World) (hgd : o.guard = none) (s x : Operand)
    (ho : o.op = .call { callee := .builtin .append, args := #[s, x], argTypes := #[31, 31] }) (B n m c : Nat) (A C : List W3) (v : Value) (ad : Addr)
    (hs : a.eval s = v) (hx : a.eval x = .slice (some ad) m c) (hown : w.ownsRow B 61 3 v n (wv A)) (hl : C.length = m)
    (hnews : ∀ j u, (wv C)[j]? = some u → w.cell? (ad.add j) = some u) (hm : 0 < m) (hbig : n + m ≤ 4194304) (hB : Below B w0 w) (hbase : B ≤ w.heap.size)
    (h : ∀ g cap w', Hid (w'.ownsRow B 61 3 (.slice (some ⟨g, 0, none⟩) (n + m) cap) (n + m) (wv (A ++ C))) → Hid (Below B w0 w') → K (a.put o.dst (.slice (some ⟨g, 0, none⟩) (n + m) cap)) w') :
    if Region.wanted o (yielded ops a.tmps) = true then Oper.wp Tryd.prog o a w K Q else E := by
  obtain ⟨i0, hi, hz0, hz1, hz2⟩ := info_parts Tryd.infoWord
  refine step_append_lies w hgd s x 31 ho B 61 i0 _ 3 24 Tryd.underlying31 hi hz0 hz1 hz2 rfl (by decide) v n (wv A) hs hown ad m c (wv C) hx (by rw [wv_length, hl])
    hnews (wv_one C) hm (by unfold maxLen; omega) (by omega) hbase w.heap.size rfl ?_
  intro g cap w' hown' hgr _ _
  refine h g cap w' ?_ (hB.grown hgr hbase (fun g hg => (hown.lt g hg).1))
  show World.ownsRow _ _ _ _ _ _ _
  rw [wv_append]; exact hown'

/-- the cells of words that are seen -/
theorem news_of {w : World} {b off : Nat} {ws : List W3} (hc : ∀ j (h : j < ws.length), At w b (off + j * 3) ws[j]) : ∀ j u, (wv ws)[j]? = some u → w.cell? ((⟨b, off, none⟩ : Addr).add j) = some u := by
  intro j u hu
  have hj : j < ws.length * 3 := by rw [← wv_length]; exact (List.getElem?_eq_some_iff.1 hu).1
  obtain ⟨c0, c1, c2⟩ := hc (j / 3) (by omega)
  obtain ⟨g0, g1, g2⟩ := wv_get ws (j / 3) (by omega)
  have ha : ∀ i, (⟨b, off, none⟩ : Addr).add i = ⟨b, off + i, none⟩ := fun i => by unfold Addr.add; split <;> simp_all
  rw [ha, ← hu]
  rcases (show j % 3 = 0 ∨ j % 3 = 1 ∨ j % 3 = 2 by omega) with h | h | h
  · rw [show j = j / 3 * 3 by omega, g0]; exact c0
  · rw [show j = j / 3 * 3 + 1 by omega, g1, ← Nat.add_assoc]; exact c1
  · rw [show j = j / 3 * 3 + 2 by omega, g2, ← Nat.add_assoc]; exact c2
theorem owns_nil (B : Nat) (w : World) : w.ownsRow B 61 3 (.slice none 0 0) 0 (wv []) := ⟨rfl, .inl ⟨rfl, rfl⟩⟩

set_option maxRecDepth 100000 in
set_option maxHeartbeats 800000 in
theorem implCopy (c : Int) (v : Value) (ws : List W3) (B : Nat) (w : World) (hv : Sees B w v ws) (hB : B ≤ w.heap.size) (hlen : ws.length ≤ 1048576) :
    Calls Tryd.prog 32 #[.agg #[.int .i64 c, v]] w fun e w' => ∃ v', e = .returned (.agg #[.int .i64 c, v']) ∧ Owns w.heap.size w' v' ws ∧ Below w.heap.size w w' := by
  obtain ⟨a, cap, rfl, h1, h2, h3⟩ := hv
  obtain ⟨n, hn⟩ : ∃ n, ws.length = n := ⟨_, rfl⟩
  have hb0 := ((Below.refl w.heap.size w).alloc (Nat.le_refl _) (.cells #[.int .i64 c, .slice a n cap] 33)).alloc (by simp) (.cells #[.int .i64 0, .slice none 0 0] 33)
  have X0 : Box ((w.alloc (.cells #[.int .i64 c, .slice a n cap] 33)).alloc (.cells #[.int .i64 0, .slice none 0 0] 33)) w.heap.size c (.slice a n cap) 33 := heap_alloc2_old _ _ _
  have Y0 : Box ((w.alloc (.cells #[.int .i64 c, .slice a n cap] 33)).alloc (.cells #[.int .i64 0, .slice none 0 0] 33)) (w.heap.size + 1) 0 (.slice none 0 0) 33 := heap_alloc2_new _ _ _
  obtain ⟨W0, hW0⟩ : ∃ W0, (w.alloc (.cells #[.int .i64 c, .slice a n cap] 33)).alloc (.cells #[.int .i64 0, .slice none 0 0] 33) = W0 := ⟨_, rfl⟩
  rw [hW0] at hb0 X0 Y0
  have k0 := X0.c0; have k1 := X0.c1; have j0 := Y0.c0; have j1 := Y0.c1; have hs0 := Y0.lt
  have g1 := fun j => frozen_of_row W0 (w.heap.size + 1) j _ _ Y0
  rw [hn] at hlen ⊢
  by_cases hne : ws = []
  · subst hne
    obtain rfl : n = 0 := by simpa using hn.symm
    clear h3
    have fin : ∀ W, Below w.heap.size w W → Owns w.heap.size W (.slice none 0 0) [] := fun W _ => owns_nil _ _
    cases a
    all_goals
      go_enter Tryd.func32, Tryd.ntmps32
      go_wp2_with fail
      go_region
      all_goals
        go_wp2
        refine bodyPost_ret (v := .agg #[.int .i64 c, .slice none 0 0]) (by simp [results, Tryd.results32, go_sem, j0, j1]) rfl ⟨_, rfl, owns_nil _ _, ?_⟩
        exact ((hb0.setCell (by simp) _).setCell (by simp) _).drew
  · obtain ⟨b, off, rfl, hbB, hc⟩ := h3 hne
    have hpos : 0 < n := by rw [← hn]; exact List.length_pos_iff.2 hne
    have hnw := news_of fun j hj => (hc j hj).on hb0 (by omega)
    clear h3 hc
    go_enter Tryd.func32, Tryd.ntmps32
    go_wp2_with fail
    go_region_held3 (fun W => W.cell? ⟨w.heap.size, 0, none⟩ = some (.int .i64 c) ∧ W.cell? ⟨w.heap.size, 1, none⟩ = some (.slice (some ⟨b, off, none⟩) n cap)) (go_keep) ((refine step_appW _ W0 ?_ (.const (.slice none 0 0)) (.tmp 6) ?_ W0.heap.size 0 n cap [] ws (.slice none 0 0) ⟨b, off, none⟩ ?_ ?_ ?_ ?_ ?_ ?_ ?_ ?_ ?_ ?_; rfl; rfl; rfl; rfl; exact owns_nil _ _; exact hn; exact hnw; exact hpos; omega; exact (Below.refl _ _).drew; exact Nat.le_refl _; intro g cap2 w2 hown2 hB2; have e0 := (X0.on hB2.out (by omega)).c0; have e1 := (X0.on hB2.out (by omega)).c1; have i0 := (Y0.on hB2.out hs0).c0; have i1 := (Y0.on hB2.out hs0).c1; have i2 := fun j => frozen_of_row w2 (w.heap.size + 1) j _ _ (Y0.on hB2.out hs0)))
    all_goals
      go_wp2
      have hO : w2.ownsRow W0.heap.size 61 3 (.slice (some ⟨g, 0, none⟩) n cap2) n (wv ws) := by have := hown2.out; simpa using this
      have hO' : Owns W0.heap.size w2 (.slice (some ⟨g, 0, none⟩) n cap2) ws := hn ▸ hO
      refine bodyPost_ret (v := .agg #[.int .i64 c, .slice (some ⟨g, 0, none⟩) n cap2]) (by simp [results, Tryd.results32, go_sem, i0, i1]) rfl ⟨_, rfl, ?_, ?_⟩
      · exact ((hO'.setCell (by simp; omega) _).setCell (by simp; omega) _).mono hb0.size
      · exact ((hb0.trans (hB2.out.mono hb0.size)).setCell (by simp) _).setCell (by simp) _

set_option maxRecDepth 100000 in
set_option maxHeartbeats 800000 in
theorem specCopy (c : Int) (v : Value) (ws : List W3) (B : Nat) (w : World) (hv : Sees B w v ws) (hB : B ≤ w.heap.size) (hlen : ws.length ≤ 1048576) :
    Calls Tryd.prog 19 #[.agg #[.int .i64 c, v]] w fun e w' => ∃ v', e = .returned (.agg #[.int .i64 c, v']) ∧ Owns w.heap.size w' v' ws ∧ Below w.heap.size w w' := by
  obtain ⟨a, cap, rfl, h1, h2, h3⟩ := hv
  obtain ⟨n, hn⟩ : ∃ n, ws.length = n := ⟨_, rfl⟩
  have hb0 := ((Below.refl w.heap.size w).alloc (Nat.le_refl _) (.cells #[.int .i64 c, .slice a n cap] 33)).alloc (by simp) (.cells #[.int .i64 0, .slice none 0 0] 33)
  have X0 : Box ((w.alloc (.cells #[.int .i64 c, .slice a n cap] 33)).alloc (.cells #[.int .i64 0, .slice none 0 0] 33)) w.heap.size c (.slice a n cap) 33 := heap_alloc2_old _ _ _
  have Y0 : Box ((w.alloc (.cells #[.int .i64 c, .slice a n cap] 33)).alloc (.cells #[.int .i64 0, .slice none 0 0] 33)) (w.heap.size + 1) 0 (.slice none 0 0) 33 := heap_alloc2_new _ _ _
  obtain ⟨W0, hW0⟩ : ∃ W0, (w.alloc (.cells #[.int .i64 c, .slice a n cap] 33)).alloc (.cells #[.int .i64 0, .slice none 0 0] 33) = W0 := ⟨_, rfl⟩
  rw [hW0] at hb0 X0 Y0
  have k0 := X0.c0; have k1 := X0.c1; have j0 := Y0.c0; have j1 := Y0.c1; have hs0 := Y0.lt
  have g1 := fun j => frozen_of_row W0 (w.heap.size + 1) j _ _ Y0
  have b1 := (Below.refl W0.heap.size W0).alloc (Nat.le_refl _) (.cells #[] 61)
  have L1 : (W0.alloc (.cells #[] 61)).ownsRow W0.heap.size 61 3 (.slice (some ⟨W0.heap.size, 0, none⟩) 0 0) 0 (wv []) := World.ownsRow_lit W0 #[] 0 (Nat.le_refl _) (by simp [maxLen]) rfl
  rw [hn] at hlen ⊢
  by_cases hne : ws = []
  · subst hne
    obtain rfl : n = 0 := by simpa using hn.symm
    clear h3
    have hs1 : w.heap.size < W0.heap.size := by omega
    have hq0 : w.heap.size ≠ W0.heap.size := by omega
    have hq1 : w.heap.size + 1 ≠ W0.heap.size := by omega
    have hz : ∀ (a b : Addr) (x y : Value), (((W0.setCell a x).setCell b y).alloc (.cells #[] 61)).heap[W0.heap.size]? = some (.cells #[] 61 (0, 0)) := fun a b x y => by
      have := heap_alloc_new ((W0.setCell a x).setCell b y) (.cells #[] 61)
      rwa [show ((W0.setCell a x).setCell b y).heap.size = W0.heap.size by simp] at this
    clear L1 b1
    cases a
    all_goals
      go_enter Tryd.func19, Tryd.ntmps19
      go_wp2_with fail
      go_region
      all_goals
        go_wp2
        refine bodyPost_ret (v := .agg #[.int .i64 c, .slice (some ⟨W0.heap.size, 0, none⟩) 0 0]) (by simp [results, Tryd.results19, go_sem, hs0, j0, j1]) rfl ⟨_, rfl, ?_, ?_⟩
        · exact ⟨rfl, .inr ⟨W0.heap.size, 0, #[], rfl, hb0.size, hz _ _ _ _, Nat.le_refl _, by simp [maxLen], rfl, rfl⟩⟩
        · exact (((hb0.setCell (by simp) _).setCell (by simp) _).alloc (by simpa using hb0.size) _).drew
  · obtain ⟨b, off, rfl, hbB, hc⟩ := h3 hne
    have hpos : 0 < n := by rw [← hn]; exact List.length_pos_iff.2 hne
    have hnw := news_of fun j hj => (hc j hj).on (hb0.trans (b1.mono hb0.size)) (by omega)
    clear h3 hc
    go_enter Tryd.func19, Tryd.ntmps19
    go_wp2_with fail
    go_region_held3 (fun W => W.cell? ⟨w.heap.size, 0, none⟩ = some (.int .i64 c) ∧ W.cell? ⟨w.heap.size, 1, none⟩ = some (.slice (some ⟨b, off, none⟩) n cap)) (go_keep) ((refine step_appW _ W0 ?_ (.tmp 5) (.tmp 7) ?_ W0.heap.size 0 n cap [] ws (.slice (some ⟨W0.heap.size, 0, none⟩) 0 0) ⟨b, off, none⟩ ?_ ?_ ?_ ?_ ?_ ?_ ?_ ?_ ?_ ?_; rfl; rfl; rfl; rfl; exact L1; exact hn; exact hnw; exact hpos; omega; exact b1.drew; (simp); intro g cap2 w2 hown2 hB2; have e0 := (X0.on hB2.out (by omega)).c0; have e1 := (X0.on hB2.out (by omega)).c1; have i0 := (Y0.on hB2.out hs0).c0; have i1 := (Y0.on hB2.out hs0).c1; have i2 := fun j => frozen_of_row w2 (w.heap.size + 1) j _ _ (Y0.on hB2.out hs0)))
    all_goals
      go_wp2
      have hO : w2.ownsRow W0.heap.size 61 3 (.slice (some ⟨g, 0, none⟩) n cap2) n (wv ws) := by have := hown2.out; simpa using this
      have hO' : Owns W0.heap.size w2 (.slice (some ⟨g, 0, none⟩) n cap2) ws := hn ▸ hO
      refine bodyPost_ret (v := .agg #[.int .i64 c, .slice (some ⟨g, 0, none⟩) n cap2]) (by simp [results, Tryd.results19, go_sem, i0, i1]) rfl ⟨_, rfl, ?_, ?_⟩
      · exact ((hO'.setCell (by simp; omega) _).setCell (by simp; omega) _).mono hb0.size
      · exact ((hb0.trans (hB2.out.mono hb0.size)).setCell (by simp) _).setCell (by simp) _
end Words
end Go.Proofs.YtppikpdphcfomaaDoor
