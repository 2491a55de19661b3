/- Several texts of one proof, in build order: WordOk, WordBound, WordImplOk, WordKeep, IsErr. -/
import Derived.ChangeKeysEq
import Derived.Deep.RegionHeld3
import Derived.Test.YtppikpdphcfomaaDoorProg
import Derived.WalkKit
import Derived.LaidEql
import Derived.Stop.Asserts
import Derived.RowKitTokens
import Derived.Test.YtppikpdphcfomaaDoorCB11
/- Both MemOk tell whether a memory is right. -/
namespace Go.Proofs.YtppikpdphcfomaaDoor
open Go.RowKit
namespace Words

/-- a word is right under a clock -/
def wOk (c : Int) (x : W3) : Bool := decide (0 ≤ x.val ∧ x.val ≤ 65535 ∧ 0 ≤ x.ver ∧ x.ver ≤ c ∧ 0 ≤ x.own ∧ x.own ≤ 99)
/-- a memory is right -/
def memOk (c : Int) (ws : List W3) : Bool := decide (ws.length = 8 ∧ 0 ≤ c ∧ c ≤ 1000000) && ws.all (wOk c)
theorem memOk_mk {c : Int} {ws : List W3} (h : ws.length = 8 ∧ 0 ≤ c ∧ c ≤ 1000000) (ha : ∀ j (h : j < ws.length), wOk c ws[j] = true) : memOk c ws = true := by
  unfold memOk
  rw [Bool.and_eq_true]
  refine ⟨decide_eq_true h, List.all_eq_true.2 fun x hx => ?_⟩
  obtain ⟨j, hj, rfl⟩ := List.mem_iff_getElem.1 hx
  exact ha j hj
theorem memOk_head {c : Int} {ws : List W3} (h : ¬ (ws.length = 8 ∧ 0 ≤ c ∧ c ≤ 1000000)) : memOk c ws = false := by unfold memOk; rw [decide_eq_false h]; rfl
theorem memOk_word {c : Int} {ws : List W3} {j : Nat} (hj : j < ws.length) (h : wOk c ws[j] = false) : memOk c ws = false := by
  unfold memOk
  rw [Bool.and_eq_false_iff]
  exact .inr (List.all_eq_false.2 ⟨ws[j], List.getElem_mem hj, by simp [h]⟩)
theorem memOk_out {c : Int} {ws : List W3} (h : memOk c ws = true) : ws.length = 8 ∧ 0 ≤ c ∧ c ≤ 1000000 ∧ ∀ j (h : j < ws.length), wOk c ws[j] = true := by
  unfold memOk at h
  rw [Bool.and_eq_true] at h
  obtain ⟨h1, h2⟩ := h
  have h1' := of_decide_eq_true h1
  exact ⟨h1'.1, h1'.2.1, h1'.2.2, fun j hj => List.all_eq_true.1 h2 _ (List.getElem_mem hj)⟩

theorem wOk_no {c : Int} {x : W3} (h : ¬ wOk c x = true) : x.val < 0 ∨ (0 ≤ x.val ∧ 65535 < x.val) ∨ (0 ≤ x.val ∧ x.val ≤ 65535 ∧ x.ver < 0) ∨ (0 ≤ x.val ∧ x.val ≤ 65535 ∧ 0 ≤ x.ver ∧ c < x.ver) ∨
    (0 ≤ x.val ∧ x.val ≤ 65535 ∧ 0 ≤ x.ver ∧ x.ver ≤ c ∧ x.own < 0) ∨ (0 ≤ x.val ∧ x.val ≤ 65535 ∧ 0 ≤ x.ver ∧ x.ver ≤ c ∧ 0 ≤ x.own ∧ 99 < x.own) := by
  have h' : ¬ (0 ≤ x.val ∧ x.val ≤ 65535 ∧ 0 ≤ x.ver ∧ x.ver ≤ c ∧ 0 ≤ x.own ∧ x.own ≤ 99) := fun h2 => h (decide_eq_true h2)
  omega
theorem cell_alloc {w : World} {b i : Nat} {v : Value} (h : w.cell? ⟨b, i, none⟩ = some v) (o : Obj) : (w.alloc o).cell? ⟨b, i, none⟩ = some v :=
  (((Below.refl w.heap.size w).alloc (Nat.le_refl _) o).cell (p := ⟨b, i, none⟩) (World.block_lt_of_cell? _ _ h)).trans h
theorem ret_ok {c : Int} {ws : List W3} {b : Bool} (h : memOk c ws = b) : Ending.returned (.bool b) = .returned (.bool (memOk c ws)) := by rw [h]

set_option maxRecDepth 100000 in
set_option maxHeartbeats 1600000 in
theorem specOk (c : Int) (v : Value) (ws : List W3) (B : Nat) (w : World) (hv : Sees B w v ws) (hB : B ≤ w.heap.size) :
    Calls Tryd.prog 21 #[.agg #[.int .i64 c, v]] w fun e w' => e = .returned (.bool (memOk c ws)) ∧ Below w.heap.size w w' := by
  obtain ⟨a, cap, rfl, h1, h2, h3⟩ := hv
  have hm : (ws.length : Int) ≤ 9223372036854775807 := by unfold maxLen at h2; omega
  by_cases h8 : ws.length = 8
  · rw [h8]
    clear hm h1 h2
    by_cases hc0 : 0 ≤ c
    · by_cases hc1 : c ≤ 1000000
      · go_enter Tryd.func21, Tryd.ntmps21
        go_wp2
        go_loopw [3] (fun i wr => ∃ k : Nat, k ≤ 8 ∧ i = .int .i64 k ∧ Below w.heap.size w wr ∧ wr.cell? ⟨w.heap.size, 0, none⟩ = some (.int .i64 c) ∧ wr.cell? ⟨w.heap.size, 1, none⟩ = some (.slice a 8 cap) ∧ (∀ j (h : j < ws.length), j < k → wOk c ws[j] = true)) (fun i _ => 8 - (intOf i).toNat)
        case atStart => exact ⟨0, by omega, rfl, (Below.refl _ _).alloc (Nat.le_refl _) _, by simp [World.cell?_alloc_at], by simp [World.cell?_alloc_at], fun j _ h => by omega⟩
        case round =>
          obtain ⟨k, hk, rfl, hb, m0, m1, hall⟩ := hrel
          have hsz : w.heap.size < wr.heap.size := World.block_lt_of_cell? _ _ m0
          by_cases hlt : k < 8
          · obtain ⟨b, off, rfl, hbB, hc⟩ := h3 (fun h => by simp [h] at h8)
            obtain ⟨a0, a1, a2⟩ := (hc k (by omega)).on hb (by omega)
            have hx0 : ws[k] = ws[k] := rfl
            obtain ⟨x, hx⟩ : ∃ x, ws[k] = x := ⟨_, rfl⟩
            rw [hx] at a0 a1 a2
            have HX : Hid (ws[k] = x) := hx
            have HA : Hid (∀ j (h : j < ws.length), j < k → wOk c ws[j] = true) := hall
            clear hx hc h3 hall hx0
            by_cases hok : wOk c x = true
            · have hh := of_decide_eq_true hok
              obtain ⟨q0, q1, q2, q3, q4, q5⟩ := hh
              go_wp2
              go_roundw
              case rel => exact ⟨k + 1, by omega, by go_num, hb.alloc hb.size _, cell_alloc m0 _, cell_alloc m1 _, fun j hj hjk => by
                rcases Nat.lt_succ_iff_lt_or_eq.1 hjk with h | h
                · exact HA.out j hj h
                · subst h; exact (congrArg (wOk c) HX.out).trans hok⟩
              case measure => simp [intOf]; omega
            · have HF : Hid (memOk c ws = false) := memOk_word (j := k) (by omega) (by rw [HX.out]; simpa using hok)
              have hn := wOk_no hok
              clear hok
              rcases hn with q | ⟨q0, q⟩ | ⟨q0, q1, q⟩ | ⟨q0, q1, q2, q⟩ | ⟨q0, q1, q2, q3, q⟩ | ⟨q0, q1, q2, q3, q4, q⟩
              rotate_right
              · have q' : decide (x.own ≤ 99) = false := by simpa using q
                go_wp2
                go_ret
                exact ⟨ret_ok HF.out, hb.alloc hb.size _⟩
              all_goals
                go_wp2
                go_ret
                exact ⟨ret_ok HF.out, hb.alloc hb.size _⟩
          · obtain rfl : k = 8 := by omega
            have HT : Hid (memOk c ws = true) := memOk_mk ⟨h8, hc0, hc1⟩ fun j hj => hall j hj (by omega)
            clear hall h3
            go_wp2
            go_ret
            exact ⟨ret_ok HT.out, hb⟩
      · have HF : Hid (memOk c ws = false) := memOk_head (fun h => hc1 h.2.2)
        clear h3
        go_enter Tryd.func21, Tryd.ntmps21
        go_wp2
        go_ret
        exact ⟨ret_ok HF.out, (Below.refl _ _).alloc (Nat.le_refl _) _⟩
    · have HF : Hid (memOk c ws = false) := memOk_head (fun h => hc0 h.2.1)
      clear h3
      go_enter Tryd.func21, Tryd.ntmps21
      go_wp2
      go_ret
      exact ⟨ret_ok HF.out, (Below.refl _ _).alloc (Nat.le_refl _) _⟩
  · have HF : Hid (memOk c ws = false) := memOk_head (fun h => h8 h.1)
    obtain ⟨n, hn⟩ : ∃ n, ws.length = n := ⟨_, rfl⟩
    rw [hn] at hm h8 ⊢
    have h8' : ((n : Int) != 8) = true := by simp; omega
    clear h3 hn h1 h2 h8
    go_enter Tryd.func21, Tryd.ntmps21
    go_wp2
    go_ret
    exact ⟨ret_ok HF.out, (Below.refl _ _).alloc (Nat.le_refl _) _⟩
end Words
end Go.Proofs.YtppikpdphcfomaaDoor
/- impl's cells: an array of three, brought between bounds, compared. -/
namespace Go.Proofs.YtppikpdphcfomaaDoor
open Go.RowKit
namespace Words

/-- a number brought between 0 and t -/
def cl (a t : Int) : Int := if 0 < if t < a then t else a then if t < a then t else a else 0

theorem heap_alloc3_new (w : World) (A B C : Obj) : (((w.alloc A).alloc B).alloc C).heap[w.heap.size + 2]? = some C := by
  have h := heap_alloc_new ((w.alloc A).alloc B) C
  have e : ((w.alloc A).alloc B).heap.size = w.heap.size + 2 := by simp
  rwa [e] at h

set_option maxRecDepth 100000 in
set_option maxHeartbeats 400000 in
theorem cellOfC (x : W3) (w : World) :
    Calls Tryd.prog 61 #[x.agg] w fun e w' => e = .returned x.agg ∧ Below w.heap.size w w' := by
  go_enter Tryd.func61, Tryd.ntmps61
  go_wp2
  exact bodyPost_ret (v := x.agg) (by simp [results, Tryd.results61, go_sem]) rfl ⟨rfl, ((Below.refl _ _).alloc (Nat.le_refl _) _).alloc (by simp) _⟩

set_option maxRecDepth 100000 in
set_option maxHeartbeats 800000 in
theorem boundedC (x t : W3) (w : World) :
    Calls Tryd.prog 62 #[x.agg, t.agg] w fun e w' => e = .returned (W3.agg ⟨cl x.val t.val, cl x.ver t.ver, cl x.own t.own⟩) ∧ Below w.heap.size w w' := by
  go_enter Tryd.func62, Tryd.ntmps62
  go_wp2
  go_loopw [6] (fun i wr => ∃ k : Nat, k ≤ 3 ∧ i = .int .i64 k ∧ Below w.heap.size w wr ∧ w.heap.size + 2 < wr.heap.size ∧
      wr.heap[w.heap.size]? = some (.cells #[.int .i64 (if 0 < k then cl x.val t.val else x.val), .int .i64 (if 1 < k then cl x.ver t.ver else x.ver), .int .i64 (if 2 < k then cl x.own t.own else x.own)] 85 (0, 0)) ∧
      wr.heap[w.heap.size + 1]? = some (.cells #[.int .i64 t.val, .int .i64 t.ver, .int .i64 t.own] 85 (0, 0)) ∧
      wr.heap[w.heap.size + 2]? = some (.cells #[.int .i64 0, .int .i64 0, .int .i64 0] 85 (0, 0))) (fun i _ => 3 - (intOf i).toNat)
  case atStart =>
    exact ⟨0, by omega, rfl, (((Below.refl _ _).alloc (Nat.le_refl _) _).alloc (by simp) _).alloc (by simp; omega) _, by simp,
      by rw [Below.heap_alloc _ _ _ (by simp; omega), Below.heap_alloc _ _ _ (by simp), heap_alloc_new]; rfl,
      by rw [Below.heap_alloc _ _ _ (by simp)]; exact heap_alloc2_new _ _ _,
      heap_alloc3_new _ _ _ _⟩
  case round =>
    obtain ⟨k, hk, rfl, hb, hsz, m0, m1, m2⟩ := hrel
    have f0 := fun j => frozen_of_row wr w.heap.size j _ _ m0
    have f2 := fun j => frozen_of_row wr (w.heap.size + 2) j _ _ m2
    have c0 := fun j => cell_of_row wr w.heap.size j _ _ _ m0
    have c1 := fun j => cell_of_row wr (w.heap.size + 1) j _ _ _ m1
    have c2 := fun j => cell_of_row wr (w.heap.size + 2) j _ _ _ m2
    have M0 : Hid _ := m0
    have M1 : Hid _ := m1
    have M2 : Hid _ := m2
    clear m0 m1 m2
    rcases (show k = 0 ∨ k = 1 ∨ k = 2 ∨ k = 3 by omega) with rfl | rfl | rfl | rfl
    · simp only [Nat.lt_irrefl, Nat.not_lt_zero, if_false] at c0
      go_wp2_with fail
      go_region_with fail
      all_goals
        go_wp2
        go_roundw
        case rel =>
          refine ⟨1, by omega, by go_num, (hb.setCell (Nat.le_refl _) _).drew, by simpa [heap_drew] using hsz, ?_, ?_, ?_⟩
          · rw [heap_drew, heap_setCell_same _ _ _ _ _ _ M0.out]; rfl
          · rw [heap_drew, heap_setCell_other _ _ _ _ (by simp)]; exact M1.out
          · rw [heap_drew, heap_setCell_other _ _ _ _ (by simp)]; exact M2.out
        case measure => simp [intOf]
    · simp only [show (0 : Nat) < 1 from by decide, Nat.lt_irrefl, show ¬ (2 : Nat) < 1 from by decide, if_true, if_false] at c0
      go_wp2_with fail
      go_region_with fail
      all_goals
        go_wp2
        go_roundw
        case rel =>
          refine ⟨2, by omega, by go_num, (hb.setCell (Nat.le_refl _) _).drew, by simpa [heap_drew] using hsz, ?_, ?_, ?_⟩
          · rw [heap_drew, heap_setCell_same _ _ _ _ _ _ M0.out]; rfl
          · rw [heap_drew, heap_setCell_other _ _ _ _ (by simp)]; exact M1.out
          · rw [heap_drew, heap_setCell_other _ _ _ _ (by simp)]; exact M2.out
        case measure => simp [intOf]
    · simp only [show (0 : Nat) < 2 from by decide, show (1 : Nat) < 2 from by decide, Nat.lt_irrefl, if_true, if_false] at c0
      go_wp2_with fail
      go_region_with fail
      all_goals
        go_wp2
        go_roundw
        case rel =>
          refine ⟨3, by omega, by go_num, (hb.setCell (Nat.le_refl _) _).drew, by simpa [heap_drew] using hsz, ?_, ?_, ?_⟩
          · rw [heap_drew, heap_setCell_same _ _ _ _ _ _ M0.out]; rfl
          · rw [heap_drew, heap_setCell_other _ _ _ _ (by simp)]; exact M1.out
          · rw [heap_drew, heap_setCell_other _ _ _ _ (by simp)]; exact M2.out
        case measure => simp [intOf]
    · simp only [show (0 : Nat) < 3 from by decide, show (1 : Nat) < 3 from by decide, show (2 : Nat) < 3 from by decide, if_true] at c0
      go_wp2
      exact bodyPost_ret (v := W3.agg ⟨cl x.val t.val, cl x.ver t.ver, cl x.own t.own⟩) (by simp [results, Tryd.results62, go_sem, c2]) rfl ⟨rfl, ((hb.setCell (by simp; omega) _).setCell (by simp; omega) _).setCell (by simp; omega) _⟩
end Words
end Go.Proofs.YtppikpdphcfomaaDoor
/- impl.MemOk tells whether a memory is right. -/
namespace Go.Proofs.YtppikpdphcfomaaDoor
open Go.RowKit
namespace Words

theorem cl_eq (a t : Int) (ht : 0 ≤ t) : cl a t = a ↔ 0 ≤ a ∧ a ≤ t := by
  unfold cl
  split <;> split <;> omega
theorem bounded_id (c : Int) (x : W3) (hc : 0 ≤ c) : (⟨cl x.val 65535, cl x.ver c, cl x.own 99⟩ : W3) = x ↔ wOk c x = true := by
  obtain ⟨v, r, o⟩ := x
  have h1 := cl_eq v 65535 (by omega)
  have h2 := cl_eq r c hc
  have h3 := cl_eq o 99 (by omega)
  simp only [W3.mk.injEq, wOk, decide_eq_true_eq, h1, h2, h3, and_assoc]

theorem cellsI : Tryd.prog.cellsOf 3 = 1 := by kernel_rfl
set_option maxRecDepth 100000 in
theorem eqCell (x y : W3) (w : World) (d : Nat) : (Op.equalIn (d + 2) 85 x.agg y.agg).run Tryd.prog w = .ok (x.same y) w := by
  obtain ⟨i, hi⟩ : ∃ i, Tryd.prog.info? 3 = some i := Option.isSome_iff_exists.1 (by kernel_rfl)
  rw [run_equalIn_array (e := 3) (n := 3) w (d + 1) _ _ (by kernel_rfl) hi]
  rw [cellsI]
  obtain ⟨x0, x1, x2⟩ := x
  obtain ⟨y0, y1, y2⟩ := y
  simp [Op.eqItems, List.range_succ, go_sem, W3.same]
  by_cases h0 : x0 = y0 <;> by_cases h1 : x1 = y1 <;> by_cases h2 : x2 = y2 <;> simp [h0, h1, h2]

theorem wOk_false {c : Int} {x : W3} (h : ¬ wOk c x = true) : wOk c x = false := by simpa using h
theorem pos_true {n : Nat} (h : n = 8) : ((n : Int) != 8) = false := by simp [h]

set_option maxRecDepth 100000 in
set_option maxHeartbeats 1600000 in
theorem implOk (c : Int) (v : Value) (ws : List W3) (B : Nat) (w : World) (hv : Sees B w v ws) (hB : B ≤ w.heap.size) :
    Calls Tryd.prog 34 #[.agg #[.int .i64 c, v]] w fun e w' => e = .returned (.bool (memOk c ws)) ∧ Below w.heap.size w w' := by
  obtain ⟨a, cap, rfl, h1, h2, h3⟩ := hv
  have hm : (ws.length : Int) ≤ 9223372036854775807 := by unfold maxLen at h2; omega
  by_cases h8 : ws.length = 8
  · rw [h8]
    clear hm h1 h2
    by_cases hc0 : 0 ≤ c
    · by_cases hc1 : c ≤ 1000000
      · go_enter Tryd.func34, Tryd.ntmps34
        go_wp2
        go_loopw [27] (fun i wr => ∃ k : Nat, k ≤ 8 ∧ i = .int .i64 k ∧ Below w.heap.size w wr ∧ wr.heap[w.heap.size + 1]? = some (.cells #[.int .i64 65535, .int .i64 c, .int .i64 99] 85 (0, 0)) ∧ (∀ j (h : j < ws.length), j < k → wOk c ws[j] = true)) (fun i _ => 8 - (intOf i).toNat)
        case atStart => exact ⟨0, by omega, rfl, ((Below.refl _ _).alloc (Nat.le_refl _) _).alloc (by simp) _, heap_alloc2_new _ _ _, fun j _ h => by omega⟩
        case round =>
          obtain ⟨k, hk, rfl, hb, m1, hall⟩ := hrel
          have hsz : w.heap.size + 1 < wr.heap.size := (Array.getElem?_eq_some_iff.1 m1).1
          by_cases hlt : k < 8
          · obtain ⟨b, off, rfl, hbB, hc⟩ := h3 (fun h => by simp [h] at h8)
            obtain ⟨a0, a1, a2⟩ := (hc k (by omega)).on hb (by omega)
            obtain ⟨x, hx⟩ : ∃ x, ws[k] = x := ⟨_, rfl⟩
            rw [hx] at a0 a1 a2
            have HX : Hid (ws[k] = x) := hx
            have HA : Hid (∀ j (h : j < ws.length), j < k → wOk c ws[j] = true) := hall
            have HM : Hid _ := m1
            have c1 := fun j => cell_of_row wr (w.heap.size + 1) j _ _ _ m1
            clear hx hc h3 hall m1
            obtain ⟨y, hy⟩ : ∃ y : W3, (⟨cl x.val 65535, cl x.ver c, cl x.own 99⟩ : W3) = y := ⟨_, rfl⟩
            have hbx := bounded_id c x hc0
            rw [hy] at hbx
            have HB : Hid (y = x ↔ wOk c x = true) := hbx
            have hct : ∀ W, Calls Tryd.prog 62 #[x.agg, .agg #[.int .i64 65535, .int .i64 c, .int .i64 99]] W fun e w' => e = .returned y.agg ∧ Below W.heap.size W w' := by
              intro W; rw [← hy]; exact boundedC x ⟨65535, c, 99⟩ W
            clear hy hbx
            go_wp2_with fail
            refine (cellOfC x _).mono ?_
            rintro e w2 ⟨rfl, hb2⟩
            have hle : wr.heap.size < w2.heap.size := by have := hb2.size; simp at this; omega
            have hbb2 : Below w.heap.size w w2 := (hb.alloc hb.size _).trans (hb2.mono (by have := hb.size; simp; omega))
            have m2 : w2.heap[w.heap.size + 1]? = some (.cells #[.int .i64 65535, .int .i64 c, .int .i64 99] 85 (0, 0)) := by
              rw [hb2.block _ (by simp; omega), Below.heap_alloc _ _ _ hsz]; exact HM.out
            have M2 : Hid _ := m2
            have c2 := fun j => cell_of_row w2 (w.heap.size + 1) j _ _ _ m2
            have hlt2 : w.heap.size + 1 < w2.heap.size := by omega
            have key : ∀ W, (W = w2.alloc (.cells #[.int .i64 x.val, .int .i64 x.ver, .int .i64 x.own] 85) ∨ W = (w2.alloc (.cells #[.int .i64 x.val, .int .i64 x.ver, .int .i64 x.own] 85)).drew) → ∀ w3, Below W.heap.size W w3 →
                Below w.heap.size w w3 ∧ w3.heap[w.heap.size + 1]? = some (.cells #[.int .i64 65535, .int .i64 c, .int .i64 99] 85 (0, 0)) := by
              intro W hW w3 h3
              have hs : W.heap = (w2.alloc (.cells #[.int .i64 x.val, .int .i64 x.ver, .int .i64 x.own] 85)).heap := by rcases hW with rfl | rfl <;> rfl
              have hss : W.heap.size = w2.heap.size + 1 := by rw [hs]; simp
              have hbW : Below w.heap.size w W := by
                rcases hW with rfl | rfl
                · exact hbb2.alloc hbb2.size _
                · exact (hbb2.alloc hbb2.size _).drew
              refine ⟨hbW.trans (h3.mono hbW.size), ?_⟩
              rw [h3.block _ (by omega), hs, Below.heap_alloc _ _ _ hlt2]; exact m2
            have KEY : Hid _ := key
            clear c1 m2 a0 a1 a2 hb2 key
            by_cases hok : wOk c x = true
            · have hxy : y = x := HB.out.2 hok
              have hne : ∀ W, (Op.equalIn 10000 85 x.agg y.agg).run Tryd.prog W = .ok true W := fun W => by rw [eqCell x y W 9998, hxy, W3.same_self]
              clear hxy
              go_wp2_with fail
              go_region_with (go_at_call 62; refine (hct _).mono ?_; rintro e w3 ⟨rfl, hb3⟩; obtain ⟨hc3, hf3⟩ := bcell hb3)
              all_goals
                obtain ⟨hB3, hM3⟩ := KEY.out _ (by first | exact .inl rfl | exact .inr rfl) w3 hb3
                clear hc3 hf3 hb3
                go_wp2
                go_roundw
                case rel =>
                  refine ⟨k + 1, by omega, by go_num, by first | exact hB3 | exact hB3.drew, by first | exact hM3 | (rw [heap_drew]; exact hM3), fun j hj hjk => ?_⟩
                  rcases Nat.lt_succ_iff_lt_or_eq.1 hjk with h | h
                  · exact HA.out j hj h
                  · subst h; exact (congrArg (wOk c) HX.out).trans hok
                case measure => simp [intOf]; omega
            · have HF : Hid (memOk c ws = false) := memOk_word (j := k) (by omega) (by rw [HX.out]; simpa using hok)
              have hxy : ¬ x = y := fun h => hok (HB.out.1 h.symm)
              have hne : ∀ W, (Op.equalIn 10000 85 x.agg y.agg).run Tryd.prog W = .ok false W := fun W => by rw [eqCell x y W 9998, W3.same_not hxy]
              clear hxy hok
              go_wp2_with fail
              go_region_with (go_at_call 62; refine (hct _).mono ?_; rintro e w3 ⟨rfl, hb3⟩; obtain ⟨hc3, hf3⟩ := bcell hb3)
              all_goals
                obtain ⟨hB3, hM3⟩ := KEY.out _ (by first | exact .inl rfl | exact .inr rfl) w3 hb3
                clear hc3 hf3 hb3
                go_wp2
                go_ret
                exact ⟨ret_ok HF.out, by first | exact hB3 | exact hB3.drew⟩
          · obtain rfl : k = 8 := by omega
            have HT : Hid (memOk c ws = true) := memOk_mk ⟨h8, hc0, hc1⟩ fun j hj => hall j hj (by omega)
            clear hall h3 m1
            go_wp2
            go_ret
            exact ⟨ret_ok HT.out, hb⟩
      · have HF : Hid (memOk c ws = false) := memOk_head (fun h => hc1 h.2.2)
        clear h3
        go_enter Tryd.func34, Tryd.ntmps34
        go_wp2
        go_ret
        exact ⟨ret_ok HF.out, (Below.refl _ _).alloc (Nat.le_refl _) _⟩
    · have HF : Hid (memOk c ws = false) := memOk_head (fun h => hc0 h.2.1)
      clear h3
      go_enter Tryd.func34, Tryd.ntmps34
      go_wp2
      go_ret
      exact ⟨ret_ok HF.out, (Below.refl _ _).alloc (Nat.le_refl _) _⟩
  · have HF : Hid (memOk c ws = false) := memOk_head (fun h => h8 h.1)
    obtain ⟨n, hn⟩ : ∃ n, ws.length = n := ⟨_, rfl⟩
    rw [hn] at hm h8 ⊢
    have h8' : ((n : Int) != 8) = true := by simp; omega
    clear h3 hn h1 h2 h8
    go_enter Tryd.func34, Tryd.ntmps34
    go_wp2
    go_ret
    exact ⟨ret_ok HF.out, (Below.refl _ _).alloc (Nat.le_refl _) _⟩
end Words
end Go.Proofs.YtppikpdphcfomaaDoor
/- What is owned stays where other blocks are written. -/
namespace Go.Proofs.YtppikpdphcfomaaDoor
open Go.RowKit
namespace Words

theorem Owns.keep {B : Nat} {w w' : World} {v : Value} {ws : List W3} (h : Owns B w v ws) (hk : ∀ k, v.ownBlock = some k → w'.heap[k]? = w.heap[k]?) : Owns B w' v ws := by
  obtain ⟨h1, h2⟩ := h
  refine ⟨h1, ?_⟩
  rcases h2 with h2 | ⟨g, cap, cur, rfl, hg, hh, r⟩
  · exact .inl h2
  · exact .inr ⟨g, cap, cur, rfl, hg, by rw [hk g rfl]; exact hh, r⟩
theorem Owns.at {B : Nat} {w : World} {v : Value} {ws : List W3} (h : Owns B w v ws) : ∀ k, v.ownBlock = some k → B ≤ k ∧ k < w.heap.size := by
  intro k hk
  obtain ⟨h1, h2⟩ := h
  rcases h2 with ⟨rfl, h0⟩ | ⟨g, cap, cur, rfl, hg, hh, r⟩
  · cases hk
  · cases hk; exact ⟨hg, (Array.getElem?_eq_some_iff.1 hh).1⟩
/-- a cell of another block is written -/
theorem Owns.other {B : Nat} {w : World} {v : Value} {ws : List W3} (h : Owns B w v ws) {p : Addr} (hp : ∀ k, v.ownBlock = some k → k ≠ p.block) (u : Value) : Owns B (w.setCell p u) v ws :=
  h.keep fun k hk => heap_setCell_other w p k u (hp k hk)
/-- another row is marked -/
theorem Owns.grown {B : Nat} {w w' : World} {v : Value} {ws : List W3} (h : Owns B w v ws) {row : Option Nat} (hg : w.grownBy w' row) (hr : ∀ k, v.ownBlock = some k → some k ≠ row) : Owns B w' v ws :=
  h.keep fun k hk => hg.block k (h.at k hk).2 (hr k hk)
theorem Box.grown {W W' : World} {p : Nat} {c : Int} {v : Value} {t : TypeId} (h : Box W p c v t) {row : Option Nat} (hg : W.grownBy W' row) (hr : some p ≠ row) : Box W' p c v t :=
  (hg.block p h.lt hr).trans h
theorem Owns.drew {B : Nat} {w : World} {v : Value} {ws : List W3} (h : Owns B w v ws) : Owns B w.drew v ws := h
end Words
end Go.Proofs.YtppikpdphcfomaaDoor
/- errors.Is against the sentinel: of itself, and of nil. -/
namespace Go.Proofs.YtppikpdphcfomaaDoor
open Go.RowKit Go.Extern.Stop Go.Stop Go.Extern
namespace Words

theorem isComp : (Tryd.prog.info? 116).map (·.comparable) = some true := by kernel_rfl
theorem isSize : (Tryd.prog.info? 141).map (·.size) = some 1 := by kernel_rfl
theorem isTypeOf (v : Value) (w : World) : (Extern.ReflectliteType.typeOf #[.iface 116 v]).run Tryd.prog w = .ok (.iface 106 (.agg #[.pointer (some ⟨Tryd.prog.globals.size, 116, none⟩)])) w := by kernel_rfl
/-- what the model answers for 'Comparable' -/
def cmpE : Array Value → Sem Value := Extern.ReflectliteType.method fun t => do Go.Extern.Rtype.noPackHeld "Comparable" t; pure (.bool (← typeInfo t).comparable)
theorem isComparable (w : World) : (cmpE #[.agg #[.pointer (some ⟨1, 116, none⟩)]]).run Tryd.prog w = .ok (.bool true) w := by kernel_rfl
theorem isMethodComparable (v : Value) (w : World) : (Go.method 253 106 v "Comparable").run Tryd.prog w = .ok (104, v) w := by kernel_rfl
theorem gsize : Tryd.prog.globals.size = 1 := by kernel_rfl

theorem is_nil (b : Addr) (w : World) :
    Calls Tryd.prog 80 #[.nilIface, .iface 116 (.pointer (some b))] w fun e w' => e = .returned (.bool false) ∧ w = w' := by
  have hn := run_eql_iface_nil_left (P := Tryd.prog) w 116 (.pointer (some b)) Tryd.underlying94
  go_enter Tryd.func80, Tryd.ntmps80
  go_wp2
  go_ret
  exact ⟨rfl, rfl⟩

set_option maxRecDepth 100000 in
theorem is_same (a : Addr) (w : World) :
    Calls Tryd.prog 80 #[.iface 116 (.pointer (some a)), .iface 116 (.pointer (some a))] w fun e w' => e = .returned (.bool true) ∧ w = w' := by
  obtain ⟨i, hi, hcmp⟩ := Option.map_eq_some_iff.1 isComp
  obtain ⟨j, hj, hjs⟩ := Option.map_eq_some_iff.1 isSize
  have h8 := @run_callFunc_extern Tryd.prog 84 _ Extern.ReflectliteType.typeOf Tryd.func84 (by kernel_rfl) (by kernel_rfl) (by kernel_rfl) (by kernel_rfl)
  have h32 := @run_callFunc_extern Tryd.prog 104 _ cmpE Tryd.func104 (by kernel_rfl) (by kernel_rfl) (by kernel_rfl) (by kernel_rfl)
  have cT := isComparable
  have mR := isMethodComparable
  have tT := isTypeOf
  rw [gsize] at tT
  have heq := run_eql_iface_ptr_same (P := Tryd.prog) w a Tryd.underlying94 Tryd.underlying116 hi hcmp hj
  go_enter Tryd.func80, Tryd.ntmps80
  go_wp2
  refine wp_loop_rounds 1 ?_
  rw [rounds_succ]
  go_wp2
  go_ret
  exact ⟨rfl, rfl⟩
end Words
end Go.Proofs.YtppikpdphcfomaaDoor
