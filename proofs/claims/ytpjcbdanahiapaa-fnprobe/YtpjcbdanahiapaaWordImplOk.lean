/- impl.MemOk tells whether a memory is right. -/
import Derived.Test.YtpjcbdanahiapaaWordBound
namespace Go.Proofs.Ytpjcbdanahiapaa
open Go.RowKit
namespace Words

theorem cl_eq (a t : Int) (ht : 0 ≤ t) : cl a t = a ↔ 0 ≤ a ∧ a ≤ t := by
  unfold cl
  split <;> split <;> omega
theorem bounded_id (c : Int) (x : W3) (hc : 0 ≤ c) : (⟨cl x.val 65535, cl x.ver c, cl x.own 99⟩ : W3) = x ↔ wOk c x = true := by
  obtain ⟨v, r, o⟩ := x
  have h1 := cl_eq v 65535 (by omega)
  have h2 := cl_eq r c hc
  have h3 := cl_eq o 99 (by omega)
  simp only [W3.mk.injEq, wOk, decide_eq_true_eq, h1, h2, h3, and_assoc]

theorem cellsI : Try.prog.cellsOf 3 = 1 := by kernel_rfl
set_option maxRecDepth 100000 in
theorem eqCell (x y : W3) (w : World) (d : Nat) : (Op.equalIn (d + 2) 133 x.agg y.agg).run Try.prog w = .ok (x.same y) w := by
  obtain ⟨i, hi⟩ : ∃ i, Try.prog.info? 3 = some i := Option.isSome_iff_exists.1 (by kernel_rfl)
  rw [run_equalIn_array (e := 3) (n := 3) w (d + 1) _ _ (by kernel_rfl) hi]
  rw [cellsI]
  obtain ⟨x0, x1, x2⟩ := x
  obtain ⟨y0, y1, y2⟩ := y
  simp [Op.eqItems, List.range_succ, go_sem, W3.same]
  by_cases h0 : x0 = y0 <;> by_cases h1 : x1 = y1 <;> by_cases h2 : x2 = y2 <;> simp [h0, h1, h2]

theorem wOk_false {c : Int} {x : W3} (h : ¬ wOk c x = true) : wOk c x = false := by simpa using h
theorem pos_true {n : Nat} (h : n = 8) : ((n : Int) != 8) = false := by simp [h]

set_option maxRecDepth 100000 in
set_option maxHeartbeats 1600000 in
theorem implOk (c : Int) (v : Value) (ws : List W3) (B : Nat) (w : World) (hv : Sees B w v ws) (hB : B ≤ w.heap.size) :
    Calls Try.prog 54 #[.agg #[.int .i64 c, v]] w fun e w' => e = .returned (.bool (memOk c ws)) ∧ Below w.heap.size w w' := by
  obtain ⟨a, cap, rfl, h1, h2, h3⟩ := hv
  have hm : (ws.length : Int) ≤ 9223372036854775807 := by unfold maxLen at h2; omega
  by_cases h8 : ws.length = 8
  · rw [h8]
    clear hm h1 h2
    by_cases hc0 : 0 ≤ c
    · by_cases hc1 : c ≤ 1000000
      · go_enter Try.func54, Try.ntmps54
        go_wp2
        go_loopw [27] (fun i wr => ∃ k : Nat, k ≤ 8 ∧ i = .int .i64 k ∧ Below w.heap.size w wr ∧ wr.heap[w.heap.size + 1]? = some (.cells #[.int .i64 65535, .int .i64 c, .int .i64 99] 133 (0, 0)) ∧ (∀ j (h : j < ws.length), j < k → wOk c ws[j] = true)) (fun i _ => 8 - (intOf i).toNat)
        case atStart => exact ⟨0, by omega, rfl, ((Below.refl _ _).alloc (Nat.le_refl _) _).alloc (by simp) _, heap_alloc2_new _ _ _, fun j _ h => by omega⟩
        case round =>
          obtain ⟨k, hk, rfl, hb, m1, hall⟩ := hrel
          have hsz : w.heap.size + 1 < wr.heap.size := (Array.getElem?_eq_some_iff.1 m1).1
          by_cases hlt : k < 8
          · obtain ⟨b, off, rfl, hbB, hc⟩ := h3 (fun h => by simp [h] at h8)
            obtain ⟨a0, a1, a2⟩ := (hc k (by omega)).on hb (by omega)
            obtain ⟨x, hx⟩ : ∃ x, ws[k] = x := ⟨_, rfl⟩
            rw [hx] at a0 a1 a2
            have HX : Hid (ws[k] = x) := hx
            have HA : Hid (∀ j (h : j < ws.length), j < k → wOk c ws[j] = true) := hall
            have HM : Hid _ := m1
            have c1 := fun j => cell_of_row wr (w.heap.size + 1) j _ _ _ m1
            clear hx hc h3 hall m1
            obtain ⟨y, hy⟩ : ∃ y : W3, (⟨cl x.val 65535, cl x.ver c, cl x.own 99⟩ : W3) = y := ⟨_, rfl⟩
            have hbx := bounded_id c x hc0
            rw [hy] at hbx
            have HB : Hid (y = x ↔ wOk c x = true) := hbx
            have hct : ∀ W, Calls Try.prog 96 #[x.agg, .agg #[.int .i64 65535, .int .i64 c, .int .i64 99]] W fun e w' => e = .returned y.agg ∧ Below W.heap.size W w' := by
              intro W; rw [← hy]; exact boundedC x ⟨65535, c, 99⟩ W
            clear hy hbx
            go_wp2_with fail
            refine (cellOfC x _).mono ?_
            rintro e w2 ⟨rfl, hb2⟩
            have hle : wr.heap.size < w2.heap.size := by have := hb2.size; simp at this; omega
            have hbb2 : Below w.heap.size w w2 := (hb.alloc hb.size _).trans (hb2.mono (by have := hb.size; simp; omega))
            have m2 : w2.heap[w.heap.size + 1]? = some (.cells #[.int .i64 65535, .int .i64 c, .int .i64 99] 133 (0, 0)) := by
              rw [hb2.block _ (by simp; omega), Below.heap_alloc _ _ _ hsz]; exact HM.out
            have M2 : Hid _ := m2
            have c2 := fun j => cell_of_row w2 (w.heap.size + 1) j _ _ _ m2
            have hlt2 : w.heap.size + 1 < w2.heap.size := by omega
            have key : ∀ W, (W = w2.alloc (.cells #[.int .i64 x.val, .int .i64 x.ver, .int .i64 x.own] 133) ∨ W = (w2.alloc (.cells #[.int .i64 x.val, .int .i64 x.ver, .int .i64 x.own] 133)).drew) → ∀ w3, Below W.heap.size W w3 →
                Below w.heap.size w w3 ∧ w3.heap[w.heap.size + 1]? = some (.cells #[.int .i64 65535, .int .i64 c, .int .i64 99] 133 (0, 0)) := by
              intro W hW w3 h3
              have hs : W.heap = (w2.alloc (.cells #[.int .i64 x.val, .int .i64 x.ver, .int .i64 x.own] 133)).heap := by rcases hW with rfl | rfl <;> rfl
              have hss : W.heap.size = w2.heap.size + 1 := by rw [hs]; simp
              have hbW : Below w.heap.size w W := by
                rcases hW with rfl | rfl
                · exact hbb2.alloc hbb2.size _
                · exact (hbb2.alloc hbb2.size _).drew
              refine ⟨hbW.trans (h3.mono hbW.size), ?_⟩
              rw [h3.block _ (by omega), hs, Below.heap_alloc _ _ _ hlt2]; exact m2
            have KEY : Hid _ := key
            clear c1 m2 a0 a1 a2 hb2 key
            by_cases hok : wOk c x = true
            · have hxy : y = x := HB.out.2 hok
              have hne : ∀ W, (Op.equalIn 10000 133 x.agg y.agg).run Try.prog W = .ok true W := fun W => by rw [eqCell x y W 9998, hxy, W3.same_self]
              clear hxy
              go_wp2_with fail
              go_region_with (go_at_call 96; refine (hct _).mono ?_; rintro e w3 ⟨rfl, hb3⟩; obtain ⟨hc3, hf3⟩ := bcell hb3)
              all_goals
                obtain ⟨hB3, hM3⟩ := KEY.out _ (by first | exact .inl rfl | exact .inr rfl) w3 hb3
                clear hc3 hf3 hb3
                go_wp2
                go_roundw
                case rel =>
                  refine ⟨k + 1, by omega, by go_num, by first | exact hB3 | exact hB3.drew, by first | exact hM3 | (rw [heap_drew]; exact hM3), fun j hj hjk => ?_⟩
                  rcases Nat.lt_succ_iff_lt_or_eq.1 hjk with h | h
                  · exact HA.out j hj h
                  · subst h; exact (congrArg (wOk c) HX.out).trans hok
                case measure => simp [intOf]; omega
            · have HF : Hid (memOk c ws = false) := memOk_word (j := k) (by omega) (by rw [HX.out]; simpa using hok)
              have hxy : ¬ x = y := fun h => hok (HB.out.1 h.symm)
              have hne : ∀ W, (Op.equalIn 10000 133 x.agg y.agg).run Try.prog W = .ok false W := fun W => by rw [eqCell x y W 9998, W3.same_not hxy]
              clear hxy hok
              go_wp2_with fail
              go_region_with (go_at_call 96; refine (hct _).mono ?_; rintro e w3 ⟨rfl, hb3⟩; obtain ⟨hc3, hf3⟩ := bcell hb3)
              all_goals
                obtain ⟨hB3, hM3⟩ := KEY.out _ (by first | exact .inl rfl | exact .inr rfl) w3 hb3
                clear hc3 hf3 hb3
                go_wp2
                go_ret
                exact ⟨ret_ok HF.out, by first | exact hB3 | exact hB3.drew⟩
          · obtain rfl : k = 8 := by omega
            have HT : Hid (memOk c ws = true) := memOk_mk ⟨h8, hc0, hc1⟩ fun j hj => hall j hj (by omega)
            clear hall h3 m1
            go_wp2
            go_ret
            exact ⟨ret_ok HT.out, hb⟩
      · have HF : Hid (memOk c ws = false) := memOk_head (fun h => hc1 h.2.2)
        clear h3
        go_enter Try.func54, Try.ntmps54
        go_wp2
        go_ret
        exact ⟨ret_ok HF.out, (Below.refl _ _).alloc (Nat.le_refl _) _⟩
    · have HF : Hid (memOk c ws = false) := memOk_head (fun h => hc0 h.2.1)
      clear h3
      go_enter Try.func54, Try.ntmps54
      go_wp2
      go_ret
      exact ⟨ret_ok HF.out, (Below.refl _ _).alloc (Nat.le_refl _) _⟩
  · have HF : Hid (memOk c ws = false) := memOk_head (fun h => h8 h.1)
    obtain ⟨n, hn⟩ : ∃ n, ws.length = n := ⟨_, rfl⟩
    rw [hn] at hm h8 ⊢
    have h8' : ((n : Int) != 8) = true := by simp; omega
    clear h3 hn h1 h2 h8
    go_enter Try.func54, Try.ntmps54
    go_wp2
    go_ret
    exact ⟨ret_ok HF.out, (Below.refl _ _).alloc (Nat.le_refl _) _⟩
end Words
end Go.Proofs.Ytpjcbdanahiapaa
