/- Both MemOk tell whether a memory is right. -/
import Derived.Test.YtpjcbdanahiapaaWordRow
import Derived.ChangeKeysEq
namespace Go.Proofs.Ytpjcbdanahiapaa
open Go.RowKit
namespace Words

/-- a word is right under a clock -/
def wOk (c : Int) (x : W3) : Bool := decide (0 ≤ x.val ∧ x.val ≤ 65535 ∧ 0 ≤ x.ver ∧ x.ver ≤ c ∧ 0 ≤ x.own ∧ x.own ≤ 99)
/-- a memory is right -/
def memOk (c : Int) (ws : List W3) : Bool := decide (ws.length = 8 ∧ 0 ≤ c ∧ c ≤ 1000000) && ws.all (wOk c)
theorem memOk_mk {c : Int} {ws : List W3} (h : ws.length = 8 ∧ 0 ≤ c ∧ c ≤ 1000000) (ha : ∀ j (h : j < ws.length), wOk c ws[j] = true) : memOk c ws = true := by
  unfold memOk
  rw [Bool.and_eq_true]
  refine ⟨decide_eq_true h, List.all_eq_true.2 fun x hx => ?_⟩
  obtain ⟨j, hj, rfl⟩ := List.mem_iff_getElem.1 hx
  exact ha j hj
theorem memOk_head {c : Int} {ws : List W3} (h : ¬ (ws.length = 8 ∧ 0 ≤ c ∧ c ≤ 1000000)) : memOk c ws = false := by unfold memOk; rw [decide_eq_false h]; rfl
theorem memOk_word {c : Int} {ws : List W3} {j : Nat} (hj : j < ws.length) (h : wOk c ws[j] = false) : memOk c ws = false := by
  unfold memOk
  rw [Bool.and_eq_false_iff]
  exact .inr (List.all_eq_false.2 ⟨ws[j], List.getElem_mem hj, by simp [h]⟩)
theorem memOk_out {c : Int} {ws : List W3} (h : memOk c ws = true) : ws.length = 8 ∧ 0 ≤ c ∧ c ≤ 1000000 ∧ ∀ j (h : j < ws.length), wOk c ws[j] = true := by
  unfold memOk at h
  rw [Bool.and_eq_true] at h
  obtain ⟨h1, h2⟩ := h
  have h1' := of_decide_eq_true h1
  exact ⟨h1'.1, h1'.2.1, h1'.2.2, fun j hj => List.all_eq_true.1 h2 _ (List.getElem_mem hj)⟩

theorem wOk_no {c : Int} {x : W3} (h : ¬ wOk c x = true) : x.val < 0 ∨ (0 ≤ x.val ∧ 65535 < x.val) ∨ (0 ≤ x.val ∧ x.val ≤ 65535 ∧ x.ver < 0) ∨ (0 ≤ x.val ∧ x.val ≤ 65535 ∧ 0 ≤ x.ver ∧ c < x.ver) ∨
    (0 ≤ x.val ∧ x.val ≤ 65535 ∧ 0 ≤ x.ver ∧ x.ver ≤ c ∧ x.own < 0) ∨ (0 ≤ x.val ∧ x.val ≤ 65535 ∧ 0 ≤ x.ver ∧ x.ver ≤ c ∧ 0 ≤ x.own ∧ 99 < x.own) := by
  have h' : ¬ (0 ≤ x.val ∧ x.val ≤ 65535 ∧ 0 ≤ x.ver ∧ x.ver ≤ c ∧ 0 ≤ x.own ∧ x.own ≤ 99) := fun h2 => h (decide_eq_true h2)
  omega
theorem cell_alloc {w : World} {b i : Nat} {v : Value} (h : w.cell? ⟨b, i, none⟩ = some v) (o : Obj) : (w.alloc o).cell? ⟨b, i, none⟩ = some v :=
  (((Below.refl w.heap.size w).alloc (Nat.le_refl _) o).cell (p := ⟨b, i, none⟩) (World.block_lt_of_cell? _ _ h)).trans h
theorem ret_ok {c : Int} {ws : List W3} {b : Bool} (h : memOk c ws = b) : Ending.returned (.bool b) = .returned (.bool (memOk c ws)) := by rw [h]

set_option maxRecDepth 100000 in
set_option maxHeartbeats 1600000 in
theorem specOk (c : Int) (v : Value) (ws : List W3) (B : Nat) (w : World) (hv : Sees B w v ws) (hB : B ≤ w.heap.size) :
    Calls Try.prog 11 #[.agg #[.int .i64 c, v]] w fun e w' => e = .returned (.bool (memOk c ws)) ∧ Below w.heap.size w w' := by
  obtain ⟨a, cap, rfl, h1, h2, h3⟩ := hv
  have hm : (ws.length : Int) ≤ 9223372036854775807 := by unfold maxLen at h2; omega
  by_cases h8 : ws.length = 8
  · rw [h8]
    clear hm h1 h2
    by_cases hc0 : 0 ≤ c
    · by_cases hc1 : c ≤ 1000000
      · go_enter Try.func11, Try.ntmps11
        go_wp2
        go_loopw [3] (fun i wr => ∃ k : Nat, k ≤ 8 ∧ i = .int .i64 k ∧ Below w.heap.size w wr ∧ wr.cell? ⟨w.heap.size, 0, none⟩ = some (.int .i64 c) ∧ wr.cell? ⟨w.heap.size, 1, none⟩ = some (.slice a 8 cap) ∧ (∀ j (h : j < ws.length), j < k → wOk c ws[j] = true)) (fun i _ => 8 - (intOf i).toNat)
        case atStart => exact ⟨0, by omega, rfl, (Below.refl _ _).alloc (Nat.le_refl _) _, by simp [World.cell?_alloc_at], by simp [World.cell?_alloc_at], fun j _ h => by omega⟩
        case round =>
          obtain ⟨k, hk, rfl, hb, m0, m1, hall⟩ := hrel
          have hsz : w.heap.size < wr.heap.size := World.block_lt_of_cell? _ _ m0
          by_cases hlt : k < 8
          · obtain ⟨b, off, rfl, hbB, hc⟩ := h3 (fun h => by simp [h] at h8)
            obtain ⟨a0, a1, a2⟩ := (hc k (by omega)).on hb (by omega)
            have hx0 : ws[k] = ws[k] := rfl
            obtain ⟨x, hx⟩ : ∃ x, ws[k] = x := ⟨_, rfl⟩
            rw [hx] at a0 a1 a2
            have HX : Hid (ws[k] = x) := hx
            have HA : Hid (∀ j (h : j < ws.length), j < k → wOk c ws[j] = true) := hall
            clear hx hc h3 hall hx0
            by_cases hok : wOk c x = true
            · have hh := of_decide_eq_true hok
              obtain ⟨q0, q1, q2, q3, q4, q5⟩ := hh
              go_wp2
              go_roundw
              case rel => exact ⟨k + 1, by omega, by go_num, hb.alloc hb.size _, cell_alloc m0 _, cell_alloc m1 _, fun j hj hjk => by
                rcases Nat.lt_succ_iff_lt_or_eq.1 hjk with h | h
                · exact HA.out j hj h
                · subst h; exact (congrArg (wOk c) HX.out).trans hok⟩
              case measure => simp [intOf]; omega
            · have HF : Hid (memOk c ws = false) := memOk_word (j := k) (by omega) (by rw [HX.out]; simpa using hok)
              have hn := wOk_no hok
              clear hok
              rcases hn with q | ⟨q0, q⟩ | ⟨q0, q1, q⟩ | ⟨q0, q1, q2, q⟩ | ⟨q0, q1, q2, q3, q⟩ | ⟨q0, q1, q2, q3, q4, q⟩
              rotate_right
              · have q' : decide (x.own ≤ 99) = false := by simpa using q
                go_wp2
                go_ret
                exact ⟨ret_ok HF.out, hb.alloc hb.size _⟩
              all_goals
                go_wp2
                go_ret
                exact ⟨ret_ok HF.out, hb.alloc hb.size _⟩
          · obtain rfl : k = 8 := by omega
            have HT : Hid (memOk c ws = true) := memOk_mk ⟨h8, hc0, hc1⟩ fun j hj => hall j hj (by omega)
            clear hall h3
            go_wp2
            go_ret
            exact ⟨ret_ok HT.out, hb⟩
      · have HF : Hid (memOk c ws = false) := memOk_head (fun h => hc1 h.2.2)
        clear h3
        go_enter Try.func11, Try.ntmps11
        go_wp2
        go_ret
        exact ⟨ret_ok HF.out, (Below.refl _ _).alloc (Nat.le_refl _) _⟩
    · have HF : Hid (memOk c ws = false) := memOk_head (fun h => hc0 h.2.1)
      clear h3
      go_enter Try.func11, Try.ntmps11
      go_wp2
      go_ret
      exact ⟨ret_ok HF.out, (Below.refl _ _).alloc (Nat.le_refl _) _⟩
  · have HF : Hid (memOk c ws = false) := memOk_head (fun h => h8 h.1)
    obtain ⟨n, hn⟩ : ∃ n, ws.length = n := ⟨_, rfl⟩
    rw [hn] at hm h8 ⊢
    have h8' : ((n : Int) != 8) = true := by simp; omega
    clear h3 hn h1 h2 h8
    go_enter Try.func11, Try.ntmps11
    go_wp2
    go_ret
    exact ⟨ret_ok HF.out, (Below.refl _ _).alloc (Nat.le_refl _) _⟩
end Words
end Go.Proofs.Ytpjcbdanahiapaa
