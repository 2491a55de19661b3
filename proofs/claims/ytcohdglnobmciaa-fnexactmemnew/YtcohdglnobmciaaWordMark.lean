/- The laws' own marks in a memory, and that they are held. -/
import Derived.Test.YtcohdglnobmciaaWordTo
namespace Go.Proofs.Ytcohdglnobmciaa
open Go.RowKit
namespace Words

def mark (i : Nat) : W3 := ⟨1 + 3 * (i : Int), 1 + 3 * (i : Int) + 1, 1 + 3 * (i : Int) + 1 + 1⟩
/-- marks so far, the old words behind -/
def marked (ws : List W3) (k : Nat) : List W3 := (List.range k).map mark ++ ws.drop k
def marks (n : Nat) : List W3 := (List.range n).map mark
theorem marked_zero (ws : List W3) : marked ws 0 = ws := by simp [marked]
theorem marked_full (ws : List W3) : marked ws ws.length = marks ws.length := by simp [marked, marks]
theorem marked_length (ws : List W3) (k : Nat) (h : k ≤ ws.length) : (marked ws k).length = ws.length := by simp [marked]; omega
theorem marked_set (ws : List W3) (k : Nat) (h : k < ws.length) : (marked ws k).set k (mark k) = marked ws (k + 1) := by
  unfold marked
  have hl : ((List.range k).map mark).length = k := by simp
  rw [List.drop_eq_getElem_cons h, List.set_append_right _ _ (by omega), hl, Nat.sub_self, List.set_cons_zero, List.range_succ, List.map_append, List.append_assoc]
  rfl
theorem grownBy_trans {w w1 w2 : World} {row : Option Nat} (h : w.grownBy w1 row) (k : w1.grownBy w2 row) : w.grownBy w2 row :=
  ⟨k.os.trans h.os, k.tape.trans h.tape, k.output.trans h.output, Nat.le_trans h.size k.size, fun i hi hn => (k.block i (Nat.lt_of_lt_of_le hi h.size) hn).trans (h.block i hi hn)⟩
theorem marks_get (n k : Nat) (h : k < (marks n).length) : (marks n)[k] = mark k := by simp [marks]
theorem marks_length (n : Nat) : (marks n).length = n := by simp [marks]

set_option maxRecDepth 100000 in
set_option maxHeartbeats 800000 in
theorem markWordsC (v : Value) (ws : List W3) (B : Nat) (w : World) (hv : Owns B w v ws) (hlen : ws.length ≤ 1048576) :
    Calls Try.prog 33 #[v, .int .i64 1] w fun e w' => e = .returned (.int .i64 (1 + 3 * (ws.length : Int))) ∧ Owns B w' v (marks ws.length) ∧ w.grownBy w' v.ownBlock := by
  obtain ⟨n, hn⟩ : ∃ n, ws.length = n := ⟨_, rfl⟩
  obtain ⟨hv1, hv2⟩ := id hv
  rcases hv2 with ⟨rfl, h0⟩ | ⟨g, cap, cur, rfl, hBg, hg, hle, hm, -, -⟩
  · obtain rfl : ws = [] := List.eq_nil_of_length_eq_zero h0
    clear hn hv1 h0
    go_enter Try.func33, Try.ntmps33
    go_wp2
    go_loop [1, 5] (fun q i => q = .int .i64 1 ∧ i = .int .i64 0) (fun _ _ => 0)
    case atStart => exact ⟨rfl, rfl⟩
    case round =>
      obtain ⟨rfl, rfl⟩ := hrel
      go_wp2
      go_ret
      exact ⟨rfl, hv, ⟨rfl, rfl, rfl, Nat.le_refl _, fun _ _ _ => rfl⟩⟩
  · unfold Owns at hv
    rw [hn] at hv hlen hle ⊢
    clear hv1 hg hm
    go_enter Try.func33, Try.ntmps33
    go_wp2
    go_loopw [1, 5] (fun q i wr => ∃ k : Nat, k ≤ n ∧ q = .int .i64 (1 + 3 * (k : Int)) ∧ i = .int .i64 k ∧ wr.ownsRow B 47 3 (.slice (some ⟨g, 0, none⟩) n cap) n (wv (marked ws k)) ∧ w.grownBy wr (some g)) (fun _ i _ => n - (intOf i).toNat)
    case atStart => exact ⟨0, Nat.zero_le _, rfl, rfl, by rw [marked_zero]; exact hv, ⟨rfl, rfl, rfl, Nat.le_refl _, fun _ _ _ => rfl⟩⟩
    case round =>
      obtain ⟨k, hk, rfl, rfl, hR, hgr⟩ := hrel
      by_cases hlt : k < n
      · have hpl : (marked ws k).length = n := by rw [marked_length ws k (by omega)]; exact hn
        have HP : Hid ((marked ws k).set k (mark k) = marked ws (k + 1)) := marked_set ws k (by omega)
        obtain ⟨c0, c1, c2⟩ := owns_at hR k (by omega)
        have hfz := fun j => hR.frozenAt j
        go_wp2
        have hR3 := owns_set3 hR k (mark k)
        rw [HP.out] at hR3
        unfold set3 mark at hR3
        have s1 := (hR.stored (k * 3) (.int .i64 (1 + 3 * (k : Int)))).1
        have s2 := (s1.stored (k * 3 + 1) (.int .i64 (1 + 3 * (k : Int) + 1))).1
        have t1 := (hR.stored (k * 3) (.int .i64 (1 + 3 * (k : Int)))).2
        have t2 := (s1.stored (k * 3 + 1) (.int .i64 (1 + 3 * (k : Int) + 1))).2
        have t3 := (s2.stored (k * 3 + 2) (.int .i64 (1 + 3 * (k : Int) + 1 + 1))).2
        go_roundw
        case rel => exact ⟨k + 1, by omega, by go_num, by go_num, hR3, grownBy_trans (grownBy_trans (grownBy_trans hgr t1) t2) t3⟩
        case measure => simp [intOf]; omega
      · obtain rfl : k = n := by omega
        go_wp2
        go_ret
        rw [← hn, marked_full, hn] at hR
        refine ⟨rfl, ?_, hgr⟩
        unfold Owns
        rw [marks_length]
        exact hR

set_option maxRecDepth 100000 in
set_option maxHeartbeats 800000 in
theorem heldWordsC (v : Value) (n : Nat) (B : Nat) (w : World) (hv : Sees B w v (marks n)) (hlen : n ≤ 1048576) :
    Calls Try.prog 34 #[v, .int .i64 1] w fun e w' => e = .returned (.int .i64 (1 + 3 * (n : Int))) ∧ w = w' := by
  obtain ⟨a, cap, rfl, h1, h2, h3⟩ := hv
  rw [marks_length]
  clear h1 h2
  go_enter Try.func34, Try.ntmps34
  go_wp2
  go_loop [1, 5] (fun q i => ∃ k : Nat, k ≤ n ∧ q = .int .i64 (1 + 3 * (k : Int)) ∧ i = .int .i64 k) (fun _ i => n - (intOf i).toNat)
  case atStart => exact ⟨0, Nat.zero_le _, rfl, rfl⟩
  case round =>
    obtain ⟨k, hk, rfl, rfl⟩ := hrel
    by_cases hlt : k < n
    · obtain ⟨b, off, rfl, hbB, hc⟩ := h3 (fun h => by have := congrArg List.length h; rw [marks_length] at this; simp at this; omega)
      obtain ⟨a0, a1, a2⟩ := hc k (by rw [marks_length]; omega)
      simp only [marks_get, mark] at a0 a1 a2
      clear hc h3
      go_wp2
      go_round
      case rel => exact ⟨k + 1, by omega, by go_num, by go_num⟩
      case measure => simp [intOf]; omega
    · obtain rfl : k = n := by omega
      go_wp2
      go_ret
      exact ⟨rfl, rfl⟩
end Words
end Go.Proofs.Ytcohdglnobmciaa
