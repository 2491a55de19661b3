/- Several texts of one proof, in build order: IntRow, IntMark. -/
import Derived.Deep.Slices
import Derived.Test.YtppikpdphcfomaaDoorCB1
/- Integers in memory: what a slice of them reads as, and what the call owns of them; the laws' own copies, comparisons and marks. -/
namespace Go.Proofs.YtppikpdphcfomaaDoor
open Go.RowKit

theorem Tryd.infoInt : (Tryd.prog.info? 3).map (fun i => (i.zero, i.size, i.bytes)) = some (some (.int .i64 0), 1, 8) := by kernel_rfl

namespace Ints
open Bas (grownBy_trans)

def iv (zs : List Int) : List Value := zs.map (.int .i64)
theorem iv_length (zs : List Int) : (iv zs).length = zs.length := by simp [iv]
theorem iv_get (zs : List Int) (j : Nat) (h : j < zs.length) : (iv zs)[j]? = some (.int .i64 zs[j]) := by simp [iv, h]
theorem iv_one (zs : List Int) : ∀ v ∈ iv zs, v.oneCell' = true := by
  intro v hv; obtain ⟨x, _, rfl⟩ := List.mem_map.1 hv; rfl
theorem iv_append (a b : List Int) : iv (a ++ b) = iv a ++ iv b := by simp [iv]
theorem iv_set (zs : List Int) (j : Nat) (x : Int) : iv (zs.set j x) = (iv zs).set j (.int .i64 x) := by simp [iv, List.map_set]

def Sees (B : Nat) (w : World) (v : Value) (zs : List Int) : Prop :=
  ∃ a cap, v = .slice a zs.length cap ∧ zs.length ≤ cap ∧ cap ≤ maxLen ∧ (zs ≠ [] → ∃ b off, a = some ⟨b, off, none⟩ ∧ b < B ∧ ∀ j (h : j < zs.length), w.cell? ⟨b, off + j, none⟩ = some (.int .i64 zs[j]))
theorem Sees.on {B B' : Nat} {w w' : World} {v : Value} {zs : List Int} (h : Sees B w v zs) (hb : Below B' w w') (hB : B ≤ B') : Sees B w' v zs := by
  obtain ⟨a, cap, rfl, h1, h2, h3⟩ := h
  refine ⟨a, cap, rfl, h1, h2, fun hne => ?_⟩
  obtain ⟨b, off, rfl, hlt, hc⟩ := h3 hne
  exact ⟨b, off, rfl, hlt, fun j hj => (hb.cell (p := ⟨b, _, none⟩) (by show b < B'; omega)).trans (hc j hj)⟩
theorem Sees.up {B B' : Nat} {w : World} {v : Value} {zs : List Int} (h : Sees B w v zs) (hB : B ≤ B') : Sees B' w v zs := by
  obtain ⟨a, cap, rfl, h1, h2, h3⟩ := h
  refine ⟨a, cap, rfl, h1, h2, fun hne => ?_⟩
  obtain ⟨b, off, rfl, hlt, hc⟩ := h3 hne
  exact ⟨b, off, rfl, by omega, hc⟩
theorem Sees.form {B : Nat} {w : World} {v : Value} {zs : List Int} (h : Sees B w v zs) : ∃ a cap, v = .slice a zs.length cap := by
  obtain ⟨a, cap, h, -⟩ := h; exact ⟨a, cap, h⟩

def Owns (B : Nat) (w : World) (v : Value) (zs : List Int) : Prop := w.ownsRow B 3 1 v zs.length (iv zs)
theorem Owns.sees {B : Nat} {w : World} {v : Value} {zs : List Int} (h : Owns B w v zs) : Sees w.heap.size w v zs := by
  obtain ⟨h1, h2⟩ := h
  rcases h2 with ⟨rfl, h0⟩ | ⟨g, cap, cur, rfl, hB, hg, hle, hm, hsz, htk⟩
  · exact ⟨none, 0, by rw [h0], by omega, by simp, fun hne => absurd (List.eq_nil_of_length_eq_zero h0) hne⟩
  · refine ⟨_, cap, rfl, hle, hm, fun _ => ⟨g, 0, rfl, (Array.getElem?_eq_some_iff.1 hg).1, fun j hj => ?_⟩⟩
    have : w.cell? ⟨g, j, none⟩ = (iv zs)[j]? := by
      rw [← htk, List.getElem?_take, if_pos (by omega)]
      simp [World.cell?, hg]
    rw [Nat.zero_add, this, iv_get zs j hj]
theorem Owns.form {B : Nat} {w : World} {v : Value} {zs : List Int} (h : Owns B w v zs) : ∃ a cap, v = .slice a zs.length cap := h.sees.form
theorem Owns.on {B : Nat} {w w' : World} {v : Value} {zs : List Int} (h : Owns B w v zs) {B' : Nat} (hb : Below B' w w') (hB : w.heap.size ≤ B') : Owns B w' v zs := Bas.owns_on h hb hB
theorem Owns.mono {B B' : Nat} {w : World} {v : Value} {zs : List Int} (h : Owns B w v zs) (hB : B' ≤ B) : Owns B' w v zs := by
  obtain ⟨h1, h2⟩ := h
  refine ⟨h1, ?_⟩
  rcases h2 with h2 | ⟨g, cap, cur, hv, hg, hh, r⟩
  · exact .inl h2
  · exact .inr ⟨g, cap, cur, hv, by omega, hh, r⟩
theorem Owns.keep {B : Nat} {w w' : World} {v : Value} {zs : List Int} (h : Owns B w v zs) (hk : ∀ k, v.ownBlock = some k → w'.heap[k]? = w.heap[k]?) : Owns B w' v zs := by
  obtain ⟨h1, h2⟩ := h
  refine ⟨h1, ?_⟩
  rcases h2 with h2 | ⟨g, cap, cur, rfl, hg, hh, r⟩
  · exact .inl h2
  · exact .inr ⟨g, cap, cur, rfl, hg, by rw [hk g rfl]; exact hh, r⟩
theorem Owns.at {B : Nat} {w : World} {v : Value} {zs : List Int} (h : Owns B w v zs) : ∀ k, v.ownBlock = some k → B ≤ k ∧ k < w.heap.size := by
  intro k hk
  obtain ⟨h1, h2⟩ := h
  rcases h2 with ⟨rfl, h0⟩ | ⟨g, cap, cur, rfl, hg, hh, r⟩
  · cases hk
  · cases hk; exact ⟨hg, (Array.getElem?_eq_some_iff.1 hh).1⟩
theorem Owns.grown {B : Nat} {w w' : World} {v : Value} {zs : List Int} (h : Owns B w v zs) {row : Option Nat} (hg : w.grownBy w' row) (hr : ∀ k, v.ownBlock = some k → some k ≠ row) : Owns B w' v zs :=
  h.keep fun k hk => hg.block k (h.at k hk).2 (hr k hk)
theorem Sees.grown {B : Nat} {W W' : World} {v : Value} {zs : List Int} (h : Sees B W v zs) {row : Option Nat} (hg : W.grownBy W' row) (hB : B ≤ W.heap.size) (hr : ∀ k, row = some k → B ≤ k) : Sees B W' v zs :=
  h.on (B' := B) ((Below.refl B W).grown hg hB hr) (Nat.le_refl _)

theorem makeI (n : Nat) (h : n ≤ 1048576) (w : World) (B : Nat) (hB : B ≤ w.heap.size) : ∃ w1, Below B w w1 ∧ w.heap.size < w1.heap.size ∧
    (Instr.makeSlice 26 (.int .i64 (n : Int)) (.int .i64 (n : Int))).run Tryd.prog w = .ok (.slice (some ⟨w.heap.size, 0, none⟩) n n) w1 ∧
    w1.ownsRow w.heap.size 3 1 (.slice (some ⟨w.heap.size, 0, none⟩) n n) n (iv (List.replicate n 0)) := by
  obtain ⟨i, hi, hz, hs, hb⟩ := info_parts Tryd.infoInt
  obtain ⟨w1, h1, h2, h3⟩ := run_make_full (P := Tryd.prog) w w.heap.size 26 3 i _ 1 Tryd.underlying26 hi hz hs .i64 .i64 n (by rw [hb]; omega) (by unfold maxLen; omega) (Nat.le_refl _)
  refine ⟨w1, (Below.refl _ _).grown h3 hB (fun k hk => by cases hk), ?_, h1, ?_⟩
  · obtain ⟨-, h4⟩ := h2
    rcases h4 with ⟨h4, -⟩ | ⟨g, cap, cur, h4, -, hg, -⟩
    · cases h4
    · cases h4; exact (Array.getElem?_eq_some_iff.1 hg).1
  · have e : (madeCells (Value.int .i64 0).cells (n * 1)).toList = iv (List.replicate n 0) := by
      rw [show (Value.int .i64 0).cells = #[.int .i64 0] from rfl, Nat.mul_one, toList_madeCells_one]; simp [iv]
    rw [← e]; exact h2

/-- numbers put so far, noughts behind -/
def pad (zs : List Int) (k : Nat) : List Int := zs.take k ++ List.replicate (zs.length - k) 0
theorem pad_zero (zs : List Int) : pad zs 0 = List.replicate zs.length 0 := by simp [pad]
theorem pad_full (zs : List Int) : pad zs zs.length = zs := by simp [pad]
theorem pad_length (zs : List Int) (k : Nat) (h : k ≤ zs.length) : (pad zs k).length = zs.length := by simp [pad]; omega
theorem pad_set (zs : List Int) (k : Nat) (h : k < zs.length) : (pad zs k).set k zs[k] = pad zs (k + 1) := by
  unfold pad
  have e : List.replicate (zs.length - k) (0 : Int) = 0 :: List.replicate (zs.length - (k + 1)) 0 := by
    rw [show zs.length - k = (zs.length - (k + 1)) + 1 by omega, List.replicate_succ]
  have hl : (zs.take k).length = k := by simp; omega
  rw [e, List.set_append_right _ _ (by omega), hl, Nat.sub_self, List.set_cons_zero, List.take_succ_eq_append_getElem h, List.append_assoc]
  rfl
theorem owns_set {B g n cap : Nat} {w : World} {zs : List Int} (h : w.ownsRow B 3 1 (.slice (some ⟨g, 0, none⟩) n cap) n (iv zs)) (j : Nat) (x : Int) :
    (w.setCell ⟨g, j, none⟩ (.int .i64 x)).ownsRow B 3 1 (.slice (some ⟨g, 0, none⟩) n cap) n (iv (zs.set j x)) := by
  rw [iv_set]; exact (h.stored _ _).1
theorem owns_at {B g n cap : Nat} {w : World} {zs : List Int} (h : w.ownsRow B 3 1 (.slice (some ⟨g, 0, none⟩) n cap) n (iv zs)) (j : Nat) (hj : j < zs.length) : w.cell? ⟨g, j, none⟩ = some (.int .i64 zs[j]) := by
  have hl : zs.length = n := by have := h.1; rw [iv_length] at this; omega
  rw [h.cellAt _ (by omega), iv_get zs j hj]

set_option maxRecDepth 100000 in
set_option maxHeartbeats 800000 in
theorem toIntsC (v : Value) (zs : List Int) (B : Nat) (w : World) (hv : Sees B w v zs) (hB : B ≤ w.heap.size) (hlen : zs.length ≤ 1048576) :
    Calls Tryd.prog 31 #[v] w fun e w' => ∃ v', e = .returned v' ∧ Owns w.heap.size w' v' zs ∧ Below w.heap.size w w' := by
  obtain ⟨a, cap, rfl, h1, h2, h3⟩ := hv
  obtain ⟨n, hn⟩ : ∃ n, zs.length = n := ⟨_, rfl⟩
  rw [hn] at h1 hlen ⊢
  obtain ⟨w1, hB1, hs1, hmk, hO⟩ := makeI n hlen w w.heap.size (Nat.le_refl _)
  obtain ⟨g, hg⟩ : ∃ g, w.heap.size = g := ⟨_, rfl⟩
  rw [hg] at hmk hO hB1 hs1 hB ⊢
  go_enter Tryd.func31, Tryd.ntmps31
  go_wp2
  go_loopw [4] (fun i wr => ∃ k : Nat, k ≤ n ∧ i = .int .i64 k ∧ wr.ownsRow g 3 1 (.slice (some ⟨g, 0, none⟩) n n) n (iv (pad zs k)) ∧ Below g w wr) (fun i _ => n - (intOf i).toNat)
  case atStart => exact ⟨0, Nat.zero_le _, rfl, by rw [pad_zero, hn]; exact hO, hB1⟩
  case round =>
    obtain ⟨k, hk, rfl, hR, hb⟩ := hrel
    clear hmk hO hB1 hs1
    by_cases hlt : k < n
    · obtain ⟨b, off, rfl, hbB, hc⟩ := h3 (fun h => by simp [h] at hn; omega)
      have a0 := (hb.cell (p := ⟨b, off + k, none⟩) (by show b < g; omega)).trans (hc k (by omega))
      obtain ⟨x, hx⟩ : ∃ x, zs[k] = x := ⟨_, rfl⟩
      have HP : Hid ((pad zs k).set k x = pad zs (k + 1)) := by rw [← hx]; exact pad_set zs k (by omega)
      have hpl : (pad zs k).length = n := by rw [pad_length zs k (by omega)]; exact hn
      rw [hx] at a0
      have c0 := owns_at hR k (by omega)
      have hfz := fun j => hR.frozenAt j
      clear hx hc h3
      go_wp2
      have hR3 := owns_set hR k x
      rw [HP.out] at hR3
      go_roundw
      case rel => exact ⟨k + 1, by omega, by go_num, hR3, hb.setCell (Nat.le_refl _) _⟩
      case measure => simp [intOf]; omega
    · obtain rfl : k = n := by omega
      go_wp2
      go_ret
      rw [← hn, pad_full] at hR
      exact ⟨_, rfl, hn ▸ hR, hb⟩

set_option maxRecDepth 100000 in
set_option maxHeartbeats 800000 in
theorem eqIntsC (v v' : Value) (zs : List Int) (B : Nat) (w : World) (hv : Sees B w v zs) (hv' : Sees B w v' zs) (hB : B ≤ w.heap.size) :
    Calls Tryd.prog 45 #[v, v'] w fun e w' => e = .returned (.bool true) ∧ Below w.heap.size w w' := by
  obtain ⟨a, cap, rfl, h1, h2, h3⟩ := hv
  obtain ⟨a', cap', rfl, h1', h2', h3'⟩ := hv'
  obtain ⟨n, hn⟩ : ∃ n, zs.length = n := ⟨_, rfl⟩
  have hm : (n : Int) ≤ 9223372036854775807 := by unfold maxLen at h2; omega
  rw [hn]
  obtain ⟨g, hg⟩ : ∃ g, w.heap.size = g := ⟨_, rfl⟩
  rw [hg] at hB ⊢
  clear h1 h2 h1' h2'
  go_enter Tryd.func45, Tryd.ntmps45
  go_wp2
  go_loopw [5] (fun i wr => ∃ k : Nat, k ≤ n ∧ i = .int .i64 k ∧ Below g w wr) (fun i _ => n - (intOf i).toNat)
  case atStart => exact ⟨0, Nat.zero_le _, rfl, Below.refl _ _⟩
  case round =>
    obtain ⟨k, hk, rfl, hb⟩ := hrel
    by_cases hlt : k < n
    · obtain ⟨b, off, rfl, hbB, hc⟩ := h3 (fun h => by simp [h] at hn; omega)
      obtain ⟨b', off', rfl, hbB', hc'⟩ := h3' (fun h => by simp [h] at hn; omega)
      have a0 := (hb.cell (p := ⟨b, off + k, none⟩) (by show b < g; omega)).trans (hc k (by omega))
      have a0' := (hb.cell (p := ⟨b', off' + k, none⟩) (by show b' < g; omega)).trans (hc' k (by omega))
      obtain ⟨x, hx⟩ : ∃ x, zs[k] = x := ⟨_, rfl⟩
      rw [hx] at a0 a0'
      clear hx hc h3 hc' h3'
      go_wp2_with fail
      go_region
      all_goals
        go_wp2
        go_roundw
        case rel => exact ⟨k + 1, by omega, by go_num, by first | exact hb.drew | exact hb.drew.drew | exact hb⟩
        case measure => simp [intOf]; omega
    · obtain rfl : k = n := by omega
      go_wp2
      go_ret
      exact ⟨rfl, hb⟩

/-- marks so far, the old numbers behind -/
def mark (i : Nat) : Int := 1 + (i : Int)
def marked (zs : List Int) (k : Nat) : List Int := (List.range k).map mark ++ zs.drop k
def marks (n : Nat) : List Int := (List.range n).map mark
theorem marked_zero (zs : List Int) : marked zs 0 = zs := by simp [marked]
theorem marked_full (zs : List Int) : marked zs zs.length = marks zs.length := by simp [marked, marks]
theorem marked_length (zs : List Int) (k : Nat) (h : k ≤ zs.length) : (marked zs k).length = zs.length := by simp [marked]; omega
theorem marked_set (zs : List Int) (k : Nat) (h : k < zs.length) : (marked zs k).set k (mark k) = marked zs (k + 1) := by
  unfold marked
  have hl : ((List.range k).map mark).length = k := by simp
  rw [List.drop_eq_getElem_cons h, List.set_append_right _ _ (by omega), hl, Nat.sub_self, List.set_cons_zero, List.range_succ, List.map_append, List.append_assoc]
  rfl
theorem marks_get (n k : Nat) (h : k < (marks n).length) : (marks n)[k] = mark k := by simp [marks]
theorem marks_length (n : Nat) : (marks n).length = n := by simp [marks]

set_option maxRecDepth 100000 in
set_option maxHeartbeats 800000 in
theorem markIntsC (v : Value) (zs : List Int) (B : Nat) (w : World) (hv : Owns B w v zs) (hlen : zs.length ≤ 1048576) :
    Calls Tryd.prog 48 #[v, .int .i64 1] w fun e w' => e = .returned (.int .i64 (1 + (zs.length : Int))) ∧ Owns B w' v (marks zs.length) ∧ w.grownBy w' v.ownBlock := by
  obtain ⟨n, hn⟩ : ∃ n, zs.length = n := ⟨_, rfl⟩
  obtain ⟨hv1, hv2⟩ := id hv
  rcases hv2 with ⟨rfl, h0⟩ | ⟨g, cap, cur, rfl, hBg, hg, hle, hm, -, -⟩
  · obtain rfl : zs = [] := List.eq_nil_of_length_eq_zero h0
    clear hn hv1 h0
    go_enter Tryd.func48, Tryd.ntmps48
    go_wp2
    go_loop [1, 5] (fun q i => q = .int .i64 1 ∧ i = .int .i64 0) (fun _ _ => 0)
    case atStart => exact ⟨rfl, rfl⟩
    case round =>
      obtain ⟨rfl, rfl⟩ := hrel
      go_wp2
      go_ret
      exact ⟨rfl, hv, ⟨rfl, rfl, rfl, Nat.le_refl _, fun _ _ _ => rfl⟩⟩
  · unfold Owns at hv
    rw [hn] at hv hlen hle ⊢
    clear hv1 hg hm
    go_enter Tryd.func48, Tryd.ntmps48
    go_wp2
    go_loopw [1, 5] (fun q i wr => ∃ k : Nat, k ≤ n ∧ q = .int .i64 (1 + (k : Int)) ∧ i = .int .i64 k ∧ wr.ownsRow B 3 1 (.slice (some ⟨g, 0, none⟩) n cap) n (iv (marked zs k)) ∧ w.grownBy wr (some g)) (fun _ i _ => n - (intOf i).toNat)
    case atStart => exact ⟨0, Nat.zero_le _, rfl, rfl, by rw [marked_zero]; exact hv, ⟨rfl, rfl, rfl, Nat.le_refl _, fun _ _ _ => rfl⟩⟩
    case round =>
      obtain ⟨k, hk, rfl, rfl, hR, hgr⟩ := hrel
      by_cases hlt : k < n
      · have hpl : (marked zs k).length = n := by rw [marked_length zs k (by omega)]; exact hn
        have HP : Hid ((marked zs k).set k (mark k) = marked zs (k + 1)) := marked_set zs k (by omega)
        have c0 := owns_at hR k (by omega)
        have hfz := fun j => hR.frozenAt j
        go_wp2
        have hR3 := owns_set hR k (mark k)
        rw [HP.out] at hR3
        unfold mark at hR3
        have t1 := (hR.stored k (.int .i64 (1 + (k : Int)))).2
        go_roundw
        case rel => exact ⟨k + 1, by omega, by go_num, by go_num, hR3, grownBy_trans hgr t1⟩
        case measure => simp [intOf]; omega
      · obtain rfl : k = n := by omega
        go_wp2
        go_ret
        rw [← hn, marked_full, hn] at hR
        refine ⟨rfl, ?_, hgr⟩
        unfold Owns
        rw [marks_length]
        exact hR

set_option maxRecDepth 100000 in
set_option maxHeartbeats 800000 in
theorem heldIntsC (v : Value) (n : Nat) (B : Nat) (w : World) (hv : Sees B w v (marks n)) (hlen : n ≤ 1048576) :
    Calls Tryd.prog 51 #[v, .int .i64 1] w fun e w' => e = .returned (.int .i64 (1 + (n : Int))) ∧ w = w' := by
  obtain ⟨a, cap, rfl, h1, h2, h3⟩ := hv
  rw [marks_length]
  clear h1 h2
  go_enter Tryd.func51, Tryd.ntmps51
  go_wp2
  go_loop [1, 5] (fun q i => ∃ k : Nat, k ≤ n ∧ q = .int .i64 (1 + (k : Int)) ∧ i = .int .i64 k) (fun _ i => n - (intOf i).toNat)
  case atStart => exact ⟨0, Nat.zero_le _, rfl, rfl⟩
  case round =>
    obtain ⟨k, hk, rfl, rfl⟩ := hrel
    by_cases hlt : k < n
    · obtain ⟨b, off, rfl, hbB, hc⟩ := h3 (fun h => by have := congrArg List.length h; rw [marks_length] at this; simp at this; omega)
      have a0 := hc k (by rw [marks_length]; omega)
      simp only [marks_get, mark] at a0
      clear hc h3
      go_wp2
      go_round
      case rel => exact ⟨k + 1, by omega, by go_num, by go_num⟩
      case measure => simp [intOf]; omega
    · obtain rfl : k = n := by omega
      go_wp2
      go_ret
      exact ⟨rfl, rfl⟩

/- what the frames tell of a slice of ints -/
section
open Go.ChangeShapes Go.WideShapes Go.Deep
variable {H : Type} {enc : TypeId × Value → H} {W : World}
set_option maxRecDepth 100000 in
theorem openInts {r : Reach} {b0 : Nat} {v : Value} {d : DataW H} {p : List MemPlace} (hv : Value.okWide Tryd.prog W r b0 26 v) (h : DataW.Trod enc Tryd.prog W 0 (fun _ => true) true 26 v d p) :
    ∃ zs, Sees W.heap.size W v zs := by
  obtain ⟨a, len, cap, rfl⟩ := okWide_slice Tryd.underlying26 hv
  obtain ⟨fuel, hf⟩ := h
  rcases open_ints Tryd.underlying26 Tryd.underlying3 (by kernel_rfl) hf with ⟨hcs, _⟩ | ⟨x, l, c, zs, hcs, _, hl, hm, hz, _, hcell, hwz⟩
  · simp [Value.cells] at hcs
    obtain ⟨rfl, rfl, rfl⟩ := hcs
    exact ⟨[], none, 0, rfl, Nat.zero_le _, by simp, fun h => absurd rfl h⟩
  · simp [Value.cells] at hcs
    obtain ⟨rfl, rfl, rfl⟩ := hcs
    have hz' : zs.length = cap := by simpa using hz
    have hln : (zs.take len).length = len := by simp; omega
    refine ⟨zs.take len, some x, cap, by rw [hln], by rw [hln]; exact hl, hm, fun hne => ?_⟩
    have hpos : 0 < len := by
      rcases Nat.eq_zero_or_pos len with h0 | h0
      · subst h0; simp at hne
      · exact h0
    obtain ⟨b, off, spot⟩ := x
    have h0 := hcell 0 (by omega)
    have hspot : spot = none := by simpa [Addr.add] using World.cell?_spot h0
    subst hspot
    have hb : b < W.heap.size := by
      have := World.block_lt_of_cell? _ _ h0
      simpa [Addr.add] using this
    refine ⟨b, off, rfl, hb, fun j hj => ?_⟩
    have ha : ∀ i, (⟨b, off, none⟩ : Addr).add i = ⟨b, off + i, none⟩ := fun i => by unfold Addr.add; split <;> simp_all
    have hj' : j < zs.length := by omega
    have hc := hcell j hj'
    rw [ha] at hc
    have hg : zs.getD j 0 = zs[j] := by simp [List.getD, hj']
    rw [hc, hg, List.getElem_take]
end
end Ints
end Go.Proofs.YtppikpdphcfomaaDoor
/- Marks on rows of numbers, from any number on. -/
set_option linter.unusedVariables false
set_option linter.unusedSimpArgs false
namespace Go.Proofs.YtppikpdphcfomaaDoor
open Go.RowKit
namespace Ints
open Bas (grownBy_trans)
def markK (k0 : Int) (i : Nat) : Int := k0 + (i : Int)
def markedK (zs : List Int) (k0 : Int) (k : Nat) : List Int := (List.range k).map (markK k0) ++ zs.drop k
def marksK (k0 : Int) (n : Nat) : List Int := (List.range n).map (markK k0)
theorem markedK_zero (zs : List Int) (k0 : Int) : markedK zs k0 0 = zs := by simp [markedK]
theorem markedK_full (zs : List Int) (k0 : Int) : markedK zs k0 zs.length = marksK k0 zs.length := by simp [markedK, marksK]
theorem markedK_length (zs : List Int) (k0 : Int) (k : Nat) (h : k ≤ zs.length) : (markedK zs k0 k).length = zs.length := by simp [markedK]; omega
theorem markedK_set (zs : List Int) (k0 : Int) (k : Nat) (h : k < zs.length) : (markedK zs k0 k).set k (markK k0 k) = markedK zs k0 (k + 1) := by
  unfold markedK
  have hl : ((List.range k).map (markK k0)).length = k := by simp
  rw [List.drop_eq_getElem_cons h, List.set_append_right _ _ (by omega), hl, Nat.sub_self, List.set_cons_zero, List.range_succ, List.map_append, List.append_assoc]
  rfl
theorem marksK_get (k0 : Int) (n k : Nat) (h : k < (marksK k0 n).length) : (marksK k0 n)[k] = markK k0 k := by simp [marksK]
theorem marksK_length (k0 : Int) (n : Nat) : (marksK k0 n).length = n := by simp [marksK]

set_option maxRecDepth 100000 in
set_option maxHeartbeats 800000 in
theorem markIntsK (v : Value) (zs : List Int) (k0 : Int) (h0 : 0 ≤ k0) (h1' : k0 ≤ 4000000000000000000) (B : Nat) (w : World) (hv : Owns B w v zs) (hlen : zs.length ≤ 1048576) :
    Calls Tryd.prog 48 #[v, .int .i64 k0] w fun e w' => e = .returned (.int .i64 (k0 + (zs.length : Int))) ∧ Owns B w' v (marksK k0 zs.length) ∧ w.grownBy w' v.ownBlock := by
  obtain ⟨n, hn⟩ : ∃ n, zs.length = n := ⟨_, rfl⟩
  obtain ⟨hv1, hv2⟩ := id hv
  rcases hv2 with ⟨rfl, h0⟩ | ⟨g, cap, cur, rfl, hBg, hg, hle, hm, -, -⟩
  · obtain rfl : zs = [] := List.eq_nil_of_length_eq_zero h0
    clear hn hv1 h0
    go_enter Tryd.func48, Tryd.ntmps48
    go_wp2
    go_loop [1, 5] (fun q i => q = .int .i64 k0 ∧ i = .int .i64 0) (fun _ _ => 0)
    case atStart => exact ⟨rfl, rfl⟩
    case round =>
      obtain ⟨rfl, rfl⟩ := hrel
      go_wp2
      go_ret
      exact ⟨rfl, hv, ⟨rfl, rfl, rfl, Nat.le_refl _, fun _ _ _ => rfl⟩⟩
  · unfold Owns at hv
    rw [hn] at hv hlen hle ⊢
    clear hv1 hg hm
    go_enter Tryd.func48, Tryd.ntmps48
    go_wp2
    go_loopw [1, 5] (fun q i wr => ∃ k : Nat, k ≤ n ∧ q = .int .i64 (k0 + (k : Int)) ∧ i = .int .i64 k ∧ wr.ownsRow B 3 1 (.slice (some ⟨g, 0, none⟩) n cap) n (iv (markedK zs k0 k)) ∧ w.grownBy wr (some g)) (fun _ i _ => n - (intOf i).toNat)
    case atStart => exact ⟨0, Nat.zero_le _, by simp, rfl, by rw [markedK_zero]; exact hv, ⟨rfl, rfl, rfl, Nat.le_refl _, fun _ _ _ => rfl⟩⟩
    case round =>
      obtain ⟨k, hk, rfl, rfl, hR, hgr⟩ := hrel
      by_cases hlt : k < n
      · have hpl : (markedK zs k0 k).length = n := by rw [markedK_length zs k0 k (by omega)]; exact hn
        have HP : Hid ((markedK zs k0 k).set k (markK k0 k) = markedK zs k0 (k + 1)) := markedK_set zs k0 k (by omega)
        have c0 := owns_at hR k (by omega)
        have hfz := fun j => hR.frozenAt j
        go_wp2
        have hR3 := owns_set hR k (markK k0 k)
        rw [HP.out] at hR3
        unfold markK at hR3
        have t1 := (hR.stored k (.int .i64 (k0 + (k : Int)))).2
        go_roundw
        case rel => exact ⟨k + 1, by omega, by go_num, by go_num, hR3, grownBy_trans hgr t1⟩
        case measure => simp [intOf]; omega
      · obtain rfl : k = n := by omega
        go_wp2
        go_ret
        rw [← hn, markedK_full, hn] at hR
        refine ⟨rfl, ?_, hgr⟩
        unfold Owns
        rw [marksK_length]
        exact hR

set_option maxRecDepth 100000 in
set_option maxHeartbeats 800000 in
theorem heldIntsK (v : Value) (n : Nat) (k0 : Int) (h0 : 0 ≤ k0) (h1' : k0 ≤ 1000000000) (B : Nat) (w : World) (hv : Sees B w v (marksK k0 n)) (hlen : n ≤ 1048576) :
    Calls Tryd.prog 51 #[v, .int .i64 k0] w fun e w' => e = .returned (.int .i64 (k0 + (n : Int))) ∧ w = w' := by
  obtain ⟨a, cap, rfl, h1, h2, h3⟩ := hv
  rw [marksK_length]
  clear h1 h2
  go_enter Tryd.func51, Tryd.ntmps51
  go_wp2
  go_loop [1, 5] (fun q i => ∃ k : Nat, k ≤ n ∧ q = .int .i64 (k0 + (k : Int)) ∧ i = .int .i64 k) (fun _ i => n - (intOf i).toNat)
  case atStart => exact ⟨0, Nat.zero_le _, by simp, rfl⟩
  case round =>
    obtain ⟨k, hk, rfl, rfl⟩ := hrel
    by_cases hlt : k < n
    · obtain ⟨b, off, rfl, hbB, hc⟩ := h3 (fun h => by have := congrArg List.length h; rw [marksK_length] at this; simp at this; omega)
      have a0 := hc k (by rw [marksK_length]; omega)
      simp only [marksK_get, markK] at a0
      clear hc h3
      go_wp2
      go_round
      case rel => exact ⟨k + 1, by omega, by go_num, by go_num⟩
      case measure => simp [intOf]; omega
    · obtain rfl : k = n := by omega
      go_wp2
      go_ret
      exact ⟨rfl, rfl⟩
end Ints
end Go.Proofs.YtppikpdphcfomaaDoor
