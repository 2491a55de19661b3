/- Several texts of one proof, in build order: IntRow, IntCopy, CalcL, SerialL, IntApp, Take, ThRow. -/
import Derived.Deep.Slices
import Derived.Deep.Upon
import Derived.Deep.RegionHeld3
import Derived.Test.YtajbmokidcdfnaaSB1
import Derived.Test.YtajbmokidcdfnaaSB2
/- Integers in memory: what a slice of them reads as, and what the call owns of them; the laws' own copies, comparisons and marks. -/
namespace Go.Proofs.Ytajbmokidcdfnaa
open Go.RowKit

theorem Try.infoInt : (Try.prog.info? 3).map (fun i => (i.zero, i.size, i.bytes)) = some (some (.int .i64 0), 1, 8) := by kernel_rfl

namespace Ints
open Bas (grownBy_trans)

def iv (zs : List Int) : List Value := zs.map (.int .i64)
theorem iv_length (zs : List Int) : (iv zs).length = zs.length := by simp [iv]
theorem iv_get (zs : List Int) (j : Nat) (h : j < zs.length) : (iv zs)[j]? = some (.int .i64 zs[j]) := by simp [iv, h]
theorem iv_one (zs : List Int) : ∀ v ∈ iv zs, v.oneCell' = true := by
  intro v hv; obtain ⟨x, _, rfl⟩ := List.mem_map.1 hv; rfl
theorem iv_append (a b : List Int) : iv (a ++ b) = iv a ++ iv b := by simp [iv]
theorem iv_set (zs : List Int) (j : Nat) (x : Int) : iv (zs.set j x) = (iv zs).set j (.int .i64 x) := by simp [iv, List.map_set]

def Sees (B : Nat) (w : World) (v : Value) (zs : List Int) : Prop :=
  ∃ a cap, v = .slice a zs.length cap ∧ zs.length ≤ cap ∧ cap ≤ maxLen ∧ (zs ≠ [] → ∃ b off, a = some ⟨b, off, none⟩ ∧ b < B ∧ ∀ j (h : j < zs.length), w.cell? ⟨b, off + j, none⟩ = some (.int .i64 zs[j]))
theorem Sees.on {B B' : Nat} {w w' : World} {v : Value} {zs : List Int} (h : Sees B w v zs) (hb : Below B' w w') (hB : B ≤ B') : Sees B w' v zs := by
  obtain ⟨a, cap, rfl, h1, h2, h3⟩ := h
  refine ⟨a, cap, rfl, h1, h2, fun hne => ?_⟩
  obtain ⟨b, off, rfl, hlt, hc⟩ := h3 hne
  exact ⟨b, off, rfl, hlt, fun j hj => (hb.cell (p := ⟨b, _, none⟩) (by show b < B'; omega)).trans (hc j hj)⟩
theorem Sees.up {B B' : Nat} {w : World} {v : Value} {zs : List Int} (h : Sees B w v zs) (hB : B ≤ B') : Sees B' w v zs := by
  obtain ⟨a, cap, rfl, h1, h2, h3⟩ := h
  refine ⟨a, cap, rfl, h1, h2, fun hne => ?_⟩
  obtain ⟨b, off, rfl, hlt, hc⟩ := h3 hne
  exact ⟨b, off, rfl, by omega, hc⟩
theorem Sees.form {B : Nat} {w : World} {v : Value} {zs : List Int} (h : Sees B w v zs) : ∃ a cap, v = .slice a zs.length cap := by
  obtain ⟨a, cap, h, -⟩ := h; exact ⟨a, cap, h⟩

def Owns (B : Nat) (w : World) (v : Value) (zs : List Int) : Prop := w.ownsRow B 3 1 v zs.length (iv zs)
theorem Owns.sees {B : Nat} {w : World} {v : Value} {zs : List Int} (h : Owns B w v zs) : Sees w.heap.size w v zs := by
  obtain ⟨h1, h2⟩ := h
  rcases h2 with ⟨rfl, h0⟩ | ⟨g, cap, cur, rfl, hB, hg, hle, hm, hsz, htk⟩
  · exact ⟨none, 0, by rw [h0], by omega, by simp, fun hne => absurd (List.eq_nil_of_length_eq_zero h0) hne⟩
  · refine ⟨_, cap, rfl, hle, hm, fun _ => ⟨g, 0, rfl, (Array.getElem?_eq_some_iff.1 hg).1, fun j hj => ?_⟩⟩
    have : w.cell? ⟨g, j, none⟩ = (iv zs)[j]? := by
      rw [← htk, List.getElem?_take, if_pos (by omega)]
      simp [World.cell?, hg]
    rw [Nat.zero_add, this, iv_get zs j hj]
theorem Owns.form {B : Nat} {w : World} {v : Value} {zs : List Int} (h : Owns B w v zs) : ∃ a cap, v = .slice a zs.length cap := h.sees.form
theorem Owns.on {B : Nat} {w w' : World} {v : Value} {zs : List Int} (h : Owns B w v zs) {B' : Nat} (hb : Below B' w w') (hB : w.heap.size ≤ B') : Owns B w' v zs := Bas.owns_on h hb hB
theorem Owns.mono {B B' : Nat} {w : World} {v : Value} {zs : List Int} (h : Owns B w v zs) (hB : B' ≤ B) : Owns B' w v zs := by
  obtain ⟨h1, h2⟩ := h
  refine ⟨h1, ?_⟩
  rcases h2 with h2 | ⟨g, cap, cur, hv, hg, hh, r⟩
  · exact .inl h2
  · exact .inr ⟨g, cap, cur, hv, by omega, hh, r⟩
theorem Owns.keep {B : Nat} {w w' : World} {v : Value} {zs : List Int} (h : Owns B w v zs) (hk : ∀ k, v.ownBlock = some k → w'.heap[k]? = w.heap[k]?) : Owns B w' v zs := by
  obtain ⟨h1, h2⟩ := h
  refine ⟨h1, ?_⟩
  rcases h2 with h2 | ⟨g, cap, cur, rfl, hg, hh, r⟩
  · exact .inl h2
  · exact .inr ⟨g, cap, cur, rfl, hg, by rw [hk g rfl]; exact hh, r⟩
theorem Owns.at {B : Nat} {w : World} {v : Value} {zs : List Int} (h : Owns B w v zs) : ∀ k, v.ownBlock = some k → B ≤ k ∧ k < w.heap.size := by
  intro k hk
  obtain ⟨h1, h2⟩ := h
  rcases h2 with ⟨rfl, h0⟩ | ⟨g, cap, cur, rfl, hg, hh, r⟩
  · cases hk
  · cases hk; exact ⟨hg, (Array.getElem?_eq_some_iff.1 hh).1⟩
theorem Owns.grown {B : Nat} {w w' : World} {v : Value} {zs : List Int} (h : Owns B w v zs) {row : Option Nat} (hg : w.grownBy w' row) (hr : ∀ k, v.ownBlock = some k → some k ≠ row) : Owns B w' v zs :=
  h.keep fun k hk => hg.block k (h.at k hk).2 (hr k hk)
theorem Sees.grown {B : Nat} {W W' : World} {v : Value} {zs : List Int} (h : Sees B W v zs) {row : Option Nat} (hg : W.grownBy W' row) (hB : B ≤ W.heap.size) (hr : ∀ k, row = some k → B ≤ k) : Sees B W' v zs :=
  h.on (B' := B) ((Below.refl B W).grown hg hB hr) (Nat.le_refl _)

theorem makeI (n : Nat) (h : n ≤ 1048576) (w : World) (B : Nat) (hB : B ≤ w.heap.size) : ∃ w1, Below B w w1 ∧ w.heap.size < w1.heap.size ∧
    (Instr.makeSlice 23 (.int .i64 (n : Int)) (.int .i64 (n : Int))).run Try.prog w = .ok (.slice (some ⟨w.heap.size, 0, none⟩) n n) w1 ∧
    w1.ownsRow w.heap.size 3 1 (.slice (some ⟨w.heap.size, 0, none⟩) n n) n (iv (List.replicate n 0)) := by
  obtain ⟨i, hi, hz, hs, hb⟩ := info_parts Try.infoInt
  obtain ⟨w1, h1, h2, h3⟩ := run_make_full (P := Try.prog) w w.heap.size 23 3 i _ 1 Try.underlying23 hi hz hs .i64 .i64 n (by rw [hb]; omega) (by unfold maxLen; omega) (Nat.le_refl _)
  refine ⟨w1, (Below.refl _ _).grown h3 hB (fun k hk => by cases hk), ?_, h1, ?_⟩
  · obtain ⟨-, h4⟩ := h2
    rcases h4 with ⟨h4, -⟩ | ⟨g, cap, cur, h4, -, hg, -⟩
    · cases h4
    · cases h4; exact (Array.getElem?_eq_some_iff.1 hg).1
  · have e : (madeCells (Value.int .i64 0).cells (n * 1)).toList = iv (List.replicate n 0) := by
      rw [show (Value.int .i64 0).cells = #[.int .i64 0] from rfl, Nat.mul_one, toList_madeCells_one]; simp [iv]
    rw [← e]; exact h2

/-- numbers put so far, noughts behind -/
def pad (zs : List Int) (k : Nat) : List Int := zs.take k ++ List.replicate (zs.length - k) 0
theorem pad_zero (zs : List Int) : pad zs 0 = List.replicate zs.length 0 := by simp [pad]
theorem pad_full (zs : List Int) : pad zs zs.length = zs := by simp [pad]
theorem pad_length (zs : List Int) (k : Nat) (h : k ≤ zs.length) : (pad zs k).length = zs.length := by simp [pad]; omega
theorem pad_set (zs : List Int) (k : Nat) (h : k < zs.length) : (pad zs k).set k zs[k] = pad zs (k + 1) := by
  unfold pad
  have e : List.replicate (zs.length - k) (0 : Int) = 0 :: List.replicate (zs.length - (k + 1)) 0 := by
    rw [show zs.length - k = (zs.length - (k + 1)) + 1 by omega, List.replicate_succ]
  have hl : (zs.take k).length = k := by simp; omega
  rw [e, List.set_append_right _ _ (by omega), hl, Nat.sub_self, List.set_cons_zero, List.take_succ_eq_append_getElem h, List.append_assoc]
  rfl
theorem owns_set {B g n cap : Nat} {w : World} {zs : List Int} (h : w.ownsRow B 3 1 (.slice (some ⟨g, 0, none⟩) n cap) n (iv zs)) (j : Nat) (x : Int) :
    (w.setCell ⟨g, j, none⟩ (.int .i64 x)).ownsRow B 3 1 (.slice (some ⟨g, 0, none⟩) n cap) n (iv (zs.set j x)) := by
  rw [iv_set]; exact (h.stored _ _).1
theorem owns_at {B g n cap : Nat} {w : World} {zs : List Int} (h : w.ownsRow B 3 1 (.slice (some ⟨g, 0, none⟩) n cap) n (iv zs)) (j : Nat) (hj : j < zs.length) : w.cell? ⟨g, j, none⟩ = some (.int .i64 zs[j]) := by
  have hl : zs.length = n := by have := h.1; rw [iv_length] at this; omega
  rw [h.cellAt _ (by omega), iv_get zs j hj]

set_option maxRecDepth 100000 in
set_option maxHeartbeats 800000 in
theorem toIntsC (v : Value) (zs : List Int) (B : Nat) (w : World) (hv : Sees B w v zs) (hB : B ≤ w.heap.size) (hlen : zs.length ≤ 1048576) :
    Calls Try.prog 38 #[v] w fun e w' => ∃ v', e = .returned v' ∧ Owns w.heap.size w' v' zs ∧ Below w.heap.size w w' := by
  obtain ⟨a, cap, rfl, h1, h2, h3⟩ := hv
  obtain ⟨n, hn⟩ : ∃ n, zs.length = n := ⟨_, rfl⟩
  rw [hn] at h1 hlen ⊢
  obtain ⟨w1, hB1, hs1, hmk, hO⟩ := makeI n hlen w w.heap.size (Nat.le_refl _)
  obtain ⟨g, hg⟩ : ∃ g, w.heap.size = g := ⟨_, rfl⟩
  rw [hg] at hmk hO hB1 hs1 hB ⊢
  go_enter Try.func38, Try.ntmps38
  go_wp2
  go_loopw [4] (fun i wr => ∃ k : Nat, k ≤ n ∧ i = .int .i64 k ∧ wr.ownsRow g 3 1 (.slice (some ⟨g, 0, none⟩) n n) n (iv (pad zs k)) ∧ Below g w wr) (fun i _ => n - (intOf i).toNat)
  case atStart => exact ⟨0, Nat.zero_le _, rfl, by rw [pad_zero, hn]; exact hO, hB1⟩
  case round =>
    obtain ⟨k, hk, rfl, hR, hb⟩ := hrel
    clear hmk hO hB1 hs1
    by_cases hlt : k < n
    · obtain ⟨b, off, rfl, hbB, hc⟩ := h3 (fun h => by simp [h] at hn; omega)
      have a0 := (hb.cell (p := ⟨b, off + k, none⟩) (by show b < g; omega)).trans (hc k (by omega))
      obtain ⟨x, hx⟩ : ∃ x, zs[k] = x := ⟨_, rfl⟩
      have HP : Hid ((pad zs k).set k x = pad zs (k + 1)) := by rw [← hx]; exact pad_set zs k (by omega)
      have hpl : (pad zs k).length = n := by rw [pad_length zs k (by omega)]; exact hn
      rw [hx] at a0
      have c0 := owns_at hR k (by omega)
      have hfz := fun j => hR.frozenAt j
      clear hx hc h3
      go_wp2
      have hR3 := owns_set hR k x
      rw [HP.out] at hR3
      go_roundw
      case rel => exact ⟨k + 1, by omega, by go_num, hR3, hb.setCell (Nat.le_refl _) _⟩
      case measure => simp [intOf]; omega
    · obtain rfl : k = n := by omega
      go_wp2
      go_ret
      rw [← hn, pad_full] at hR
      exact ⟨_, rfl, hn ▸ hR, hb⟩

set_option maxRecDepth 100000 in
set_option maxHeartbeats 800000 in
theorem eqIntsC (v v' : Value) (zs : List Int) (B : Nat) (w : World) (hv : Sees B w v zs) (hv' : Sees B w v' zs) (hB : B ≤ w.heap.size) :
    Calls Try.prog 42 #[v, v'] w fun e w' => e = .returned (.bool true) ∧ Below w.heap.size w w' := by
  obtain ⟨a, cap, rfl, h1, h2, h3⟩ := hv
  obtain ⟨a', cap', rfl, h1', h2', h3'⟩ := hv'
  obtain ⟨n, hn⟩ : ∃ n, zs.length = n := ⟨_, rfl⟩
  have hm : (n : Int) ≤ 9223372036854775807 := by unfold maxLen at h2; omega
  rw [hn]
  obtain ⟨g, hg⟩ : ∃ g, w.heap.size = g := ⟨_, rfl⟩
  rw [hg] at hB ⊢
  clear h1 h2 h1' h2'
  go_enter Try.func42, Try.ntmps42
  go_wp2
  go_loopw [5] (fun i wr => ∃ k : Nat, k ≤ n ∧ i = .int .i64 k ∧ Below g w wr) (fun i _ => n - (intOf i).toNat)
  case atStart => exact ⟨0, Nat.zero_le _, rfl, Below.refl _ _⟩
  case round =>
    obtain ⟨k, hk, rfl, hb⟩ := hrel
    by_cases hlt : k < n
    · obtain ⟨b, off, rfl, hbB, hc⟩ := h3 (fun h => by simp [h] at hn; omega)
      obtain ⟨b', off', rfl, hbB', hc'⟩ := h3' (fun h => by simp [h] at hn; omega)
      have a0 := (hb.cell (p := ⟨b, off + k, none⟩) (by show b < g; omega)).trans (hc k (by omega))
      have a0' := (hb.cell (p := ⟨b', off' + k, none⟩) (by show b' < g; omega)).trans (hc' k (by omega))
      obtain ⟨x, hx⟩ : ∃ x, zs[k] = x := ⟨_, rfl⟩
      rw [hx] at a0 a0'
      clear hx hc h3 hc' h3'
      go_wp2_with fail
      go_region
      all_goals
        go_wp2
        go_roundw
        case rel => exact ⟨k + 1, by omega, by go_num, by first | exact hb.drew | exact hb.drew.drew | exact hb⟩
        case measure => simp [intOf]; omega
    · obtain rfl : k = n := by omega
      go_wp2
      go_ret
      exact ⟨rfl, hb⟩

/-- marks so far, the old numbers behind -/
def mark (i : Nat) : Int := 1 + (i : Int)
def marked (zs : List Int) (k : Nat) : List Int := (List.range k).map mark ++ zs.drop k
def marks (n : Nat) : List Int := (List.range n).map mark
theorem marked_zero (zs : List Int) : marked zs 0 = zs := by simp [marked]
theorem marked_full (zs : List Int) : marked zs zs.length = marks zs.length := by simp [marked, marks]
theorem marked_length (zs : List Int) (k : Nat) (h : k ≤ zs.length) : (marked zs k).length = zs.length := by simp [marked]; omega
theorem marked_set (zs : List Int) (k : Nat) (h : k < zs.length) : (marked zs k).set k (mark k) = marked zs (k + 1) := by
  unfold marked
  have hl : ((List.range k).map mark).length = k := by simp
  rw [List.drop_eq_getElem_cons h, List.set_append_right _ _ (by omega), hl, Nat.sub_self, List.set_cons_zero, List.range_succ, List.map_append, List.append_assoc]
  rfl
theorem marks_get (n k : Nat) (h : k < (marks n).length) : (marks n)[k] = mark k := by simp [marks]
theorem marks_length (n : Nat) : (marks n).length = n := by simp [marks]

set_option maxRecDepth 100000 in
set_option maxHeartbeats 800000 in
theorem markIntsC (v : Value) (zs : List Int) (B : Nat) (w : World) (hv : Owns B w v zs) (hlen : zs.length ≤ 1048576) :
    Calls Try.prog 45 #[v, .int .i64 1] w fun e w' => e = .returned (.int .i64 (1 + (zs.length : Int))) ∧ Owns B w' v (marks zs.length) ∧ w.grownBy w' v.ownBlock := by
  obtain ⟨n, hn⟩ : ∃ n, zs.length = n := ⟨_, rfl⟩
  obtain ⟨hv1, hv2⟩ := id hv
  rcases hv2 with ⟨rfl, h0⟩ | ⟨g, cap, cur, rfl, hBg, hg, hle, hm, -, -⟩
  · obtain rfl : zs = [] := List.eq_nil_of_length_eq_zero h0
    clear hn hv1 h0
    go_enter Try.func45, Try.ntmps45
    go_wp2
    go_loop [1, 5] (fun q i => q = .int .i64 1 ∧ i = .int .i64 0) (fun _ _ => 0)
    case atStart => exact ⟨rfl, rfl⟩
    case round =>
      obtain ⟨rfl, rfl⟩ := hrel
      go_wp2
      go_ret
      exact ⟨rfl, hv, ⟨rfl, rfl, rfl, Nat.le_refl _, fun _ _ _ => rfl⟩⟩
  · unfold Owns at hv
    rw [hn] at hv hlen hle ⊢
    clear hv1 hg hm
    go_enter Try.func45, Try.ntmps45
    go_wp2
    go_loopw [1, 5] (fun q i wr => ∃ k : Nat, k ≤ n ∧ q = .int .i64 (1 + (k : Int)) ∧ i = .int .i64 k ∧ wr.ownsRow B 3 1 (.slice (some ⟨g, 0, none⟩) n cap) n (iv (marked zs k)) ∧ w.grownBy wr (some g)) (fun _ i _ => n - (intOf i).toNat)
    case atStart => exact ⟨0, Nat.zero_le _, rfl, rfl, by rw [marked_zero]; exact hv, ⟨rfl, rfl, rfl, Nat.le_refl _, fun _ _ _ => rfl⟩⟩
    case round =>
      obtain ⟨k, hk, rfl, rfl, hR, hgr⟩ := hrel
      by_cases hlt : k < n
      · have hpl : (marked zs k).length = n := by rw [marked_length zs k (by omega)]; exact hn
        have HP : Hid ((marked zs k).set k (mark k) = marked zs (k + 1)) := marked_set zs k (by omega)
        have c0 := owns_at hR k (by omega)
        have hfz := fun j => hR.frozenAt j
        go_wp2
        have hR3 := owns_set hR k (mark k)
        rw [HP.out] at hR3
        unfold mark at hR3
        have t1 := (hR.stored k (.int .i64 (1 + (k : Int)))).2
        go_roundw
        case rel => exact ⟨k + 1, by omega, by go_num, by go_num, hR3, grownBy_trans hgr t1⟩
        case measure => simp [intOf]; omega
      · obtain rfl : k = n := by omega
        go_wp2
        go_ret
        rw [← hn, marked_full, hn] at hR
        refine ⟨rfl, ?_, hgr⟩
        unfold Owns
        rw [marks_length]
        exact hR

set_option maxRecDepth 100000 in
set_option maxHeartbeats 800000 in
theorem heldIntsC (v : Value) (n : Nat) (B : Nat) (w : World) (hv : Sees B w v (marks n)) (hlen : n ≤ 1048576) :
    Calls Try.prog 67 #[v, .int .i64 1] w fun e w' => e = .returned (.int .i64 (1 + (n : Int))) ∧ w = w' := by
  obtain ⟨a, cap, rfl, h1, h2, h3⟩ := hv
  rw [marks_length]
  clear h1 h2
  go_enter Try.func67, Try.ntmps67
  go_wp2
  go_loop [1, 5] (fun q i => ∃ k : Nat, k ≤ n ∧ q = .int .i64 (1 + (k : Int)) ∧ i = .int .i64 k) (fun _ i => n - (intOf i).toNat)
  case atStart => exact ⟨0, Nat.zero_le _, rfl, rfl⟩
  case round =>
    obtain ⟨k, hk, rfl, rfl⟩ := hrel
    by_cases hlt : k < n
    · obtain ⟨b, off, rfl, hbB, hc⟩ := h3 (fun h => by have := congrArg List.length h; rw [marks_length] at this; simp at this; omega)
      have a0 := hc k (by rw [marks_length]; omega)
      simp only [marks_get, mark] at a0
      clear hc h3
      go_wp2
      go_round
      case rel => exact ⟨k + 1, by omega, by go_num, by go_num⟩
      case measure => simp [intOf]; omega
    · obtain rfl : k = n := by omega
      go_wp2
      go_ret
      exact ⟨rfl, rfl⟩

/- what the frames tell of a slice of ints -/
section
open Go.ChangeShapes Go.WideShapes Go.Deep
variable {H : Type} {enc : TypeId × Value → H} {W : World}
set_option maxRecDepth 100000 in
theorem openInts {r : Reach} {b0 : Nat} {v : Value} {d : DataW H} {p : List MemPlace} (hv : Value.okWide Try.prog W r b0 23 v) (h : DataW.Trod enc Try.prog W 0 (fun _ => true) true 23 v d p) :
    ∃ zs, Sees W.heap.size W v zs := by
  obtain ⟨a, len, cap, rfl⟩ := okWide_slice Try.underlying23 hv
  obtain ⟨fuel, hf⟩ := h
  rcases open_ints Try.underlying23 Try.underlying3 (by kernel_rfl) hf with ⟨hcs, _⟩ | ⟨x, l, c, zs, hcs, _, hl, hm, hz, _, hcell, hwz⟩
  · simp [Value.cells] at hcs
    obtain ⟨rfl, rfl, rfl⟩ := hcs
    exact ⟨[], none, 0, rfl, Nat.zero_le _, by simp, fun h => absurd rfl h⟩
  · simp [Value.cells] at hcs
    obtain ⟨rfl, rfl, rfl⟩ := hcs
    have hz' : zs.length = cap := by simpa using hz
    have hln : (zs.take len).length = len := by simp; omega
    refine ⟨zs.take len, some x, cap, by rw [hln], by rw [hln]; exact hl, hm, fun hne => ?_⟩
    have hpos : 0 < len := by
      rcases Nat.eq_zero_or_pos len with h0 | h0
      · subst h0; simp at hne
      · exact h0
    obtain ⟨b, off, spot⟩ := x
    have h0 := hcell 0 (by omega)
    have hspot : spot = none := by simpa [Addr.add] using World.cell?_spot h0
    subst hspot
    have hb : b < W.heap.size := by
      have := World.block_lt_of_cell? _ _ h0
      simpa [Addr.add] using this
    refine ⟨b, off, rfl, hb, fun j hj => ?_⟩
    have ha : ∀ i, (⟨b, off, none⟩ : Addr).add i = ⟨b, off + i, none⟩ := fun i => by unfold Addr.add; split <;> simp_all
    have hj' : j < zs.length := by omega
    have hc := hcell j hj'
    rw [ha] at hc
    have hg : zs.getD j 0 = zs[j] := by simp [List.getD, hj']
    rw [hc, hg, List.getElem_take]
end
end Ints
end Go.Proofs.Ytajbmokidcdfnaa
/- Integers put behind an empty row that the call owns: the equation that a walk takes. -/
namespace Go.Proofs.Ytajbmokidcdfnaa
open Go.RowKit
namespace Ints

theorem grown_refl (w : World) (row : Option Nat) : w.grownBy w row := ⟨rfl, rfl, rfl, Nat.le_refl _, fun _ _ _ => rfl⟩
theorem news_of {w : World} {b off : Nat} {zs : List Int} (hc : ∀ j (h : j < zs.length), w.cell? ⟨b, off + j, none⟩ = some (.int .i64 zs[j])) : ∀ j u, (iv zs)[j]? = some u → w.cell? ((⟨b, off, none⟩ : Addr).add j) = some u := by
  intro j u hu
  have hj : j < zs.length := by rw [← iv_length]; exact (List.getElem?_eq_some_iff.1 hu).1
  have ha : (⟨b, off, none⟩ : Addr).add j = ⟨b, off + j, none⟩ := by unfold Addr.add; split <;> simp_all
  rw [ha, hc j hj, ← hu, iv_get zs j hj]

theorem appI (u v : Value) (ty : TypeId) (zs : List Int) (B b0 : Nat) (w : World) (hu : w.ownsRow b0 3 1 u 0 []) (h0 : b0 ≤ w.heap.size) (hv : Sees B w v zs) (hlen : zs.length ≤ 1048576) :
    ∃ v' w', (Builtin.append_ #[23, 23] ty #[u, v]).run Try.prog w = .ok v' w' ∧ w'.ownsRow b0 3 1 v' zs.length (iv zs) ∧ w.grownBy w' u.ownBlock := by
  obtain ⟨i, hi, hz, hs, hb⟩ := info_parts Try.infoInt
  obtain ⟨a, cap, rfl, h1, h2, h3⟩ := hv
  by_cases hne : zs = []
  · subst hne
    have hsrc : Src Try.prog i.size 23 (.slice a 0 cap) 0 [] w := by
      cases a
      · exact Src.ofNil w Try.underlying23 cap
      · exact Src.ofSlice w Try.underlying23 _ 0 cap [] (by simp) (fun j u h => by simp at h) (fun u h => by cases h)
    have hform : ∃ b c, u = .slice b 0 c := by
      rcases hu.2 with ⟨rfl, -⟩ | ⟨g, c, cur, rfl, -⟩
      · exact ⟨_, _, rfl⟩
      · exact ⟨_, _, rfl⟩
    obtain ⟨b, c, rfl⟩ := hform
    exact ⟨_, w, run_append_nothing w _ _ ty _ i Try.underlying23 hi b 0 c (Nat.zero_le _) _ hsrc, hu, grown_refl w _⟩
  · obtain ⟨b, off, rfl, -, hc⟩ := h3 hne
    have hpos : 0 < zs.length := List.length_pos_iff.2 hne
    obtain ⟨g, c, w', hr, ho, hg, -, -⟩ := run_append_lies (P := Try.prog) w 23 ty b0 3 i _ 1 8 Try.underlying23 hi hz hs hb rfl (by decide) u 0 [] hu ⟨b, off, none⟩ zs.length cap (iv zs) (by rw [iv_length]; omega) (news_of hc) (iv_one zs) hpos (by unfold maxLen; omega) (by omega) h0 w.heap.size rfl
    refine ⟨_, w', hr, ?_, hg⟩
    simpa using ho
theorem own_nil (B : Nat) (w : World) : w.ownsRow B 3 1 (.slice none 0 0) 0 [] := ⟨rfl, .inl ⟨rfl, rfl⟩⟩

/-- append([]int(nil), zs...) -/
theorem appNil (v : Value) (ty : TypeId) (zs : List Int) (B : Nat) (w : World) (hv : Sees B w v zs) (hlen : zs.length ≤ 1048576) :
    ∃ v' w', (Builtin.append_ #[23, 23] ty #[.slice none 0 0, v]).run Try.prog w = .ok v' w' ∧ Owns w.heap.size w' v' zs ∧ Below w.heap.size w w' := by
  obtain ⟨v', w', hr, ho, hg⟩ := appI _ v ty zs B w.heap.size w (own_nil _ _) (Nat.le_refl _) hv hlen
  exact ⟨v', w', hr, ho, (Below.refl _ _).grown hg (Nat.le_refl _) (fun k hk => by cases hk)⟩
/-- append([]int{}, zs...): the empty row is laid first -/
theorem appLit (v : Value) (ty : TypeId) (zs : List Int) (B : Nat) (w : World) (hv : Sees B w v zs) (hB : B ≤ w.heap.size) (hlen : zs.length ≤ 1048576) :
    ∃ v' w', (Builtin.append_ #[23, 23] ty #[.slice (some ⟨w.heap.size, 0, none⟩) 0 0, v]).run Try.prog (w.alloc (.cells #[] 3)) = .ok v' w' ∧ Owns w.heap.size w' v' zs ∧ Below w.heap.size w w' := by
  have L1 : (w.alloc (.cells #[] 3)).ownsRow w.heap.size 3 1 (.slice (some ⟨w.heap.size, 0, none⟩) 0 0) 0 [] := World.ownsRow_lit w #[] 0 (Nat.le_refl _) (by simp [maxLen]) rfl
  obtain ⟨v', w', hr, ho, hg⟩ := appI _ v ty zs B w.heap.size (w.alloc (.cells #[] 3)) L1 (by simp) (hv.on (Bas.alloc_below w _) hB) hlen
  exact ⟨v', w', hr, ho, (Bas.alloc_below w _).grown hg (by simp) (fun k hk => by cases hk; exact Nat.le_refl _)⟩
end Ints
end Go.Proofs.Ytajbmokidcdfnaa
/- What an op makes of registers; right registers. -/
namespace Go.Proofs.Ytajbmokidcdfnaa
open Go.RowKit
namespace Ops
open Bas

/-- registers are right -/
def regsOk (zs : List Int) : Bool := decide (zs.length = 4) && zs.all (inn 0 65535)
theorem regsOk_mk {zs : List Int} (h : zs.length = 4) (ha : ∀ j (h : j < zs.length), inn 0 65535 zs[j] = true) : regsOk zs = true := by
  unfold regsOk
  rw [Bool.and_eq_true]
  refine ⟨decide_eq_true h, List.all_eq_true.2 fun x hx => ?_⟩
  obtain ⟨j, hj, rfl⟩ := List.mem_iff_getElem.1 hx
  exact ha j hj
theorem regsOk_len {zs : List Int} (h : ¬ zs.length = 4) : regsOk zs = false := by unfold regsOk; rw [decide_eq_false h]; rfl
theorem regsOk_at {zs : List Int} {j : Nat} (hj : j < zs.length) (h : inn 0 65535 zs[j] = false) : regsOk zs = false := by
  unfold regsOk
  rw [Bool.and_eq_false_iff]
  exact .inr (List.all_eq_false.2 ⟨zs[j], List.getElem_mem hj, by simp [h]⟩)
theorem regsOk_out {zs : List Int} (h : regsOk zs = true) : zs.length = 4 ∧ ∀ j (h : j < zs.length), 0 ≤ zs[j] ∧ zs[j] ≤ 65535 := by
  unfold regsOk at h
  rw [Bool.and_eq_true] at h
  obtain ⟨h1, h2⟩ := h
  refine ⟨of_decide_eq_true h1, fun j hj => ?_⟩
  have := List.all_eq_true.1 h2 _ (List.getElem_mem hj)
  unfold inn at this
  simpa using this
theorem ret_regs {zs : List Int} {b : Bool} (h : regsOk zs = b) : Ending.returned (.bool b) = .returned (.bool (regsOk zs)) := by rw [h]

/-- what is reckoned of an op's fields and registers -/
def reck (k b c : Int) (zs : List Int) : Int :=
  if k = 1 then b
  else if k = 2 then (zs.getD b.toNat 0 + zs.getD c.toNat 0) % 65536
  else if k = 3 then (zs.getD b.toNat 0 - zs.getD c.toNat 0 + 65536) % 65536
  else if zs.getD b.toNat 0 < zs.getD c.toNat 0 then 1 else 0
/-- it is reckoned -/
def calcMay (k a b c : Int) (zs : List Int) : Bool := opOk k a b c && regsOk zs && decide (k ≤ 4)
def calcTo (k a b c : Int) (zs : List Int) : List Int := if calcMay k a b c zs = true then zs.set a.toNat (reck k b c zs) else zs
theorem calcTo_length (k a b c : Int) (zs : List Int) : (calcTo k a b c zs).length = zs.length := by unfold calcTo; split <;> simp
theorem calcTo_no {k a b c : Int} {zs : List Int} (h : calcMay k a b c zs = false) : calcTo k a b c zs = zs := by unfold calcTo; rw [h]; rfl
theorem calcTo_yes {k a b c : Int} {zs : List Int} (h : calcMay k a b c zs = true) : calcTo k a b c zs = zs.set a.toNat (reck k b c zs) := by unfold calcTo; rw [if_pos h]

set_option maxRecDepth 100000 in
theorem isValueC (x : Int) (w : World) : Calls Try.prog 105 #[.int .i64 x] w fun e w' => e = .returned (.bool (inn 0 65535 x)) ∧ w = w' := by
  unfold inn
  by_cases h1 : 0 ≤ x
  · have h1' : decide (0 ≤ x) = true := decide_eq_true h1
    go_enter Try.func105, Try.ntmps105
    go_wp2
    go_ret
    exact ⟨by simp [h1], rfl⟩
  · have h1' : decide (0 ≤ x) = false := decide_eq_false h1
    go_enter Try.func105, Try.ntmps105
    go_wp2
    go_ret
    exact ⟨by simp, rfl⟩

set_option maxRecDepth 100000 in
set_option maxHeartbeats 800000 in
theorem regsImpl (v : Value) (zs : List Int) (B : Nat) (w : World) (hv : Ints.Sees B w v zs) : Calls Try.prog 185 #[v] w fun e w' => e = .returned (.bool (regsOk zs)) ∧ w = w' := by
  obtain ⟨a, cap, rfl, h1, h2, h3⟩ := hv
  have hm : (zs.length : Int) ≤ 9223372036854775807 := by unfold maxLen at h2; omega
  by_cases h4 : zs.length = 4
  · rw [h4]
    clear hm h1 h2
    obtain ⟨b, off, rfl, -, hc⟩ := h3 (fun h => by simp [h] at h4)
    clear h3
    go_enter Try.func185, Try.ntmps185
    go_wp2
    go_loop [10] (fun i => ∃ k : Nat, k ≤ 4 ∧ i = .int .i64 k ∧ (∀ j (h : j < zs.length), j < k → inn 0 65535 zs[j] = true)) (fun i => 4 - (intOf i).toNat)
    case atStart => exact ⟨0, by omega, rfl, fun j _ h => by omega⟩
    case round =>
      obtain ⟨k, hk, rfl, hall⟩ := hrel
      by_cases hlt : k < 4
      · have a0 := hc k (by omega)
        obtain ⟨x, hx⟩ : ∃ x, zs[k] = x := ⟨_, rfl⟩
        rw [hx] at a0
        have HX : Hid (zs[k] = x) := hx
        have HA : Hid (∀ j (h : j < zs.length), j < k → inn 0 65535 zs[j] = true) := hall
        have cV := isValueC x w
        obtain ⟨q, hq⟩ : ∃ q, inn 0 65535 x = q := ⟨_, rfl⟩
        rw [hq] at cV
        have HQ : Hid (inn 0 65535 x = q) := hq
        clear hx hc hall hq
        cases q
        · go_wp2_with fail
          refine cV.mono ?_
          rintro e w1 ⟨rfl, rfl⟩
          go_wp2
          go_ret
          exact ⟨ret_regs (regsOk_at (j := k) (by omega) (by rw [HX.out]; exact HQ.out)), rfl⟩
        · go_wp2_with fail
          refine cV.mono ?_
          rintro e w1 ⟨rfl, rfl⟩
          go_wp2
          go_round
          case rel => exact ⟨k + 1, by omega, by go_num, fun j hj hjk => by
            rcases Nat.lt_succ_iff_lt_or_eq.1 hjk with h | h
            · exact HA.out j hj h
            · subst h; rw [HX.out]; exact HQ.out⟩
          case measure => simp [intOf]; omega
      · obtain rfl : k = 4 := by omega
        have HT : Hid (regsOk zs = true) := regsOk_mk h4 fun j hj => hall j hj (by omega)
        clear hall hc
        go_wp2
        go_ret
        exact ⟨ret_regs HT.out, rfl⟩
  · have HF : Hid (regsOk zs = false) := regsOk_len h4
    obtain ⟨n, hn⟩ : ∃ n, zs.length = n := ⟨_, rfl⟩
    rw [hn] at hm h4 ⊢
    have h4' : ((n : Int) != 4) = true := by simp; omega
    clear h3 hn h1 h2 h4
    go_enter Try.func185, Try.ntmps185
    go_wp2
    go_ret
    exact ⟨ret_regs HF.out, rfl⟩

set_option maxRecDepth 100000 in
set_option maxHeartbeats 800000 in
theorem regsSpec (v : Value) (zs : List Int) (B : Nat) (w : World) (hv : Ints.Sees B w v zs) : Calls Try.prog 148 #[v] w fun e w' => e = .returned (.bool (regsOk zs)) ∧ w = w' := by
  obtain ⟨a, cap, rfl, h1, h2, h3⟩ := hv
  have hm : (zs.length : Int) ≤ 9223372036854775807 := by unfold maxLen at h2; omega
  by_cases h4 : zs.length = 4
  · rw [h4]
    clear hm h1 h2
    obtain ⟨b, off, rfl, -, hc⟩ := h3 (fun h => by simp [h] at h4)
    clear h3
    go_enter Try.func148, Try.ntmps148
    go_wp2
    go_loop [3] (fun i => ∃ k : Nat, k ≤ 4 ∧ i = .int .i64 k ∧ (∀ j (h : j < zs.length), j < k → inn 0 65535 zs[j] = true)) (fun i => 4 - (intOf i).toNat)
    case atStart => exact ⟨0, by omega, rfl, fun j _ h => by omega⟩
    case round =>
      obtain ⟨k, hk, rfl, hall⟩ := hrel
      by_cases hlt : k < 4
      · have a0 := hc k (by omega)
        obtain ⟨x, hx⟩ : ∃ x, zs[k] = x := ⟨_, rfl⟩
        rw [hx] at a0
        have HX : Hid (zs[k] = x) := hx
        have HA : Hid (∀ j (h : j < zs.length), j < k → inn 0 65535 zs[j] = true) := hall
        have cV := valC x w
        obtain ⟨q, hq⟩ : ∃ q, inn 0 65535 x = q := ⟨_, rfl⟩
        rw [hq] at cV
        have HQ : Hid (inn 0 65535 x = q) := hq
        clear hx hc hall hq
        cases q
        · go_wp2_with fail
          refine cV.mono ?_
          rintro e w1 ⟨rfl, rfl⟩
          go_wp2
          go_ret
          exact ⟨ret_regs (regsOk_at (j := k) (by omega) (by rw [HX.out]; exact HQ.out)), rfl⟩
        · go_wp2_with fail
          refine cV.mono ?_
          rintro e w1 ⟨rfl, rfl⟩
          go_wp2
          go_round
          case rel => exact ⟨k + 1, by omega, by go_num, fun j hj hjk => by
            rcases Nat.lt_succ_iff_lt_or_eq.1 hjk with h | h
            · exact HA.out j hj h
            · subst h; rw [HX.out]; exact HQ.out⟩
          case measure => simp [intOf]; omega
      · obtain rfl : k = 4 := by omega
        have HT : Hid (regsOk zs = true) := regsOk_mk h4 fun j hj => hall j hj (by omega)
        clear hall hc
        go_wp2
        go_ret
        exact ⟨ret_regs HT.out, rfl⟩
  · have HF : Hid (regsOk zs = false) := regsOk_len h4
    obtain ⟨n, hn⟩ : ∃ n, zs.length = n := ⟨_, rfl⟩
    rw [hn] at hm h4 ⊢
    have h4' : ((n : Int) != 4) = true := by simp; omega
    clear h3 hn h1 h2 h4
    go_enter Try.func148, Try.ntmps148
    go_wp2
    go_ret
    exact ⟨ret_regs HF.out, rfl⟩
end Ops
end Go.Proofs.Ytajbmokidcdfnaa
/- One by one: what programs do, as plain mathematics: a machine that goes from place to place, with the marks of the blocks that are open. -/
set_option linter.unusedVariables false
set_option linter.unusedSimpArgs false
namespace Go.Proofs.Ytajbmokidcdfnaa
namespace Ops

/-- things: cells, map, counter -/
structure Th where
  c : List Int
  m : List Int
  n : Int
def cellsOk (l : List Int) : Bool := decide (l.length = 8) && l.all (inn 0 65535)
def mapOk (l : List Int) : Bool := decide (l.length = 8) && l.all (inn 0 65536)
def thOk (t : Th) : Bool := cellsOk t.c && mapOk t.m && inn 0 65535 t.n
/-- the mark of a block: where it begins, and what there was -/
structure Mk where
  pc : Nat
  r : List Int
  t : Th
/-- where the machine is -/
structure Cf where
  pc : Nat
  r : List Int
  t : Th
  k : List Mk
/-- how it ends -/
structure Rn where
  out : Int
  r : List Int
  t : Th
def rd (l : List Int) (i : Int) : Int := l.getD i.toNat 0
def wr (l : List Int) (i v : Int) : List Int := l.set i.toNat v
theorem wr_length (l : List Int) (i v : Int) : (wr l i v).length = l.length := by simp [wr]

/-- the registers behind an op that is neither a block's nor a fork -/
def plainR (o : O4) (r : List Int) (t : Th) : List Int :=
  if o.k = 5 then wr r o.a (rd t.c o.b) else if o.k = 12 then wr r o.c (rd t.m o.a % 65536) else if o.k = 13 then wr r o.a (rd t.m o.b % 65536)
  else if o.k = 14 then wr r o.b (rd t.m o.a % 65536) else if o.k = 16 then wr r o.a t.n else if o.k ≤ 4 then calcTo o.k o.a o.b o.c r else r
/-- the things behind it -/
def plainT (o : O4) (r : List Int) (t : Th) : Th :=
  if o.k = 6 then { t with c := wr t.c o.a (rd r o.b) } else if o.k = 12 then { t with m := wr t.m o.a (1 + rd r o.b) } else if o.k = 14 then { t with m := wr t.m o.a 0 }
  else if o.k = 15 then { t with n := (t.n + rd r o.a) % 65536 } else t
def nextPc (o : O4) (r : List Int) (pc : Nat) : Nat := if o.k = 7 ∧ rd r o.a = 0 then pc + 1 + o.b.toNat else pc + 1
/-- one op; F: what a fork makes of registers and things -/
def step (xs : List O4) (t0 : Th) (F : List Int → Th → List Int × Th) (s : Cf) : Cf ⊕ Rn :=
  if (xs.getD s.pc z4).k = 8 then .inl ⟨s.pc + 1, s.r, s.t, ⟨s.pc, s.r, s.t⟩ :: s.k⟩
  else if (xs.getD s.pc z4).k = 9 then (match s.k with
    | [] => .inr ⟨0, [], t0⟩
    | m :: k => .inl ⟨s.pc + 1, wr s.r (xs.getD m.pc z4).a 1, s.t, k⟩)
  else if (xs.getD s.pc z4).k = 10 then (match s.k with
    | [] => .inr ⟨2, s.r, t0⟩
    | m :: k => .inl ⟨(endOf xs m.pc).toNat + 1, wr m.r (xs.getD m.pc z4).a 0, m.t, k⟩)
  else if (xs.getD s.pc z4).k = 11 then .inl ⟨s.pc + 1, (F s.r s.t).1, (F s.r s.t).2, s.k⟩
  else .inl ⟨nextPc (xs.getD s.pc z4) s.r s.pc, plainR (xs.getD s.pc z4) s.r s.t, plainT (xs.getD s.pc z4) s.r s.t, s.k⟩
def runF (xs : List O4) (t0 : Th) (F : List Int → Th → List Int × Th) : Nat → Cf → Option Rn
  | 0, _ => none
  | f + 1, s => if s.pc < xs.length then (match step xs t0 F s with
    | .inl s' => runF xs t0 F f s'
    | .inr r => some r) else some ⟨1, s.r, s.t⟩
/-- from here it ends so -/
def Ends (xs : List O4) (t0 : Th) (F : List Int → Th → List Int × Th) (s : Cf) (r : Rn) : Prop := ∃ f, runF xs t0 F f s = some r
section
variable {xs : List O4} {t0 : Th} {F : List Int → Th → List Int × Th} {s s' s'' : Cf} {r r' : Rn}
theorem runF_mono : ∀ (f g : Nat) (s : Cf), f ≤ g → runF xs t0 F f s = some r → runF xs t0 F g s = some r
  | 0, _, _, _, h => by simp [runF] at h
  | f + 1, 0, _, hg, _ => by omega
  | f + 1, g + 1, s, hg, h => by
    unfold runF at h ⊢
    split
    · rename_i hp
      rw [if_pos hp] at h
      split
      · rename_i s' he
        rw [he] at h
        exact runF_mono f g s' (by omega) h
      · rename_i r2 he
        rw [he] at h; exact h
    · rename_i hp
      rw [if_neg hp] at h; exact h
theorem Ends.unique (h : Ends xs t0 F s r) (h' : Ends xs t0 F s r') : r = r' := by
  obtain ⟨f, h⟩ := h
  obtain ⟨g, h'⟩ := h'
  have a := runF_mono f (max f g) s (Nat.le_max_left _ _) h
  have b := runF_mono g (max f g) s (Nat.le_max_right _ _) h'
  exact Option.some.inj (a.symm.trans b)
theorem Ends.over (h : xs.length ≤ s.pc) : Ends xs t0 F s ⟨1, s.r, s.t⟩ := ⟨1, by unfold runF; rw [if_neg (by omega)]⟩
theorem Ends.halt (h : s.pc < xs.length) (hs : step xs t0 F s = .inr r) : Ends xs t0 F s r := ⟨1, by unfold runF; rw [if_pos h, hs]⟩
/-- however it ends from there, so it ends from here -/
def Leads (xs : List O4) (t0 : Th) (F : List Int → Th → List Int × Th) (s s' : Cf) : Prop := ∀ r, Ends xs t0 F s' r → Ends xs t0 F s r
theorem Leads.refl (s : Cf) : Leads xs t0 F s s := fun _ h => h
theorem Leads.trans (h : Leads xs t0 F s s') (h' : Leads xs t0 F s' s'') : Leads xs t0 F s s'' := fun r hr => h r (h' r hr)
theorem Leads.step (h : s.pc < xs.length) (hs : step xs t0 F s = .inl s') : Leads xs t0 F s s' := fun r ⟨f, hr⟩ => ⟨f + 1, by
  unfold runF
  rw [if_pos h, hs]; exact hr⟩
end
/-- how code ends, from these registers and things: a step more than there are ops is enough where the code is right (TotalL) -/
def run (xs : List O4) (F : List Int → Th → List Int × Th) (r : List Int) (t : Th) : Rn := (runF xs t F (xs.length + 1) ⟨0, r, t, []⟩).getD ⟨0, [], t⟩
/-- kids cannot fork -/
def noF : List Int → Th → List Int × Th := fun r t => (r, t)
/-- what kids do, one behind the other, in this order: each one's register 0, and the things -/
def kidsGo (kss : List (List O4)) (r : List Int) : List Int → List Int → Th → List Int × Th
  | [], res, t => (res, t)
  | i :: l, res, t => kidsGo kss r l (if (run (kss.getD i.toNat []) noF r t).out = 1 then wr res i (rd (run (kss.getD i.toNat []) noF r t).r 0) else res) (run (kss.getD i.toNat []) noF r t).t
/-- a fork -/
def forkF (kss : List (List O4)) (order : List Int) : List Int → Th → List Int × Th := fun r t =>
  ((kidsGo kss r order (List.replicate kss.length 0) t).1 ++ r.drop kss.length, (kidsGo kss r order (List.replicate kss.length 0) t).2)

/-! ### what stays right -/
theorem cellsOk_out {l : List Int} (h : cellsOk l = true) : l.length = 8 ∧ ∀ j (h : j < l.length), 0 ≤ l[j] ∧ l[j] ≤ 65535 := by
  unfold cellsOk at h
  rw [Bool.and_eq_true] at h
  refine ⟨of_decide_eq_true h.1, fun j hj => ?_⟩
  have := List.all_eq_true.1 h.2 _ (List.getElem_mem hj)
  unfold inn at this
  simpa using this
theorem mapOk_out {l : List Int} (h : mapOk l = true) : l.length = 8 ∧ ∀ j (h : j < l.length), 0 ≤ l[j] ∧ l[j] ≤ 65536 := by
  unfold mapOk at h
  rw [Bool.and_eq_true] at h
  refine ⟨of_decide_eq_true h.1, fun j hj => ?_⟩
  have := List.all_eq_true.1 h.2 _ (List.getElem_mem hj)
  unfold inn at this
  simpa using this
theorem all_wr {l : List Int} {p : Int → Bool} (h : l.all p = true) (i : Int) {v : Int} (hv : p v = true) : (wr l i v).all p = true := by
  rw [List.all_eq_true] at h ⊢
  intro x hx
  rcases List.mem_or_eq_of_mem_set hx with hx | rfl
  · exact h x hx
  · exact hv
theorem regs_wr {r : List Int} (h : regsOk r = true) (i : Int) {v : Int} (hv : 0 ≤ v ∧ v ≤ 65535) : regsOk (wr r i v) = true := by
  unfold regsOk at h ⊢
  rw [Bool.and_eq_true] at h ⊢
  exact ⟨by rw [wr_length]; exact h.1, all_wr h.2 i (by unfold inn; simp; exact hv)⟩
theorem cells_wr {r : List Int} (h : cellsOk r = true) (i : Int) {v : Int} (hv : 0 ≤ v ∧ v ≤ 65535) : cellsOk (wr r i v) = true := by
  unfold cellsOk at h ⊢
  rw [Bool.and_eq_true] at h ⊢
  exact ⟨by rw [wr_length]; exact h.1, all_wr h.2 i (by unfold inn; simp; exact hv)⟩
theorem map_wr {r : List Int} (h : mapOk r = true) (i : Int) {v : Int} (hv : 0 ≤ v ∧ v ≤ 65536) : mapOk (wr r i v) = true := by
  unfold mapOk at h ⊢
  rw [Bool.and_eq_true] at h ⊢
  exact ⟨by rw [wr_length]; exact h.1, all_wr h.2 i (by unfold inn; simp; exact hv)⟩
theorem rd_all {l : List Int} {lo hi : Int} (h0 : lo ≤ 0 ∧ 0 ≤ hi) (h : ∀ j (h : j < l.length), lo ≤ l[j] ∧ l[j] ≤ hi) (i : Int) : lo ≤ rd l i ∧ rd l i ≤ hi := by
  unfold rd
  rw [List.getD_eq_getElem?_getD]
  by_cases hi' : i.toNat < l.length
  · rw [List.getElem?_eq_getElem hi']; exact h _ hi'
  · rw [List.getElem?_eq_none (by omega)]; exact h0
theorem th_parts {t : Th} (h : thOk t = true) : cellsOk t.c = true ∧ mapOk t.m = true ∧ 0 ≤ t.n ∧ t.n ≤ 65535 := by
  unfold thOk at h
  rw [Bool.and_eq_true, Bool.and_eq_true] at h
  refine ⟨h.1.1, h.1.2, ?_⟩
  have := h.2
  unfold inn at this
  simpa using this
theorem th_mk {t : Th} (h1 : cellsOk t.c = true) (h2 : mapOk t.m = true) (h3 : 0 ≤ t.n ∧ t.n ≤ 65535) : thOk t = true := by
  unfold thOk
  rw [h1, h2]
  unfold inn
  simp; exact h3
theorem calc_regs {o : O4} {r : List Int} (ho : okOp o = true) (h : regsOk r = true) : regsOk (calcTo o.k o.a o.b o.c r) = true := by
  unfold calcTo
  split
  · refine regs_wr h o.a ?_
    have hr := (regsOk_out h).2
    have h1 := rd_all (lo := 0) (hi := 65535) (by omega) hr o.b
    have h2 := rd_all (lo := 0) (hi := 65535) (by omega) hr o.c
    unfold rd at h1 h2
    rename_i hm
    unfold reck
    split
    · rename_i hk
      have hq : okOp o = true := ho
      unfold okOp opOk at hq
      rw [hk] at hq
      simp only [spans, Int.reduceEq, if_true, if_false, reduceIte, Bool.and_eq_true] at hq
      have := hq.1.2
      unfold inn at this
      simpa using this
    · split
      · omega
      · split
        · omega
        · split <;> omega
  · exact h
theorem plainR_ok {o : O4} {r : List Int} {t : Th} (ho : okOp o = true) (hr : regsOk r = true) (ht : thOk t = true) : regsOk (plainR o r t) = true := by
  obtain ⟨h1, h2, h3⟩ := th_parts ht
  have m := rd_all (lo := 0) (hi := 65536) (by omega) (mapOk_out h2).2
  unfold plainR
  split
  · exact regs_wr hr _ (rd_all (by omega) (cellsOk_out h1).2 _)
  · split
    · exact regs_wr hr _ (by omega)
    · split
      · exact regs_wr hr _ (by omega)
      · split
        · exact regs_wr hr _ (by omega)
        · split
          · exact regs_wr hr _ h3
          · split
            · exact calc_regs ho hr
            · exact hr
theorem plainT_ok {o : O4} {r : List Int} {t : Th} (hr : regsOk r = true) (ht : thOk t = true) : thOk (plainT o r t) = true := by
  obtain ⟨h1, h2, h3⟩ := th_parts ht
  have q := rd_all (lo := 0) (hi := 65535) (by omega) (regsOk_out hr).2
  unfold plainT
  split
  · exact th_mk (cells_wr h1 _ (q _)) h2 h3
  · split
    · exact th_mk h1 (map_wr h2 _ (by have := q o.b; omega)) h3
    · split
      · exact th_mk h1 (map_wr h2 _ (by omega)) h3
      · split
        · exact th_mk h1 h2 (by show 0 ≤ (t.n + rd r o.a) % 65536 ∧ (t.n + rd r o.a) % 65536 ≤ 65535; omega)
        · exact ht

/-! ### the blocks that are open -/
/-- what lies below an open block is the stack where it began -/
theorem stack_below {xs : List O4} {b : Nat} {rest : List Int} : ∀ (k : Nat) (ex : List Int), stAt xs k = ex ++ (b : Int) :: rest → rest = stAt xs b
  | 0, ex, h => by
    have h0 : stAt xs 0 = [-1] := rfl
    rw [h0] at h
    rcases ex with _ | ⟨x, ex⟩
    · simp at h
    · simp at h
  | k + 1, ex, h => by
    have hs : stAt xs (k + 1) = stepS (stAt xs k) k (xs.getD k z4) := rfl
    rw [hs] at h
    unfold stepS at h
    split at h
    · rcases ex with _ | ⟨x, ex⟩
      · simp only [List.nil_append, List.cons.injEq] at h
        have hb : b = k := by omega
        rw [hb]; exact h.2.symm
      · simp only [List.cons_append, List.cons.injEq] at h
        exact stack_below k ex h.2
    · split at h
      · rcases hk : stAt xs k with _ | ⟨x, l⟩
        · rw [hk] at h; simp at h
        · rw [hk, List.tail_cons] at h
          exact stack_below k (x :: ex) (by rw [hk, h]; rfl)
      · exact stack_below k ex h
/-- where a block ends, the stack is what it was where it began -/
theorem end_stack {xs : List O4} {r : List Int} : ∀ (n k : Nat) (ex : List Int) (d : Int) (e : Nat), k + n = xs.length → stAt xs k = ex ++ r → (ex.length : Int) = d → 1 ≤ d → endGo (xs.drop k) d k = (e : Int) → stAt xs (e + 1) = r
  | 0, k, ex, d, e, hk, hs, hd, h1, he => by
    rw [List.drop_of_length_le (by omega)] at he
    simp [endGo] at he
  | n + 1, k, ex, d, e, hk, hs, hd, h1, he => by
    have hlt : k < xs.length := by omega
    have hst := stAt_succ hlt
    rw [endGo_step hlt] at he
    by_cases h8 : xs[k].k = 8
    · rw [delta8 h8, if_neg (by omega)] at he
      rw [step8 h8, hs] at hst
      exact end_stack n (k + 1) ((k : Int) :: ex) (d + 1) e (by omega) hst (by simp; omega) (by omega) he
    · by_cases h9 : xs[k].k = 9
      · rw [delta9 h9] at he
        rw [step9 h9, hs] at hst
        rcases ex with _ | ⟨x, ex⟩
        · simp at hd; omega
        · rw [List.cons_append, List.tail_cons] at hst
          by_cases hz : d + -1 = 0
          · rw [if_pos hz] at he
            have hke : k = e := by omega
            subst hke
            have : ex = [] := by simp at hd; exact List.eq_nil_of_length_eq_zero (by omega)
            rw [this] at hst; exact hst
          · rw [if_neg hz] at he
            exact end_stack n (k + 1) ex (d + -1) e (by omega) hst (by simp at hd; omega) (by omega) he
      · rw [delta0 h8 h9, Int.add_zero, if_neg (by omega)] at he
        rw [step0 h8 h9, hs] at hst
        exact end_stack n (k + 1) ex d e (by omega) hst hd h1 he
end Ops
end Go.Proofs.Ytajbmokidcdfnaa
/- append of numbers, with what it says of where the answer lies. -/
set_option linter.unusedVariables false
namespace Go.Proofs.Ytajbmokidcdfnaa
open Go.RowKit
namespace Ints
open Bas

def intEl : Flat.El Int where
  sz := 1
  cells x := [.int .i64 x]
  len _ := rfl
  one x v hv := by simp at hv; rw [hv]; rfl
  pos := by decide
theorem rowInt : Flat.Row Try.prog intEl 23 3 (.int .i64 0) 0 8 := ⟨Try.underlying23, by kernel_rfl, rfl, by decide⟩
theorem fv_iv (zs : List Int) : Flat.fv intEl zs = iv zs := by
  unfold Flat.fv iv
  induction zs with
  | nil => rfl
  | cons x r ih => rw [List.flatMap_cons, ih]; rfl
theorem owns_iff {B : Nat} {w : World} {v : Value} {zs : List Int} : Flat.Owns intEl 3 B w v zs ↔ Owns B w v zs := by
  unfold Flat.Owns Owns
  rw [fv_iv]; rfl
theorem flat_sees {B : Nat} {w : World} {v : Value} {zs : List Int} (h : Sees B w v zs) : Flat.Sees intEl B w v zs := by
  obtain ⟨a, cap, rfl, h1, h2, h3⟩ := h
  refine ⟨a, cap, rfl, h1, h2, fun hne => ?_⟩
  obtain ⟨b, off, rfl, hb, hc⟩ := h3 hne
  refine ⟨b, off, rfl, hb, fun j hj i u hu => ?_⟩
  change [Value.int .i64 zs[j]][i]? = some u at hu
  rcases i with _ | i
  · change w.cell? ⟨b, off + j * 1 + 0, none⟩ = _
    rw [Nat.mul_one, Nat.add_zero, hc j hj]; simpa using hu
  · simp at hu
/-- append(u, v...) -/
theorem appJ (u v : Value) (ty : TypeId) (xs zs : List Int) (B b0 : Nat) (w : World) (hu : Owns b0 w u xs) (h0 : b0 ≤ w.heap.size) (hv : Sees B w v zs) (hlen : xs.length + zs.length ≤ 4194304) :
    ∃ v' w', (Builtin.append_ #[23, 23] ty #[u, v]).run Try.prog w = .ok v' w' ∧ Owns b0 w' v' (xs ++ zs) ∧ w.grownBy w' u.ownBlock ∧ (∀ k, v'.ownBlock = some k → u.ownBlock = some k ∨ w.heap.size ≤ k) := by
  obtain ⟨v', w', hr, hO, hG, hk⟩ := Flat.app rowInt u v ty xs zs B b0 w (owns_iff.2 hu) h0 (flat_sees hv) hlen
  exact ⟨v', w', hr, owns_iff.1 hO, hG, hk⟩
theorem owns_lit (w : World) {B : Nat} (hB : B ≤ w.heap.size) : Owns B (w.alloc (.cells #[] 3)) (.slice (some ⟨w.heap.size, 0, none⟩) 0 0) [] := World.ownsRow_lit w #[] 0 hB (by simp [maxLen]) rfl
end Ints
end Go.Proofs.Ytajbmokidcdfnaa
/- An operation of a region that draws its order, taken first, its slot written out. -/
namespace Go.Proofs.Ytajbmokidcdfnaa
namespace Bas
section
variable {P : Program} {ops : Array Oper} {Q : Exit → Act → World → Prop} {md : Region.Mode} {S : World → Prop}
theorem takeH {i : Nat} (d : Option Tmp) (v : Value) {oi : Oper} {fuel : Nat} {listed : Array Bool} {a : Act} {w : World} (hi : ops[i]? = some oi) (hd : oi.dst = d)
    (hs : Region.noSelect ops = true) (hf : Region.free md ops listed i = true) (hr : (Region.ready md ops listed).contains i = true)
    (hQ : ∀ c a w, Q (.panic c) (a.put d v) w → Q (.panic c) a w) (hy : YieldsIf P ops S oi v a) (hS : S w)
    (h : wpAnyH P md ops Q S fuel (listed.setIfInBounds i true) (a.put d v) w) : wpAnyH P md ops Q S (fuel + 1) listed a w := by
  subst hd; exact wpAnyH_take hi hs hf hr hQ hy hS h
theorem undrewB {w w' : World} (h : RowKit.Below w.drew.heap.size w.drew w') : RowKit.Below w.heap.size w w' := ⟨h.os, h.tape, h.output, h.size, h.block⟩
end
end Bas
end Go.Proofs.Ytajbmokidcdfnaa
/- Things in memory: two rows of numbers and a number; what the specification's l7Copy answers. -/
set_option linter.unusedVariables false
set_option linter.unusedSimpArgs false
namespace Go.Proofs.Ytajbmokidcdfnaa
open Go.RowKit
namespace Ops
open Bas

/-- two slices lie in different blocks -/
def Dj (a b : Value) : Prop := ∀ k, a.ownBlock = some k → b.ownBlock ≠ some k
theorem Dj.symm {a b : Value} (h : Dj a b) : Dj b a := fun k hb ha => h k ha hb
/-- things that are read -/
structure SeeT (B : Nat) (W : World) (vc vm : Value) (t : Th) : Prop where
  c : Ints.Sees B W vc t.c
  m : Ints.Sees B W vm t.m
/-- things that the call owns -/
structure OwnT (B : Nat) (W : World) (vc vm : Value) (t : Th) : Prop where
  c : Ints.Owns B W vc t.c
  m : Ints.Owns B W vm t.m
  d : Dj vc vm
section
variable {B B' : Nat} {W W' : World} {vc vm : Value} {t : Th}
theorem SeeT.on (h : SeeT B W vc vm t) (hb : Below B' W W') (hB : B ≤ B') : SeeT B W' vc vm t := ⟨h.c.on hb hB, h.m.on hb hB⟩
theorem SeeT.up (h : SeeT B W vc vm t) (hB : B ≤ B') : SeeT B' W vc vm t := ⟨h.c.up hB, h.m.up hB⟩
theorem OwnT.on (h : OwnT B W vc vm t) (hb : Below W.heap.size W W') : OwnT B W' vc vm t := ⟨h.c.on hb (Nat.le_refl _), h.m.on hb (Nat.le_refl _), h.d⟩
theorem OwnT.mono (h : OwnT B W vc vm t) (hB : B' ≤ B) : OwnT B' W vc vm t := ⟨h.c.mono hB, h.m.mono hB, h.d⟩
theorem OwnT.sees (h : OwnT B W vc vm t) : SeeT W.heap.size W vc vm t := ⟨h.c.sees, h.m.sees⟩
end
/-- rows that were made one behind the other lie apart -/
theorem dj_new {B B' : Nat} {W W' : World} {a b : Value} {zs ys : List Int} (ha : Ints.Owns B W a zs) (hb : Ints.Owns W.heap.size W' b ys) : Dj a b := fun k h h' => by
  have := (ha.at k h).2
  have := (hb.at k h').1
  omega

theorem ob_eq {p k n c : Nat} (h : (Value.slice (some ⟨p, 0, none⟩) n c).ownBlock = some k) : k = p := by cases h; rfl
/-- while things are copied: the boxed things, the result's place, what is copied -/
structure CSt (B P : Nat) (w W : World) (q : Nat) (vc vm : Value) (t : Th) : Prop where
  X : Blk W w.heap.size #[vc, vm, .int .i64 t.n] 49
  R : Blk W q #[.slice none 0 0, .slice none 0 0, .int .i64 0] 49
  v : SeeT B W vc vm t
  b : Below w.heap.size w W
  hq : w.heap.size < q ∧ q < P ∧ B ≤ w.heap.size ∧ P ≤ W.heap.size
theorem CSt.low {B P q : Nat} {w W W' : World} {vc vm : Value} {t : Th} (h : CSt B P w W q vc vm t) (hb : Below P W W') : CSt B P w W' q vc vm t :=
  have h1 := h.hq
  { X := h.X.on hb (by omega), R := h.R.on hb (by omega), v := h.v.on hb (by omega), b := h.b.trans (hb.mono (by omega)), hq := ⟨h1.1, h1.2.1, h1.2.2.1, Nat.le_trans h1.2.2.2 hb.size⟩ }
theorem CSt.grown {B P q : Nat} {w W W' : World} {vc vm : Value} {t : Th} (h : CSt B P w W q vc vm t) {p : Nat} (hg : W.grownBy W' (some p)) (hp : P ≤ p) : CSt B P w W' q vc vm t :=
  h.low ((Below.refl P W).grown hg h.hq.2.2.2 (fun k hk => by injection hk with e; omega))
theorem CSt.drew {B P q : Nat} {w W : World} {vc vm : Value} {t : Th} (h : CSt B P w W q vc vm t) : CSt B P w W.drew q vc vm t := { X := h.X, R := h.R, v := ⟨h.v.c, h.v.m⟩, b := ⟨h.b.os, h.b.tape, h.b.output, h.b.size, h.b.block⟩, hq := h.hq }
theorem own_other {B : Nat} {W : World} {v : Value} {zs : List Int} (h : Ints.Owns B W v zs) {q : Nat} (hq : q < B) (i : Nat) (u : Value) : Ints.Owns B (W.setCell ⟨q, i, none⟩ u) v zs :=
  h.keep fun k hk => Below.heap_setCell W ⟨q, i, none⟩ u k (by have := (h.at k hk).1; show k ≠ q; omega)
set_option maxRecDepth 100000 in
set_option maxHeartbeats 6400000 in
theorem copyC (vc vm : Value) (t : Th) (B : Nat) (w : World) (hv : SeeT B w vc vm t) (hB : B ≤ w.heap.size) (h1 : t.c.length ≤ 1048576) (h2 : t.m.length ≤ 1048576) :
    Calls Try.prog 81 #[.agg #[vc, vm, .int .i64 t.n]] w fun e w' => ∃ vc' vm', e = .returned (.agg #[vc', vm', .int .i64 t.n]) ∧ OwnT w.heap.size w' vc' vm' t ∧ Below w.heap.size w w' := by
  obtain ⟨ac, cc, rfl⟩ := hv.c.form
  obtain ⟨am, cm, rfl⟩ := hv.m.form
  obtain ⟨nc, hnc⟩ : ∃ n, t.c.length = n := ⟨_, rfl⟩
  obtain ⟨nm, hnm⟩ : ∃ n, t.m.length = n := ⟨_, rfl⟩
  rw [hnc] at hv ⊢
  rw [hnm] at hv ⊢
  obtain ⟨tn, htn⟩ : ∃ n, t.n = n := ⟨_, rfl⟩
  have HTN := (show Hid _ from htn)
  rw [htn]
  clear htn
  have X0 := Blk.new w #[.slice ac nc cc, .slice am nm cm, .int .i64 tn] 49
  have b0 := alloc_below w (.cells #[.slice ac nc cc, .slice am nm cm, .int .i64 tn] 49)
  obtain ⟨w0, hw0⟩ : ∃ w0, w.alloc (.cells #[.slice ac nc cc, .slice am nm cm, .int .i64 tn] 49) = w0 := ⟨_, rfl⟩
  have HW0 : Hid (w.alloc (.cells #[.slice ac nc cc, .slice am nm cm, .int .i64 tn] 49) = w0) := hw0
  have hz0 : w0.heap.size = w.heap.size + 1 := by rw [← hw0]; simp
  rw [hw0] at X0 b0
  clear hw0
  have R1 := Blk.new w0 #[.slice none 0 0, .slice none 0 0, .int .i64 0] 49
  have bR := alloc_below w0 (.cells #[.slice none 0 0, .slice none 0 0, .int .i64 0] 49)
  have X1 := X0.on bR X0.lt
  have bb := b0.trans (bR.mono b0.size)
  obtain ⟨w1, hw1⟩ : ∃ w1, w0.alloc (.cells #[.slice none 0 0, .slice none 0 0, .int .i64 0] 49) = w1 := ⟨_, rfl⟩
  have HW1 : Hid (w0.alloc (.cells #[.slice none 0 0, .slice none 0 0, .int .i64 0] 49) = w1) := hw1
  have hz1 : w1.heap.size = w.heap.size + 2 := by rw [← hw1]; simp [hz0]
  rw [hw1] at R1 X1 bb
  rw [hz0] at R1
  clear hw1 X0 b0 bR
  have hz1' : w.heap.size + 1 < w1.heap.size := by omega
  clear hz0 hz1
  have hv1 : SeeT B w1 (.slice ac nc cc) (.slice am nm cm) t := hv.on bb hB
  obtain ⟨P, hP⟩ : ∃ P, w1.heap.size = P := ⟨_, rfl⟩
  have HPw : Hid (w1.heap.size = P) := hP
  have x0 := X1.cell 0; have x1 := X1.cell 1; have x2 := X1.cell 2
  go_enter Try.func81, Try.ntmps81
  go_wp2_with fail
  rw [HW0.out, HW1.out]
  obtain ⟨q, hq⟩ : ∃ q, w.heap.size + 1 = q := ⟨_, rfl⟩
  have hqw : w.heap.size < q := by omega
  have hqP : q < P := by omega
  rw [hq] at R1 ⊢
  clear hq
  have S1 : CSt B P w w1 q (.slice ac nc cc) (.slice am nm cm) t := { X := by rw [HTN.out]; exact X1, R := R1, v := hv1, b := bb, hq := ⟨hqw, hqP, hB, by rw [HPw.out]; exact Nat.le_refl _⟩ }
  clear X1 R1 hv1 bb hv HW0 HW1 hP hz1'
  refine wp_region_held_drew (S := fun W => W.cell? ⟨w.heap.size, 0, none⟩ = some (.slice ac nc cc) ∧ W.cell? ⟨w.heap.size, 1, none⟩ = some (.slice am nm cm) ∧ W.cell? ⟨w.heap.size, 2, none⟩ = some (.int .i64 tn)) (by kernel_rfl) ⟨x0, x1, x2⟩ (fun hHeld => ?_)
  refine takeH (i := 1) (some 4) (.pointer (some ⟨w.heap.size, 0, none⟩)) rfl rfl (by kernel_rfl) (by kernel_rfl) (by kernel_rfl) (fun _ _ _ h => h) (Or.inl ⟨by rfl, fun W hSw => by obtain ⟨y0, y1, y2⟩ := hSw; go_simp⟩) (by assumption) ?_
  try simp only [Act.put, List.setIfInBounds_toArray, List.set_cons_zero, List.set_cons_succ]
  refine takeH (i := 2) (some 5) (.slice ac nc cc) rfl rfl (by kernel_rfl) (by kernel_rfl) (by kernel_rfl) (fun _ _ _ h => h) (Or.inl ⟨by rfl, fun W hSw => by obtain ⟨y0, y1, y2⟩ := hSw; go_simp⟩) (by assumption) ?_
  try simp only [Act.put, List.setIfInBounds_toArray, List.set_cons_zero, List.set_cons_succ]
  refine takeH (i := 5) (some 8) (.pointer (some ⟨w.heap.size, 1, none⟩)) rfl rfl (by kernel_rfl) (by kernel_rfl) (by kernel_rfl) (fun _ _ _ h => h) (Or.inl ⟨by rfl, fun W hSw => by obtain ⟨y0, y1, y2⟩ := hSw; go_simp⟩) (by assumption) ?_
  try simp only [Act.put, List.setIfInBounds_toArray, List.set_cons_zero, List.set_cons_succ]
  refine takeH (i := 6) (some 9) (.slice am nm cm) rfl rfl (by kernel_rfl) (by kernel_rfl) (by kernel_rfl) (fun _ _ _ h => h) (Or.inl ⟨by rfl, fun W hSw => by obtain ⟨y0, y1, y2⟩ := hSw; go_simp⟩) (by assumption) ?_
  try simp only [Act.put, List.setIfInBounds_toArray, List.set_cons_zero, List.set_cons_succ]
  refine takeH (i := 8) (some 11) (.pointer (some ⟨w.heap.size, 2, none⟩)) rfl rfl (by kernel_rfl) (by kernel_rfl) (by kernel_rfl) (fun _ _ _ h => h) (Or.inl ⟨by rfl, fun W hSw => by obtain ⟨y0, y1, y2⟩ := hSw; go_simp⟩) (by assumption) ?_
  try simp only [Act.put, List.setIfInBounds_toArray, List.set_cons_zero, List.set_cons_succ]
  refine takeH (i := 9) (some 12) (.int .i64 tn) rfl rfl (by kernel_rfl) (by kernel_rfl) (by kernel_rfl) (fun _ _ _ h => h) (Or.inl ⟨by rfl, fun W hSw => by obtain ⟨y0, y1, y2⟩ := hSw; go_simp⟩) (by assumption) ?_
  try simp only [Act.put, List.setIfInBounds_toArray, List.set_cons_zero, List.set_cons_succ]
  refine wpAnyH_ready (rs := [0, 4]) (by kernel_rfl) (by simp) ?_
  refine AllReadyH.cons rfl (fun K hK => ?_) (AllReadyH.cons rfl (fun K hK => ?_) AllReadyH.nil)
  · go_simp
    have A2 := alloc_below w1 (.cells #[] 3)
    have u0 : Ints.Owns w1.heap.size (w1.alloc (.cells #[] 3)).drew (.slice (some ⟨w1.heap.size, 0, none⟩) 0 0) [] := Ints.owns_lit w1 (Nat.le_refl _)
    have S2 : CSt B P w (w1.alloc (.cells #[] 3)).drew q (.slice ac nc cc) (.slice am nm cm) t := (CSt.drew (S1.low (A2.mono S1.hq.2.2.2)))
    have z2 : w1.heap.size < (w1.alloc (.cells #[] 3)).drew.heap.size := by show w1.heap.size < (w1.alloc (.cells #[] 3)).heap.size; simp
    have hP0 : P ≤ w1.heap.size := S1.hq.2.2.2
    obtain ⟨w2, hw2⟩ : ∃ W, (w1.alloc (.cells #[] 3)).drew = W := ⟨_, rfl⟩
    rw [hw2] at u0 S2 z2  ⊢
    obtain ⟨p0, hp0⟩ : ∃ p, w1.heap.size = p := ⟨_, rfl⟩
    rw [hp0] at u0 z2 hP0 ⊢
    clear hw2 A2
    refine hK.out _ _ ⟨by have := S2.X.cell 0; simpa using this, by have := S2.X.cell 1; simpa using this, by have := S2.X.cell 2; rw [HTN.out] at this; simpa using this⟩ (fun hH2 => ?_)
    clear hK K
    try simp only [Act.put, List.setIfInBounds_toArray, List.set_cons_zero, List.set_cons_succ]
    refine wpAnyH_ready (rs := [3, 4]) (by kernel_rfl) (by simp) ?_
    refine AllReadyH.cons rfl (fun K hK => ?_) (AllReadyH.cons rfl (fun K hK => ?_) AllReadyH.nil)
    · obtain ⟨v3, w3, hr3, O3, G3, L3⟩ := Ints.appJ (.slice (some ⟨p0, 0, none⟩) 0 0) (.slice ac nc cc) 23 [] t.c B p0 w2 u0 (by omega) S2.v.c (by simp; omega)
      have S3_ := S2.grown G3 hP0
      have L3 : ∀ k, v3.ownBlock = some k → k = p0 ∨ w2.heap.size ≤ k := fun k hk => (L3 k hk).imp ob_eq id
      have h3 : ∀ k, v3.ownBlock = some k → p0 ≤ k ∧ k < w3.heap.size := fun k hk => O3.at k hk
      rw [List.nil_append] at O3
      refine step_app rfl (.tmp 3) (.tmp 5) 23 rfl _ _ v3 w3 rfl rfl hr3 ?_
      have S3 := S3_
      have z3 : w2.heap.size ≤ w3.heap.size := G3.size
      clear hr3 G3 S3_
      refine hK.out _ _ ⟨by have := S3.X.cell 0; simpa using this, by have := S3.X.cell 1; simpa using this, by have := S3.X.cell 2; rw [HTN.out] at this; simpa using this⟩ (fun hH3 => ?_)
      clear hK K
      try simp only [Act.put, List.setIfInBounds_toArray, List.set_cons_zero, List.set_cons_succ]
      refine wpAnyH_ready (rs := [4]) (by kernel_rfl) (by simp) ?_
      refine AllReadyH.cons rfl (fun K hK => ?_) AllReadyH.nil
      go_simp
      have A4 := alloc_below w3 (.cells #[] 3)
      have u4 : Ints.Owns w3.heap.size (w3.alloc (.cells #[] 3)) (.slice (some ⟨w3.heap.size, 0, none⟩) 0 0) [] := Ints.owns_lit w3 (Nat.le_refl _)
      have S4 : CSt B P w (w3.alloc (.cells #[] 3)) q (.slice ac nc cc) (.slice am nm cm) t := ((S3.low (A4.mono S3.hq.2.2.2)))
      have O3 : Ints.Owns _ (w3.alloc (.cells #[] 3)) _ _ := O3.on A4 (Nat.le_refl _)
      have z4 : w3.heap.size < (w3.alloc (.cells #[] 3)).heap.size := by show w3.heap.size < (w3.alloc (.cells #[] 3)).heap.size; simp
      have hP4 : P ≤ w3.heap.size := S3.hq.2.2.2
      obtain ⟨w4, hw4⟩ : ∃ W, (w3.alloc (.cells #[] 3)) = W := ⟨_, rfl⟩
      rw [hw4] at u4 S4 z4 O3 ⊢
      obtain ⟨p4, hp4⟩ : ∃ p, w3.heap.size = p := ⟨_, rfl⟩
      rw [hp4] at u4 z4 hP4 ⊢
      clear hw4 A4
      refine hK.out _ _ ⟨by have := S4.X.cell 0; simpa using this, by have := S4.X.cell 1; simpa using this, by have := S4.X.cell 2; rw [HTN.out] at this; simpa using this⟩ (fun hH4 => ?_)
      clear hK K
      try simp only [Act.put, List.setIfInBounds_toArray, List.set_cons_zero, List.set_cons_succ]
      refine wpAnyH_ready (rs := [7]) (by kernel_rfl) (by simp) ?_
      refine AllReadyH.cons rfl (fun K hK => ?_) AllReadyH.nil
      obtain ⟨v7, w5, hr7, O7, G7, L7⟩ := Ints.appJ (.slice (some ⟨p4, 0, none⟩) 0 0) (.slice am nm cm) 23 [] t.m B p4 w4 u4 (by omega) S4.v.m (by simp; omega)
      have S5_ := S4.grown G7 hP4
      have L7 : ∀ k, v7.ownBlock = some k → k = p4 ∨ w4.heap.size ≤ k := fun k hk => (L7 k hk).imp ob_eq id
      have h7 : ∀ k, v7.ownBlock = some k → p4 ≤ k ∧ k < w5.heap.size := fun k hk => O7.at k hk
      have O3 := O3.grown G7 (fun k hk e => by have e := ob_eq e.symm; have a3 := L3 k hk; have b3 := h3 k hk; omega)
      rw [List.nil_append] at O7
      refine step_app rfl (.tmp 7) (.tmp 9) 23 rfl _ _ v7 w5 rfl rfl hr7 ?_
      have S5 := S5_
      have z5 : w4.heap.size ≤ w5.heap.size := G7.size
      clear hr7 G7 S5_
      refine hK.out _ _ ⟨by have := S5.X.cell 0; simpa using this, by have := S5.X.cell 1; simpa using this, by have := S5.X.cell 2; rw [HTN.out] at this; simpa using this⟩ (fun hH5 => ?_)
      clear hK K
      try simp only [Act.put, List.setIfInBounds_toArray, List.set_cons_zero, List.set_cons_succ]
      have hd : Dj v3 v7 := fun k x3 x7 => by
        have a3 := L3 k x3; have b3 := h3 k x3; have a7 := L7 k x7; have b7 := h7 k x7
        omega
      obtain ⟨aa, ca, rfl⟩ := O3.form
      obtain ⟨ab, cb, rfl⟩ := O7.form
      rw [hnc, hnm]
      rw [hnc] at O3 hd
      rw [hnm] at O7 hd
      refine takeH (i := 10) (some 13) (.agg #[.slice aa nc ca, .slice ab nm cb, .int .i64 tn]) rfl rfl (by kernel_rfl) (by kernel_rfl) (by kernel_rfl) (fun _ _ _ h => h) (Or.inl ⟨by rfl, fun W hSw => by go_simp⟩) (by assumption) ?_
      try simp only [Act.put, List.setIfInBounds_toArray, List.set_cons_zero, List.set_cons_succ]
      refine wpAnyH_ready (rs := [11]) (by kernel_rfl) (by simp) ?_
      refine AllReadyH.cons rfl (fun K hK => ?_) AllReadyH.nil
      have r0 := S5.R.cell 0; have r1 := S5.R.cell 1; have r2 := S5.R.cell 2
      have f0 := S5.R.froz 0; have f1 := S5.R.froz 1; have f2 := S5.R.froz 2
      have hqs := S5.hq
      have X9 := ((S5.X.other (q := q) (by omega) 0 (.slice aa nc ca)).other (q := q) (by omega) 1 (.slice ab nm cb)).other (q := q) (by omega) 2 (.int .i64 tn)
      have b9 := ((S5.b.setCell (p := ⟨q, 0, none⟩) (by show w.heap.size ≤ q; omega) (.slice aa nc ca)).setCell (p := ⟨q, 1, none⟩) (by show w.heap.size ≤ q; omega) (.slice ab nm cb)).setCell (p := ⟨q, 2, none⟩) (by show w.heap.size ≤ q; omega) (.int .i64 tn)
      have Oa := (own_other (own_other (own_other O3 (q := q) (by omega) 0 (.slice aa nc ca)) (q := q) (by omega) 1 (.slice ab nm cb)) (q := q) (by omega) 2 (.int .i64 tn)).mono (show w.heap.size ≤ p0 by omega)
      have Ob := (own_other (own_other (own_other O7 (q := q) (by omega) 0 (.slice aa nc ca)) (q := q) (by omega) 1 (.slice ab nm cb)) (q := q) (by omega) 2 (.int .i64 tn)).mono (show w.heap.size ≤ p4 by omega)
      go_simp
      refine hK.out _ _ ⟨by have := X9.cell 0; simpa using this, by have := X9.cell 1; simpa using this, by have := X9.cell 2; rw [HTN.out] at this; simpa using this⟩ (fun hH9 => ?_)
      clear hK K
      try simp only [Act.put, List.setIfInBounds_toArray, List.set_cons_zero, List.set_cons_succ]
      refine wpAnyH_done (by kernel_rfl) ?_ _
      go_wp2
      refine bodyPost_ret (v := .agg #[.slice aa nc ca, .slice ab nm cb, .int .i64 tn]) (by simp [results, Try.results81, go_sem, r0, r1, r2, f0, f1, f2]) rfl ?_
      exact ⟨_, _, rfl, ⟨Oa, Ob, hd⟩, b9⟩
    · go_simp
      have A3 := alloc_below w2 (.cells #[] 3)
      have u4 : Ints.Owns w2.heap.size (w2.alloc (.cells #[] 3)) (.slice (some ⟨w2.heap.size, 0, none⟩) 0 0) [] := Ints.owns_lit w2 (Nat.le_refl _)
      have S3 : CSt B P w (w2.alloc (.cells #[] 3)) q (.slice ac nc cc) (.slice am nm cm) t := ((S2.low (A3.mono S2.hq.2.2.2)))
      have u0 : Ints.Owns _ (w2.alloc (.cells #[] 3)) _ _ := u0.on A3 (Nat.le_refl _)
      have z3 : w2.heap.size < (w2.alloc (.cells #[] 3)).heap.size := by show w2.heap.size < (w2.alloc (.cells #[] 3)).heap.size; simp
      have hP4 : P ≤ w2.heap.size := S2.hq.2.2.2
      obtain ⟨w3, hw3⟩ : ∃ W, (w2.alloc (.cells #[] 3)) = W := ⟨_, rfl⟩
      rw [hw3] at u4 S3 z3 u0 ⊢
      obtain ⟨p4, hp4⟩ : ∃ p, w2.heap.size = p := ⟨_, rfl⟩
      rw [hp4] at u4 z3 hP4 ⊢
      clear hw3 A3
      refine hK.out _ _ ⟨by have := S3.X.cell 0; simpa using this, by have := S3.X.cell 1; simpa using this, by have := S3.X.cell 2; rw [HTN.out] at this; simpa using this⟩ (fun hH3 => ?_)
      clear hK K
      try simp only [Act.put, List.setIfInBounds_toArray, List.set_cons_zero, List.set_cons_succ]
      refine wpAnyH_ready (rs := [3]) (by kernel_rfl) (by simp) ?_
      refine AllReadyH.cons rfl (fun K hK => ?_) AllReadyH.nil
      obtain ⟨v3, w4, hr3, O3, G3, L3⟩ := Ints.appJ (.slice (some ⟨p0, 0, none⟩) 0 0) (.slice ac nc cc) 23 [] t.c B p0 w3 u0 (by omega) S3.v.c (by simp; omega)
      have S4_ := S3.grown G3 hP0
      have L3 : ∀ k, v3.ownBlock = some k → k = p0 ∨ w3.heap.size ≤ k := fun k hk => (L3 k hk).imp ob_eq id
      have h3 : ∀ k, v3.ownBlock = some k → p0 ≤ k ∧ k < w4.heap.size := fun k hk => O3.at k hk
      have u4 := u4.grown G3 (fun k hk e => by have e := ob_eq e.symm; have hk := ob_eq hk; omega)
      rw [List.nil_append] at O3
      refine step_app rfl (.tmp 3) (.tmp 5) 23 rfl _ _ v3 w4 rfl rfl hr3 ?_
      have S4 := S4_
      have z4 : w3.heap.size ≤ w4.heap.size := G3.size
      clear hr3 G3 S4_
      refine hK.out _ _ ⟨by have := S4.X.cell 0; simpa using this, by have := S4.X.cell 1; simpa using this, by have := S4.X.cell 2; rw [HTN.out] at this; simpa using this⟩ (fun hH4 => ?_)
      clear hK K
      try simp only [Act.put, List.setIfInBounds_toArray, List.set_cons_zero, List.set_cons_succ]
      refine wpAnyH_ready (rs := [7]) (by kernel_rfl) (by simp) ?_
      refine AllReadyH.cons rfl (fun K hK => ?_) AllReadyH.nil
      obtain ⟨v7, w5, hr7, O7, G7, L7⟩ := Ints.appJ (.slice (some ⟨p4, 0, none⟩) 0 0) (.slice am nm cm) 23 [] t.m B p4 w4 u4 (by omega) S4.v.m (by simp; omega)
      have S5_ := S4.grown G7 hP4
      have L7 : ∀ k, v7.ownBlock = some k → k = p4 ∨ w4.heap.size ≤ k := fun k hk => (L7 k hk).imp ob_eq id
      have h7 : ∀ k, v7.ownBlock = some k → p4 ≤ k ∧ k < w5.heap.size := fun k hk => O7.at k hk
      have O3 := O3.grown G7 (fun k hk e => by have e := ob_eq e.symm; have a3 := L3 k hk; have b3 := h3 k hk; omega)
      rw [List.nil_append] at O7
      refine step_app rfl (.tmp 7) (.tmp 9) 23 rfl _ _ v7 w5 rfl rfl hr7 ?_
      have S5 := S5_
      have z5 : w4.heap.size ≤ w5.heap.size := G7.size
      clear hr7 G7 S5_
      refine hK.out _ _ ⟨by have := S5.X.cell 0; simpa using this, by have := S5.X.cell 1; simpa using this, by have := S5.X.cell 2; rw [HTN.out] at this; simpa using this⟩ (fun hH5 => ?_)
      clear hK K
      try simp only [Act.put, List.setIfInBounds_toArray, List.set_cons_zero, List.set_cons_succ]
      have hd : Dj v3 v7 := fun k x3 x7 => by
        have a3 := L3 k x3; have b3 := h3 k x3; have a7 := L7 k x7; have b7 := h7 k x7
        omega
      obtain ⟨aa, ca, rfl⟩ := O3.form
      obtain ⟨ab, cb, rfl⟩ := O7.form
      rw [hnc, hnm]
      rw [hnc] at O3 hd
      rw [hnm] at O7 hd
      refine takeH (i := 10) (some 13) (.agg #[.slice aa nc ca, .slice ab nm cb, .int .i64 tn]) rfl rfl (by kernel_rfl) (by kernel_rfl) (by kernel_rfl) (fun _ _ _ h => h) (Or.inl ⟨by rfl, fun W hSw => by go_simp⟩) (by assumption) ?_
      try simp only [Act.put, List.setIfInBounds_toArray, List.set_cons_zero, List.set_cons_succ]
      refine wpAnyH_ready (rs := [11]) (by kernel_rfl) (by simp) ?_
      refine AllReadyH.cons rfl (fun K hK => ?_) AllReadyH.nil
      have r0 := S5.R.cell 0; have r1 := S5.R.cell 1; have r2 := S5.R.cell 2
      have f0 := S5.R.froz 0; have f1 := S5.R.froz 1; have f2 := S5.R.froz 2
      have hqs := S5.hq
      have X9 := ((S5.X.other (q := q) (by omega) 0 (.slice aa nc ca)).other (q := q) (by omega) 1 (.slice ab nm cb)).other (q := q) (by omega) 2 (.int .i64 tn)
      have b9 := ((S5.b.setCell (p := ⟨q, 0, none⟩) (by show w.heap.size ≤ q; omega) (.slice aa nc ca)).setCell (p := ⟨q, 1, none⟩) (by show w.heap.size ≤ q; omega) (.slice ab nm cb)).setCell (p := ⟨q, 2, none⟩) (by show w.heap.size ≤ q; omega) (.int .i64 tn)
      have Oa := (own_other (own_other (own_other O3 (q := q) (by omega) 0 (.slice aa nc ca)) (q := q) (by omega) 1 (.slice ab nm cb)) (q := q) (by omega) 2 (.int .i64 tn)).mono (show w.heap.size ≤ p0 by omega)
      have Ob := (own_other (own_other (own_other O7 (q := q) (by omega) 0 (.slice aa nc ca)) (q := q) (by omega) 1 (.slice ab nm cb)) (q := q) (by omega) 2 (.int .i64 tn)).mono (show w.heap.size ≤ p4 by omega)
      go_simp
      refine hK.out _ _ ⟨by have := X9.cell 0; simpa using this, by have := X9.cell 1; simpa using this, by have := X9.cell 2; rw [HTN.out] at this; simpa using this⟩ (fun hH9 => ?_)
      clear hK K
      try simp only [Act.put, List.setIfInBounds_toArray, List.set_cons_zero, List.set_cons_succ]
      refine wpAnyH_done (by kernel_rfl) ?_ _
      go_wp2
      refine bodyPost_ret (v := .agg #[.slice aa nc ca, .slice ab nm cb, .int .i64 tn]) (by simp [results, Try.results81, go_sem, r0, r1, r2, f0, f1, f2]) rfl ?_
      exact ⟨_, _, rfl, ⟨Oa, Ob, hd⟩, b9⟩
  · go_simp
    have A2 := alloc_below w1 (.cells #[] 3)
    have u4 : Ints.Owns w1.heap.size (w1.alloc (.cells #[] 3)).drew (.slice (some ⟨w1.heap.size, 0, none⟩) 0 0) [] := Ints.owns_lit w1 (Nat.le_refl _)
    have S2 : CSt B P w (w1.alloc (.cells #[] 3)).drew q (.slice ac nc cc) (.slice am nm cm) t := (CSt.drew (S1.low (A2.mono S1.hq.2.2.2)))
    have z2 : w1.heap.size < (w1.alloc (.cells #[] 3)).drew.heap.size := by show w1.heap.size < (w1.alloc (.cells #[] 3)).heap.size; simp
    have hP4 : P ≤ w1.heap.size := S1.hq.2.2.2
    obtain ⟨w2, hw2⟩ : ∃ W, (w1.alloc (.cells #[] 3)).drew = W := ⟨_, rfl⟩
    rw [hw2] at u4 S2 z2  ⊢
    obtain ⟨p4, hp4⟩ : ∃ p, w1.heap.size = p := ⟨_, rfl⟩
    rw [hp4] at u4 z2 hP4 ⊢
    clear hw2 A2
    refine hK.out _ _ ⟨by have := S2.X.cell 0; simpa using this, by have := S2.X.cell 1; simpa using this, by have := S2.X.cell 2; rw [HTN.out] at this; simpa using this⟩ (fun hH2 => ?_)
    clear hK K
    try simp only [Act.put, List.setIfInBounds_toArray, List.set_cons_zero, List.set_cons_succ]
    refine wpAnyH_ready (rs := [0]) (by kernel_rfl) (by simp) ?_
    refine AllReadyH.cons rfl (fun K hK => ?_) AllReadyH.nil
    go_simp
    have A3 := alloc_below w2 (.cells #[] 3)
    have u0 : Ints.Owns w2.heap.size (w2.alloc (.cells #[] 3)) (.slice (some ⟨w2.heap.size, 0, none⟩) 0 0) [] := Ints.owns_lit w2 (Nat.le_refl _)
    have S3 : CSt B P w (w2.alloc (.cells #[] 3)) q (.slice ac nc cc) (.slice am nm cm) t := ((S2.low (A3.mono S2.hq.2.2.2)))
    have u4 : Ints.Owns _ (w2.alloc (.cells #[] 3)) _ _ := u4.on A3 (Nat.le_refl _)
    have z3 : w2.heap.size < (w2.alloc (.cells #[] 3)).heap.size := by show w2.heap.size < (w2.alloc (.cells #[] 3)).heap.size; simp
    have hP0 : P ≤ w2.heap.size := S2.hq.2.2.2
    obtain ⟨w3, hw3⟩ : ∃ W, (w2.alloc (.cells #[] 3)) = W := ⟨_, rfl⟩
    rw [hw3] at u0 S3 z3 u4 ⊢
    obtain ⟨p0, hp0⟩ : ∃ p, w2.heap.size = p := ⟨_, rfl⟩
    rw [hp0] at u0 z3 hP0 ⊢
    clear hw3 A3
    refine hK.out _ _ ⟨by have := S3.X.cell 0; simpa using this, by have := S3.X.cell 1; simpa using this, by have := S3.X.cell 2; rw [HTN.out] at this; simpa using this⟩ (fun hH3 => ?_)
    clear hK K
    try simp only [Act.put, List.setIfInBounds_toArray, List.set_cons_zero, List.set_cons_succ]
    refine wpAnyH_ready (rs := [3]) (by kernel_rfl) (by simp) ?_
    refine AllReadyH.cons rfl (fun K hK => ?_) AllReadyH.nil
    obtain ⟨v3, w4, hr3, O3, G3, L3⟩ := Ints.appJ (.slice (some ⟨p0, 0, none⟩) 0 0) (.slice ac nc cc) 23 [] t.c B p0 w3 u0 (by omega) S3.v.c (by simp; omega)
    have S4_ := S3.grown G3 hP0
    have L3 : ∀ k, v3.ownBlock = some k → k = p0 ∨ w3.heap.size ≤ k := fun k hk => (L3 k hk).imp ob_eq id
    have h3 : ∀ k, v3.ownBlock = some k → p0 ≤ k ∧ k < w4.heap.size := fun k hk => O3.at k hk
    have u4 := u4.grown G3 (fun k hk e => by have e := ob_eq e.symm; have hk := ob_eq hk; omega)
    rw [List.nil_append] at O3
    refine step_app rfl (.tmp 3) (.tmp 5) 23 rfl _ _ v3 w4 rfl rfl hr3 ?_
    have S4 := S4_
    have z4 : w3.heap.size ≤ w4.heap.size := G3.size
    clear hr3 G3 S4_
    refine hK.out _ _ ⟨by have := S4.X.cell 0; simpa using this, by have := S4.X.cell 1; simpa using this, by have := S4.X.cell 2; rw [HTN.out] at this; simpa using this⟩ (fun hH4 => ?_)
    clear hK K
    try simp only [Act.put, List.setIfInBounds_toArray, List.set_cons_zero, List.set_cons_succ]
    refine wpAnyH_ready (rs := [7]) (by kernel_rfl) (by simp) ?_
    refine AllReadyH.cons rfl (fun K hK => ?_) AllReadyH.nil
    obtain ⟨v7, w5, hr7, O7, G7, L7⟩ := Ints.appJ (.slice (some ⟨p4, 0, none⟩) 0 0) (.slice am nm cm) 23 [] t.m B p4 w4 u4 (by omega) S4.v.m (by simp; omega)
    have S5_ := S4.grown G7 hP4
    have L7 : ∀ k, v7.ownBlock = some k → k = p4 ∨ w4.heap.size ≤ k := fun k hk => (L7 k hk).imp ob_eq id
    have h7 : ∀ k, v7.ownBlock = some k → p4 ≤ k ∧ k < w5.heap.size := fun k hk => O7.at k hk
    have O3 := O3.grown G7 (fun k hk e => by have e := ob_eq e.symm; have a3 := L3 k hk; have b3 := h3 k hk; omega)
    rw [List.nil_append] at O7
    refine step_app rfl (.tmp 7) (.tmp 9) 23 rfl _ _ v7 w5 rfl rfl hr7 ?_
    have S5 := S5_
    have z5 : w4.heap.size ≤ w5.heap.size := G7.size
    clear hr7 G7 S5_
    refine hK.out _ _ ⟨by have := S5.X.cell 0; simpa using this, by have := S5.X.cell 1; simpa using this, by have := S5.X.cell 2; rw [HTN.out] at this; simpa using this⟩ (fun hH5 => ?_)
    clear hK K
    try simp only [Act.put, List.setIfInBounds_toArray, List.set_cons_zero, List.set_cons_succ]
    have hd : Dj v3 v7 := fun k x3 x7 => by
      have a3 := L3 k x3; have b3 := h3 k x3; have a7 := L7 k x7; have b7 := h7 k x7
      omega
    obtain ⟨aa, ca, rfl⟩ := O3.form
    obtain ⟨ab, cb, rfl⟩ := O7.form
    rw [hnc, hnm]
    rw [hnc] at O3 hd
    rw [hnm] at O7 hd
    refine takeH (i := 10) (some 13) (.agg #[.slice aa nc ca, .slice ab nm cb, .int .i64 tn]) rfl rfl (by kernel_rfl) (by kernel_rfl) (by kernel_rfl) (fun _ _ _ h => h) (Or.inl ⟨by rfl, fun W hSw => by go_simp⟩) (by assumption) ?_
    try simp only [Act.put, List.setIfInBounds_toArray, List.set_cons_zero, List.set_cons_succ]
    refine wpAnyH_ready (rs := [11]) (by kernel_rfl) (by simp) ?_
    refine AllReadyH.cons rfl (fun K hK => ?_) AllReadyH.nil
    have r0 := S5.R.cell 0; have r1 := S5.R.cell 1; have r2 := S5.R.cell 2
    have f0 := S5.R.froz 0; have f1 := S5.R.froz 1; have f2 := S5.R.froz 2
    have hqs := S5.hq
    have X9 := ((S5.X.other (q := q) (by omega) 0 (.slice aa nc ca)).other (q := q) (by omega) 1 (.slice ab nm cb)).other (q := q) (by omega) 2 (.int .i64 tn)
    have b9 := ((S5.b.setCell (p := ⟨q, 0, none⟩) (by show w.heap.size ≤ q; omega) (.slice aa nc ca)).setCell (p := ⟨q, 1, none⟩) (by show w.heap.size ≤ q; omega) (.slice ab nm cb)).setCell (p := ⟨q, 2, none⟩) (by show w.heap.size ≤ q; omega) (.int .i64 tn)
    have Oa := (own_other (own_other (own_other O3 (q := q) (by omega) 0 (.slice aa nc ca)) (q := q) (by omega) 1 (.slice ab nm cb)) (q := q) (by omega) 2 (.int .i64 tn)).mono (show w.heap.size ≤ p0 by omega)
    have Ob := (own_other (own_other (own_other O7 (q := q) (by omega) 0 (.slice aa nc ca)) (q := q) (by omega) 1 (.slice ab nm cb)) (q := q) (by omega) 2 (.int .i64 tn)).mono (show w.heap.size ≤ p4 by omega)
    go_simp
    refine hK.out _ _ ⟨by have := X9.cell 0; simpa using this, by have := X9.cell 1; simpa using this, by have := X9.cell 2; rw [HTN.out] at this; simpa using this⟩ (fun hH9 => ?_)
    clear hK K
    try simp only [Act.put, List.setIfInBounds_toArray, List.set_cons_zero, List.set_cons_succ]
    refine wpAnyH_done (by kernel_rfl) ?_ _
    go_wp2
    refine bodyPost_ret (v := .agg #[.slice aa nc ca, .slice ab nm cb, .int .i64 tn]) (by simp [results, Try.results81, go_sem, r0, r1, r2, f0, f1, f2]) rfl ?_
    exact ⟨_, _, rfl, ⟨Oa, Ob, hd⟩, b9⟩
end Ops
end Go.Proofs.Ytajbmokidcdfnaa
