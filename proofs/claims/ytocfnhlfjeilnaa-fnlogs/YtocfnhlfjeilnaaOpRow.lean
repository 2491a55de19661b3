/- Rows of ops in memory: the laws' own copies, comparisons and sizes. -/
import Derived.Test.YtocfnhlfjeilnaaFlat
import Derived.Test.YtocfnhlfjeilnaaOpL
set_option linter.unusedVariables false
namespace Go.Proofs.Ytocfnhlfjeilnaa
open Go.RowKit
namespace Ops
open Bas Flat

/-- an op's four numbers -/
structure O4 where
  k : Int
  a : Int
  b : Int
  c : Int
def O4.val (x : O4) : Value := opV x.k x.a x.b x.c
def opEl : El O4 where
  sz := 4
  cells x := [.int .i64 x.k, .int .i64 x.a, .int .i64 x.b, .int .i64 x.c]
  len _ := rfl
  one x v hv := by simp at hv; rcases hv with rfl | rfl | rfl | rfl <;> rfl
  pos := by decide
def z4 : O4 := ⟨0, 0, 0, 0⟩
theorem rowOp : Row Try.prog opEl 61 141 (.agg #[.int .i64 0, .int .i64 0, .int .i64 0, .int .i64 0]) z4 32 :=
  ⟨Try.underlying61, by kernel_rfl, rfl, by decide⟩
abbrev Sees4 (B : Nat) (w : World) (v : Value) (xs : List O4) : Prop := Sees opEl B w v xs
abbrev Owns4 (B : Nat) (w : World) (v : Value) (xs : List O4) : Prop := Owns opEl 141 B w v xs
theorem at4 {w : World} {b o : Nat} {x : O4} (h : At opEl w b o x) : w.cell? ⟨b, o, none⟩ = some (.int .i64 x.k) ∧ w.cell? ⟨b, o + 1, none⟩ = some (.int .i64 x.a) ∧ w.cell? ⟨b, o + 2, none⟩ = some (.int .i64 x.b) ∧ w.cell? ⟨b, o + 3, none⟩ = some (.int .i64 x.c) :=
  ⟨h 0 _ rfl, h 1 _ rfl, h 2 _ rfl, h 3 _ rfl⟩
/-- the world behind an op's store -/
def set4 (w : World) (g j : Nat) (x : O4) : World := (((w.setCell ⟨g, j * 4, none⟩ (.int .i64 x.k)).setCell ⟨g, j * 4 + 1, none⟩ (.int .i64 x.a)).setCell ⟨g, j * 4 + 2, none⟩ (.int .i64 x.b)).setCell ⟨g, j * 4 + 3, none⟩ (.int .i64 x.c)
theorem below_set4 {B g : Nat} {a w : World} (h : Below B a w) (hg : B ≤ g) (j : Nat) (x : O4) : Below B a (set4 w g j x) := (((h.setCell hg _).setCell hg _).setCell hg _).setCell hg _
theorem own_set4 {B g n cap : Nat} {w : World} {xs : List O4} (h : w.ownsRow B 141 4 (.slice (some ⟨g, 0, none⟩) n cap) n (fv opEl xs)) (j : Nat) (hj : j < xs.length) (x : O4) :
    (set4 w g j x).ownsRow B 141 4 (.slice (some ⟨g, 0, none⟩) n cap) n (fv opEl (xs.set j x)) := by
  obtain ⟨y, hy⟩ : ∃ y, xs[j] = y := ⟨_, rfl⟩
  have h0 := own_set (E := opEl) h j hj 0 (by decide) (.int .i64 x.k) ⟨x.k, y.a, y.b, y.c⟩ (by rw [hy]; rfl)
  have h1 := own_set (E := opEl) h0 j (by simp; exact hj) 1 (by decide) (.int .i64 x.a) ⟨x.k, x.a, y.b, y.c⟩ (by simp; rfl)
  have h2 := own_set (E := opEl) h1 j (by simp; exact hj) 2 (by decide) (.int .i64 x.b) ⟨x.k, x.a, x.b, y.c⟩ (by simp; rfl)
  have h3 := own_set (E := opEl) h2 j (by simp; exact hj) 3 (by decide) (.int .i64 x.c) x (by simp; rfl)
  simp only [List.set_set] at h3
  exact h3

set_option maxRecDepth 100000 in
set_option maxHeartbeats 800000 in
theorem toOpE (x : O4) (w : World) : Calls Try.prog 124 #[x.val] w fun e w' => e = .returned x.val ∧ Below w.heap.size w w' := by
  obtain ⟨k, a, b, c⟩ := x
  show Calls _ _ #[.agg #[.int .i64 k, .int .i64 a, .int .i64 b, .int .i64 c]] _ (fun e w' => e = .returned (.agg #[.int .i64 k, .int .i64 a, .int .i64 b, .int .i64 c]) ∧ _)
  go_enter Try.func124, Try.ntmps124
  go_wp2
  refine bodyPost_ret (v := .agg #[.int .i64 k, .int .i64 a, .int .i64 b, .int .i64 c]) (by simp [results, Try.results124, go_sem]) rfl ⟨rfl, ?_⟩
  exact (((Below.refl _ _).alloc (Nat.le_refl _) _).alloc (by simp) _).alloc (by simp; omega) _

set_option maxRecDepth 100000 in
set_option maxHeartbeats 1600000 in
theorem toOpsC (v : Value) (xs : List O4) (B : Nat) (w : World) (hv : Sees4 B w v xs) (hB : B ≤ w.heap.size) (hlen : xs.length ≤ 1048576) :
    Calls Try.prog 96 #[v] w fun e w' => ∃ v', e = .returned v' ∧ Owns4 w.heap.size w' v' xs ∧ Below w.heap.size w w' := by
  obtain ⟨a, cap, rfl, h1, h2, h3⟩ := hv
  obtain ⟨n, hn⟩ : ∃ n, xs.length = n := ⟨_, rfl⟩
  rw [hn] at h1 hlen ⊢
  obtain ⟨w1, hB1, hs1, hmk, hO⟩ := make rowOp n (by omega) w w.heap.size (Nat.le_refl _)
  obtain ⟨g, hg⟩ : ∃ g, w.heap.size = g := ⟨_, rfl⟩
  rw [hg] at hmk hO hB1 hs1 hB ⊢
  go_enter Try.func96, Try.ntmps96
  go_wp2
  go_loopw [4] (fun i wr => ∃ k : Nat, k ≤ n ∧ i = .int .i64 k ∧ wr.ownsRow g 141 4 (.slice (some ⟨g, 0, none⟩) n n) n (fv opEl (pad z4 xs k)) ∧ Below g w wr) (fun i _ => n - (intOf i).toNat)
  case atStart => exact ⟨0, Nat.zero_le _, rfl, by rw [pad_zero, hn]; exact hO, hB1⟩
  case round =>
    obtain ⟨k, hk, rfl, hR, hb⟩ := hrel
    clear hmk hO hB1 hs1
    by_cases hlt : k < n
    · obtain ⟨b, off, rfl, hbB, hc⟩ := h3 (fun h => by simp [h] at hn; omega)
      obtain ⟨a0, a1, a2, a3⟩ := at4 ((hc k (by omega)).on hb (by omega))
      obtain ⟨hgg, hgs⟩ := own_low (E := opEl) hR
      have HP : Hid ((pad z4 xs k).set k xs[k] = pad z4 xs (k + 1)) := pad_set z4 xs k (by omega)
      have hpl : (pad z4 xs k).length = n := by rw [pad_length z4 xs k (by omega)]; exact hn
      obtain ⟨x, hx⟩ : ∃ x, xs[k] = x := ⟨_, rfl⟩
      rw [hx] at a0 a1 a2 a3 HP
      change wr.cell? ⟨b, off + k * 4, none⟩ = _ at a0
      change wr.cell? ⟨b, off + k * 4 + 1, none⟩ = _ at a1
      change wr.cell? ⟨b, off + k * 4 + 2, none⟩ = _ at a2
      change wr.cell? ⟨b, off + k * 4 + 3, none⟩ = _ at a3
      have cT := toOpE x
      have eV : x.val = .agg #[.int .i64 x.k, .int .i64 x.a, .int .i64 x.b, .int .i64 x.c] := rfl
      rw [eV] at cT
      have HT := (show Hid _ from cT)
      clear hx hc h3 hgg cT eV
      go_wp2_with (go_at_call 124; refine (HT.out _).mono ?_; rintro e w2 ⟨rfl, hb2⟩; have hR2 := owns_on hR hb2 (Nat.le_refl _); obtain ⟨c0, c1, c2, c3⟩ := at4 (own_at (E := opEl) hR2 k (by omega)); change w2.cell? ⟨g, k * 4, none⟩ = _ at c0; change w2.cell? ⟨g, k * 4 + 1, none⟩ = _ at c1; change w2.cell? ⟨g, k * 4 + 2, none⟩ = _ at c2; change w2.cell? ⟨g, k * 4 + 3, none⟩ = _ at c3; have hfz := fun j => hR2.frozenAt j)
      have hR3 := own_set4 hR2 k (by omega) x
      rw [HP.out] at hR3
      unfold set4 at hR3
      go_roundw
      case rel => exact ⟨k + 1, by omega, by go_num, hR3, ((((hb.trans (hb2.mono (by omega))).setCell (Nat.le_refl _) _).setCell (Nat.le_refl _) _).setCell (Nat.le_refl _) _).setCell (Nat.le_refl _) _⟩
      case measure => simp [intOf]; omega
    · obtain rfl : k = n := by omega
      go_wp2
      go_ret
      rw [← hn, pad_full] at hR
      exact ⟨_, rfl, hn ▸ hR, hb⟩

set_option maxRecDepth 100000 in
set_option maxHeartbeats 400000 in
theorem eqOpE (x : O4) (w : World) : Calls Try.prog 126 #[x.val, x.val] w fun e w' => e = .returned (.bool true) ∧ Below w.heap.size w w' := by
  obtain ⟨k, a, b, c⟩ := x
  show Calls _ _ #[.agg #[.int .i64 k, .int .i64 a, .int .i64 b, .int .i64 c], .agg #[.int .i64 k, .int .i64 a, .int .i64 b, .int .i64 c]] _ _
  go_enter Try.func126, Try.ntmps126
  go_wp2
  go_ret
  exact ⟨rfl, ((Below.refl _ _).alloc (Nat.le_refl _) _).alloc (by simp) _⟩

set_option maxRecDepth 100000 in
set_option maxHeartbeats 1600000 in
theorem eqOpsC (v v' : Value) (xs : List O4) (B : Nat) (w : World) (hv : Sees4 B w v xs) (hv' : Sees4 B w v' xs) (hB : B ≤ w.heap.size) :
    Calls Try.prog 98 #[v, v'] w fun e w' => e = .returned (.bool true) ∧ Below w.heap.size w w' := by
  obtain ⟨a, cap, rfl, h1, h2, h3⟩ := hv
  obtain ⟨a', cap', rfl, h1', h2', h3'⟩ := hv'
  obtain ⟨n, hn⟩ : ∃ n, xs.length = n := ⟨_, rfl⟩
  have hm : (n : Int) ≤ 9223372036854775807 := by unfold maxLen at h2; omega
  rw [hn]
  obtain ⟨g, hg⟩ : ∃ g, w.heap.size = g := ⟨_, rfl⟩
  rw [hg] at hB ⊢
  clear h1 h2 h1' h2'
  go_enter Try.func98, Try.ntmps98
  go_wp2
  go_loopw [5] (fun i wr => ∃ k : Nat, k ≤ n ∧ i = .int .i64 k ∧ Below g w wr) (fun i _ => n - (intOf i).toNat)
  case atStart => exact ⟨0, Nat.zero_le _, rfl, Below.refl _ _⟩
  case round =>
    obtain ⟨k, hk, rfl, hb⟩ := hrel
    by_cases hlt : k < n
    · obtain ⟨b, off, rfl, hbB, hc⟩ := h3 (fun h => by simp [h] at hn; omega)
      obtain ⟨b', off', rfl, hbB', hc'⟩ := h3' (fun h => by simp [h] at hn; omega)
      obtain ⟨a0, a1, a2, a3⟩ := at4 ((hc k (by omega)).on hb (by omega))
      obtain ⟨d0, d1, d2, d3⟩ := at4 ((hc' k (by omega)).on hb (by omega))
      obtain ⟨x, hx⟩ : ∃ x, xs[k] = x := ⟨_, rfl⟩
      rw [hx] at a0 a1 a2 a3 d0 d1 d2 d3
      change wr.cell? ⟨b, off + k * 4, none⟩ = _ at a0
      change wr.cell? ⟨b, off + k * 4 + 1, none⟩ = _ at a1
      change wr.cell? ⟨b, off + k * 4 + 2, none⟩ = _ at a2
      change wr.cell? ⟨b, off + k * 4 + 3, none⟩ = _ at a3
      change wr.cell? ⟨b', off' + k * 4, none⟩ = _ at d0
      change wr.cell? ⟨b', off' + k * 4 + 1, none⟩ = _ at d1
      change wr.cell? ⟨b', off' + k * 4 + 2, none⟩ = _ at d2
      change wr.cell? ⟨b', off' + k * 4 + 3, none⟩ = _ at d3
      have cT := eqOpE x
      have eV : x.val = .agg #[.int .i64 x.k, .int .i64 x.a, .int .i64 x.b, .int .i64 x.c] := rfl
      rw [eV] at cT
      have HT := (show Hid _ from cT)
      clear hx hc h3 hc' h3' cT eV
      go_wp2_with fail
      go_region_with (go_at_call 126; refine (HT.out _).mono ?_; rintro e w2 ⟨rfl, hb2⟩)
      all_goals
        go_wp2
        go_roundw
        case rel =>
          have hle : g ≤ wr.heap.size := by have := hb.size; omega
          refine ⟨k + 1, by omega, by go_num, ?_⟩
          first | exact hb.trans (hb2.mono hle) | exact hb.drew.trans (hb2.mono hle) | exact hb.drew.drew.trans (hb2.mono hle)
        case measure => simp [intOf]; omega
    · obtain rfl : k = n := by omega
      go_wp2
      go_ret
      exact ⟨rfl, hb⟩

set_option maxRecDepth 100000 in
theorem szOpsC (a : Option Addr) (n cap : Nat) (left : Int) (w : World) (h0 : 0 ≤ left) (h1 : left ≤ 1048576) (hm : n ≤ maxLen) :
    Calls Try.prog 90 #[.slice a n cap, .int .i64 left] w fun e w' => e = .returned (.int .i64 (if (n : Int) ≤ left then left - n else -1)) ∧ w = w' := by
  have hm' : (n : Int) ≤ 9223372036854775807 := by unfold maxLen at hm; omega
  clear hm
  by_cases h : (n : Int) ≤ left
  · rw [if_pos h]
    go_enter Try.func90, Try.ntmps90
    go_wp2
    go_ret
    exact ⟨rfl, rfl⟩
  · rw [if_neg h]
    have h' : left < (n : Int) := by omega
    go_enter Try.func90, Try.ntmps90
    go_wp2
    go_ret
    exact ⟨rfl, rfl⟩
end Ops
end Go.Proofs.Ytocfnhlfjeilnaa
