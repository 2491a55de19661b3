/- Several texts of one proof, in build order: LogRow, OpL, LogL. -/
import Derived.Test.YtppikpdphcfomaaDoorCB1
/- Rows of a log in memory: the laws' own copies, comparisons, sizes and marks. -/
set_option linter.unusedVariables false
set_option linter.unusedSimpArgs false
namespace Go.Proofs.YtppikpdphcfomaaDoor
open Go.RowKit
namespace Logs
open Bas Flat

/-- a row's two numbers -/
structure R2 where
  c : Int
  v : Int
def R2.val (x : R2) : Value := .agg #[.int .i64 x.c, .int .i64 x.v]
def rowEl : El R2 where
  sz := 2
  cells x := [.int .i64 x.c, .int .i64 x.v]
  len _ := rfl
  one x v hv := by simp at hv; rcases hv with rfl | rfl <;> rfl
  pos := by decide
def z2 : R2 := ⟨0, 0⟩
theorem rowRow : Row Tryd.prog rowEl 34 56 (.agg #[.int .i64 0, .int .i64 0]) z2 16 :=
  ⟨Tryd.underlying34, by kernel_rfl, rfl, by decide⟩
abbrev Sees2 (B : Nat) (w : World) (v : Value) (xs : List R2) : Prop := Sees rowEl B w v xs
abbrev Owns2 (B : Nat) (w : World) (v : Value) (xs : List R2) : Prop := Owns rowEl 56 B w v xs
theorem at2 {w : World} {b o : Nat} {x : R2} (h : At rowEl w b o x) : w.cell? ⟨b, o, none⟩ = some (.int .i64 x.c) ∧ w.cell? ⟨b, o + 1, none⟩ = some (.int .i64 x.v) :=
  ⟨h 0 _ rfl, h 1 _ rfl⟩
/-- the world behind a row's store -/
def set2 (w : World) (g j : Nat) (x : R2) : World := (w.setCell ⟨g, j * 2, none⟩ (.int .i64 x.c)).setCell ⟨g, j * 2 + 1, none⟩ (.int .i64 x.v)
theorem own_set2 {B g n cap : Nat} {w : World} {xs : List R2} (h : w.ownsRow B 56 2 (.slice (some ⟨g, 0, none⟩) n cap) n (fv rowEl xs)) (j : Nat) (hj : j < xs.length) (x : R2) :
    (set2 w g j x).ownsRow B 56 2 (.slice (some ⟨g, 0, none⟩) n cap) n (fv rowEl (xs.set j x)) := by
  obtain ⟨y, hy⟩ : ∃ y, xs[j] = y := ⟨_, rfl⟩
  have h0 := own_set (E := rowEl) h j hj 0 (by decide) (.int .i64 x.c) ⟨x.c, y.v⟩ (by rw [hy]; rfl)
  have h1 := own_set (E := rowEl) h0 j (by simp; exact hj) 1 (by decide) (.int .i64 x.v) x (by simp; rfl)
  simp only [List.set_set] at h1
  exact h1

set_option maxRecDepth 100000 in
set_option maxHeartbeats 800000 in
theorem toRowE (x : R2) (w : World) : Calls Tryd.prog 60 #[x.val] w fun e w' => e = .returned x.val ∧ Below w.heap.size w w' := by
  obtain ⟨c, v⟩ := x
  show Calls _ _ #[.agg #[.int .i64 c, .int .i64 v]] _ (fun e w' => e = .returned (.agg #[.int .i64 c, .int .i64 v]) ∧ _)
  go_enter Tryd.func60, Tryd.ntmps60
  go_wp2
  refine bodyPost_ret (v := .agg #[.int .i64 c, .int .i64 v]) (by simp [results, Tryd.results60, go_sem]) rfl ⟨rfl, ?_⟩
  exact (((Below.refl _ _).alloc (Nat.le_refl _) _).alloc (by simp) _).alloc (by simp; omega) _

set_option maxRecDepth 100000 in
set_option maxHeartbeats 1600000 in
theorem toRowsC (v : Value) (xs : List R2) (B : Nat) (w : World) (hv : Sees2 B w v xs) (hB : B ≤ w.heap.size) (hlen : xs.length ≤ 1048576) :
    Calls Tryd.prog 30 #[v] w fun e w' => ∃ v', e = .returned v' ∧ Owns2 w.heap.size w' v' xs ∧ Below w.heap.size w w' := by
  obtain ⟨a, cap, rfl, h1, h2, h3⟩ := hv
  obtain ⟨n, hn⟩ : ∃ n, xs.length = n := ⟨_, rfl⟩
  rw [hn] at h1 hlen ⊢
  obtain ⟨w1, hB1, hs1, hmk, hO⟩ := make rowRow n (by omega) w w.heap.size (Nat.le_refl _)
  obtain ⟨g, hg⟩ : ∃ g, w.heap.size = g := ⟨_, rfl⟩
  rw [hg] at hmk hO hB1 hs1 hB ⊢
  go_enter Tryd.func30, Tryd.ntmps30
  go_wp2
  go_loopw [4] (fun i wr => ∃ k : Nat, k ≤ n ∧ i = .int .i64 k ∧ wr.ownsRow g 56 2 (.slice (some ⟨g, 0, none⟩) n n) n (fv rowEl (pad z2 xs k)) ∧ Below g w wr) (fun i _ => n - (intOf i).toNat)
  case atStart => exact ⟨0, Nat.zero_le _, rfl, by rw [pad_zero, hn]; exact hO, hB1⟩
  case round =>
    obtain ⟨k, hk, rfl, hR, hb⟩ := hrel
    clear hmk hO hB1 hs1
    by_cases hlt : k < n
    · obtain ⟨b, off, rfl, hbB, hc⟩ := h3 (fun h => by simp [h] at hn; omega)
      obtain ⟨a0, a1⟩ := at2 ((hc k (by omega)).on hb (by omega))
      obtain ⟨hgg, hgs⟩ := own_low (E := rowEl) hR
      have HP : Hid ((pad z2 xs k).set k xs[k] = pad z2 xs (k + 1)) := pad_set z2 xs k (by omega)
      have hpl : (pad z2 xs k).length = n := by rw [pad_length z2 xs k (by omega)]; exact hn
      obtain ⟨x, hx⟩ : ∃ x, xs[k] = x := ⟨_, rfl⟩
      rw [hx] at a0 a1 HP
      change wr.cell? ⟨b, off + k * 2, none⟩ = _ at a0
      change wr.cell? ⟨b, off + k * 2 + 1, none⟩ = _ at a1
      have cT := toRowE x
      have eV : x.val = .agg #[.int .i64 x.c, .int .i64 x.v] := rfl
      rw [eV] at cT
      have HT := (show Hid _ from cT)
      clear hx hc h3 hgg cT eV
      go_wp2_with (go_at_call 60; refine (HT.out _).mono ?_; rintro e w2 ⟨rfl, hb2⟩; have hR2 := owns_on hR hb2 (Nat.le_refl _); obtain ⟨c0, c1⟩ := at2 (own_at (E := rowEl) hR2 k (by omega)); change w2.cell? ⟨g, k * 2, none⟩ = _ at c0; change w2.cell? ⟨g, k * 2 + 1, none⟩ = _ at c1; have hfz := fun j => hR2.frozenAt j)
      have hR3 := own_set2 hR2 k (by omega) x
      rw [HP.out] at hR3
      unfold set2 at hR3
      go_roundw
      case rel => exact ⟨k + 1, by omega, by go_num, hR3, ((hb.trans (hb2.mono (by omega))).setCell (Nat.le_refl _) _).setCell (Nat.le_refl _) _⟩
      case measure => simp [intOf]; omega
    · obtain rfl : k = n := by omega
      go_wp2
      go_ret
      rw [← hn, pad_full] at hR
      exact ⟨_, rfl, hn ▸ hR, hb⟩

set_option maxRecDepth 100000 in
set_option maxHeartbeats 400000 in
theorem eqRowE (x : R2) (w : World) : Calls Tryd.prog 76 #[x.val, x.val] w fun e w' => e = .returned (.bool true) ∧ Below w.heap.size w w' := by
  obtain ⟨c, v⟩ := x
  show Calls _ _ #[.agg #[.int .i64 c, .int .i64 v], .agg #[.int .i64 c, .int .i64 v]] _ _
  go_enter Tryd.func76, Tryd.ntmps76
  go_wp2
  go_ret
  exact ⟨rfl, ((Below.refl _ _).alloc (Nat.le_refl _) _).alloc (by simp) _⟩

set_option maxRecDepth 100000 in
set_option maxHeartbeats 1600000 in
theorem eqRowsC (v v' : Value) (xs : List R2) (B : Nat) (w : World) (hv : Sees2 B w v xs) (hv' : Sees2 B w v' xs) (hB : B ≤ w.heap.size) :
    Calls Tryd.prog 44 #[v, v'] w fun e w' => e = .returned (.bool true) ∧ Below w.heap.size w w' := by
  obtain ⟨a, cap, rfl, h1, h2, h3⟩ := hv
  obtain ⟨a', cap', rfl, h1', h2', h3'⟩ := hv'
  obtain ⟨n, hn⟩ : ∃ n, xs.length = n := ⟨_, rfl⟩
  have hm : (n : Int) ≤ 9223372036854775807 := by unfold maxLen at h2; omega
  rw [hn]
  obtain ⟨g, hg⟩ : ∃ g, w.heap.size = g := ⟨_, rfl⟩
  rw [hg] at hB ⊢
  clear h1 h2 h1' h2'
  go_enter Tryd.func44, Tryd.ntmps44
  go_wp2
  go_loopw [5] (fun i wr => ∃ k : Nat, k ≤ n ∧ i = .int .i64 k ∧ Below g w wr) (fun i _ => n - (intOf i).toNat)
  case atStart => exact ⟨0, Nat.zero_le _, rfl, Below.refl _ _⟩
  case round =>
    obtain ⟨k, hk, rfl, hb⟩ := hrel
    by_cases hlt : k < n
    · obtain ⟨b, off, rfl, hbB, hc⟩ := h3 (fun h => by simp [h] at hn; omega)
      obtain ⟨b', off', rfl, hbB', hc'⟩ := h3' (fun h => by simp [h] at hn; omega)
      obtain ⟨a0, a1⟩ := at2 ((hc k (by omega)).on hb (by omega))
      obtain ⟨d0, d1⟩ := at2 ((hc' k (by omega)).on hb (by omega))
      obtain ⟨x, hx⟩ : ∃ x, xs[k] = x := ⟨_, rfl⟩
      rw [hx] at a0 a1 d0 d1
      change wr.cell? ⟨b, off + k * 2, none⟩ = _ at a0
      change wr.cell? ⟨b, off + k * 2 + 1, none⟩ = _ at a1
      change wr.cell? ⟨b', off' + k * 2, none⟩ = _ at d0
      change wr.cell? ⟨b', off' + k * 2 + 1, none⟩ = _ at d1
      have cT := eqRowE x
      have eV : x.val = .agg #[.int .i64 x.c, .int .i64 x.v] := rfl
      rw [eV] at cT
      have HT := (show Hid _ from cT)
      clear hx hc h3 hc' h3' cT eV
      go_wp2_with fail
      go_region_with (go_at_call 76; refine (HT.out _).mono ?_; rintro e w2 ⟨rfl, hb2⟩)
      all_goals
        go_wp2
        go_roundw
        case rel =>
          have hle : g ≤ wr.heap.size := by have := hb.size; omega
          refine ⟨k + 1, by omega, by go_num, ?_⟩
          first | exact hb.trans (hb2.mono hle) | exact hb.drew.trans (hb2.mono hle) | exact hb.drew.drew.trans (hb2.mono hle)
        case measure => simp [intOf]; omega
    · obtain rfl : k = n := by omega
      go_wp2
      go_ret
      exact ⟨rfl, hb⟩

set_option maxRecDepth 100000 in
theorem szRowsC (a : Option Addr) (n cap : Nat) (left : Int) (w : World) (h0 : 0 ≤ left) (h1 : left ≤ 1048576) (hm : n ≤ maxLen) :
    Calls Tryd.prog 17 #[.slice a n cap, .int .i64 left] w fun e w' => e = .returned (.int .i64 (if (n : Int) ≤ left then left - n else -1)) ∧ w = w' := by
  have hm' : (n : Int) ≤ 9223372036854775807 := by unfold maxLen at hm; omega
  clear hm
  by_cases h : (n : Int) ≤ left
  · rw [if_pos h]
    go_enter Tryd.func17, Tryd.ntmps17
    go_wp2
    go_ret
    exact ⟨rfl, rfl⟩
  · rw [if_neg h]
    have h' : left < (n : Int) := by omega
    go_enter Tryd.func17, Tryd.ntmps17
    go_wp2
    go_ret
    exact ⟨rfl, rfl⟩
theorem ret_k {a b : Int} (h : a = b) : Ending.returned (.int .i64 a) = .returned (.int .i64 b) := by rw [h]
def mkR (k0 : Int) (j : Nat) : R2 := ⟨k0 + 2 * j, k0 + 2 * j + 1⟩
def marksR (k0 : Int) (n : Nat) : List R2 := (List.range n).map (mkR k0)
theorem marksR_length (k0 : Int) (n : Nat) : (marksR k0 n).length = n := by simp [marksR]
theorem marksR_get (k0 : Int) (n j : Nat) (h : j < (marksR k0 n).length) : (marksR k0 n)[j] = mkR k0 j := by simp [marksR]
def markedR (xs : List R2) (k0 : Int) (k : Nat) : List R2 := marksR k0 k ++ xs.drop k
theorem markedR_zero (xs : List R2) (k0 : Int) : markedR xs k0 0 = xs := by simp [markedR, marksR]
theorem markedR_full (xs : List R2) (k0 : Int) : markedR xs k0 xs.length = marksR k0 xs.length := by simp [markedR]
theorem markedR_length (xs : List R2) (k0 : Int) (k : Nat) (h : k ≤ xs.length) : (markedR xs k0 k).length = xs.length := by simp [markedR, marksR_length]; omega
theorem markedR_set (xs : List R2) (k0 : Int) (k : Nat) (h : k < xs.length) : (markedR xs k0 k).set k (mkR k0 k) = markedR xs k0 (k + 1) := by
  unfold markedR
  rw [List.set_append_right _ _ (by rw [marksR_length]; exact Nat.le_refl _), marksR_length, Nat.sub_self, List.drop_eq_getElem_cons h, List.set_cons_zero]
  simp [marksR, List.range_succ]
theorem own_someR {B n cap : Nat} {w : World} {a : Option Addr} {xs : List R2} (h : Owns2 B w (.slice a n cap) xs) (hn : 0 < xs.length) : ∃ q, a = some ⟨q, 0, none⟩ ∧ B ≤ q ∧ q < w.heap.size ∧ n = xs.length := by
  obtain ⟨h1, h2⟩ := h
  rcases h2 with ⟨h', h0⟩ | ⟨q, c, cur, h', hB, hg, hle, _⟩
  · omega
  · simp only [Value.slice.injEq] at h'
    obtain ⟨rfl, rfl, rfl⟩ := h'
    exact ⟨q, rfl, hB, (Array.getElem?_eq_some_iff.1 hg).1, rfl⟩
theorem grown_set {w w' : World} {q : Nat} (h : w.grownBy w' (some q)) (i : Nat) (u : Value) : w.grownBy (w'.setCell ⟨q, i, none⟩ u) (some q) :=
  ⟨h.os, h.tape, h.output, by simpa [World.setCell] using h.size, fun k hk hne => (Below.heap_setCell w' _ _ _ (fun e => hne (by rw [e]))).trans (h.block k hk hne)⟩

set_option maxRecDepth 100000 in
set_option maxHeartbeats 3200000 in
theorem markRowsC (v : Value) (xs : List R2) (k0 : Int) (B : Nat) (w : World) (hv : Owns2 B w v xs) (h0 : 0 ≤ k0) (h1 : k0 ≤ 1000000000) (hlen : xs.length ≤ 1048576) :
    Calls Tryd.prog 47 #[v, .int .i64 k0] w fun e w' => e = .returned (.int .i64 (k0 + 2 * (xs.length : Int))) ∧ Owns2 B w' v (marksR k0 xs.length) ∧ w.grownBy w' v.ownBlock := by
  obtain ⟨a, cap, rfl⟩ := hv.form
  obtain ⟨n, hn⟩ : ∃ n, xs.length = n := ⟨_, rfl⟩
  rw [hn] at hv hlen ⊢
  by_cases hn0 : n = 0
  · have HF : Hid (Owns2 B w (.slice a n cap) (marksR k0 n)) := by
      subst hn0
      have : xs = [] := List.eq_nil_of_length_eq_zero hn
      subst this
      exact hv
    subst hn0
    clear hv
    go_enter Tryd.func47, Tryd.ntmps47
    go_wp2
    go_loop [1, 5] (fun kv iv => kv = .int .i64 k0 ∧ iv = .int .i64 0) (fun _ _ => 0)
    case atStart => exact ⟨rfl, rfl⟩
    case round =>
      obtain ⟨rfl, rfl⟩ := hrel
      go_wp2
      go_ret
      exact ⟨by simp, HF.out, ⟨rfl, rfl, rfl, Nat.le_refl _, fun _ _ _ => rfl⟩⟩
  obtain ⟨q, rfl, hq1, hq2, -⟩ := own_someR hv (by omega)
  have hO : w.ownsRow B 56 2 (.slice (some ⟨q, 0, none⟩) n cap) n (fv rowEl (markedR xs k0 0)) := by
    rw [markedR_zero]
    have := hv
    unfold Owns2 Owns at this
    rw [hn] at this; exact this
  have hG : w.grownBy w (some q) := ⟨rfl, rfl, rfl, Nat.le_refl _, fun _ _ _ => rfl⟩
  clear hv
  go_enter Tryd.func47, Tryd.ntmps47
  go_wp2
  go_loopw [1, 5] (fun kv iv wr => ∃ (j : Nat) (k : Int), j ≤ n ∧ kv = .int .i64 k ∧ k = k0 + 2 * (j : Int) ∧ iv = .int .i64 j ∧ wr.ownsRow B 56 2 (.slice (some ⟨q, 0, none⟩) n cap) n (fv rowEl (markedR xs k0 j)) ∧ w.grownBy wr (some q)) (fun _ iv _ => n - (intOf iv).toNat)
  case atStart => exact ⟨0, k0, Nat.zero_le _, rfl, by simp, rfl, hO, hG⟩
  case round =>
    obtain ⟨j, k, hj, rfl, hk, rfl, hR, hGr⟩ := hrel
    clear hO hG
    by_cases hlt : j < n
    · have hpl : (markedR xs k0 j).length = n := by rw [markedR_length xs k0 j (by omega)]; exact hn
      obtain ⟨c0, c1⟩ := at2 (own_at (E := rowEl) hR j (by omega))
      obtain ⟨y, hy⟩ : ∃ y, (markedR xs k0 j)[j]'(by omega) = y := ⟨_, rfl⟩
      rw [hy] at c0 c1
      change wr.cell? ⟨q, j * 2, none⟩ = _ at c0
      change wr.cell? ⟨q, j * 2 + 1, none⟩ = _ at c1
      have hfz := fun j => hR.frozenAt j
      have hR3 := own_set2 hR j (by omega) (mkR k0 j)
      rw [markedR_set xs k0 j (by omega)] at hR3
      have eM : mkR k0 j = ⟨k, k + 1⟩ := by unfold mkR; rw [hk]
      rw [eM] at hR3
      unfold set2 at hR3
      have hG3 := grown_set (grown_set hGr (j * 2) (.int .i64 k)) (j * 2 + 1) (.int .i64 (k + 1))
      have HK : Hid (k = k0 + 2 * (j : Int)) := hk
      have i1 : (j : Int) < n := by omega
      have i2 : (0 : Int) ≤ j := by omega
      have k1 : 0 ≤ k := by omega
      have k2 : k ≤ 2000000000 := by omega
      have e2 : k + 1 + 1 = k + 2 := by omega
      clear hR hGr eM hk hy hpl
      go_wp2
      go_roundw
      case rel => exact ⟨j + 1, k + 2, by omega, by first | rfl | go_num, by rw [HK.out]; omega, by go_num, hR3, hG3⟩
      case measure => simp [intOf]; omega
    · obtain rfl : j = n := by omega
      have i1 : ¬ (j : Int) < j := by omega
      have HF : Hid (k = k0 + 2 * (j : Int)) := hk
      clear hk
      go_wp2
      go_ret
      refine ⟨ret_k HF.out, ?_, hGr⟩
      rw [← hn, markedR_full, hn] at hR
      unfold Owns2 Owns
      rw [marksR_length]; exact hR

set_option maxRecDepth 100000 in
set_option maxHeartbeats 3200000 in
theorem heldRowsC (v : Value) (n : Nat) (k0 : Int) (B : Nat) (w : World) (hv : Sees2 B w v (marksR k0 n)) (h0 : 0 ≤ k0) (h1 : k0 ≤ 1000000000) (hlen : n ≤ 1048576) :
    Calls Tryd.prog 50 #[v, .int .i64 k0] w fun e w' => e = .returned (.int .i64 (k0 + 2 * (n : Int))) ∧ w = w' := by
  obtain ⟨a, cap, rfl⟩ := hv.form
  rw [marksR_length] at hv ⊢
  go_enter Tryd.func50, Tryd.ntmps50
  go_wp2
  go_loop [1, 5] (fun kv iv => ∃ (j : Nat) (k : Int), j ≤ n ∧ kv = .int .i64 k ∧ k = k0 + 2 * (j : Int) ∧ iv = .int .i64 j) (fun _ iv => n - (intOf iv).toNat)
  case atStart => exact ⟨0, k0, Nat.zero_le _, rfl, by simp, rfl⟩
  case round =>
    obtain ⟨j, k, hj, rfl, hk, rfl⟩ := hrel
    by_cases hlt : j < n
    · obtain ⟨b, off, rfl, hb, hc⟩ := hv.open (by rw [marksR_length]; omega)
      have h4 := hc j (by rw [marksR_length]; exact hlt)
      rw [marksR_get] at h4
      have eM : mkR k0 j = ⟨k, k + 1⟩ := by unfold mkR; rw [hk]
      rw [eM] at h4
      obtain ⟨c0, c1⟩ := at2 h4
      change w.cell? ⟨b, off + j * 2, none⟩ = some (.int .i64 k) at c0
      change w.cell? ⟨b, off + j * 2 + 1, none⟩ = some (.int .i64 (k + 1)) at c1
      have HK : Hid (k = k0 + 2 * (j : Int)) := hk
      have i1 : (j : Int) < n := by omega
      have i2 : (0 : Int) ≤ j := by omega
      have k1 : 0 ≤ k := by omega
      have k2 : k ≤ 2000000000 := by omega
      have e2 : k + 1 + 1 = k + 2 := by omega
      clear hc h4 eM hk
      go_wp2
      go_round
      case rel => exact ⟨j + 1, k + 2, by omega, by first | rfl | go_num, by rw [HK.out]; omega, by go_num⟩
      case measure => simp [intOf]; omega
    · obtain rfl : j = n := by omega
      have i1 : ¬ (j : Int) < j := by omega
      have HF : Hid (k = k0 + 2 * (j : Int)) := hk
      clear hk
      go_wp2
      go_ret
      exact ⟨ret_k HF.out, rfl⟩
end Logs
end Go.Proofs.YtppikpdphcfomaaDoor
/- Ops: when one is right; the specification's small tests. -/
namespace Go.Proofs.YtppikpdphcfomaaDoor
open Go.RowKit
namespace Ops

/-- between two numbers -/
def inn (lo hi x : Int) : Bool := decide (lo ≤ x) && decide (x ≤ hi)
/-- which spans the three fields of an op have, by its kind -/
def spans (k : Int) : Option ((Int × Int) × (Int × Int) × (Int × Int)) :=
  if k = 1 then some ((0, 3), (0, 65535), (0, 0))
  else if k = 2 ∨ k = 3 ∨ k = 4 then some ((0, 3), (0, 3), (0, 3))
  else if k = 5 then some ((0, 3), (0, 7), (0, 0))
  else if k = 6 then some ((0, 7), (0, 3), (0, 0))
  else if k = 7 then some ((0, 3), (1, 20), (0, 0))
  else if k = 8 ∨ k = 15 ∨ k = 16 then some ((0, 3), (0, 0), (0, 0))
  else if k = 9 ∨ k = 10 ∨ k = 11 then some ((0, 0), (0, 0), (0, 0))
  else if k = 12 then some ((0, 7), (0, 3), (0, 3))
  else if k = 13 then some ((0, 3), (0, 7), (0, 0))
  else if k = 14 then some ((0, 7), (0, 3), (0, 0))
  else none
/-- an op is right -/
def opOk (k a b c : Int) : Bool :=
  match spans k with
  | none => false
  | some (p, q, r) => inn p.1 p.2 a && inn q.1 q.2 b && inn r.1 r.2 c

theorem kinds (k : Int) : k = 1 ∨ k = 2 ∨ k = 3 ∨ k = 4 ∨ k = 5 ∨ k = 6 ∨ k = 7 ∨ k = 8 ∨ k = 9 ∨ k = 10 ∨ k = 11 ∨ k = 12 ∨ k = 13 ∨ k = 14 ∨ k = 15 ∨ k = 16 ∨ (k < 1 ∨ 16 < k) := by omega
theorem spans_none {k : Int} (h : k < 1 ∨ 16 < k) : spans k = none := by
  unfold spans
  repeat rw [if_neg (by omega)]
theorem inn_zero (x : Int) : inn 0 0 x = (x == 0) := by
  unfold inn
  by_cases h : x = 0
  · subst h; rfl
  · by_cases h1 : 0 ≤ x <;> by_cases h2 : x ≤ 0 <;> simp [h, h1, h2] ; omega

set_option maxRecDepth 100000 in
theorem innC (x lo hi : Int) (w : World) : Calls Tryd.prog 52 #[.int .i64 x, .int .i64 lo, .int .i64 hi] w fun e w' => e = .returned (.bool (inn lo hi x)) ∧ w = w' := by
  unfold inn
  by_cases h1 : lo ≤ x
  · have h1' : decide (lo ≤ x) = true := decide_eq_true h1
    go_enter Tryd.func52, Tryd.ntmps52
    go_wp2
    go_ret
    simp [h1]
  · have h1' : decide (lo ≤ x) = false := decide_eq_false h1
    go_enter Tryd.func52, Tryd.ntmps52
    go_wp2
    go_ret
    simp

set_option maxRecDepth 100000 in
theorem valC (x : Int) (w : World) : Calls Tryd.prog 53 #[.int .i64 x] w fun e w' => e = .returned (.bool (inn 0 65535 x)) ∧ w = w' := by
  go_enter Tryd.func53, Tryd.ntmps53
  go_wp2_with fail
  refine (innC x 0 65535 w).mono ?_
  rintro e w1 ⟨rfl, rfl⟩
  go_wp2
  go_ret
  exact ⟨rfl, rfl⟩
set_option maxRecDepth 100000 in
theorem cellC (x : Int) (w : World) : Calls Tryd.prog 57 #[.int .i64 x] w fun e w' => e = .returned (.bool (inn 0 7 x)) ∧ w = w' := by
  go_enter Tryd.func57, Tryd.ntmps57
  go_wp2_with fail
  refine (innC x 0 7 w).mono ?_
  rintro e w1 ⟨rfl, rfl⟩
  go_wp2
  go_ret
  exact ⟨rfl, rfl⟩

/-- an op as a value -/
def opV (k a b c : Int) : Value := .agg #[.int .i64 k, .int .i64 a, .int .i64 b, .int .i64 c]
end Ops
end Go.Proofs.YtppikpdphcfomaaDoor
/- Logs: right rows, the last row of a cell, the net rows, what a log does to cells. -/
set_option linter.unusedVariables false
namespace Go.Proofs.YtppikpdphcfomaaDoor
open Go.RowKit
namespace Logs

/-- one row is right -/
def okR (x : R2) : Bool := Ops.inn 0 7 x.c && Ops.inn 0 65535 x.v
def rowsOk (xs : List R2) : Bool := decide (xs.length ≤ 300) && xs.all okR
theorem rowsOk_mk {xs : List R2} (h : xs.length ≤ 300) (ha : ∀ j (h : j < xs.length), okR xs[j] = true) : rowsOk xs = true := by
  unfold rowsOk
  rw [Bool.and_eq_true]
  refine ⟨decide_eq_true h, List.all_eq_true.2 fun x hx => ?_⟩
  obtain ⟨j, hj, rfl⟩ := List.mem_iff_getElem.1 hx
  exact ha j hj
theorem rowsOk_len {xs : List R2} (h : ¬ xs.length ≤ 300) : rowsOk xs = false := by unfold rowsOk; rw [decide_eq_false h]; rfl
theorem rowsOk_one {xs : List R2} {j : Nat} (hj : j < xs.length) (h : okR xs[j] = false) : rowsOk xs = false := by
  unfold rowsOk
  rw [Bool.and_eq_false_iff]
  exact .inr (List.all_eq_false.2 ⟨xs[j], List.getElem_mem hj, by simp [h]⟩)
theorem rowsOk_out {xs : List R2} (h : rowsOk xs = true) : xs.length ≤ 300 := by
  unfold rowsOk at h
  rw [Bool.and_eq_true] at h
  exact of_decide_eq_true h.1
theorem rowsOk_at {xs : List R2} (h : rowsOk xs = true) {x : R2} (hx : x ∈ xs) : 0 ≤ x.c ∧ x.c ≤ 7 ∧ 0 ≤ x.v ∧ x.v ≤ 65535 := by
  unfold rowsOk at h
  rw [Bool.and_eq_true] at h
  have := List.all_eq_true.1 h.2 x hx
  simp [okR, Ops.inn] at this
  omega
theorem ret_rows {xs : List R2} {b : Bool} (h : rowsOk xs = b) : Ending.returned (.bool b) = .returned (.bool (rowsOk xs)) := by rw [h]
theorem okR_yes {x : R2} (h0 : 0 ≤ x.c) (h1 : x.c ≤ 7) (h2 : 0 ≤ x.v) (h3 : x.v ≤ 65535) : okR x = true := by
  simp [okR, Ops.inn, h0, h1, h2, h3]
theorem okR_cell {x : R2} (h : Ops.inn 0 7 x.c = false) : okR x = false := by simp [okR, h]
theorem okR_val {x : R2} (h : Ops.inn 0 65535 x.v = false) : okR x = false := by simp [okR, h]

/-- the value of the last row of a cell -/
def lastV (xs : List R2) (c : Int) : Option Int := (xs.reverse.find? (fun x => x.c == c)).map R2.v
def lastOf (xs : List R2) (c : Int) : Option Int := if rowsOk xs = true then lastV xs c else none
/-- the first n rows -/
def cutOf (xs : List R2) (n : Int) : List R2 := if rowsOk xs = true then xs.take n.toNat else []
/-- of each cell its last row, rising by cell -/
def netOf (xs : List R2) : List R2 := (List.range 8).filterMap fun (i : Nat) => (lastOf xs (i : Int)).map fun v => ⟨(i : Int), v⟩
def cellsOf (xs : List R2) : List Int := (netOf xs).map R2.c
/-- each row put into its cell -/
def putAll (zs : List Int) (xs : List R2) : List Int := xs.foldl (fun z x => z.set x.c.toNat x.v) zs
theorem putAll_length (xs : List R2) : ∀ zs : List Int, (putAll zs xs).length = zs.length := by
  induction xs with
  | nil => intro zs; rfl
  | cons x r ih => intro zs; show (putAll (zs.set x.c.toNat x.v) r).length = _; rw [ih]; simp
theorem putAll_snoc (zs : List Int) (xs : List R2) (x : R2) : putAll zs (xs ++ [x]) = (putAll zs xs).set x.c.toNat x.v := by simp [putAll]
theorem putAll_take (zs : List Int) (xs : List R2) (k : Nat) (h : k < xs.length) : (putAll zs (xs.take k)).set xs[k].c.toNat xs[k].v = putAll zs (xs.take (k + 1)) := by
  rw [List.take_succ_eq_append_getElem h, putAll_snoc]
end Logs
end Go.Proofs.YtppikpdphcfomaaDoor
