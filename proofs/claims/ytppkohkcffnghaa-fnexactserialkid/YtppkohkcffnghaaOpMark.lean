/- Marks on rows of ops: what the laws' markOpS and heldOpS do. -/
import Derived.Test.YtppkohkcffnghaaOpRow
set_option linter.unusedVariables false
set_option linter.unusedSimpArgs false
namespace Go.Proofs.Ytppkohkcffnghaa
open Go.RowKit
namespace Ops
open Bas Flat

theorem ret_k {a b : Int} (h : a = b) : Ending.returned (.int .i64 a) = .returned (.int .i64 b) := by rw [h]
def mkO (k0 : Int) (j : Nat) : O4 := ⟨k0 + 4 * j, k0 + 4 * j + 1, k0 + 4 * j + 2, k0 + 4 * j + 3⟩
def marksO (k0 : Int) (n : Nat) : List O4 := (List.range n).map (mkO k0)
theorem marksO_length (k0 : Int) (n : Nat) : (marksO k0 n).length = n := by simp [marksO]
theorem marksO_get (k0 : Int) (n j : Nat) (h : j < (marksO k0 n).length) : (marksO k0 n)[j] = mkO k0 j := by simp [marksO]
def markedO (xs : List O4) (k0 : Int) (k : Nat) : List O4 := marksO k0 k ++ xs.drop k
theorem markedO_zero (xs : List O4) (k0 : Int) : markedO xs k0 0 = xs := by simp [markedO, marksO]
theorem markedO_full (xs : List O4) (k0 : Int) : markedO xs k0 xs.length = marksO k0 xs.length := by simp [markedO]
theorem markedO_length (xs : List O4) (k0 : Int) (k : Nat) (h : k ≤ xs.length) : (markedO xs k0 k).length = xs.length := by simp [markedO, marksO_length]; omega
theorem markedO_set (xs : List O4) (k0 : Int) (k : Nat) (h : k < xs.length) : (markedO xs k0 k).set k (mkO k0 k) = markedO xs k0 (k + 1) := by
  unfold markedO
  rw [List.set_append_right _ _ (by rw [marksO_length]; exact Nat.le_refl _), marksO_length, Nat.sub_self, List.drop_eq_getElem_cons h, List.set_cons_zero]
  simp [marksO, List.range_succ]
theorem own_some' {B n cap : Nat} {w : World} {a : Option Addr} {xs : List O4} (h : Owns4 B w (.slice a n cap) xs) (hn : 0 < xs.length) : ∃ q, a = some ⟨q, 0, none⟩ ∧ B ≤ q ∧ q < w.heap.size ∧ n = xs.length := by
  obtain ⟨h1, h2⟩ := h
  rcases h2 with ⟨h', h0⟩ | ⟨q, c, cur, h', hB, hg, hle, _⟩
  · omega
  · simp only [Value.slice.injEq] at h'
    obtain ⟨rfl, rfl, rfl⟩ := h'
    exact ⟨q, rfl, hB, (Array.getElem?_eq_some_iff.1 hg).1, rfl⟩
theorem grown_set {w w' : World} {q : Nat} (h : w.grownBy w' (some q)) (i : Nat) (u : Value) : w.grownBy (w'.setCell ⟨q, i, none⟩ u) (some q) :=
  ⟨h.os, h.tape, h.output, by simpa [World.setCell] using h.size, fun k hk hne => (Below.heap_setCell w' _ _ _ (fun e => hne (by rw [e]))).trans (h.block k hk hne)⟩

set_option maxRecDepth 100000 in
set_option maxHeartbeats 3200000 in
theorem markOpsC (v : Value) (xs : List O4) (k0 : Int) (B : Nat) (w : World) (hv : Owns4 B w v xs) (h0 : 0 ≤ k0) (h1 : k0 ≤ 1000000000) (hlen : xs.length ≤ 1048576) :
    Calls Try.prog 41 #[v, .int .i64 k0] w fun e w' => e = .returned (.int .i64 (k0 + 4 * (xs.length : Int))) ∧ Owns4 B w' v (marksO k0 xs.length) ∧ w.grownBy w' v.ownBlock := by
  obtain ⟨a, cap, rfl⟩ := hv.form
  obtain ⟨n, hn⟩ : ∃ n, xs.length = n := ⟨_, rfl⟩
  rw [hn] at hv hlen ⊢
  by_cases hn0 : n = 0
  · have HF : Hid (Owns4 B w (.slice a n cap) (marksO k0 n)) := by
      subst hn0
      have : xs = [] := List.eq_nil_of_length_eq_zero hn
      subst this
      exact hv
    subst hn0
    clear hv
    go_enter Try.func41, Try.ntmps41
    go_wp2
    go_loop [1, 5] (fun kv iv => kv = .int .i64 k0 ∧ iv = .int .i64 0) (fun _ _ => 0)
    case atStart => exact ⟨rfl, rfl⟩
    case round =>
      obtain ⟨rfl, rfl⟩ := hrel
      go_wp2
      go_ret
      exact ⟨by simp, HF.out, ⟨rfl, rfl, rfl, Nat.le_refl _, fun _ _ _ => rfl⟩⟩
  obtain ⟨q, rfl, hq1, hq2, -⟩ := own_some' hv (by omega)
  have hO : w.ownsRow B 30 4 (.slice (some ⟨q, 0, none⟩) n cap) n (fv opEl (markedO xs k0 0)) := by
    rw [markedO_zero]
    have := hv
    unfold Owns4 Owns at this
    rw [hn] at this; exact this
  have hG : w.grownBy w (some q) := ⟨rfl, rfl, rfl, Nat.le_refl _, fun _ _ _ => rfl⟩
  clear hv
  go_enter Try.func41, Try.ntmps41
  go_wp2
  go_loopw [1, 5] (fun kv iv wr => ∃ (j : Nat) (k : Int), j ≤ n ∧ kv = .int .i64 k ∧ k = k0 + 4 * (j : Int) ∧ iv = .int .i64 j ∧ wr.ownsRow B 30 4 (.slice (some ⟨q, 0, none⟩) n cap) n (fv opEl (markedO xs k0 j)) ∧ w.grownBy wr (some q)) (fun _ iv _ => n - (intOf iv).toNat)
  case atStart => exact ⟨0, k0, Nat.zero_le _, rfl, by simp, rfl, hO, hG⟩
  case round =>
    obtain ⟨j, k, hj, rfl, hk, rfl, hR, hGr⟩ := hrel
    clear hO hG
    by_cases hlt : j < n
    · have hpl : (markedO xs k0 j).length = n := by rw [markedO_length xs k0 j (by omega)]; exact hn
      obtain ⟨c0, c1, c2, c3⟩ := at4 (own_at (E := opEl) hR j (by omega))
      obtain ⟨y, hy⟩ : ∃ y, (markedO xs k0 j)[j]'(by omega) = y := ⟨_, rfl⟩
      rw [hy] at c0 c1 c2 c3
      change wr.cell? ⟨q, j * 4, none⟩ = _ at c0
      change wr.cell? ⟨q, j * 4 + 1, none⟩ = _ at c1
      change wr.cell? ⟨q, j * 4 + 2, none⟩ = _ at c2
      change wr.cell? ⟨q, j * 4 + 3, none⟩ = _ at c3
      have hfz := fun j => hR.frozenAt j
      have hR3 := own_set4 hR j (by omega) (mkO k0 j)
      rw [markedO_set xs k0 j (by omega)] at hR3
      have eM : mkO k0 j = ⟨k, k + 1, k + 2, k + 3⟩ := by unfold mkO; rw [hk]
      rw [eM] at hR3
      unfold set4 at hR3
      have hG3 := grown_set (grown_set (grown_set (grown_set hGr (j * 4) (.int .i64 k)) (j * 4 + 1) (.int .i64 (k + 1))) (j * 4 + 2) (.int .i64 (k + 2))) (j * 4 + 3) (.int .i64 (k + 3))
      have HK : Hid (k = k0 + 4 * (j : Int)) := hk
      have i1 : (j : Int) < n := by omega
      have i2 : (0 : Int) ≤ j := by omega
      have k1 : 0 ≤ k := by omega
      have k2 : k ≤ 2000000000 := by omega
      have e2 : k + 1 + 1 = k + 2 := by omega
      have e3 : k + 2 + 1 = k + 3 := by omega
      have e4 : k + 3 + 1 = k + 4 := by omega
      clear hR hGr eM hk hy hpl
      go_wp2
      go_roundw
      case rel => exact ⟨j + 1, k + 4, by omega, by first | rfl | go_num, by rw [HK.out]; omega, by go_num, hR3, hG3⟩
      case measure => simp [intOf]; omega
    · obtain rfl : j = n := by omega
      have i1 : ¬ (j : Int) < j := by omega
      have HF : Hid (k = k0 + 4 * (j : Int)) := hk
      clear hk
      go_wp2
      go_ret
      refine ⟨ret_k HF.out, ?_, hGr⟩
      rw [← hn, markedO_full, hn] at hR
      unfold Owns4 Owns
      rw [marksO_length]; exact hR

end Ops
end Go.Proofs.Ytppkohkcffnghaa
