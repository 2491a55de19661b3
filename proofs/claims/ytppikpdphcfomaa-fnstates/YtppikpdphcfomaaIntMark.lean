/- Marks on rows of numbers, from any number on. -/
import Derived.Test.YtppikpdphcfomaaIntRow
set_option linter.unusedVariables false
set_option linter.unusedSimpArgs false
namespace Go.Proofs.Ytppikpdphcfomaa
open Go.RowKit
namespace Ints
open Bas (grownBy_trans)
def markK (k0 : Int) (i : Nat) : Int := k0 + (i : Int)
def markedK (zs : List Int) (k0 : Int) (k : Nat) : List Int := (List.range k).map (markK k0) ++ zs.drop k
def marksK (k0 : Int) (n : Nat) : List Int := (List.range n).map (markK k0)
theorem markedK_zero (zs : List Int) (k0 : Int) : markedK zs k0 0 = zs := by simp [markedK]
theorem markedK_full (zs : List Int) (k0 : Int) : markedK zs k0 zs.length = marksK k0 zs.length := by simp [markedK, marksK]
theorem markedK_length (zs : List Int) (k0 : Int) (k : Nat) (h : k ≤ zs.length) : (markedK zs k0 k).length = zs.length := by simp [markedK]; omega
theorem markedK_set (zs : List Int) (k0 : Int) (k : Nat) (h : k < zs.length) : (markedK zs k0 k).set k (markK k0 k) = markedK zs k0 (k + 1) := by
  unfold markedK
  have hl : ((List.range k).map (markK k0)).length = k := by simp
  rw [List.drop_eq_getElem_cons h, List.set_append_right _ _ (by omega), hl, Nat.sub_self, List.set_cons_zero, List.range_succ, List.map_append, List.append_assoc]
  rfl
theorem marksK_get (k0 : Int) (n k : Nat) (h : k < (marksK k0 n).length) : (marksK k0 n)[k] = markK k0 k := by simp [marksK]
theorem marksK_length (k0 : Int) (n : Nat) : (marksK k0 n).length = n := by simp [marksK]

set_option maxRecDepth 100000 in
set_option maxHeartbeats 800000 in
theorem markIntsK (v : Value) (zs : List Int) (k0 : Int) (h0 : 0 ≤ k0) (h1' : k0 ≤ 4000000000000000000) (B : Nat) (w : World) (hv : Owns B w v zs) (hlen : zs.length ≤ 1048576) :
    Calls Try.prog 25 #[v, .int .i64 k0] w fun e w' => e = .returned (.int .i64 (k0 + (zs.length : Int))) ∧ Owns B w' v (marksK k0 zs.length) ∧ w.grownBy w' v.ownBlock := by
  obtain ⟨n, hn⟩ : ∃ n, zs.length = n := ⟨_, rfl⟩
  obtain ⟨hv1, hv2⟩ := id hv
  rcases hv2 with ⟨rfl, h0⟩ | ⟨g, cap, cur, rfl, hBg, hg, hle, hm, -, -⟩
  · obtain rfl : zs = [] := List.eq_nil_of_length_eq_zero h0
    clear hn hv1 h0
    go_enter Try.func25, Try.ntmps25
    go_wp2
    go_loop [1, 5] (fun q i => q = .int .i64 k0 ∧ i = .int .i64 0) (fun _ _ => 0)
    case atStart => exact ⟨rfl, rfl⟩
    case round =>
      obtain ⟨rfl, rfl⟩ := hrel
      go_wp2
      go_ret
      exact ⟨rfl, hv, ⟨rfl, rfl, rfl, Nat.le_refl _, fun _ _ _ => rfl⟩⟩
  · unfold Owns at hv
    rw [hn] at hv hlen hle ⊢
    clear hv1 hg hm
    go_enter Try.func25, Try.ntmps25
    go_wp2
    go_loopw [1, 5] (fun q i wr => ∃ k : Nat, k ≤ n ∧ q = .int .i64 (k0 + (k : Int)) ∧ i = .int .i64 k ∧ wr.ownsRow B 3 1 (.slice (some ⟨g, 0, none⟩) n cap) n (iv (markedK zs k0 k)) ∧ w.grownBy wr (some g)) (fun _ i _ => n - (intOf i).toNat)
    case atStart => exact ⟨0, Nat.zero_le _, by simp, rfl, by rw [markedK_zero]; exact hv, ⟨rfl, rfl, rfl, Nat.le_refl _, fun _ _ _ => rfl⟩⟩
    case round =>
      obtain ⟨k, hk, rfl, rfl, hR, hgr⟩ := hrel
      by_cases hlt : k < n
      · have hpl : (markedK zs k0 k).length = n := by rw [markedK_length zs k0 k (by omega)]; exact hn
        have HP : Hid ((markedK zs k0 k).set k (markK k0 k) = markedK zs k0 (k + 1)) := markedK_set zs k0 k (by omega)
        have c0 := owns_at hR k (by omega)
        have hfz := fun j => hR.frozenAt j
        go_wp2
        have hR3 := owns_set hR k (markK k0 k)
        rw [HP.out] at hR3
        unfold markK at hR3
        have t1 := (hR.stored k (.int .i64 (k0 + (k : Int)))).2
        go_roundw
        case rel => exact ⟨k + 1, by omega, by go_num, by go_num, hR3, grownBy_trans hgr t1⟩
        case measure => simp [intOf]; omega
      · obtain rfl : k = n := by omega
        go_wp2
        go_ret
        rw [← hn, markedK_full, hn] at hR
        refine ⟨rfl, ?_, hgr⟩
        unfold Owns
        rw [marksK_length]
        exact hR

set_option maxRecDepth 100000 in
set_option maxHeartbeats 800000 in
theorem heldIntsK (v : Value) (n : Nat) (k0 : Int) (h0 : 0 ≤ k0) (h1' : k0 ≤ 1000000000) (B : Nat) (w : World) (hv : Sees B w v (marksK k0 n)) (hlen : n ≤ 1048576) :
    Calls Try.prog 27 #[v, .int .i64 k0] w fun e w' => e = .returned (.int .i64 (k0 + (n : Int))) ∧ w = w' := by
  obtain ⟨a, cap, rfl, h1, h2, h3⟩ := hv
  rw [marksK_length]
  clear h1 h2
  go_enter Try.func27, Try.ntmps27
  go_wp2
  go_loop [1, 5] (fun q i => ∃ k : Nat, k ≤ n ∧ q = .int .i64 (k0 + (k : Int)) ∧ i = .int .i64 k) (fun _ i => n - (intOf i).toNat)
  case atStart => exact ⟨0, Nat.zero_le _, by simp, rfl⟩
  case round =>
    obtain ⟨k, hk, rfl, rfl⟩ := hrel
    by_cases hlt : k < n
    · obtain ⟨b, off, rfl, hbB, hc⟩ := h3 (fun h => by have := congrArg List.length h; rw [marksK_length] at this; simp at this; omega)
      have a0 := hc k (by rw [marksK_length]; omega)
      simp only [marksK_get, markK] at a0
      clear hc h3
      go_wp2
      go_round
      case rel => exact ⟨k + 1, by omega, by go_num, by go_num⟩
      case measure => simp [intOf]; omega
    · obtain rfl : k = n := by omega
      go_wp2
      go_ret
      exact ⟨rfl, rfl⟩
end Ints
end Go.Proofs.Ytppikpdphcfomaa
