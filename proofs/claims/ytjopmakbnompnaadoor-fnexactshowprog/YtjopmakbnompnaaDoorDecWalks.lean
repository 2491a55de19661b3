/- Both Dec return the number in decimal digits. -/
import Derived.Test.YtjopmakbnompnaaDoorDecL
import Derived.Test.YtjopmakbnompnaaDoorByt
import Derived.Test.YtjopmakbnompnaaDoorShelf
import Derived.Lib.AppendIntMem
import Derived.Outline
import Derived.OpenShut
namespace Go.Proofs.YtjopmakbnompnaaDoor
open Go.RowKit
namespace Dec
open Num Bytes

/-- the table that strconv reads -/
def Tab (w : World) : Prop := Lib.TabIs Tryd.prog w "internal/strconv.uint64pow10" .u64 Lib.pow10Tab
theorem Tab.on {w w' : World} (h : Tab w) (hb : Below w.heap.size w w') : Tab w' := Lib.tabBelow_of_tabIs h w' hb

theorem itoaC (n : Int) (h0 : -9223372036854775808 ≤ n) (h1 : n ≤ 9223372036854775807) (w : World) (ht : Tab w) :
    Calls Tryd.prog 55 #[.int .i64 n] w fun e w' => e = .returned (.string ⟨(Lib.itoa n).toArray⟩) ∧ Below w.heap.size w w' := by
  refine (Any.strconv_Itoa Tryd.laysM171 n h0 h1 w ht).mono ?_
  rintro e w' ⟨rfl, k, os, rfl⟩
  exact ⟨rfl, Lib.below_grow _ _ (Nat.le_refl _) _ _⟩

theorem impl_any (n : Int) (h0 : -9223372036854775808 ≤ n) (h1 : n ≤ 9223372036854775807) (w : World) (ht : Tab w) :
    Calls Tryd.prog 34 #[.int .i64 n] w fun e w' => e = .returned (.string ⟨(Lib.itoa n).toArray⟩) ∧ Below w.heap.size w w' := by
  go_enter Tryd.func34, Tryd.ntmps34
  go_wp2_with (go_at_call 55; refine (itoaC n h0 h1 _ ht).mono ?_; rintro e w1 ⟨rfl, hB⟩)
  go_ret
  exact ⟨rfl, hB⟩

theorem spec_zero (w : World) :
    Calls Tryd.prog 31 #[.int .i64 0] w fun e w' => e = .returned (.string ⟨(Lib.itoa 0).toArray⟩) ∧ Below w.heap.size w w' := by
  have HZ : Hid (Lib.itoa 0 = [48]) := by show _ = _; rw [show (0 : Int) = ((0 : Nat) : Int) from rfl, Lib.itoa_nonneg, Lib.decDigits]; rfl
  go_enter Tryd.func31, Tryd.ntmps31
  go_wp2
  go_ret
  exact ⟨congrArg (fun l : List UInt8 => Ending.returned (.string ⟨l.toArray⟩)) HZ.out.symm, Below.refl _ _⟩

set_option maxRecDepth 100000 in
set_option maxHeartbeats 800000 in
theorem spec_pos (n : Nat) (hn : (n : Int) ≤ 9223372036854775807) (h0 : (0 : Int) < n) (w : World) :
    Calls Tryd.prog 31 #[.int .i64 n] w fun e w' => e = .returned (.string ⟨(Lib.itoa n).toArray⟩) ∧ Below w.heap.size w w' := by
  have hz : ((n : Int) == 0) = false := by rw [beq_eq_false_iff_ne]; omega
  go_enter Tryd.func31, Tryd.ntmps31
  go_wp2
  go_loopw [0, 3, 5] (fun v s _ wr => ∃ k : Nat, v = .int .i64 ((n / 10 ^ k : Nat) : Int) ∧ s = .string ⟨(decTo n k).toArray⟩ ∧ (∀ j, j < k → n / 10 ^ j ≠ 0) ∧ k ≤ 20 ∧ Below w.heap.size w wr) (fun v _ _ _ => (intOf v).natAbs)
  case atStart => exact ⟨0, by simp, rfl, fun j hj => by omega, by omega, Below.refl _ _⟩
  case round =>
    obtain ⟨k, rfl, rfl, hne, hk, hB⟩ := hrel
    have HN : Hid (∀ j, j < k → n / 10 ^ j ≠ 0) := hne
    clear hne
    by_cases hd0 : n / 10 ^ k = 0
    · have HF : Hid (Lib.itoa n = decTo n k) := by show _ = _; rw [Lib.itoa_nonneg, decTo_all k n (by omega) HN.out hd0]
      rw [hd0]
      clear hd0
      go_wp2
      go_ret
      exact ⟨congrArg (fun l : List UInt8 => Ending.returned (.string ⟨l.toArray⟩)) HF.out.symm, hB⟩
    · have hk' := dk_lt n k (by omega) hd0
      have HN' : Hid (∀ j, j < k + 1 → n / 10 ^ j ≠ 0) := fun j hj => by
        rcases Nat.lt_or_ge j k with h1 | h1
        · exact HN.out j h1
        · rw [show j = k by omega]; exact hd0
      have HS : Hid (n / 10 ^ (k + 1) = n / 10 ^ k / 10) := dstep n k
      have HP : Hid (decTo n (k + 1) = UInt8.ofNat (48 + n / 10 ^ k % 10) :: decTo n k) := rfl
      have hle := Nat.div_le_self n (10 ^ k)
      obtain ⟨D, hD⟩ : ∃ D : Nat, n / 10 ^ k = D := ⟨_, rfl⟩
      rw [hD] at hd0 HS HP hle
      rw [hD]
      have hDn : (D : Int) ≤ 9223372036854775807 := by omega
      have hD1 : (1 : Int) ≤ (D : Int) := by omega
      have hq : ((D : Int) != 0) = true := by rw [bne_iff_ne]; omega
      have hv : 48 + (D : Int) % 10 = ((UInt8.ofNat (48 + D % 10)).toNat : Int) := by have := (dig_isDig (D % 10) (by omega)).2; omega
      have hcv := str1 (48 + (D : Int) % 10) (UInt8.ofNat (48 + D % 10)) hv wr
      obtain ⟨b, hbb⟩ : ∃ b, UInt8.ofNat (48 + D % 10) = b := ⟨_, rfl⟩
      rw [hbb] at HP hcv
      have hln : (decTo n k).length = k := decTo_length n k
      clear hbb hD hv hle hd0
      obtain ⟨F, hF⟩ : ∃ F, decTo n k = F := ⟨_, rfl⟩
      rw [hF] at hln HP
      rw [hF]
      clear hF
      go_wp2
      go_roundw
      case rel =>
        refine ⟨k + 1, ?_, ?_, HN'.out, by omega, hB.alloc hB.size _⟩
        · rw [HS.out]; simp
        · rw [HP.out]; simp [ByteArray.mk_append_mk]
      case measure => simp only [intOf]; omega

set_option maxRecDepth 100000 in
set_option maxHeartbeats 800000 in
theorem spec_neg (n : Nat) (N : Int) (hN : N = -(n : Int)) (hn : (n : Int) ≤ 9223372036854775808) (h0 : (0 : Int) < n) (w : World) :
    Calls Tryd.prog 31 #[.int .i64 N] w fun e w' => e = .returned (.string ⟨(Lib.itoa N).toArray⟩) ∧ Below w.heap.size w w' := by
  have hz : (N == 0) = false := by rw [beq_eq_false_iff_ne]; omega
  have hlt : N < 0 := by omega
  have HI : Hid (Lib.itoa N = 45 :: Lib.decDigits n) := by show _ = _; rw [hN, Lib.itoa_neg n (by omega)]
  have HN0 : Hid (N = -(n : Int)) := hN
  clear hN
  go_enter Tryd.func31, Tryd.ntmps31
  go_wp2
  go_loopw [0, 3, 5] (fun v s _ wr => ∃ (k : Nat) (V : Int), V = -((n / 10 ^ k : Nat) : Int) ∧ v = .int .i64 V ∧ s = .string ⟨(decTo n k).toArray⟩ ∧ (∀ j, j < k → n / 10 ^ j ≠ 0) ∧ k ≤ 20 ∧ Below w.heap.size w wr) (fun v _ _ _ => (intOf v).natAbs)
  case atStart => exact ⟨0, N, by have := HN0.out; simp; exact this, rfl, rfl, fun j hj => by omega, by omega, Below.refl _ _⟩
  case round =>
    obtain ⟨k, V, hV, rfl, rfl, hne, hk, hB⟩ := hrel
    have HN : Hid (∀ j, j < k → n / 10 ^ j ≠ 0) := hne
    clear hne
    by_cases hd0 : n / 10 ^ k = 0
    · have HF : Hid (Lib.itoa N = 45 :: decTo n k) := by show _ = _; rw [HI.out, decTo_all k n (by omega) HN.out hd0]
      obtain rfl : V = 0 := by omega
      have hln : (decTo n k).length = k := decTo_length n k
      obtain ⟨F, hF⟩ : ∃ F, decTo n k = F := ⟨_, rfl⟩
      rw [hF] at hln HF
      rw [hF]
      clear hd0 hV hF
      go_wp2
      go_ret
      exact ⟨congrArg (fun l : List UInt8 => Ending.returned (.string ⟨l.toArray⟩)) HF.out.symm, hB⟩
    · have hk' := dk_lt n k (by omega) hd0
      have HN' : Hid (∀ j, j < k + 1 → n / 10 ^ j ≠ 0) := fun j hj => by
        rcases Nat.lt_or_ge j k with h1 | h1
        · exact HN.out j h1
        · rw [show j = k by omega]; exact hd0
      have HS : Hid (n / 10 ^ (k + 1) = n / 10 ^ k / 10) := dstep n k
      have HP : Hid (decTo n (k + 1) = UInt8.ofNat (48 + n / 10 ^ k % 10) :: decTo n k) := rfl
      have hle := Nat.div_le_self n (10 ^ k)
      obtain ⟨D, hD⟩ : ∃ D : Nat, n / 10 ^ k = D := ⟨_, rfl⟩
      rw [hD] at hd0 HS HP hle hV
      have htm : V.tmod 10 = -((D % 10 : Nat) : Int) := by rw [hV, Int.neg_tmod, Int.tmod_eq_emod_of_nonneg (by omega)]; omega
      have htd : V.tdiv 10 = -((D / 10 : Nat) : Int) := by rw [hV, Int.neg_tdiv, Int.tdiv_eq_ediv_of_nonneg (by omega)]; omega
      obtain ⟨r, hr⟩ : ∃ r : Int, -((D % 10 : Nat) : Int) = r := ⟨_, rfl⟩
      obtain ⟨V2, hV2⟩ : ∃ V2 : Int, -((D / 10 : Nat) : Int) = V2 := ⟨_, rfl⟩
      have hv := (dig_isDig (D % 10) (by omega)).2
      obtain ⟨b, hbb⟩ : ∃ b, UInt8.ofNat (48 + D % 10) = b := ⟨_, rfl⟩
      rw [hbb] at HP hv
      rw [hr] at htm
      rw [hV2] at htd
      have HB : Hid (48 + -r = (b.toNat : Int)) := by show _ = _; omega
      have HV2 : Hid (V2 = -((D / 10 : Nat) : Int)) := hV2.symm
      have hr1 : -9 ≤ r := by omega
      have hr2 : r ≤ 0 := by omega
      have hq : (V != 0) = true := by rw [bne_iff_ne]; omega
      have hVl : -9223372036854775808 ≤ V := by omega
      have hVu : V ≤ -1 := by omega
      have hV2l : -9223372036854775808 ≤ V2 := by omega
      have hV2u : V2 ≤ 0 := by omega
      have HM : Hid (V2.natAbs < V.natAbs) := by show _ < _; omega
      have hln : (decTo n k).length = k := decTo_length n k
      clear hbb hD hv hle hd0 hr hV2 hV
      obtain ⟨F, hF⟩ : ∃ F, decTo n k = F := ⟨_, rfl⟩
      rw [hF] at hln HP
      rw [hF]
      clear hF
      by_cases hr0 : r < 0
      · have hcv := str1 (48 + -r) b HB.out wr
        go_wp2
        go_roundw
        case rel =>
          refine ⟨k + 1, V2, ?_, rfl, ?_, HN'.out, by omega, hB.alloc hB.size _⟩
          · rw [HS.out]; exact HV2.out
          · rw [HP.out]; simp [ByteArray.mk_append_mk]
        case measure => exact HM.out
      · obtain rfl : r = 0 := by omega
        have hcv := str1 48 b HB.out wr
        go_wp2
        go_roundw
        case rel =>
          refine ⟨k + 1, V2, ?_, rfl, ?_, HN'.out, by omega, hB.alloc hB.size _⟩
          · rw [HS.out]; exact HV2.out
          · rw [HP.out]; simp [ByteArray.mk_append_mk]
        case measure => exact HM.out

theorem spec_any (n : Int) (h0 : -9223372036854775808 ≤ n) (h1 : n ≤ 9223372036854775807) (w : World) :
    Calls Tryd.prog 31 #[.int .i64 n] w fun e w' => e = .returned (.string ⟨(Lib.itoa n).toArray⟩) ∧ Below w.heap.size w w' := by
  rcases Int.lt_trichotomy n 0 with h | h | h
  · exact spec_neg n.natAbs n (by omega) (by omega) (by omega) w
  · subst h; exact spec_zero w
  · obtain ⟨m, rfl⟩ := Int.eq_ofNat_of_zero_le (show 0 ≤ n by omega)
    exact spec_pos m h1 h w

end Dec
end Go.Proofs.YtjopmakbnompnaaDoor
