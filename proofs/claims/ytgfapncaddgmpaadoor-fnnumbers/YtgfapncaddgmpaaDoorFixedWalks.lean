/- Both Fixed return the number in 'width' bytes, or the empty text. -/
import Derived.Test.YtgfapncaddgmpaaDoorFix
import Derived.Test.YtgfapncaddgmpaaDoorBytes
import Derived.Outline
import Derived.OpenShut
namespace Go.Proofs.YtgfapncaddgmpaaDoor
open Go.RowKit
namespace Fixed
open Num Bytes

set_option maxHeartbeats 400000 in
theorem impl_no (n wd : Int) (w : World) (h : wd < 1 ∨ 7 < wd ∨ n < 0) :
    Calls Tryd.prog 11 #[.int .i64 n, .int .i64 wd] w fun e w' => e = .returned (.string ByteArray.empty) ∧ w' = w := by
  by_cases h1 : wd < 1
  · go_enter Tryd.func11, Tryd.ntmps11
    go_wp2
    go_ret
    exact ⟨rfl, rfl⟩
  · by_cases h2 : 7 < wd
    · go_enter Tryd.func11, Tryd.ntmps11
      go_wp2
      go_ret
      exact ⟨rfl, rfl⟩
    · have h3 : n < 0 := by omega
      go_enter Tryd.func11, Tryd.ntmps11
      go_wp2
      go_ret
      exact ⟨rfl, rfl⟩

set_option maxHeartbeats 400000 in
theorem impl_big (n wd : Nat) (w : World) (h1 : 1 ≤ wd) (h2 : wd ≤ 7) (h3 : n / 256 ^ wd ≠ 0) :
    Calls Tryd.prog 11 #[.int .i64 n, .int .i64 wd] w fun e w' => e = .returned (.string ByteArray.empty) ∧ w' = w := by
  obtain ⟨D, hD⟩ : ∃ D : Nat, n / 256 ^ wd = D := ⟨_, rfl⟩
  have hb := fits_eq n wd
  rw [hD] at hb h3
  have h3' : ((D : Int) != 0) = true := by simpa using h3
  clear hD h3
  go_enter Tryd.func11, Tryd.ntmps11
  go_wp2
  go_ret
  exact ⟨rfl, rfl⟩

set_option maxHeartbeats 400000 in
theorem impl_yes (n wd : Nat) (w : World) (h1 : 1 ≤ wd) (h2 : wd ≤ 7) (h3 : n / 256 ^ wd = 0) :
    Calls Tryd.prog 11 #[.int .i64 n, .int .i64 wd] w fun e w' => e = .returned (.string ⟨(fixedTo n wd wd).toArray⟩) ∧ Below w.heap.size w w' := by
  have hb := fits_eq n wd
  rw [h3] at hb
  clear h3
  have hmk := makeRow wd (by omega)
  have hR0 := Row.made w wd
  obtain ⟨w1, hw1⟩ : ∃ w1, w1 = w.alloc (.cells (madeCells #[.int .u8 0] wd) 5) := ⟨_, rfl⟩
  have hmk1 := hmk w
  rw [← hw1] at hmk1 hR0
  have hB0 : Below w.heap.size w w1 := by rw [hw1]; exact (Below.refl _ _).alloc (Nat.le_refl _) _
  clear hw1 hmk
  go_enter Tryd.func11, Tryd.ntmps11
  go_wp2
  go_loopw [6] (fun i wr => ∃ k : Nat, k ≤ wd ∧ i = .int .i64 k ∧ Row wr w.heap.size (pad wd (fixedTo n wd k)) ∧ Below w.heap.size w wr) (fun i _ => wd - (intOf i).toNat)
  case atStart => exact ⟨0, Nat.zero_le _, rfl, by rw [fixedTo_zero, pad_nil]; exact hR0, hB0⟩
  case round =>
    obtain ⟨k, hk, rfl, hR, hB⟩ := hrel
    clear hmk1 hR0 hB0
    by_cases hlt : k < wd
    · obtain ⟨D, hD⟩ : ∃ D : Nat, n / 256 ^ (wd - 1 - k) = D := ⟨_, rfl⟩
      have hs := shr_eq n wd k hlt
      have hv := fb_val n wd k
      rw [hD] at hs hv
      have HV : Hid (((fb n wd k).toNat : Int) = (D : Int) % 256) := hv
      clear hD hv
      have hln : (fixedTo n wd k).length = k := fixedTo_length n wd k
      have HP : Hid (splice (pad wd (fixedTo n wd k)) k [fb n wd k] = pad wd (fixedTo n wd (k + 1))) := by
        have := splice_pad wd (fixedTo n wd k) [fb n wd k] (by rw [hln]; simp; omega)
        rw [hln] at this
        rw [fixedTo_succ]; exact this
      have hpl : (pad wd (fixedTo n wd k)).length = wd := pad_length _ _ (by rw [hln]; exact hk)
      have HL : Hid ((pad wd (fixedTo n wd k)).length = wd) := hpl
      clear hln hpl
      go_wp2_with fail
      refine (put _ w w.heap.size w.heap.size wd k 1 1 (pad wd (fixedTo n wd k)) [fb n wd k] ⟨wr.heap.size, 0, none⟩ (hR.alloc _) HL.out (by unfold maxLen; omega) rfl (by omega) (by omega) (new1 _ _ _ HV.out.symm) (hB.alloc hB.size _) (Nat.le_refl _)).mono ?_
      rintro e w2 ⟨rfl, hR2, hB2⟩
      rw [HP.out] at hR2
      go_wp2
      go_roundw
      case rel => exact ⟨k + 1, by omega, by go_num, hR2, hB2⟩
      case measure => simp [intOf]; omega
    · obtain rfl : k = wd := by omega
      have hst := hR.str k k (by rw [pad_length _ _ (by rw [fixedTo_length]; exact hk)]; omega)
      have e : (pad k (fixedTo n k k)).take k = fixedTo n k k := by
        have := pad_take k (fixedTo n k k); rw [fixedTo_length] at this; exact this
      rw [e] at hst
      clear e
      go_wp2
      go_ret
      exact ⟨rfl, hB⟩

/-- what spec.Fixed answers: the bytes, or the empty text where the number does not fit -/
def out (n wd : Nat) : ByteArray := if n / 256 ^ wd = 0 then ⟨(fixedTo n wd wd).toArray⟩ else ByteArray.empty

set_option maxHeartbeats 400000 in
theorem impl_out (n wd : Nat) (w : World) (h1 : 1 ≤ wd) (h2 : wd ≤ 7) :
    Calls Tryd.prog 11 #[.int .i64 n, .int .i64 wd] w fun e w' => e = .returned (.string (out n wd)) ∧ Below w.heap.size w w' := by
  by_cases h0 : n / 256 ^ wd = 0
  · have ho : out n wd = ⟨(fixedTo n wd wd).toArray⟩ := by unfold out; rw [if_pos h0]
    rw [ho]; exact impl_yes n wd w h1 h2 h0
  · have ho : out n wd = ByteArray.empty := by unfold out; rw [if_neg h0]
    rw [ho]; exact (impl_big n wd w h1 h2 h0).mono fun _ _ h => ⟨h.1, h.2 ▸ Below.refl _ _⟩

end Fixed
end Go.Proofs.YtgfapncaddgmpaaDoor
