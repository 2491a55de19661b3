/- Both Hex return two digits for each byte. -/
import Derived.Test.YtgfapncaddgmpaaDoorHexL
import Derived.Test.YtgfapncaddgmpaaDoorBytes
import Derived.Outline
import Derived.OpenShut
import Derived.Deep.RegionHeld3
import Derived.Deep.AppendLies
import Derived.Deep.DrawnRows
import Derived.Deep.RegionWith
namespace Go.Proofs.YtgfapncaddgmpaaDoor
open Go.RowKit
namespace Hex
open Num Bytes

set_option maxRecDepth 100000 in
set_option maxHeartbeats 800000 in
theorem impl_any (s : ByteArray) (w : World) (hs : s.size ≤ 1099511627776) :
    Calls Tryd.prog 16 #[.string s] w fun e w' => e = .returned (.string ⟨(hexL s.data.toList).toArray⟩) ∧ Below w.heap.size w w' := by
  have hmk1 : (Instr.makeSlice 22 (.int .i64 (2 * (s.size : Int))) (.int .i64 (2 * (s.size : Int)))).run Tryd.prog w = .ok (.slice (some ⟨w.heap.size, 0, none⟩) (2 * s.size) (2 * s.size)) (w.alloc (.cells (madeCells #[.int .u8 0] (2 * s.size)) 5)) := by
    have := makeRow (2 * s.size) (by omega) w
    rw [show ((2 * s.size : Nat) : Int) = 2 * (s.size : Int) by omega] at this
    exact this
  have hR0 := Row.made w (2 * s.size)
  obtain ⟨w1, hw1⟩ : ∃ w1, w1 = w.alloc (.cells (madeCells #[.int .u8 0] (2 * s.size)) 5) := ⟨_, rfl⟩
  rw [← hw1] at hmk1 hR0
  have hB0 : Below w.heap.size w w1 := by rw [hw1]; exact (Below.refl _ _).alloc (Nat.le_refl _) _
  clear hw1
  go_enter Tryd.func16, Tryd.ntmps16
  go_wp2
  go_loopw [4, 5, 12] (fun v _ i wr => ∃ k : Nat, k ≤ s.size ∧ i = .int .i64 k ∧ v = .int .i64 (2 * (k : Int)) ∧ Row wr w.heap.size (pad (2 * s.size) (hexL (pre s k))) ∧ Below w.heap.size w wr) (fun _ _ i _ => s.size - (intOf i).toNat)
  case atStart => exact ⟨0, by omega, rfl, rfl, by rw [show hexL (pre s 0) = [] by simp [pre, hexL], pad_nil]; exact hR0, hB0⟩
  case round =>
    obtain ⟨k, hk, rfl, rfl, hR, hB⟩ := hrel
    clear hmk1 hR0 hB0
    have hln : (hexL (pre s k)).length = 2 * k := hex_pre_length s k hk
    by_cases hlt : k < s.size
    · have hc : s[k].toNat < 256 := s[k].toNat_lt
      have hpl : (pad (2 * s.size) (hexL (pre s k))).length = 2 * s.size := pad_length _ _ (by rw [hln]; omega)
      have HL : Hid ((pad (2 * s.size) (hexL (pre s k))).length = 2 * s.size) := hpl
      have HP : Hid (splice (pad (2 * s.size) (hexL (pre s k))) (2 * k) [hexd (s[k].toNat / 16), hexd (s[k].toNat % 16)] = pad (2 * s.size) (hexL (pre s (k + 1)))) := by
        have := splice_pad (2 * s.size) (hexL (pre s k)) [hexd (s[k].toNat / 16), hexd (s[k].toNat % 16)] (by rw [hln]; simp; omega)
        rw [hln] at this
        rw [hex_pre_succ s k hlt]; exact this
      obtain ⟨q, hq⟩ : ∃ q : Nat, s[k].toNat / 16 = q := ⟨_, rfl⟩
      obtain ⟨r, hr⟩ : ∃ r : Nat, s[k].toNat % 16 = r := ⟨_, rfl⟩
      rw [hq, hr] at HP
      have hq16 : q < 16 := by omega
      have hr16 : r < 16 := by omega
      have hw1 : IntKind.u8.wrap ((s[k].toNat : Int) / 16) = (q : Int) := by rw [IntKind.wrap_u8]; omega
      have hw2 : ((s[k].toNat : Int)).tmod 16 = (r : Int) := by rw [Int.tmod_eq_emod_of_nonneg (by omega)]; omega
      have hqi : (q : Int) < 16 := by omega
      have hri : (r : Int) < 16 := by omega
      clear hln hpl hq hr hc
      go_wp2
      go_region_held3 (fun _ => True) (go_keep) ((go_at_call 23; refine (putI _ w w.heap.size w.heap.size (2 * s.size) (2 * k) 2 2 (2 * (k : Int)) (by omega) (pad (2 * s.size) (hexL (pre s k))) [hexd q, hexd r] ⟨wr.heap.size, 0, none⟩ (by exact hR.alloc _) HL.out (by unfold maxLen; omega) rfl (by omega) (by omega) (by exact new2 _ _ _ _ _ (congrArg (fun b : UInt8 => (b.toNat : Int)) (hexd_arr q hq16 _)) (congrArg (fun b : UInt8 => (b.toNat : Int)) (hexd_arr r hr16 _))) (by exact (hB.alloc hB.size _).drew) (Nat.le_refl _)).mono ?_; rintro e w2 ⟨rfl, hR2, hB2⟩))
      all_goals
        rw [HP.out] at hR2
        go_wp2
        go_roundw
        case rel => exact ⟨k + 1, by omega, by go_num, by go_num, hR2, hB2⟩
        case measure => simp only [intOf]; omega
    · obtain rfl : k = s.size := by omega
      have hst := hR.str (2 * s.size) (2 * s.size) (by rw [pad_length _ _ (by rw [hln]; omega)]; omega)
      have e : (pad (2 * s.size) (hexL (pre s s.size))).take (2 * s.size) = hexL s.data.toList := by
        have := pad_take (2 * s.size) (hexL (pre s s.size)); rw [hln] at this; rw [this, pre_all]
      rw [e] at hst
      clear e hln
      go_wp2
      go_ret
      exact ⟨rfl, hB⟩

theorem bv_append (a b : List UInt8) : bv (a ++ b) = bv a ++ bv b := by simp [bv]

end Hex
end Go.Proofs.YtgfapncaddgmpaaDoor
