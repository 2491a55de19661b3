/- Both Hex return two digits for each byte. -/
import Derived.Test.YtgfapncaddgmpaaHexL
import Derived.Test.YtgfapncaddgmpaaBytes
import Derived.Outline
import Derived.OpenShut
import Derived.Deep.RegionHeld3
import Derived.Deep.AppendLies
import Derived.Deep.DrawnRows
import Derived.Deep.RegionWith
namespace Go.Proofs.Ytgfapncaddgmpaa
open Go.RowKit
namespace Hex
open Num Bytes

theorem digit (k : Nat) (h : k < 16) (w : World) :
    Calls Try.prog 23 #[.int .i64 k] w fun e w' => e = .returned (.int .u8 ((hexd k).toNat : Int)) ∧ w' = w := by
  go_enter Try.func23, Try.ntmps23
  go_wp2
  go_ret
  exact ⟨congrArg (fun b : UInt8 => Ending.returned (.int .u8 (b.toNat : Int))) (hexd_arr k h _), rfl⟩

set_option maxRecDepth 100000 in
set_option maxHeartbeats 800000 in
theorem impl_any (s : ByteArray) (w : World) (hs : s.size ≤ 1099511627776) :
    Calls Try.prog 18 #[.string s] w fun e w' => e = .returned (.string ⟨(hexL s.data.toList).toArray⟩) ∧ Below w.heap.size w w' := by
  have hmk1 : (Instr.makeSlice 36 (.int .i64 (2 * (s.size : Int))) (.int .i64 (2 * (s.size : Int)))).run Try.prog w = .ok (.slice (some ⟨w.heap.size, 0, none⟩) (2 * s.size) (2 * s.size)) (w.alloc (.cells (madeCells #[.int .u8 0] (2 * s.size)) 5)) := by
    have := makeRow (2 * s.size) (by omega) w
    rw [show ((2 * s.size : Nat) : Int) = 2 * (s.size : Int) by omega] at this
    exact this
  have hR0 := Row.made w (2 * s.size)
  obtain ⟨w1, hw1⟩ : ∃ w1, w1 = w.alloc (.cells (madeCells #[.int .u8 0] (2 * s.size)) 5) := ⟨_, rfl⟩
  rw [← hw1] at hmk1 hR0
  have hB0 : Below w.heap.size w w1 := by rw [hw1]; exact (Below.refl _ _).alloc (Nat.le_refl _) _
  clear hw1
  go_enter Try.func18, Try.ntmps18
  go_wp2
  go_loopw [4, 5, 12] (fun v _ i wr => ∃ k : Nat, k ≤ s.size ∧ i = .int .i64 k ∧ v = .int .i64 (2 * (k : Int)) ∧ Row wr w.heap.size (pad (2 * s.size) (hexL (pre s k))) ∧ Below w.heap.size w wr) (fun _ _ i _ => s.size - (intOf i).toNat)
  case atStart => exact ⟨0, by omega, rfl, rfl, by rw [show hexL (pre s 0) = [] by simp [pre, hexL], pad_nil]; exact hR0, hB0⟩
  case round =>
    obtain ⟨k, hk, rfl, rfl, hR, hB⟩ := hrel
    clear hmk1 hR0 hB0
    have hln : (hexL (pre s k)).length = 2 * k := hex_pre_length s k hk
    by_cases hlt : k < s.size
    · have hc : s[k].toNat < 256 := s[k].toNat_lt
      have hpl : (pad (2 * s.size) (hexL (pre s k))).length = 2 * s.size := pad_length _ _ (by rw [hln]; omega)
      have HL : Hid ((pad (2 * s.size) (hexL (pre s k))).length = 2 * s.size) := hpl
      have HP : Hid (splice (pad (2 * s.size) (hexL (pre s k))) (2 * k) [hexd (s[k].toNat / 16), hexd (s[k].toNat % 16)] = pad (2 * s.size) (hexL (pre s (k + 1)))) := by
        have := splice_pad (2 * s.size) (hexL (pre s k)) [hexd (s[k].toNat / 16), hexd (s[k].toNat % 16)] (by rw [hln]; simp; omega)
        rw [hln] at this
        rw [hex_pre_succ s k hlt]; exact this
      obtain ⟨q, hq⟩ : ∃ q : Nat, s[k].toNat / 16 = q := ⟨_, rfl⟩
      obtain ⟨r, hr⟩ : ∃ r : Nat, s[k].toNat % 16 = r := ⟨_, rfl⟩
      rw [hq, hr] at HP
      have hq16 : q < 16 := by omega
      have hr16 : r < 16 := by omega
      have hw1 : IntKind.u8.wrap ((s[k].toNat : Int) / 16) = (q : Int) := by rw [IntKind.wrap_u8]; omega
      have hw2 : ((s[k].toNat : Int)).tmod 16 = (r : Int) := by rw [Int.tmod_eq_emod_of_nonneg (by omega)]; omega
      have hqi : (q : Int) < 16 := by omega
      have hri : (r : Int) < 16 := by omega
      clear hln hpl hq hr hc
      go_wp2
      go_region_held3 (fun _ => True) (go_keep) ((go_at_call 22; refine (putI _ w w.heap.size w.heap.size (2 * s.size) (2 * k) 2 2 (2 * (k : Int)) (by omega) (pad (2 * s.size) (hexL (pre s k))) [hexd q, hexd r] ⟨wr.heap.size, 0, none⟩ (by exact hR.alloc _) HL.out (by unfold maxLen; omega) rfl (by omega) (by omega) (by exact new2 _ _ _ _ _ (congrArg (fun b : UInt8 => (b.toNat : Int)) (hexd_arr q hq16 _)) (congrArg (fun b : UInt8 => (b.toNat : Int)) (hexd_arr r hr16 _))) (by exact (hB.alloc hB.size _).drew) (Nat.le_refl _)).mono ?_; rintro e w2 ⟨rfl, hR2, hB2⟩))
      all_goals
        rw [HP.out] at hR2
        go_wp2
        go_roundw
        case rel => exact ⟨k + 1, by omega, by go_num, by go_num, hR2, hB2⟩
        case measure => simp only [intOf]; omega
    · obtain rfl : k = s.size := by omega
      have hst := hR.str (2 * s.size) (2 * s.size) (by rw [pad_length _ _ (by rw [hln]; omega)]; omega)
      have e : (pad (2 * s.size) (hexL (pre s s.size))).take (2 * s.size) = hexL s.data.toList := by
        have := pad_take (2 * s.size) (hexL (pre s s.size)); rw [hln] at this; rw [this, pre_all]
      rw [e] at hst
      clear e hln
      go_wp2
      go_ret
      exact ⟨rfl, hB⟩

theorem bv_append (a b : List UInt8) : bv (a ++ b) = bv a ++ bv b := by simp [bv]

set_option maxRecDepth 100000 in
set_option maxHeartbeats 800000 in
theorem spec_any (s : ByteArray) (w : World) (hs : s.size ≤ 1099511627776) :
    Calls Try.prog 17 #[.string s] w fun e w' => e = .returned (.string ⟨(hexL s.data.toList).toArray⟩) ∧ Below w.heap.size w w' := by
  obtain ⟨i0, hi, hz0, hz1, hz2⟩ := info_parts Try.infoByte
  have hO0 := own_lit w w.heap.size (Nat.le_refl _)
  go_enter Try.func17, Try.ntmps17
  go_wp2
  go_loopw [3, 4] (fun v i wr => ∃ k : Nat, k ≤ s.size ∧ i = .int .i64 k ∧ wr.ownsRow w.heap.size 5 1 v (2 * k) (bv (hexL (pre s k))) ∧ Below w.heap.size w wr) (fun _ i _ => s.size - (intOf i).toNat)
  case atStart => exact ⟨0, by omega, rfl, by rw [show hexL (pre s 0) = [] by simp [pre, hexL]]; exact hO0, (Below.refl _ _).alloc (Nat.le_refl _) _⟩
  case round =>
    obtain ⟨k, hk, rfl, hown, hB⟩ := hrel
    clear hO0
    by_cases hlt : k < s.size
    · have hc : s[k].toNat < 256 := s[k].toNat_lt
      have HP : Hid (hexL (pre s (k + 1)) = hexL (pre s k) ++ [hexd (s[k].toNat / 16), hexd (s[k].toNat % 16)]) := hex_pre_succ s k hlt
      obtain ⟨q, hq⟩ : ∃ q : Nat, s[k].toNat / 16 = q := ⟨_, rfl⟩
      obtain ⟨r, hr⟩ : ∃ r : Nat, s[k].toNat % 16 = r := ⟨_, rfl⟩
      rw [hq, hr] at HP
      have hq16 : q < 16 := by omega
      have hr16 : r < 16 := by omega
      have hx1 : IntKind.i64.wrap (s[k].toNat : Int) = (s[k].toNat : Int) := by rw [IntKind.wrap_i64]; omega
      have hw1 : IntKind.i64.wrap ((s[k].toNat : Int) / 16) = (q : Int) := by rw [IntKind.wrap_i64]; omega
      have hw2 : ((s[k].toNat : Int)).tmod 16 = (r : Int) := by rw [Int.tmod_eq_emod_of_nonneg (by omega)]; omega
      clear hq hr
      have HO := hown
      go_wp2
      go_region_held3 (fun _ => True) (go_keep) ((first | (go_at_call_of 23 (Value.int IntKind.i64 (q : Int)); refine (digit q hq16 _).mono ?_; rintro e w' ⟨rfl, rfl⟩) | (go_at_call_of 23 (Value.int IntKind.i64 (r : Int)); refine (digit r hr16 _).mono ?_; rintro e w' ⟨rfl, rfl⟩) | (refine step_app _ w ?_ (.tmp 12) (.tmp 25) ?_ w.heap.size (2 * k) 2 2 (hexL (pre s k)) [hexd q, hexd r] u3 ⟨wr.heap.size, 0, none⟩ ?_ ?_ ?_ ?_ ?_ ?_ ?_ ?_ ?_ ?_; rfl; rfl; rfl; rfl; exact (HO.alloc _).drew; rfl; exact new2 _ _ _ _ _ rfl rfl; omega; omega; exact (hB.alloc hB.size _).drew; (have := hB.size; simp; omega); intro g cap w2 hown2 hB2)))
      all_goals
        have HOW : Hid (w2.ownsRow w.heap.size 5 1 (.slice (some ⟨g, 0, none⟩) (2 * k + 2) cap) (2 * (k + 1)) (bv (hexL (pre s (k + 1))))) := by
          show World.ownsRow _ _ _ _ _ _ _
          rw [HP.out]; exact hown2.out
        clear hown2 hown HO
        go_wp2
        go_roundw
        case rel => first | exact ⟨k + 1, by omega, by go_num, HOW.out, hB2.out⟩ | ((repeat apply Exists.intro); exact ⟨⟨k + 1, by omega, by go_num, HOW.out, hB2.out⟩, rfl⟩)
        case measure => simp only [intOf]; omega
    · obtain rfl : k = s.size := by omega
      have hst := own_str hown
      rw [pre_all] at hst
      clear hown
      go_wp2
      go_ret
      exact ⟨rfl, hB⟩

set_option maxRecDepth 100000 in
set_option maxHeartbeats 400000 in
theorem walk (s : ByteArray) (w : World) (hs : s.size ≤ maxLen) :
    Calls Try.prog 7 #[.string s] w fun e w' => e = .returned (.bool true) ∧ Below w.heap.size w w' := by
  unfold maxLen at hs
  by_cases hb : (1048576 : Int) < s.size
  · go_enter Try.func7, Try.ntmps7
    go_wp2
    go_ret
    exact ⟨rfl, Below.refl _ _⟩
  · have hs1 : s.size ≤ 1099511627776 := by omega
    go_enter Try.func7, Try.ntmps7
    go_wp2_with fail
    refine (spec_any s _ hs1).mono ?_
    rintro e w1 ⟨rfl, hB1⟩
    go_wp2_with fail
    refine (impl_any s _ hs1).mono ?_
    rintro e w2 ⟨rfl, hB2⟩
    go_wp2
    go_ret
    exact ⟨rfl, hB1.trans (hB2.mono hB1.size)⟩
end Hex
end Go.Proofs.Ytgfapncaddgmpaa
