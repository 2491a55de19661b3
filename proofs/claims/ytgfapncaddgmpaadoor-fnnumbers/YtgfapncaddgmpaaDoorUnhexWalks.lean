/- Both Unhex read digits as bytes. -/
import Derived.Test.YtgfapncaddgmpaaDoorUnhexL
import Derived.Test.YtgfapncaddgmpaaDoorHexWalks
namespace Go.Proofs.YtgfapncaddgmpaaDoor
open Go.RowKit
namespace Unhex
open Num Bytes

theorem ext (s : ByteArray) (c : Int) (w : World) : (callFunc 44 #[.string s, .int .u8 c]).run Tryd.prog w = .ok (.value (.int .i64 (Lib.indexByte s.data.toList c.toNat.toUInt8))) w := by
  rw [run_callFunc_extern Tryd.func44 (by kernel_rfl) (by kernel_rfl) (by kernel_rfl) (e := Extern.BytealgIndexByte.indexByte) (by kernel_rfl), Lib.run_indexByteString]
  rfl

set_option maxRecDepth 100000 in
theorem index (c : UInt8) (w : World) :
    Calls Tryd.prog 26 #[.string ⟨#[48, 49, 50, 51, 52, 53, 54, 55, 56, 57, 97, 98, 99, 100, 101, 102]⟩, .int .u8 (c.toNat : Int)] w fun e w' => e = .returned (.int .i64 (hv c)) ∧ w' = w := by
  have hx : ∀ w, (callFunc 44 #[.string ⟨#[48, 49, 50, 51, 52, 53, 54, 55, 56, 57, 97, 98, 99, 100, 101, 102]⟩, .int .u8 (c.toNat : Int)]).run Tryd.prog w = .ok (.value (.int .i64 (hv c))) w := by
    intro w
    rw [ext]
    have e : (c.toNat : Int).toNat.toUInt8 = c := by simp
    rw [e]; rfl
  go_enter Tryd.func26, Tryd.ntmps26
  go_wp2
  go_ret
  exact ⟨rfl, rfl⟩

theorem indexX (c : UInt8) (x : Int) (h : hv c = x) (w : World) :
    Calls Tryd.prog 26 #[.string ⟨#[48, 49, 50, 51, 52, 53, 54, 55, 56, 57, 97, 98, 99, 100, 101, 102]⟩, .int .u8 (c.toNat : Int)] w fun e w' => e = .returned (.int .i64 x) ∧ w = w' := by subst h; exact (index c w).mono fun _ _ q => ⟨q.1, q.2.symm⟩

set_option maxRecDepth 100000 in
set_option maxHeartbeats 800000 in
theorem impl_any (s : ByteArray) (w : World) (hs : s.size ≤ 1099511627776) :
    Calls Tryd.prog 15 #[.string s] w fun e w' => (∃ t b, e = .returned (.tuple #[.string t, .bool b]) ∧ UhRes s t b) ∧ Below w.heap.size w w' := by
  by_cases hodd : s.size % 2 = 1
  · have ho : (((s.size : Int) % 2) != 0) = true := by rw [bne_iff_ne]; omega
    go_enter Tryd.func15, Tryd.ntmps15
    go_wp2
    go_ret2
    exact ⟨⟨_, _, rfl, .inr ⟨rfl, rfl, .inl hodd⟩⟩, Below.refl _ _⟩
  · have ho : (((s.size : Int) % 2) != 0) = false := by rw [bne_eq_false_iff_eq]; omega
    obtain ⟨H, hH⟩ : ∃ H, s.size / 2 = H := ⟨_, rfl⟩
    have HH : Hid (s.size / 2 = H) := hH
    have h2H : s.size ≤ 2 * H := by omega
    have h2H' : 2 * H ≤ s.size := by omega
    have hmk1 : (Instr.makeSlice 22 (.int .i64 ((s.size : Int) / 2)) (.int .i64 ((s.size : Int) / 2))).run Tryd.prog w = .ok (.slice (some ⟨w.heap.size, 0, none⟩) H H) (w.alloc (.cells (madeCells #[.int .u8 0] H) 5)) := by
      have := makeRow H (by omega) w
      rw [show ((s.size : Int) / 2) = (H : Int) by omega]
      exact this
    have hR0 := Row.made w H
    obtain ⟨w1, hw1⟩ : ∃ w1, w1 = w.alloc (.cells (madeCells #[.int .u8 0] H) 5) := ⟨_, rfl⟩
    rw [← hw1] at hmk1 hR0
    have hB0 : Below w.heap.size w w1 := by rw [hw1]; exact (Below.refl _ _).alloc (Nat.le_refl _) _
    clear hw1 hH
    go_enter Tryd.func15, Tryd.ntmps15
    go_wp2
    go_loopw [5, 6, 7] (fun i _ _ wr => ∃ k : Nat, k ≤ H ∧ i = .int .i64 k ∧ AllDig s k ∧ Row wr w.heap.size (pad H (unhTo s k)) ∧ Below w.heap.size w wr) (fun i _ _ _ => H - (intOf i).toNat)
    case atStart => exact ⟨0, by omega, rfl, AllDig.zero s, by rw [unhTo_zero, pad_nil]; exact hR0, hB0⟩
    case round =>
      obtain ⟨k, hk, rfl, hg, hR, hB⟩ := hrel
      have HG : Hid (AllDig s k) := hg
      clear hmk1 hR0 hB0 hg
      have hln : (unhTo s k).length = k := unhTo_length s k
      by_cases hlt : k < H
      · have hlt1 : 2 * k + 1 < s.size := by omega
        have hlt0 : 2 * k < s.size := by omega
        obtain ⟨x, hx⟩ : ∃ x, hv (gb s (2 * k)) = x := ⟨_, rfl⟩
        obtain ⟨y, hy⟩ : ∃ y, hv (gb s (2 * k + 1)) = y := ⟨_, rfl⟩
        have hxr := hv_range (gb s (2 * k))
        have hyr := hv_range (gb s (2 * k + 1))
        rw [hx] at hxr
        rw [hy] at hyr
        have HX : Hid (hv s[2 * k] = x) := by show _ = _; rw [gb_eq]; exact hx
        have HY : Hid (hv s[2 * k + 1] = y) := by show _ = _; rw [gb_eq]; exact hy
        by_cases hbad : x < 0 ∨ y < 0
        · have HR : Hid (UhRes s ByteArray.empty false) := by
            refine .inr ⟨rfl, rfl, .inr ?_⟩
            rw [HH.out]
            rcases hbad with h | h
            · exact AllDig.no (j := 2 * k) (by omega) (by omega)
            · exact AllDig.no (j := 2 * k + 1) (by omega) (by omega)
          clear hx hy hln
          by_cases hx0 : x < 0
          all_goals
            go_wp2_with fail
            refine (indexX s[2 * k] x HX.out _).mono ?_
            rintro e w' ⟨rfl, rfl⟩
            go_wp2_with fail
            refine (indexX s[2 * k + 1] y HY.out _).mono ?_
            rintro e w' ⟨rfl, rfl⟩
            go_wp2
            go_ret2
            exact ⟨⟨_, _, rfl, HR.out⟩, hB⟩
        · have HG' : Hid (AllDig s (k + 1)) := HG.out.succ (by rw [hx]; omega) (by rw [hy]; omega)
          have HP : Hid (splice (pad H (unhTo s k)) k [UInt8.ofNat (16 * x + y).toNat] = pad H (unhTo s (k + 1))) := by
            have := splice_pad H (unhTo s k) [UInt8.ofNat (16 * x + y).toNat] (by rw [hln]; simp; omega)
            rw [hln] at this
            rw [unhTo_succ, hx, hy]; exact this
          have HV : Hid (16 * x + y = ((UInt8.ofNat (16 * x + y).toNat).toNat : Int)) := (uh_byte x y (by omega) (by omega)).symm
          obtain ⟨b, hb⟩ : ∃ b, UInt8.ofNat (16 * x + y).toNat = b := ⟨_, rfl⟩
          rw [hb] at HP HV
          have hx0 : 0 ≤ x := by omega
          have hy0 : 0 ≤ y := by omega
          have hpl : (pad H (unhTo s k)).length = H := pad_length _ _ (by rw [hln]; omega)
          have HL : Hid ((pad H (unhTo s k)).length = H) := hpl
          clear hx hy hb hbad hln hpl
          go_wp2_with fail
          refine (indexX s[2 * k] x HX.out _).mono ?_
          rintro e w' ⟨rfl, rfl⟩
          go_wp2_with fail
          refine (indexX s[2 * k + 1] y HY.out _).mono ?_
          rintro e w' ⟨rfl, rfl⟩
          go_wp2_with fail
          refine (put _ w w.heap.size w.heap.size H k 1 1 (pad H (unhTo s k)) [b] ⟨wr.heap.size, 0, none⟩ (hR.alloc _) HL.out (by unfold maxLen; omega) rfl (by omega) (by omega) (new1 _ _ _ HV.out) (hB.alloc hB.size _) (Nat.le_refl _)).mono ?_
          rintro e w2 ⟨rfl, hR2, hB2⟩
          rw [HP.out] at hR2
          go_wp2
          go_roundw
          case rel => exact ⟨k + 1, by omega, by go_num, HG'.out, hR2, hB2⟩
          case measure => simp only [intOf]; omega
      · obtain rfl : k = H := by omega
        have HR : Hid (UhRes s ⟨(unhTo s k).toArray⟩ true) := by
          refine .inl ⟨rfl, by omega, ?_, by rw [HH.out]⟩
          rw [HH.out]; exact HG.out
        have hst := hR.str k k (by rw [pad_length _ _ (by rw [hln]; omega)]; omega)
        have e : (pad k (unhTo s k)).take k = unhTo s k := by
          have := pad_take k (unhTo s k); rw [hln] at this; exact this
        rw [e] at hst
        clear e hln
        go_wp2
        go_ret2
        exact ⟨⟨_, _, rfl, HR.out⟩, hB⟩

end Unhex
end Go.Proofs.YtgfapncaddgmpaaDoor
