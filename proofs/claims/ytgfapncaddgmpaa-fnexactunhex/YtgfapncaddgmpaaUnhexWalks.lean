/- Both Unhex read digits as bytes. -/
import Derived.Test.YtgfapncaddgmpaaUnhexL
import Derived.Test.YtgfapncaddgmpaaHexWalks
namespace Go.Proofs.Ytgfapncaddgmpaa
open Go.RowKit
namespace Unhex
open Num Bytes

theorem ext (s : ByteArray) (c : Int) (w : World) : (callFunc 27 #[.string s, .int .u8 c]).run Try.prog w = .ok (.value (.int .i64 (Lib.indexByte s.data.toList c.toNat.toUInt8))) w := by
  rw [run_callFunc_extern Try.func27 (by kernel_rfl) (by kernel_rfl) (by kernel_rfl) (e := Extern.BytealgIndexByte.indexByte) (by kernel_rfl), Lib.run_indexByteString]
  rfl

set_option maxRecDepth 100000 in
theorem index (c : UInt8) (w : World) :
    Calls Try.prog 25 #[.string ⟨#[48, 49, 50, 51, 52, 53, 54, 55, 56, 57, 97, 98, 99, 100, 101, 102]⟩, .int .u8 (c.toNat : Int)] w fun e w' => e = .returned (.int .i64 (hv c)) ∧ w' = w := by
  have hx : ∀ w, (callFunc 27 #[.string ⟨#[48, 49, 50, 51, 52, 53, 54, 55, 56, 57, 97, 98, 99, 100, 101, 102]⟩, .int .u8 (c.toNat : Int)]).run Try.prog w = .ok (.value (.int .i64 (hv c))) w := by
    intro w
    rw [ext]
    have e : (c.toNat : Int).toNat.toUInt8 = c := by simp
    rw [e]; rfl
  go_enter Try.func25, Try.ntmps25
  go_wp2
  go_ret
  exact ⟨rfl, rfl⟩

set_option maxRecDepth 100000 in
set_option maxHeartbeats 400000 in
theorem fromHex (c : UInt8) (w : World) :
    Calls Try.prog 24 #[.int .u8 (c.toNat : Int)] w fun e w' => e = .returned (.int .i64 (hv c)) ∧ w' = w := by
  go_enter Try.func24, Try.ntmps24
  go_wp2
  go_loop [3] (fun i => ∃ k : Nat, k ≤ 16 ∧ i = .int .i64 k ∧ ∀ j, j < k → hexd j ≠ c) (fun i => 16 - (intOf i).toNat)
  case atStart => exact ⟨0, by omega, rfl, fun j hj => by omega⟩
  case round =>
    obtain ⟨k, hk, rfl, hno⟩ := hrel
    have HN : Hid (∀ j, j < k → hexd j ≠ c) := hno
    clear hno
    by_cases hlt : k < 16
    · by_cases he : hexd k = c
      · have hq : (((hexd k).toNat : Int) == (c.toNat : Int)) = true := by rw [he]; simp
        have HV : Hid (hv c = (k : Int)) := hv_at c k hlt HN.out he
        clear he
        go_wp2_with (go_at_call 23; refine (Hex.digit k hlt _).mono ?_; rintro e w' ⟨rfl, rfl⟩)
        go_ret
        exact ⟨congrArg (fun x : Int => Ending.returned (.int .i64 x)) HV.out.symm, rfl⟩
      · have hq : (((hexd k).toNat : Int) == (c.toNat : Int)) = false := by
          rw [beq_eq_false_iff_ne]; intro e; apply he; apply UInt8.toNat_inj.1; omega
        have HN' : Hid (∀ j, j < k + 1 → hexd j ≠ c) := fun j hj => by
          rcases Nat.lt_or_ge j k with h1 | h1
          · exact HN.out j h1
          · rw [show j = k by omega]; exact he
        clear he
        go_wp2_with (go_at_call 23; refine (Hex.digit k hlt _).mono ?_; rintro e w' ⟨rfl, rfl⟩)
        go_round
        case rel => exact ⟨k + 1, by omega, by go_num, HN'.out⟩
        case measure => simp only [intOf]; omega
    · have HV : Hid (hv c = -1) := hv_none c (fun j hj => HN.out j (by omega))
      go_wp2
      go_ret
      exact ⟨congrArg (fun x : Int => Ending.returned (.int .i64 x)) HV.out.symm, rfl⟩

theorem fromHexX (c : UInt8) (x : Int) (h : hv c = x) (w : World) :
    Calls Try.prog 24 #[.int .u8 (c.toNat : Int)] w fun e w' => e = .returned (.int .i64 x) ∧ w = w' := by subst h; exact (fromHex c w).mono fun _ _ q => ⟨q.1, q.2.symm⟩
theorem indexX (c : UInt8) (x : Int) (h : hv c = x) (w : World) :
    Calls Try.prog 25 #[.string ⟨#[48, 49, 50, 51, 52, 53, 54, 55, 56, 57, 97, 98, 99, 100, 101, 102]⟩, .int .u8 (c.toNat : Int)] w fun e w' => e = .returned (.int .i64 x) ∧ w = w' := by subst h; exact (index c w).mono fun _ _ q => ⟨q.1, q.2.symm⟩

set_option maxRecDepth 100000 in
set_option maxHeartbeats 800000 in
theorem spec_any (s : ByteArray) (w : World) (hs : s.size ≤ 1099511627776) :
    Calls Try.prog 19 #[.string s] w fun e w' => (∃ t b, e = .returned (.tuple #[.string t, .bool b]) ∧ UhRes s t b) ∧ Below w.heap.size w w' := by
  obtain ⟨i0, hi, hz0, hz1, hz2⟩ := info_parts Try.infoByte
  have hO0 := own_lit w w.heap.size (Nat.le_refl _)
  by_cases hodd : s.size % 2 = 1
  · have ho : (((s.size : Int) % 2) == 1) = true := by rw [beq_iff_eq]; omega
    go_enter Try.func19, Try.ntmps19
    go_wp2
    go_ret2
    exact ⟨⟨_, _, rfl, .inr ⟨rfl, rfl, .inl hodd⟩⟩, (Below.refl _ _).alloc (Nat.le_refl _) _⟩
  · have ho : (((s.size : Int) % 2) == 1) = false := by rw [beq_eq_false_iff_ne]; omega
    go_enter Try.func19, Try.ntmps19
    go_wp2
    go_loopw [4, 5, 6, 7] (fun v i _ _ wr => ∃ m k : Nat, m = 2 * k ∧ m ≤ s.size ∧ i = .int .i64 m ∧ AllDig s k ∧ wr.ownsRow w.heap.size 5 1 v k (bv (unhTo s k)) ∧ Below w.heap.size w wr) (fun _ i _ _ _ => s.size + 1 - (intOf i).toNat)
    case atStart => exact ⟨0, 0, rfl, by omega, rfl, AllDig.zero s, hO0, (Below.refl _ _).alloc (Nat.le_refl _) _⟩
    case round =>
      obtain ⟨m, k, hm, hms, rfl, hg, hown, hB⟩ := hrel
      have HM : Hid (m = 2 * k) := hm
      have HG : Hid (AllDig s k) := hg
      have hkm : k ≤ m := by omega
      clear hO0 hg
      by_cases hlt : m < s.size
      · have hlt1 : m + 1 < s.size := by omega
        obtain ⟨x, hx⟩ : ∃ x, hv (gb s m) = x := ⟨_, rfl⟩
        obtain ⟨y, hy⟩ : ∃ y, hv (gb s (m + 1)) = y := ⟨_, rfl⟩
        have hxr := hv_range (gb s m)
        have hyr := hv_range (gb s (m + 1))
        rw [hx] at hxr
        rw [hy] at hyr
        have HX : Hid (hv s[m] = x) := by show _ = _; rw [gb_eq]; exact hx
        have HY : Hid (hv s[m + 1] = y) := by show _ = _; rw [gb_eq]; exact hy
        by_cases hbad : x < 0 ∨ y < 0
        · have HR : Hid (UhRes s ByteArray.empty false) := by
            refine .inr ⟨rfl, rfl, .inr ?_⟩
            rcases hbad with h | h
            · exact AllDig.no (j := m) (by omega) (by omega)
            · exact AllDig.no (j := m + 1) (by omega) (by omega)
          clear hx hy hm
          by_cases hx0 : x < 0
          all_goals
            go_wp2_with fail
            refine (fromHexX s[m] x HX.out _).mono ?_
            rintro e w' ⟨rfl, rfl⟩
            go_wp2_with fail
            refine (fromHexX s[m + 1] y HY.out _).mono ?_
            rintro e w' ⟨rfl, rfl⟩
            go_wp2
            go_ret2
            exact ⟨⟨_, _, rfl, HR.out⟩, hB⟩
        · have HG' : Hid (AllDig s (k + 1)) := HG.out.succ (by rw [← hm, hx]; omega) (by rw [← hm, hy]; omega)
          have HP : Hid (unhTo s (k + 1) = unhTo s k ++ [UInt8.ofNat (16 * x + y).toNat]) := by show _ = _; rw [unhTo_succ, ← hm, hx, hy]
          have HV : Hid (16 * x + y = ((UInt8.ofNat (16 * x + y).toNat).toNat : Int)) := (uh_byte x y (by omega) (by omega)).symm
          obtain ⟨b, hb⟩ : ∃ b, UInt8.ofNat (16 * x + y).toNat = b := ⟨_, rfl⟩
          rw [hb] at HP HV
          have hx0 : 0 ≤ x := by omega
          have hy0 : 0 ≤ y := by omega
          have HO := hown
          clear hx hy hm hb hbad
          go_wp2_with fail
          refine (fromHexX s[m] x HX.out _).mono ?_
          rintro e w' ⟨rfl, rfl⟩
          go_wp2_with fail
          refine (fromHexX s[m + 1] y HY.out _).mono ?_
          rintro e w' ⟨rfl, rfl⟩
          go_wp2_with (at_builtin; refine wpList_append_own _ rfl _ _ 36 rfl w.heap.size 5 i0 (.int .u8 0) 1 1 Try.underlying36 hi hz0 hz1 hz2 rfl (by decide) _ _ _ rfl (hown.alloc _) ⟨wr.heap.size, 0, none⟩ 1 1 (bv [b]) rfl rfl ?c1 ?c2 ?c3 ?c4 ?c5 ?_)
          case c1 =>
            intro j u hj
            obtain ⟨c, hc, rfl⟩ := bv_get _ _ _ hj
            exact new1 _ _ _ HV.out j c hc
          case c2 => exact bv_one _
          case c3 => unfold maxLen; omega
          case c4 => omega
          case c5 => have := hB.size; simp; omega
          intro v' w1 hown' hgr _
          have HOW : Hid (w1.ownsRow w.heap.size 5 1 v' (k + 1) (bv (unhTo s (k + 1)))) := by
            show World.ownsRow _ _ _ _ _ _ _
            rw [HP.out, Hex.bv_append]; exact hown'
          have HB1 : Hid (Below w.heap.size w w1) := (hB.alloc hB.size _).grown hgr (by have := hB.size; simp; omega) (fun g hg => (HO.lt g hg).1)
          clear hown' hgr hown hB HO
          go_wp2
          go_roundw
          case rel =>
            have e2 : m + 2 = 2 * (k + 1) := by have := HM.out; omega
            first | exact ⟨m + 2, k + 1, e2, by omega, by go_num, HG'.out, HOW.out, HB1.out⟩ | ((repeat apply Exists.intro); exact ⟨⟨m + 2, k + 1, e2, by omega, by go_num, HG'.out, HOW.out, HB1.out⟩, rfl⟩)
          case measure => simp only [intOf]; omega
      · have e1 : k = s.size / 2 := by omega
        have HR : Hid (UhRes s ⟨(unhTo s k).toArray⟩ true) := by
          refine .inl ⟨rfl, by omega, ?_, by rw [← e1]⟩
          rw [← e1]; exact HG.out
        have hst := own_str hown
        clear hown hm e1
        go_wp2
        go_ret2
        exact ⟨⟨_, _, rfl, HR.out⟩, hB⟩

set_option maxRecDepth 100000 in
set_option maxHeartbeats 800000 in
theorem impl_any (s : ByteArray) (w : World) (hs : s.size ≤ 1099511627776) :
    Calls Try.prog 20 #[.string s] w fun e w' => (∃ t b, e = .returned (.tuple #[.string t, .bool b]) ∧ UhRes s t b) ∧ Below w.heap.size w w' := by
  by_cases hodd : s.size % 2 = 1
  · have ho : (((s.size : Int) % 2) != 0) = true := by rw [bne_iff_ne]; omega
    go_enter Try.func20, Try.ntmps20
    go_wp2
    go_ret2
    exact ⟨⟨_, _, rfl, .inr ⟨rfl, rfl, .inl hodd⟩⟩, Below.refl _ _⟩
  · have ho : (((s.size : Int) % 2) != 0) = false := by rw [bne_eq_false_iff_eq]; omega
    obtain ⟨H, hH⟩ : ∃ H, s.size / 2 = H := ⟨_, rfl⟩
    have HH : Hid (s.size / 2 = H) := hH
    have h2H : s.size ≤ 2 * H := by omega
    have h2H' : 2 * H ≤ s.size := by omega
    have hmk1 : (Instr.makeSlice 36 (.int .i64 ((s.size : Int) / 2)) (.int .i64 ((s.size : Int) / 2))).run Try.prog w = .ok (.slice (some ⟨w.heap.size, 0, none⟩) H H) (w.alloc (.cells (madeCells #[.int .u8 0] H) 5)) := by
      have := makeRow H (by omega) w
      rw [show ((s.size : Int) / 2) = (H : Int) by omega]
      exact this
    have hR0 := Row.made w H
    obtain ⟨w1, hw1⟩ : ∃ w1, w1 = w.alloc (.cells (madeCells #[.int .u8 0] H) 5) := ⟨_, rfl⟩
    rw [← hw1] at hmk1 hR0
    have hB0 : Below w.heap.size w w1 := by rw [hw1]; exact (Below.refl _ _).alloc (Nat.le_refl _) _
    clear hw1 hH
    go_enter Try.func20, Try.ntmps20
    go_wp2
    go_loopw [5, 6, 7] (fun i _ _ wr => ∃ k : Nat, k ≤ H ∧ i = .int .i64 k ∧ AllDig s k ∧ Row wr w.heap.size (pad H (unhTo s k)) ∧ Below w.heap.size w wr) (fun i _ _ _ => H - (intOf i).toNat)
    case atStart => exact ⟨0, by omega, rfl, AllDig.zero s, by rw [unhTo_zero, pad_nil]; exact hR0, hB0⟩
    case round =>
      obtain ⟨k, hk, rfl, hg, hR, hB⟩ := hrel
      have HG : Hid (AllDig s k) := hg
      clear hmk1 hR0 hB0 hg
      have hln : (unhTo s k).length = k := unhTo_length s k
      by_cases hlt : k < H
      · have hlt1 : 2 * k + 1 < s.size := by omega
        have hlt0 : 2 * k < s.size := by omega
        obtain ⟨x, hx⟩ : ∃ x, hv (gb s (2 * k)) = x := ⟨_, rfl⟩
        obtain ⟨y, hy⟩ : ∃ y, hv (gb s (2 * k + 1)) = y := ⟨_, rfl⟩
        have hxr := hv_range (gb s (2 * k))
        have hyr := hv_range (gb s (2 * k + 1))
        rw [hx] at hxr
        rw [hy] at hyr
        have HX : Hid (hv s[2 * k] = x) := by show _ = _; rw [gb_eq]; exact hx
        have HY : Hid (hv s[2 * k + 1] = y) := by show _ = _; rw [gb_eq]; exact hy
        by_cases hbad : x < 0 ∨ y < 0
        · have HR : Hid (UhRes s ByteArray.empty false) := by
            refine .inr ⟨rfl, rfl, .inr ?_⟩
            rw [HH.out]
            rcases hbad with h | h
            · exact AllDig.no (j := 2 * k) (by omega) (by omega)
            · exact AllDig.no (j := 2 * k + 1) (by omega) (by omega)
          clear hx hy hln
          by_cases hx0 : x < 0
          all_goals
            go_wp2_with fail
            refine (indexX s[2 * k] x HX.out _).mono ?_
            rintro e w' ⟨rfl, rfl⟩
            go_wp2_with fail
            refine (indexX s[2 * k + 1] y HY.out _).mono ?_
            rintro e w' ⟨rfl, rfl⟩
            go_wp2
            go_ret2
            exact ⟨⟨_, _, rfl, HR.out⟩, hB⟩
        · have HG' : Hid (AllDig s (k + 1)) := HG.out.succ (by rw [hx]; omega) (by rw [hy]; omega)
          have HP : Hid (splice (pad H (unhTo s k)) k [UInt8.ofNat (16 * x + y).toNat] = pad H (unhTo s (k + 1))) := by
            have := splice_pad H (unhTo s k) [UInt8.ofNat (16 * x + y).toNat] (by rw [hln]; simp; omega)
            rw [hln] at this
            rw [unhTo_succ, hx, hy]; exact this
          have HV : Hid (16 * x + y = ((UInt8.ofNat (16 * x + y).toNat).toNat : Int)) := (uh_byte x y (by omega) (by omega)).symm
          obtain ⟨b, hb⟩ : ∃ b, UInt8.ofNat (16 * x + y).toNat = b := ⟨_, rfl⟩
          rw [hb] at HP HV
          have hx0 : 0 ≤ x := by omega
          have hy0 : 0 ≤ y := by omega
          have hpl : (pad H (unhTo s k)).length = H := pad_length _ _ (by rw [hln]; omega)
          have HL : Hid ((pad H (unhTo s k)).length = H) := hpl
          clear hx hy hb hbad hln hpl
          go_wp2_with fail
          refine (indexX s[2 * k] x HX.out _).mono ?_
          rintro e w' ⟨rfl, rfl⟩
          go_wp2_with fail
          refine (indexX s[2 * k + 1] y HY.out _).mono ?_
          rintro e w' ⟨rfl, rfl⟩
          go_wp2_with fail
          refine (put _ w w.heap.size w.heap.size H k 1 1 (pad H (unhTo s k)) [b] ⟨wr.heap.size, 0, none⟩ (hR.alloc _) HL.out (by unfold maxLen; omega) rfl (by omega) (by omega) (new1 _ _ _ HV.out) (hB.alloc hB.size _) (Nat.le_refl _)).mono ?_
          rintro e w2 ⟨rfl, hR2, hB2⟩
          rw [HP.out] at hR2
          go_wp2
          go_roundw
          case rel => exact ⟨k + 1, by omega, by go_num, HG'.out, hR2, hB2⟩
          case measure => simp only [intOf]; omega
      · obtain rfl : k = H := by omega
        have HR : Hid (UhRes s ⟨(unhTo s k).toArray⟩ true) := by
          refine .inl ⟨rfl, by omega, ?_, by rw [HH.out]⟩
          rw [HH.out]; exact HG.out
        have hst := hR.str k k (by rw [pad_length _ _ (by rw [hln]; omega)]; omega)
        have e : (pad k (unhTo s k)).take k = unhTo s k := by
          have := pad_take k (unhTo s k); rw [hln] at this; exact this
        rw [e] at hst
        clear e hln
        go_wp2
        go_ret2
        exact ⟨⟨_, _, rfl, HR.out⟩, hB⟩

set_option maxRecDepth 100000 in
set_option maxHeartbeats 400000 in
theorem walk (s : ByteArray) (w : World) (hs : s.size ≤ maxLen) :
    Calls Try.prog 8 #[.string s] w fun e w' => e = .returned (.bool true) ∧ Below w.heap.size w w' := by
  unfold maxLen at hs
  by_cases hb : (1048576 : Int) < s.size
  · go_enter Try.func8, Try.ntmps8
    go_wp2
    go_ret
    exact ⟨rfl, Below.refl _ _⟩
  · have hs1 : s.size ≤ 1099511627776 := by omega
    go_enter Try.func8, Try.ntmps8
    go_wp2_with fail
    refine (spec_any s _ hs1).mono ?_
    rintro e w1 ⟨⟨t1, b1, rfl, hr1⟩, hB1⟩
    go_wp2_with fail
    refine (impl_any s _ hs1).mono ?_
    rintro e w2 ⟨⟨t2, b2, rfl, hr2⟩, hB2⟩
    obtain ⟨rfl, rfl⟩ := hr1.unique hr2
    clear hr1 hr2
    go_wp2
    go_ret
    exact ⟨rfl, hB1.trans (hB2.mono hB1.size)⟩
end Unhex
end Go.Proofs.Ytgfapncaddgmpaa
