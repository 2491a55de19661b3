/- A text spoilt at one place that is drawn. -/
import Derived.Test.YtgfapncaddgmpaaDoorDrawText
import Derived.Deep.RegionHeld3
import Derived.Deep.DrawnRows
import Derived.Deep.RegionWith
namespace Go.Proofs.YtgfapncaddgmpaaDoor
open Go.RowKit
namespace Draw
open Num Bytes

theorem ret_s {a b : ByteArray} (h : a = b) : Ending.returned (.string a) = .returned (.string b) := by rw [h]

theorem Ctx.drewN {B g : Nat} {v : Value} {l : List UInt8} {s : St} {w : World} (h : Ctx B g v l s w) (n : Nat) : Ctx B g v l s (w.drewN n) := ⟨h.code, h.cur, h.low, h.len, h.at_⟩
theorem Ctx.drew {B g : Nat} {v : Value} {l : List UInt8} {s : St} {w : World} (h : Ctx B g v l s w) : Ctx B g v l s w.drew := ⟨h.code, h.cur, h.low, h.len, h.at_⟩
theorem grown_drew {a b : World} {r : Option Nat} (h : a.grownBy b r) : a.grownBy b.drew r := ⟨h.os, h.tape, h.output, h.size, h.block⟩

set_option maxRecDepth 100000 in
set_option maxHeartbeats 1600000 in
theorem spoilC (B g : Nat) (v : Value) (l : List UInt8) (s : St) (p : ByteArray) (hp : p.size ≤ 100000) (w : World) (h : Ctx B g v l s w) :
    Calls Tryd.prog 29 #[.pointer (some ⟨g, 0, none⟩), .string p] w fun e w' => e = .returned (.string (spoil l s p)) ∧ Ctx B g v l (spoilSt l s p) w' ∧ w.grownBy w' (some g) := by
  have HC : Hid (Ctx B g v l s w) := h
  clear h
  by_cases h0 : p.size = 0
  · have HX : Hid (spoil l s p = ⟨(text l s 3).toArray⟩) := by show _ = _; unfold spoil; rw [if_pos h0]
    have HS : Hid (spoilSt l s p = textSt l s 3) := by show _ = _; unfold spoilSt; rw [if_pos h0]
    have hz : ((p.size : Int) == 0) = true := by rw [beq_iff_eq]; omega
    clear h0
    go_enter Tryd.func29, Tryd.ntmps29
    go_wp2_with fail
    refine (textC B g v l s 3 (by omega) _ HC.out).mono ?_
    rintro e w1 ⟨rfl, hc, hg⟩
    go_wp2
    go_ret
    exact ⟨ret_s HX.out.symm, by rw [HS.out]; exact hc, hg⟩
  · have hz : ((p.size : Int) == 0) = false := by rw [beq_eq_false_iff_ne]; omega
    have hk := spK_lt l s p h0
    have HK : Hid (below l s (p.size : Int) = (spK l s p : Int)) := by
      show _ = _
      unfold spK
      have := below_range l s (p.size : Int) (by omega)
      omega
    have HD : Hid (below l (belowSt l s (p.size : Int)) 4 = spD l s p) := rfl
    have HSS : Hid (belowSt l (belowSt l s (p.size : Int)) 4 = spS l s p) := rfl
    have HSP : Hid (spoil l s p = if spD l s p = 0 then p.extract 0 (spK l s p) ++ p.extract (spK l s p + 1) p.size
        else if spD l s p = 1 then p.extract 0 (spK l s p) ++ ⟨#[UInt8.ofNat (bx l (spS l s p)).toNat]⟩ ++ p.extract (spK l s p) p.size
        else if spD l s p = 2 then p.extract 0 (spK l s p)
        else p.extract 0 (spK l s p) ++ ⟨#[UInt8.ofNat (bits .xor .i64 ((p.data.toList.getD (spK l s p) 0).toNat : Int) (1 + below l (spS l s p) 255) % 256).toNat]⟩ ++ p.extract (spK l s p + 1) p.size) := by show _ = _; unfold spoil; rw [if_neg h0]
    have HST : Hid (spoilSt l s p = if spD l s p = 0 then spS l s p else if spD l s p = 1 then bst l (spS l s p) else if spD l s p = 2 then spS l s p else belowSt l (spS l s p) 255) := by show _ = _; unfold spoilSt; rw [if_neg h0]
    obtain ⟨k, hkk⟩ : ∃ k, spK l s p = k := ⟨_, rfl⟩
    obtain ⟨d, hdd⟩ : ∃ d, spD l s p = d := ⟨_, rfl⟩
    obtain ⟨s2, hs2⟩ : ∃ s2, spS l s p = s2 := ⟨_, rfl⟩
    rw [hkk] at hk HK HSP
    rw [hdd] at HD HSP HST
    rw [hs2] at HSS HSP HST
    have hkI : (k : Int) < (p.size : Int) := by omega
    have hk0 : (0 : Int) ≤ (k : Int) := by omega
    have hk1 : (k : Int) + 1 ≤ (p.size : Int) := by omega
    have hkle : (k : Int) ≤ (p.size : Int) := by omega
    clear hkk hdd hs2 h0
    by_cases hd0 : d = 0
    · have hb0 : (d == 0) = true := by rw [beq_iff_eq]; exact hd0
      rw [if_pos hd0] at HSP HST
      clear hd0
      go_enter Tryd.func29, Tryd.ntmps29
      go_wp2_with fail
      refine (belowC B g v l s (p.size : Int) _ HC.out).mono ?_
      rw [HK.out]
      rintro e w1 ⟨rfl, hc1, hg1⟩
      go_wp2_with fail
      refine (belowC B g v l _ 4 _ hc1).mono ?_
      rw [HD.out, HSS.out]
      rintro e w2 ⟨rfl, hc2, hg2⟩
      go_wp2
      go_quiet (fail)
      go_wp2
      go_ret
      exact ⟨ret_s HSP.out.symm, by rw [HST.out]; exact hc2.drewN _, grown_drewN (grown_trans hg1 hg2) _⟩
    · have hb0 : (d == 0) = false := by rw [beq_eq_false_iff_ne]; exact hd0
      rw [if_neg hd0] at HSP HST
      by_cases hd1 : d = 1
      · have hb1 : (d == 1) = true := by rw [beq_iff_eq]; exact hd1
        rw [if_pos hd1] at HSP HST
        have hxr := bx_range l s2
        obtain ⟨x, hx⟩ : ∃ x, bx l s2 = x := ⟨_, rfl⟩
        have HX : Hid (bx l s2 = x) := hx
        rw [hx] at hxr HSP
        have HV : Hid (x = ((UInt8.ofNat x.toNat).toNat : Int)) := by show _ = _; simp; omega
        obtain ⟨b, hb⟩ : ∃ b, UInt8.ofNat x.toNat = b := ⟨_, rfl⟩
        rw [hb] at HSP HV
        have hwx : IntKind.u8.wrap x = x := by rw [IntKind.wrap_u8]; omega
        have hcv := str1 x b HV.out
        clear hd0 hd1 hx hb
        go_enter Tryd.func29, Tryd.ntmps29
        go_wp2_with fail
        refine (belowC B g v l s (p.size : Int) _ HC.out).mono ?_
        rw [HK.out]
        rintro e w1 ⟨rfl, hc1, hg1⟩
        go_wp2_with fail
        refine (belowC B g v l _ 4 _ hc1).mono ?_
        rw [HD.out, HSS.out]
        rintro e w2 ⟨rfl, hc2, hg2⟩
        have HC2 : Hid (Ctx B g v l s2 w2) := hc2
        have HG2 : Hid (w.grownBy w2 (some g)) := grown_trans hg1 hg2
        clear hc2 hc1 hg1 hg2
        go_wp2
        go_region_with (go_at_call 32; refine (byteC B g v l s2 _ ?_).mono ?_; exact HC2.out.drew; rw [HX.out]; rintro e w3 ⟨rfl, hc3, hg3⟩)
        go_wp2
        go_ret
        exact ⟨ret_s HSP.out.symm, by rw [HST.out]; exact hc3.alloc _, grown_trans (grown_drew HG2.out) (grown_trans hg3 (World.grownBy_alloc _ _ _))⟩
      · have hb1 : (d == 1) = false := by rw [beq_eq_false_iff_ne]; exact hd1
        rw [if_neg hd1] at HSP HST
        by_cases hd2 : d = 2
        · have hb2 : (d == 2) = true := by rw [beq_iff_eq]; exact hd2
          rw [if_pos hd2] at HSP HST
          clear hd0 hd1 hd2
          go_enter Tryd.func29, Tryd.ntmps29
          go_wp2_with fail
          refine (belowC B g v l s (p.size : Int) _ HC.out).mono ?_
          rw [HK.out]
          rintro e w1 ⟨rfl, hc1, hg1⟩
          go_wp2_with fail
          refine (belowC B g v l _ 4 _ hc1).mono ?_
          rw [HD.out, HSS.out]
          rintro e w2 ⟨rfl, hc2, hg2⟩
          go_wp2
          go_ret
          exact ⟨ret_s HSP.out.symm, by rw [HST.out]; exact hc2, grown_trans hg1 hg2⟩
        · have hb2 : (d == 2) = false := by rw [beq_eq_false_iff_ne]; exact hd2
          rw [if_neg hd2] at HSP HST
          have hxr := below_range l s2 255 (by omega)
          have hpk : p.data.toList.getD k 0 = p[k] := by
            have h2 : k < p.data.toList.length := by simpa using hk
            rw [List.getD, List.getElem?_eq_getElem h2]; rfl
          obtain ⟨x, hx⟩ : ∃ x, below l s2 255 = x := ⟨_, rfl⟩
          have HX : Hid (below l s2 255 = x) := hx
          rw [hx] at hxr HSP
          rw [hpk] at HSP
          obtain ⟨y, hy⟩ : ∃ y, bits .xor .i64 (p[k].toNat : Int) (1 + x) = y := ⟨_, rfl⟩
          rw [hy] at HSP
          have HV : Hid (y % 256 = ((UInt8.ofNat (y % 256).toNat).toNat : Int)) := by show _ = _; simp; omega
          obtain ⟨b, hb⟩ : ∃ b, UInt8.ofNat (y % 256).toNat = b := ⟨_, rfl⟩
          rw [hb] at HSP HV
          have hwx : IntKind.i64.wrap (1 + x) = 1 + x := by rw [IntKind.wrap_i64]; omega
          have hwp : IntKind.i64.wrap (p[k].toNat : Int) = (p[k].toNat : Int) := by have := p[k].toNat_lt; rw [IntKind.wrap_i64]; omega
          have hwk : IntKind.i64.wrap ((k : Int) + 1) = (k : Int) + 1 := by rw [IntKind.wrap_i64]; omega
          have hwy : IntKind.u8.wrap y = y % 256 := by rw [IntKind.wrap_u8]
          have hcv := str1 (y % 256) b HV.out
          clear hd0 hd1 hd2 hx hb hpk
          go_enter Tryd.func29, Tryd.ntmps29
          go_wp2_with fail
          refine (belowC B g v l s (p.size : Int) _ HC.out).mono ?_
          rw [HK.out]
          rintro e w1 ⟨rfl, hc1, hg1⟩
          go_wp2_with fail
          refine (belowC B g v l _ 4 _ hc1).mono ?_
          rw [HD.out, HSS.out]
          rintro e w2 ⟨rfl, hc2, hg2⟩
          have HC2 : Hid (Ctx B g v l s2 w2) := hc2
          have HG2 : Hid (w.grownBy w2 (some g)) := grown_trans hg1 hg2
          clear hc2 hc1 hg1 hg2
          go_wp2
          go_region_with (go_at_call 30; refine (belowC B g v l s2 255 _ ?_).mono ?_; exact HC2.out.drew; rw [HX.out]; rintro e w3 ⟨rfl, hc3, hg3⟩)
          all_goals
            go_wp2
            go_ret
            exact ⟨ret_s HSP.out.symm, by rw [HST.out]; exact hc3.alloc _, grown_trans (grown_drew HG2.out) (grown_trans hg3 (World.grownBy_alloc _ _ _))⟩
end Draw
end Go.Proofs.YtgfapncaddgmpaaDoor
