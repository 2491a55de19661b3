/- A text drawn, byte by byte. -/
import Derived.Test.YtgfapncaddgmpaaDoorDrawNew
namespace Go.Proofs.YtgfapncaddgmpaaDoor
open Go.RowKit
namespace Draw
open Num Bytes

theorem grown_own {w wr w1 : World} {g : Nat} {r : Option Nat} (h : w.grownBy wr (some g)) (k : wr.grownBy w1 r) (hr : ∀ b, r = some b → w.heap.size ≤ b) : w.grownBy w1 (some g) :=
  ⟨k.os.trans h.os, k.tape.trans h.tape, k.output.trans h.output, Nat.le_trans h.size k.size, fun i hi hne => (k.block i (Nat.lt_of_lt_of_le hi h.size) (fun e => by have := hr i e.symm; omega)).trans (h.block i hi hne)⟩

set_option maxRecDepth 100000 in
set_option maxHeartbeats 1600000 in
theorem textC (B g : Nat) (v : Value) (l : List UInt8) (s : St) (most : Nat) (hmost : most ≤ 1000) (w : World) (h : Ctx B g v l s w) :
    Calls Tryd.prog 22 #[.pointer (some ⟨g, 0, none⟩), .int .i64 (most : Int)] w fun e w' => e = .returned (.string ⟨(text l s most).toArray⟩) ∧ Ctx B g v l (textSt l s most) w' ∧ w.grownBy w' (some g) := by
  obtain ⟨i0, hi, hz0, hz1, hz2⟩ := info_parts Tryd.infoByte
  have hO0 := own_lit w w.heap.size (Nat.le_refl _)
  have HC : Hid (Ctx B g v l s w) := h
  have hgw := h.cur.lt
  have hr1 := below_range l s 4 (by omega)
  have hr2 := below_range l (belowSt l s 4) ((most : Int) + 1) (by omega)
  have HT : Hid (text l s most = (tx l (belowSt l (belowSt l s 4) ((most : Int) + 1)) (below l s 4) (below l (belowSt l s 4) ((most : Int) + 1)).toNat).1) := rfl
  have HTS : Hid (textSt l s most = (tx l (belowSt l (belowSt l s 4) ((most : Int) + 1)) (below l s 4) (below l (belowSt l s 4) ((most : Int) + 1)).toNat).2) := rfl
  obtain ⟨sty, hsty⟩ : ∃ x, below l s 4 = x := ⟨_, rfl⟩
  obtain ⟨n, hn⟩ := Int.eq_ofNat_of_zero_le hr2.1
  rw [hn, Int.toNat_natCast, hsty] at HT HTS
  rw [hsty] at hr1
  rw [hn] at hr2
  have HY : Hid (below l s 4 = sty) := hsty
  have HNN : Hid (below l (belowSt l s 4) ((most : Int) + 1) = (n : Int)) := hn
  obtain ⟨s2, hs2⟩ : ∃ x, belowSt l (belowSt l s 4) ((most : Int) + 1) = x := ⟨_, rfl⟩
  rw [hs2] at HT HTS
  have HS2 : Hid (belowSt l (belowSt l s 4) ((most : Int) + 1) = s2) := hs2
  clear h hsty hn hs2
  go_enter Tryd.func22, Tryd.ntmps22
  go_wp2_with fail
  refine (belowC B g v l s 4 _ (HC.out.alloc _)).mono ?_
  rw [HY.out]
  rintro e w1 ⟨rfl, hc1, hg1⟩
  have hO1 := hO0.kept hg1 (.inr (by simp [Value.ownBlock]; omega))
  have hG1 : w.grownBy w1 (some g) := grown_trans (World.grownBy_alloc _ _ _) hg1
  clear hO0 hg1
  go_wp2_with fail
  refine (belowC B g v l _ ((most : Int) + 1) _ hc1).mono ?_
  rw [HNN.out, HS2.out]
  rintro e w2 ⟨rfl, hc2, hg2⟩
  have hO2 := hO1.kept hg2 (.inr (by simp [Value.ownBlock]; omega))
  have hG2 : w.grownBy w2 (some g) := grown_trans hG1 hg2
  clear hO1 hg2 hc1 hG1
  have HI : Hid (∃ k : Nat, k ≤ n ∧ w2.ownsRow w.heap.size 5 1 (.slice (some ⟨w.heap.size, 0, none⟩) 0 0) k (bv (tx l s2 sty k).1) ∧ Ctx B g v l (tx l s2 sty k).2 w2 ∧ w.grownBy w2 (some g) ∧ k = 0) := ⟨0, Nat.zero_le _, hO2, hc2, hG2, rfl⟩
  clear hO2 hc2 hG2
  go_wp2
  go_loopw [5, 7, 8] (fun x c _ wr => ∃ k : Nat, k ≤ n ∧ c = .int .i64 ((n : Int) - k) ∧ wr.ownsRow w.heap.size 5 1 x k (bv (tx l s2 sty k).1) ∧ Ctx B g v l (tx l s2 sty k).2 wr ∧ w.grownBy wr (some g)) (fun _ c _ _ => (intOf c).toNat)
  case atStart =>
    obtain ⟨k, _, h2, h3, h4, rfl⟩ := HI.out
    exact ⟨0, Nat.zero_le _, by simp, h2, h3, h4⟩
  case round =>
    obtain ⟨k, hk, rfl, hown, hc, hG⟩ := hrel
    clear HI
    by_cases hlt : k < n
    · have hxr := bx_range l (tx l s2 sty k).2
      obtain ⟨x, hx⟩ : ∃ x, bx l (tx l s2 sty k).2 = x := ⟨_, rfl⟩
      have HX : Hid (bx l (tx l s2 sty k).2 = x) := hx
      have HP : Hid ((tx l s2 sty (k + 1)).1 = (tx l s2 sty k).1 ++ [UInt8.ofNat (styled sty (bx l (tx l s2 sty k).2)).toNat]) := rfl
      have HP2 : Hid ((tx l s2 sty (k + 1)).2 = bst l (tx l s2 sty k).2) := rfl
      rw [hx] at HP hxr
      have hsr := styled_range sty x hxr
      have hVs : styled sty x = ((UInt8.ofNat (styled sty x).toNat).toNat : Int) := by simp; omega
      obtain ⟨b, hb⟩ : ∃ b, UInt8.ofNat (styled sty x).toNat = b := ⟨_, rfl⟩
      rw [hb] at HP hVs
      have HCC : Hid (Ctx B g v l (tx l s2 sty k).2 wr) := hc
      have HOW : Hid (wr.ownsRow w.heap.size 5 1 u5 k (bv (tx l s2 sty k).1)) := hown
      have HGG : Hid (w.grownBy wr (some g)) := hG
      have hob : u5.ownBlock = none ∨ u5.ownBlock ≠ some g := by
        right; intro e; have := (hown.lt g e).1; omega
      clear hx hb hc hown hG hsr
      by_cases h1 : sty = 1
      · have hs1 : (sty == 1) = true := by rw [beq_iff_eq]; exact h1
        have hs2' : (sty == 2) = false := by rw [beq_eq_false_iff_ne]; omega
        have HV : Hid (x % 2 = (b.toNat : Int)) := by
          show _ = _
          rw [← hVs]
          unfold styled
          rw [if_pos h1]
        clear hVs h1
        go_wp2_with fail
        refine (byteC B g v l (tx l s2 sty k).2 _ HCC.out).mono ?_
        rw [HX.out]
        rintro e w3 ⟨rfl, hc3, hg3⟩
        have hown3 := HOW.out.kept hg3 hob
        have hG3 : w.grownBy w3 (some g) := grown_trans HGG.out hg3
        have hsz : w.heap.size ≤ w3.heap.size := hG3.size
        have HC3 : Hid (Ctx B g v l (bst l (tx l s2 sty k).2) w3) := hc3
        have HG3 : Hid (w.grownBy w3 (some g)) := hG3
        clear hc3 hG3 hg3
        go_wp2_with (at_builtin; refine wpList_append_own _ rfl _ _ 22 rfl w.heap.size 5 i0 (.int .u8 0) 1 1 Tryd.underlying22 hi hz0 hz1 hz2 rfl (by decide) _ _ _ rfl (hown3.alloc _) ⟨w3.heap.size, 0, none⟩ 1 1 (bv [b]) rfl rfl ?ca1 ?ca2 ?ca3 ?ca4 ?ca5 ?_)
        case ca1 =>
          intro j u hj
          obtain ⟨c, hc, rfl⟩ := bv_get _ _ _ hj
          exact new1 _ _ _ HV.out j c hc
        case ca2 => exact bv_one _
        case ca3 => unfold maxLen; omega
        case ca4 => omega
        case ca5 => simp; omega
        intro v' w4 hown' hgr _
        have HOW4 : Hid (w4.ownsRow w.heap.size 5 1 v' (k + 1) (bv (tx l s2 sty (k + 1)).1)) := by
          show World.ownsRow _ _ _ _ _ _ _
          rw [HP.out]
          have e : bv ((tx l s2 sty k).1 ++ [b]) = bv (tx l s2 sty k).1 ++ bv [b] := by simp [bv]
          rw [e]; exact hown'
        have hob3 : ∀ b, u5.ownBlock = some b → w.heap.size ≤ b := fun b hb => (hown3.lt b hb).1
        have HG4 : Hid (w.grownBy w4 (some g)) := grown_own (grown_trans HG3.out (World.grownBy_alloc _ _ _)) hgr hob3
        have HC4 : Hid (Ctx B g v l (tx l s2 sty (k + 1)).2 w4) := by
          show Ctx _ _ _ _ _ _
          rw [HP2.out]
          exact (HC3.out.alloc _).grown hgr (fun b hb => by have := hob3 b hb; omega)
        clear hown' hgr hown3 hob3
        go_wp2
        go_roundw
        case rel =>
          have e1 : Value.int .i64 ((n : Int) - k - 1) = .int .i64 ((n : Int) - ((k + 1 : Nat) : Int)) := by go_num
          first | exact ⟨k + 1, by omega, e1, HOW4.out, HC4.out, HG4.out⟩ | ((repeat apply Exists.intro); exact ⟨⟨k + 1, by omega, e1, HOW4.out, HC4.out, HG4.out⟩, rfl⟩)
        case measure => simp only [intOf]; omega
      · have hs1 : (sty == 1) = false := by rw [beq_eq_false_iff_ne]; exact h1
        by_cases h2 : sty = 2
        · have hs2' : (sty == 2) = true := by rw [beq_iff_eq]; exact h2
          have HV : Hid (97 + x % 4 = (b.toNat : Int)) := by
            show _ = _
            rw [← hVs]
            unfold styled
            rw [if_neg h1, if_pos h2]
          clear hVs h1 h2
          go_wp2_with fail
          refine (byteC B g v l (tx l s2 sty k).2 _ HCC.out).mono ?_
          rw [HX.out]
          rintro e w3 ⟨rfl, hc3, hg3⟩
          have hown3 := HOW.out.kept hg3 hob
          have hG3 : w.grownBy w3 (some g) := grown_trans HGG.out hg3
          have hsz : w.heap.size ≤ w3.heap.size := hG3.size
          have HC3 : Hid (Ctx B g v l (bst l (tx l s2 sty k).2) w3) := hc3
          have HG3 : Hid (w.grownBy w3 (some g)) := hG3
          clear hc3 hG3 hg3
          go_wp2_with (at_builtin; refine wpList_append_own _ rfl _ _ 22 rfl w.heap.size 5 i0 (.int .u8 0) 1 1 Tryd.underlying22 hi hz0 hz1 hz2 rfl (by decide) _ _ _ rfl (hown3.alloc _) ⟨w3.heap.size, 0, none⟩ 1 1 (bv [b]) rfl rfl ?cb1 ?cb2 ?cb3 ?cb4 ?cb5 ?_)
          case cb1 =>
            intro j u hj
            obtain ⟨c, hc, rfl⟩ := bv_get _ _ _ hj
            exact new1 _ _ _ HV.out j c hc
          case cb2 => exact bv_one _
          case cb3 => unfold maxLen; omega
          case cb4 => omega
          case cb5 => simp; omega
          intro v' w4 hown' hgr _
          have HOW4 : Hid (w4.ownsRow w.heap.size 5 1 v' (k + 1) (bv (tx l s2 sty (k + 1)).1)) := by
            show World.ownsRow _ _ _ _ _ _ _
            rw [HP.out]
            have e : bv ((tx l s2 sty k).1 ++ [b]) = bv (tx l s2 sty k).1 ++ bv [b] := by simp [bv]
            rw [e]; exact hown'
          have hob3 : ∀ b, u5.ownBlock = some b → w.heap.size ≤ b := fun b hb => (hown3.lt b hb).1
          have HG4 : Hid (w.grownBy w4 (some g)) := grown_own (grown_trans HG3.out (World.grownBy_alloc _ _ _)) hgr hob3
          have HC4 : Hid (Ctx B g v l (tx l s2 sty (k + 1)).2 w4) := by
            show Ctx _ _ _ _ _ _
            rw [HP2.out]
            exact (HC3.out.alloc _).grown hgr (fun b hb => by have := hob3 b hb; omega)
          clear hown' hgr hown3 hob3
          go_wp2
          go_roundw
          case rel =>
            have e1 : Value.int .i64 ((n : Int) - k - 1) = .int .i64 ((n : Int) - ((k + 1 : Nat) : Int)) := by go_num
            first | exact ⟨k + 1, by omega, e1, HOW4.out, HC4.out, HG4.out⟩ | ((repeat apply Exists.intro); exact ⟨⟨k + 1, by omega, e1, HOW4.out, HC4.out, HG4.out⟩, rfl⟩)
          case measure => simp only [intOf]; omega
        · have hs2' : (sty == 2) = false := by rw [beq_eq_false_iff_ne]; exact h2
          have HV : Hid (x = (b.toNat : Int)) := by
            show _ = _
            rw [← hVs]
            unfold styled
            rw [if_neg h1, if_neg h2]
          clear hVs h1 h2
          go_wp2_with fail
          refine (byteC B g v l (tx l s2 sty k).2 _ HCC.out).mono ?_
          rw [HX.out]
          rintro e w3 ⟨rfl, hc3, hg3⟩
          have hown3 := HOW.out.kept hg3 hob
          have hG3 : w.grownBy w3 (some g) := grown_trans HGG.out hg3
          have hsz : w.heap.size ≤ w3.heap.size := hG3.size
          have HC3 : Hid (Ctx B g v l (bst l (tx l s2 sty k).2) w3) := hc3
          have HG3 : Hid (w.grownBy w3 (some g)) := hG3
          clear hc3 hG3 hg3
          go_wp2_with (at_builtin; refine wpList_append_own _ rfl _ _ 22 rfl w.heap.size 5 i0 (.int .u8 0) 1 1 Tryd.underlying22 hi hz0 hz1 hz2 rfl (by decide) _ _ _ rfl (hown3.alloc _) ⟨w3.heap.size, 0, none⟩ 1 1 (bv [b]) rfl rfl ?cd1 ?cd2 ?cd3 ?cd4 ?cd5 ?_)
          case cd1 =>
            intro j u hj
            obtain ⟨c, hc, rfl⟩ := bv_get _ _ _ hj
            exact new1 _ _ _ HV.out j c hc
          case cd2 => exact bv_one _
          case cd3 => unfold maxLen; omega
          case cd4 => omega
          case cd5 => simp; omega
          intro v' w4 hown' hgr _
          have HOW4 : Hid (w4.ownsRow w.heap.size 5 1 v' (k + 1) (bv (tx l s2 sty (k + 1)).1)) := by
            show World.ownsRow _ _ _ _ _ _ _
            rw [HP.out]
            have e : bv ((tx l s2 sty k).1 ++ [b]) = bv (tx l s2 sty k).1 ++ bv [b] := by simp [bv]
            rw [e]; exact hown'
          have hob3 : ∀ b, u5.ownBlock = some b → w.heap.size ≤ b := fun b hb => (hown3.lt b hb).1
          have HG4 : Hid (w.grownBy w4 (some g)) := grown_own (grown_trans HG3.out (World.grownBy_alloc _ _ _)) hgr hob3
          have HC4 : Hid (Ctx B g v l (tx l s2 sty (k + 1)).2 w4) := by
            show Ctx _ _ _ _ _ _
            rw [HP2.out]
            exact (HC3.out.alloc _).grown hgr (fun b hb => by have := hob3 b hb; omega)
          clear hown' hgr hown3 hob3
          go_wp2
          go_roundw
          case rel =>
            have e1 : Value.int .i64 ((n : Int) - k - 1) = .int .i64 ((n : Int) - ((k + 1 : Nat) : Int)) := by go_num
            first | exact ⟨k + 1, by omega, e1, HOW4.out, HC4.out, HG4.out⟩ | ((repeat apply Exists.intro); exact ⟨⟨k + 1, by omega, e1, HOW4.out, HC4.out, HG4.out⟩, rfl⟩)
          case measure => simp only [intOf]; omega
    · obtain rfl : k = n := by omega
      have hst := own_str hown
      rw [← HT.out] at hst
      rw [← HTS.out] at hc
      clear hown
      go_wp2
      go_ret
      exact ⟨rfl, hc, hG⟩
end Draw
end Go.Proofs.YtgfapncaddgmpaaDoor
