/- Both Var return the number in bytes of seven bits, or the empty text. -/
import Derived.Test.YtgfapncaddgmpaaDoorVarL
import Derived.Test.YtgfapncaddgmpaaDoorBytes
import Derived.Outline
import Derived.OpenShut
namespace Go.Proofs.YtgfapncaddgmpaaDoor
open Go.RowKit
namespace Var
open Num Bytes

set_option maxHeartbeats 400000 in
theorem impl_no (n : Int) (w : World) (h : n < 0 ∨ 562949953421311 < n) :
    Calls Tryd.prog 9 #[.int .i64 n] w fun e w' => e = .returned (.string ByteArray.empty) ∧ w' = w := by
  by_cases h1 : n < 0
  · go_enter Tryd.func9, Tryd.ntmps9
    go_wp2
    go_ret
    exact ⟨rfl, rfl⟩
  · have h3 : 562949953421311 < n := by omega
    go_enter Tryd.func9, Tryd.ntmps9
    go_wp2
    go_ret
    exact ⟨rfl, rfl⟩

set_option maxHeartbeats 400000 in
theorem spec_no (n : Int) (w : World) (h : n < 0 ∨ 562949953421311 < n) :
    Calls Tryd.prog 27 #[.int .i64 n] w fun e w' => e = .returned (.string ByteArray.empty) ∧ w' = w := by
  by_cases h1 : 0 ≤ n
  · have h3 : ¬ n ≤ 562949953421311 := by omega
    go_enter Tryd.func27, Tryd.ntmps27
    go_wp2
    go_ret
    exact ⟨rfl, rfl⟩
  · go_enter Tryd.func27, Tryd.ntmps27
    go_wp2
    go_ret
    exact ⟨rfl, rfl⟩

/-- what holds at a round's head -/
def At (n k : Nat) : Prop := ∀ j, j < k → 128 ≤ n / 128 ^ j
theorem At.stop {n k : Nat} (h : At n k) (hn : n ≤ 562949953421311) : k ≤ 6 := by
  refine var_stop n k hn ?_
  rcases Nat.eq_zero_or_pos k with h0 | h0
  · exact .inl h0
  · exact .inr (h _ (by omega))
theorem At.zero (n : Nat) : At n 0 := fun j hj => by omega
theorem At.succ {n k : Nat} (h : At n k) (h1 : 128 ≤ n / 128 ^ k) : At n (k + 1) := fun j hj => by
  rcases Nat.lt_or_ge j k with h2 | h2
  · exact h j h2
  · obtain rfl : j = k := by omega
    exact h1
theorem At.out {n k : Nat} (h : At n k) (hk : k ≤ 6) (h1 : n / 128 ^ k < 128) : vb 7 n = varTo n k ++ [UInt8.ofNat (n / 128 ^ k)] := vb_at 7 n k (by omega) h h1

theorem byte_hi (D : Nat) : ((UInt8.ofNat (128 + D % 128)).toNat : Int) = (D : Int) % 128 + 128 := by simp; omega
theorem byte_lo (D : Nat) (h : D < 128) : ((UInt8.ofNat D).toNat : Int) = (D : Int) := by simp; omega

set_option maxRecDepth 100000 in
set_option maxHeartbeats 400000 in
theorem impl_yes (n : Nat) (w : World) (hn : n ≤ 562949953421311) :
    Calls Tryd.prog 9 #[.int .i64 n] w fun e w' => e = .returned (.string ⟨(vb 7 n).toArray⟩) ∧ Below w.heap.size w w' := by
  have hmk1 : (Instr.makeSlice 22 (.int .i64 7) (.int .i64 7)).run Tryd.prog w = .ok (.slice (some ⟨w.heap.size, 0, none⟩) 7 7) (w.alloc (.cells (madeCells #[.int .u8 0] 7) 5)) := makeRow 7 (by omega) w
  have hR0 := Row.made w 7
  obtain ⟨w1, hw1⟩ : ∃ w1, w1 = w.alloc (.cells (madeCells #[.int .u8 0] 7) 5) := ⟨_, rfl⟩
  rw [← hw1] at hmk1 hR0
  have hB0 : Below w.heap.size w w1 := by rw [hw1]; exact (Below.refl _ _).alloc (Nat.le_refl _) _
  clear hw1
  go_enter Tryd.func9, Tryd.ntmps9
  go_wp2
  go_loopw [0, 4] (fun v i wr => ∃ k : Nat, At n k ∧ i = .int .i64 k ∧ v = .int .i64 ((n / 128 ^ k : Nat) : Int) ∧ Row wr w.heap.size (pad 7 (varTo n k)) ∧ Below w.heap.size w wr) (fun v _ _ => (intOf v).toNat)
  case atStart => exact ⟨0, At.zero n, rfl, by simp, by rw [varTo_zero, pad_nil]; exact hR0, hB0⟩
  case round =>
    obtain ⟨k, hA, rfl, rfl, hR, hB⟩ := hrel
    clear hmk1 hR0 hB0
    have hk := hA.stop hn
    have hln : (varTo n k).length = k := varTo_length n k
    have hpl : (pad 7 (varTo n k)).length = 7 := pad_length _ _ (by rw [hln]; omega)
    have HL : Hid ((pad 7 (varTo n k)).length = 7) := hpl
    by_cases hlt : 128 ≤ n / 128 ^ k
    · have hk' := (hA.succ hlt).stop hn
      have HP : Hid (splice (pad 7 (varTo n k)) k [UInt8.ofNat (128 + n / 128 ^ k % 128)] = pad 7 (varTo n (k + 1))) := by
        have := splice_pad 7 (varTo n k) [UInt8.ofNat (128 + n / 128 ^ k % 128)] (by rw [hln]; simp; omega)
        rw [hln] at this
        rw [varTo_succ]; exact this
      have HA : Hid (At n (k + 1)) := hA.succ hlt
      have HV := byte_hi (n / 128 ^ k)
      have HS : Hid (n / 128 ^ (k + 1) = n / 128 ^ k / 128) := vstep n k
      obtain ⟨b, hb⟩ : ∃ b, UInt8.ofNat (128 + n / 128 ^ k % 128) = b := ⟨_, rfl⟩
      obtain ⟨D, hD⟩ : ∃ D : Nat, n / 128 ^ k = D := ⟨_, rfl⟩
      have hDn : (D : Int) ≤ 562949953421311 := by have := Nat.div_le_self n (128 ^ k); omega
      rw [hb] at HP HV
      rw [hD] at HV HS hlt
      rw [hD]
      have HV' : Hid ((D : Int) % 128 + 128 = (b.toNat : Int)) := HV.symm
      clear hb hD hln hpl HV hA
      go_wp2_with fail
      refine (put _ w w.heap.size w.heap.size 7 k 1 1 (pad 7 (varTo n k)) [b] ⟨wr.heap.size, 0, none⟩ (hR.alloc _) HL.out (by unfold maxLen; omega) rfl (by omega) (by omega) (new1 _ _ _ HV'.out) (hB.alloc hB.size _) (Nat.le_refl _)).mono ?_
      rintro e w2 ⟨rfl, hR2, hB2⟩
      rw [HP.out] at hR2
      go_wp2
      go_roundw
      case rel => exact ⟨k + 1, HA.out, by go_num, by rw [HS.out]; simp, hR2, hB2⟩
      case measure => simp [intOf]; omega
    · have HO : Hid (vb 7 n = varTo n k ++ [UInt8.ofNat (n / 128 ^ k)]) := hA.out hk (by omega)
      have HP : Hid (splice (pad 7 (varTo n k)) k [UInt8.ofNat (n / 128 ^ k)] = pad 7 (varTo n k ++ [UInt8.ofNat (n / 128 ^ k)])) := by
        have := splice_pad 7 (varTo n k) [UInt8.ofNat (n / 128 ^ k)] (by rw [hln]; simp; omega)
        rw [hln] at this; exact this
      have HV := byte_lo (n / 128 ^ k) (by omega)
      have HT : Hid ((pad 7 (varTo n k ++ [UInt8.ofNat (n / 128 ^ k)])).take (k + 1) = vb 7 n) := by
        have := pad_take 7 (varTo n k ++ [UInt8.ofNat (n / 128 ^ k)])
        rw [List.length_append, hln] at this
        show _ = _
        rw [HO.out]; exact this
      obtain ⟨b, hb⟩ : ∃ b, UInt8.ofNat (n / 128 ^ k) = b := ⟨_, rfl⟩
      obtain ⟨D, hD⟩ : ∃ D : Nat, n / 128 ^ k = D := ⟨_, rfl⟩
      rw [hb] at HP HV HT
      rw [hD] at HV hlt
      rw [hD]
      have hDl : (D : Int) < 128 := by omega
      have HV' : Hid ((D : Int) = (b.toNat : Int)) := HV.symm
      have hpl2 : (pad 7 (varTo n k ++ [b])).length = 7 := pad_length _ _ (by rw [List.length_append, hln]; simp; omega)
      have HL2 : Hid ((pad 7 (varTo n k ++ [b])).length = 7) := hpl2
      clear hb hD hln hpl HV hA hpl2 HO
      go_wp2_with fail
      refine (put _ w w.heap.size w.heap.size 7 k 1 1 (pad 7 (varTo n k)) [b] ⟨wr.heap.size, 0, none⟩ (hR.alloc _) HL.out (by unfold maxLen; omega) rfl (by omega) (by omega) (new1 _ _ _ HV'.out) (hB.alloc hB.size _) (Nat.le_refl _)).mono ?_
      rintro e w2 ⟨rfl, hR2, hB2⟩
      rw [HP.out] at hR2
      have hst := hR2.str (k + 1) 7 (by rw [HL2.out]; omega)
      rw [HT.out] at hst
      have hk7 : (k : Int) + 1 ≤ 7 := by omega
      go_wp2
      go_ret
      exact ⟨rfl, hB2⟩

set_option maxRecDepth 100000 in
set_option maxHeartbeats 400000 in
theorem spec_yes (n : Nat) (w : World) (hn : n ≤ 562949953421311) :
    Calls Tryd.prog 27 #[.int .i64 n] w fun e w' => e = .returned (.string ⟨(vb 7 n).toArray⟩) ∧ Below w.heap.size w w' := by
  obtain ⟨i0, hi, hz0, hz1, hz2⟩ := info_parts Tryd.infoByte
  have hO0 := own_lit w w.heap.size (Nat.le_refl _)
  have hn1 : (n : Int) ≤ 562949953421311 := by omega
  have hn0 : (0 : Int) ≤ (n : Int) := by omega
  go_enter Tryd.func27, Tryd.ntmps27
  go_wp2
  go_loopw [0, 3] (fun v s wr => ∃ k : Nat, At n k ∧ v = .int .i64 ((n / 128 ^ k : Nat) : Int) ∧ wr.ownsRow w.heap.size 5 1 s k (bv (varTo n k)) ∧ Below w.heap.size w wr) (fun v _ _ => (intOf v).toNat)
  case atStart => exact ⟨0, At.zero n, by simp, hO0, (Below.refl _ _).alloc (Nat.le_refl _) _⟩
  case round =>
    obtain ⟨k, hA, rfl, hown, hB⟩ := hrel
    clear hO0
    have hk := hA.stop hn
    by_cases hlt : 128 ≤ n / 128 ^ k
    · have HA : Hid (At n (k + 1)) := hA.succ hlt
      have HV := byte_hi (n / 128 ^ k)
      have HS : Hid (n / 128 ^ (k + 1) = n / 128 ^ k / 128) := vstep n k
      have HP : Hid (varTo n (k + 1) = varTo n k ++ [UInt8.ofNat (128 + n / 128 ^ k % 128)]) := varTo_succ n k
      obtain ⟨b, hb⟩ : ∃ b, UInt8.ofNat (128 + n / 128 ^ k % 128) = b := ⟨_, rfl⟩
      obtain ⟨D, hD⟩ : ∃ D : Nat, n / 128 ^ k = D := ⟨_, rfl⟩
      have hDn : (D : Int) ≤ 562949953421311 := by have := Nat.div_le_self n (128 ^ k); omega
      rw [hb] at HP HV
      rw [hD] at HV HS hlt
      rw [hD]
      have HV' : Hid (128 + (D : Int) % 128 = (b.toNat : Int)) := by show _ = _; omega
      clear hb hD HV hA
      go_wp2_with (at_builtin; refine wpList_append_own _ rfl _ _ 22 rfl w.heap.size 5 i0 (.int .u8 0) 1 1 Tryd.underlying22 hi hz0 hz1 hz2 rfl (by decide) _ _ _ rfl (hown.alloc _) ⟨wr.heap.size, 0, none⟩ 1 1 (bv [b]) rfl rfl ?c1 ?c2 ?c3 ?c4 ?c5 ?_)
      case c1 =>
        intro j u hj
        obtain ⟨c, hc, rfl⟩ := bv_get _ _ _ hj
        exact new1 _ _ _ HV'.out j c hc
      case c2 => exact bv_one _
      case c3 => unfold maxLen; omega
      case c4 => omega
      case c5 => have := hB.size; simp; omega
      intro v' w1 hown' hgr _
      have HOW : Hid (w1.ownsRow w.heap.size 5 1 v' (k + 1) (bv (varTo n (k + 1)))) := by
        show World.ownsRow _ _ _ _ _ _ _
        rw [HP.out]
        have e : bv (varTo n k ++ [b]) = bv (varTo n k) ++ bv [b] := by simp [bv]
        rw [e]; exact hown'
      have HB1 : Hid (Below w.heap.size w w1) := (hB.alloc hB.size _).grown hgr (by have := hB.size; simp; omega) (fun g hg => (hown.lt g hg).1)
      clear hown' hgr hown hB
      go_wp2
      go_roundw
      case rel =>
        have hv1 : Value.int .i64 ((D : Int) / 128) = .int .i64 ((n / 128 ^ (k + 1) : Nat) : Int) := by rw [HS.out]; simp
        first | exact ⟨k + 1, HA.out, hv1, HOW.out, HB1.out⟩ | ((repeat apply Exists.intro); exact ⟨⟨k + 1, HA.out, hv1, HOW.out, HB1.out⟩, rfl⟩)
      case measure => simp [intOf]; omega
    · have HO : Hid (vb 7 n = varTo n k ++ [UInt8.ofNat (n / 128 ^ k)]) := hA.out hk (by omega)
      have HV := byte_lo (n / 128 ^ k) (by omega)
      obtain ⟨b, hb⟩ : ∃ b, UInt8.ofNat (n / 128 ^ k) = b := ⟨_, rfl⟩
      obtain ⟨D, hD⟩ : ∃ D : Nat, n / 128 ^ k = D := ⟨_, rfl⟩
      rw [hb] at HO HV
      rw [hD] at HV hlt
      rw [hD]
      have hDl : (D : Int) < 128 := by omega
      have HV' : Hid ((D : Int) = (b.toNat : Int)) := HV.symm
      clear hb hD HV hA
      go_wp2_with (at_builtin; refine wpList_append_own _ rfl _ _ 22 rfl w.heap.size 5 i0 (.int .u8 0) 1 1 Tryd.underlying22 hi hz0 hz1 hz2 rfl (by decide) _ _ _ rfl (hown.alloc _) ⟨wr.heap.size, 0, none⟩ 1 1 (bv [b]) rfl rfl ?d1 ?d2 ?d3 ?d4 ?d5 ?_)
      case d1 =>
        intro j u hj
        obtain ⟨c, hc, rfl⟩ := bv_get _ _ _ hj
        exact new1 _ _ _ HV'.out j c hc
      case d2 => exact bv_one _
      case d3 => unfold maxLen; omega
      case d4 => omega
      case d5 => have := hB.size; simp; omega
      intro v' w1 hown' hgr _
      have HB1 : Hid (Below w.heap.size w w1) := (hB.alloc hB.size _).grown hgr (by have := hB.size; simp; omega) (fun g hg => (hown.lt g hg).1)
      have hst : (convert 22 9 v').run Tryd.prog w1 = .ok (.string ⟨(vb 7 n).toArray⟩) w1 := by
        rw [HO.out]
        have e : bv (varTo n k ++ [b]) = bv (varTo n k) ++ bv [b] := by simp [bv]
        rw [← e] at hown'; exact own_str hown'
      clear hown' hgr hown hB
      go_wp2
      go_ret
      exact ⟨rfl, HB1.out⟩

end Var
end Go.Proofs.YtgfapncaddgmpaaDoor
