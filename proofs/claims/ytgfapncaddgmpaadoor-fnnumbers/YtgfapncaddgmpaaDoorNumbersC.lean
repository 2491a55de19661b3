/- FnNumbers answers true, by where the number lies. -/
import Derived.Test.YtgfapncaddgmpaaDoorNumbersAid
namespace Go.Proofs.YtgfapncaddgmpaaDoor
open Go.RowKit
namespace Numbers
open Num Bytes Draw

set_option maxRecDepth 100000 in
set_option maxHeartbeats 3200000 in
theorem law_C (l : List UInt8) (a : Option Addr) (cap : Nat) (n : Int) (S F t : List UInt8) (p : ByteArray) (w : World) (hC : Draw.Code w.heap.size w (.slice a l.length cap) l) (hl : l.length ≤ 1048576) (ht : Dec.Tab w) (he : ReadDec.Errs w)
    (hn : num l (st0 l) = n) (htt : text l (st0 l) 40 = t) (htl : t.length ≤ 40) (hp : rvText l = p) (hps : p.size ≤ 100) (hr1 : -9223372036854775808 ≤ n) (hr2 : n ≤ 9223372036854775807) (h0 : 562949953421312 ≤ n) (h1 : n ≤ 72057594037927935) (hS : [] = S) (hF : fixedTo n.toNat 7 7 = F) :
    Calls Tryd.prog 3 #[.slice a l.length cap] w fun e w' => e = .returned (.bool true) ∧ Below w.heap.size w w' := by
  have HN : Hid (num l (st0 l) = n) := hn
  have HT : Hid (text l (st0 l) 40 = t) := htt
  have HP : Hid (rvText l = p) := hp
  have hpmx : p.size ≤ maxLen := by unfold maxLen; omega
  have HPM : Hid (p.size ≤ maxLen) := hpmx
  have HC : Hid (Draw.Code w.heap.size w (.slice a l.length cap) l) := hC
  have HTab : Hid (Dec.Tab w) := ht
  have HErr : Hid (ReadDec.Errs w) := he
  have HVB : Hid (varB n = S) := by show _ = _; unfold varB; rw [if_neg (by omega)]; exact hS
  have hSl : S.length ≤ 8 := by rw [← hS]; simp
  have hSne : S.isEmpty = true := by rw [← hS]; rfl
  have HFB : Hid (fixB n = F) := by show _ = _; unfold fixB; rw [if_pos (by omega)]; exact hF
  have HF : Hid (fixedTo n.toNat 7 7 = F) := hF
  have hFl0 : F.length = 7 := by rw [← hF, fixedTo_length]
  have hFne : F.isEmpty = false := by cases h : F with
    | nil => rw [h] at hFl0; simp at hFl0
    | cons c r => rfl
  have hFl : F.length ≤ 7 := by omega
  have hFl7 : ((F.length : Int) == 7) = true := by rw [hFl0]; rfl
  have hFl8 : ((F.length : Int) != 7) = false := by rw [hFl0]; rfl
  have hss : (⟨S.toArray⟩ : ByteArray).size + (⟨t.toArray⟩ : ByteArray).size ≤ 100 := by rw [size_mk, size_mk]; omega
  have hfs : (⟨F.toArray⟩ : ByteArray).size + (⟨t.toArray⟩ : ByteArray).size ≤ 100 := by rw [size_mk, size_mk]; omega
  have hbg : decide ((1048576 : Int) < (l.length : Int)) = false := by simp; omega
  have HCS : Hid (((⟨S.toArray⟩ : ByteArray) ++ ⟨t.toArray⟩).size ≤ maxLen) := cat_size S t (by omega)
  have HCF : Hid (((⟨F.toArray⟩ : ByteArray) ++ ⟨t.toArray⟩).size ≤ maxLen) := cat_size F t (by omega)
  clear hn htt ht he hC hp hpmx hS hF hFl0
  go_enter Tryd.func3, Tryd.ntmps3
  go_wp2_with fail
  refine (bigC a l.length cap w).mono ?_
  rw [hbg]
  rintro e w0 ⟨rfl, rfl⟩
  go_wp2_with fail
  refine (drawVarC w.heap.size _ l _ HC.out (Nat.le_refl _) hl).mono ?_
  rw [HN.out]
  rintro e w1 ⟨rfl, hb1⟩
  go_wp2_with fail
  refine (drawHexC w.heap.size _ l _ (HC.out.below hb1) hb1.size hl).mono ?_
  rw [HT.out]
  rintro e w2 ⟨rfl, hb2'⟩
  have hb2 := hb1.trans (hb2'.mono hb1.size)
  clear hb1 hb2'
  go_wp2_with fail
  refine (varC n _).mono ?_
  rw [HVB.out]
  rintro e w3 ⟨rfl, hb3'⟩
  have hb3 := hb2.trans (hb3'.mono hb2.size)
  clear hb2 hb3'
  go_wp2_with fail
  refine (rvAny _ HCS.out _).mono ?_
  rintro e w3' ⟨⟨x0, k0, rfl, -⟩, rfl⟩
  go_wp2_with fail
  refine (fixC n _).mono ?_
  rw [HFB.out]
  rintro e w4 ⟨rfl, hb4'⟩
  have hb4 := hb3.trans (hb4'.mono hb3.size)
  clear hb3 hb4'
  go_wp2_with fail
  refine (rfIn n F t (by omega) (by omega) HF.out (by omega) _).mono ?_
  rintro e w4' ⟨rfl, rfl⟩
  go_wp2_with fail
  refine (Dec.impl_any n hr1 hr2 _ (HTab.out.on hb4)).mono ?_
  rintro e w5 ⟨rfl, hb5'⟩
  have hb5 := hb4.trans (hb5'.mono hb4.size)
  clear hb4 hb5'
  go_wp2_with fail
  refine (rdOut n ⟨hr1, hr2⟩ (by omega) _ (HTab.out.on hb5) (HErr.out.on hb5)).mono ?_
  rintro e w6 ⟨rfl, hb6'⟩
  have hb6 := hb5.trans (hb6'.mono hb5.size)
  clear hb5 hb6'
  go_wp2_with fail
  refine (hexC t (by omega) _).mono ?_
  rintro e w7 ⟨rfl, hb7'⟩
  have hb7 := hb6.trans (hb7'.mono hb6.size)
  clear hb6 hb7'
  go_wp2_with fail
  refine (uhC t (by omega) _).mono ?_
  rintro e w8 ⟨rfl, hb8'⟩
  have hb8 := hb7.trans (hb8'.mono hb7.size)
  clear hb7 hb8'
  go_wp2_with fail
  refine (drawReadVarC w.heap.size _ l _ (HC.out.below hb8) hb8.size hl).mono ?_
  rw [HP.out]
  rintro e w9 ⟨rfl, hb9'⟩
  have hb9 := hb8.trans (hb9'.mono hb8.size)
  clear hb8 hb9'
  go_wp2_with fail
  refine (rvAny p HPM.out _).mono ?_
  rintro e w9' ⟨⟨z, j, rfl, HR⟩, rfl⟩
  by_cases hj : j = 0
  · have hj0 : ((j : Int) == 0) = true := by rw [hj]; rfl
    clear hj
    go_wp2
    go_ret
    exact ⟨rfl, hb9⟩
  · have hj0 : ((j : Int) == 0) = false := by rw [beq_eq_false_iff_ne]; omega
    have hjp : (0 : Int) < (j : Int) := by omega
    obtain ⟨hz, hjs, hq⟩ := rv_var p z j HR.out hj
    have hjs' : (j : Int) ≤ (p.size : Int) := by omega
    clear hj
    go_wp2_with fail
    refine (drawReadVarC w.heap.size _ l _ (HC.out.below hb9) hb9.size hl).mono ?_
    rw [HP.out]
    rintro e wa ⟨rfl, hba'⟩
    have hba := hb9.trans (hba'.mono hb9.size)
    clear hb9 hba'
    go_wp2_with fail
    refine (varC (z : Int) _).mono ?_
    rintro e wb ⟨rfl, hbb'⟩
    have hbb := hba.trans (hbb'.mono hba.size)
    clear hba hbb'
    go_wp2_with fail
    refine (drawReadVarC w.heap.size _ l _ (HC.out.below hbb) hbb.size hl).mono ?_
    rw [HP.out]
    rintro e wc ⟨rfl, hbc'⟩
    have hbc := hbb.trans (hbc'.mono hbb.size)
    clear hbb hbc'
    go_wp2
    go_ret
    exact ⟨rfl, hbc⟩

set_option maxRecDepth 100000 in
set_option maxHeartbeats 3200000 in
theorem law_D (l : List UInt8) (a : Option Addr) (cap : Nat) (n : Int) (S F t : List UInt8) (p : ByteArray) (w : World) (hC : Draw.Code w.heap.size w (.slice a l.length cap) l) (hl : l.length ≤ 1048576) (ht : Dec.Tab w) (he : ReadDec.Errs w)
    (hn : num l (st0 l) = n) (htt : text l (st0 l) 40 = t) (htl : t.length ≤ 40) (hp : rvText l = p) (hps : p.size ≤ 100) (hr1 : -9223372036854775808 ≤ n) (hr2 : n ≤ 9223372036854775807) (h0 : 72057594037927936 ≤ n) (hS : [] = S) (hF : [] = F) :
    Calls Tryd.prog 3 #[.slice a l.length cap] w fun e w' => e = .returned (.bool true) ∧ Below w.heap.size w w' := by
  have HN : Hid (num l (st0 l) = n) := hn
  have HT : Hid (text l (st0 l) 40 = t) := htt
  have HP : Hid (rvText l = p) := hp
  have hpmx : p.size ≤ maxLen := by unfold maxLen; omega
  have HPM : Hid (p.size ≤ maxLen) := hpmx
  have HC : Hid (Draw.Code w.heap.size w (.slice a l.length cap) l) := hC
  have HTab : Hid (Dec.Tab w) := ht
  have HErr : Hid (ReadDec.Errs w) := he
  have HVB : Hid (varB n = S) := by show _ = _; unfold varB; rw [if_neg (by omega)]; exact hS
  have hSl : S.length ≤ 8 := by rw [← hS]; simp
  have hSne : S.isEmpty = true := by rw [← hS]; rfl
  have HFB : Hid (fixB n = F) := by show _ = _; unfold fixB; rw [if_neg (by omega)]; exact hF
  have hFl : F.length ≤ 7 := by rw [← hF]; simp
  have hFne : F.isEmpty = true := by rw [← hF]; rfl
  have hss : (⟨S.toArray⟩ : ByteArray).size + (⟨t.toArray⟩ : ByteArray).size ≤ 100 := by rw [size_mk, size_mk]; omega
  have hfs : (⟨F.toArray⟩ : ByteArray).size + (⟨t.toArray⟩ : ByteArray).size ≤ 100 := by rw [size_mk, size_mk]; omega
  have hbg : decide ((1048576 : Int) < (l.length : Int)) = false := by simp; omega
  have HCS : Hid (((⟨S.toArray⟩ : ByteArray) ++ ⟨t.toArray⟩).size ≤ maxLen) := cat_size S t (by omega)
  have HCF : Hid (((⟨F.toArray⟩ : ByteArray) ++ ⟨t.toArray⟩).size ≤ maxLen) := cat_size F t (by omega)
  clear hn htt ht he hC hp hpmx hS hF
  go_enter Tryd.func3, Tryd.ntmps3
  go_wp2_with fail
  refine (bigC a l.length cap w).mono ?_
  rw [hbg]
  rintro e w0 ⟨rfl, rfl⟩
  go_wp2_with fail
  refine (drawVarC w.heap.size _ l _ HC.out (Nat.le_refl _) hl).mono ?_
  rw [HN.out]
  rintro e w1 ⟨rfl, hb1⟩
  go_wp2_with fail
  refine (drawHexC w.heap.size _ l _ (HC.out.below hb1) hb1.size hl).mono ?_
  rw [HT.out]
  rintro e w2 ⟨rfl, hb2'⟩
  have hb2 := hb1.trans (hb2'.mono hb1.size)
  clear hb1 hb2'
  go_wp2_with fail
  refine (varC n _).mono ?_
  rw [HVB.out]
  rintro e w3 ⟨rfl, hb3'⟩
  have hb3 := hb2.trans (hb3'.mono hb2.size)
  clear hb2 hb3'
  go_wp2_with fail
  refine (rvAny _ HCS.out _).mono ?_
  rintro e w3' ⟨⟨x0, k0, rfl, -⟩, rfl⟩
  go_wp2_with fail
  refine (fixC n _).mono ?_
  rw [HFB.out]
  rintro e w4 ⟨rfl, hb4'⟩
  have hb4 := hb3.trans (hb4'.mono hb3.size)
  clear hb3 hb4'
  go_wp2_with fail
  refine (rfAny _ HCF.out _).mono ?_
  rintro e w4' ⟨⟨y0, z0, rfl⟩, rfl⟩
  go_wp2_with fail
  refine (Dec.impl_any n hr1 hr2 _ (HTab.out.on hb4)).mono ?_
  rintro e w5 ⟨rfl, hb5'⟩
  have hb5 := hb4.trans (hb5'.mono hb4.size)
  clear hb4 hb5'
  go_wp2_with fail
  refine (rdOut n ⟨hr1, hr2⟩ (by omega) _ (HTab.out.on hb5) (HErr.out.on hb5)).mono ?_
  rintro e w6 ⟨rfl, hb6'⟩
  have hb6 := hb5.trans (hb6'.mono hb5.size)
  clear hb5 hb6'
  go_wp2_with fail
  refine (hexC t (by omega) _).mono ?_
  rintro e w7 ⟨rfl, hb7'⟩
  have hb7 := hb6.trans (hb7'.mono hb6.size)
  clear hb6 hb7'
  go_wp2_with fail
  refine (uhC t (by omega) _).mono ?_
  rintro e w8 ⟨rfl, hb8'⟩
  have hb8 := hb7.trans (hb8'.mono hb7.size)
  clear hb7 hb8'
  go_wp2_with fail
  refine (drawReadVarC w.heap.size _ l _ (HC.out.below hb8) hb8.size hl).mono ?_
  rw [HP.out]
  rintro e w9 ⟨rfl, hb9'⟩
  have hb9 := hb8.trans (hb9'.mono hb8.size)
  clear hb8 hb9'
  go_wp2_with fail
  refine (rvAny p HPM.out _).mono ?_
  rintro e w9' ⟨⟨z, j, rfl, HR⟩, rfl⟩
  by_cases hj : j = 0
  · have hj0 : ((j : Int) == 0) = true := by rw [hj]; rfl
    clear hj
    go_wp2
    go_ret
    exact ⟨rfl, hb9⟩
  · have hj0 : ((j : Int) == 0) = false := by rw [beq_eq_false_iff_ne]; omega
    have hjp : (0 : Int) < (j : Int) := by omega
    obtain ⟨hz, hjs, hq⟩ := rv_var p z j HR.out hj
    have hjs' : (j : Int) ≤ (p.size : Int) := by omega
    clear hj
    go_wp2_with fail
    refine (drawReadVarC w.heap.size _ l _ (HC.out.below hb9) hb9.size hl).mono ?_
    rw [HP.out]
    rintro e wa ⟨rfl, hba'⟩
    have hba := hb9.trans (hba'.mono hb9.size)
    clear hb9 hba'
    go_wp2_with fail
    refine (varC (z : Int) _).mono ?_
    rintro e wb ⟨rfl, hbb'⟩
    have hbb := hba.trans (hbb'.mono hba.size)
    clear hba hbb'
    go_wp2_with fail
    refine (drawReadVarC w.heap.size _ l _ (HC.out.below hbb) hbb.size hl).mono ?_
    rw [HP.out]
    rintro e wc ⟨rfl, hbc'⟩
    have hbc := hbb.trans (hbc'.mono hbb.size)
    clear hbb hbc'
    go_wp2
    go_ret
    exact ⟨rfl, hbc⟩

end Numbers
end Go.Proofs.YtgfapncaddgmpaaDoor
