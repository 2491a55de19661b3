/- The draws of chapter 1: numbers and texts, each a function of the code alone. -/
import Derived.Test.YtgfapncaddgmpaaDoorDrawSpoil
import Derived.Test.YtgfapncaddgmpaaDoorNumbersL
import Derived.Test.YtgfapncaddgmpaaDoorVarWalks
import Derived.Test.YtgfapncaddgmpaaDoorFixedWalks
namespace Go.Proofs.YtgfapncaddgmpaaDoor
open Go.RowKit
namespace Draw
open Num Bytes

theorem varC (n : Int) (w : World) :
    Calls Tryd.prog 9 #[.int .i64 n] w fun e w' => e = .returned (.string ⟨(varB n).toArray⟩) ∧ Below w.heap.size w w' := by
  by_cases h : 0 ≤ n ∧ n ≤ 562949953421311
  · have e : varB n = vb 7 n.toNat := by unfold varB; rw [if_pos h]
    rw [e]
    obtain ⟨m, rfl⟩ := Int.eq_ofNat_of_zero_le h.1
    rw [Int.toNat_natCast]
    exact Var.impl_yes m w (by omega)
  · have e : varB n = [] := by unfold varB; rw [if_neg h]
    rw [e]
    exact (Var.impl_no n w (by omega)).mono fun _ _ q => ⟨q.1, q.2 ▸ Below.refl _ _⟩

theorem varSC (n : Int) (w : World) :
    Calls Tryd.prog 27 #[.int .i64 n] w fun e w' => e = .returned (.string ⟨(varB n).toArray⟩) ∧ Below w.heap.size w w' := by
  by_cases h : 0 ≤ n ∧ n ≤ 562949953421311
  · have e : varB n = vb 7 n.toNat := by unfold varB; rw [if_pos h]
    rw [e]
    obtain ⟨m, rfl⟩ := Int.eq_ofNat_of_zero_le h.1
    rw [Int.toNat_natCast]
    exact Var.spec_yes m w (by omega)
  · have e : varB n = [] := by unfold varB; rw [if_neg h]
    rw [e]
    exact (Var.spec_no n w (by omega)).mono fun _ _ q => ⟨q.1, q.2 ▸ Below.refl _ _⟩

theorem fixC (n : Int) (w : World) :
    Calls Tryd.prog 11 #[.int .i64 n, .int .i64 7] w fun e w' => e = .returned (.string ⟨(fixB n).toArray⟩) ∧ Below w.heap.size w w' := by
  have h7 : (256 : Nat) ^ 7 = 72057594037927936 := by decide
  by_cases h0 : n < 0
  · have e : fixB n = [] := by unfold fixB; rw [if_neg (by omega)]
    rw [e]
    exact (Fixed.impl_no n 7 w (.inr (.inr h0))).mono fun _ _ q => ⟨q.1, q.2 ▸ Below.refl _ _⟩
  · obtain ⟨m, rfl⟩ := Int.eq_ofNat_of_zero_le (show 0 ≤ n by omega)
    by_cases h : (m : Int) < 72057594037927936
    · have e : fixB (m : Int) = fixedTo m 7 7 := by unfold fixB; rw [if_pos ⟨by omega, h⟩, Int.toNat_natCast]
      rw [e]
      exact Fixed.impl_yes m 7 w (by omega) (by omega) (by rw [h7]; omega)
    · have e : fixB (m : Int) = [] := by unfold fixB; rw [if_neg (by omega)]
      rw [e]
      exact (Fixed.impl_big m 7 w (by omega) (by omega) (by rw [h7]; omega)).mono fun _ _ q => ⟨q.1, q.2 ▸ Below.refl _ _⟩

/-- what was new stays above what was there -/
theorem below_new {w w1 w2 : World} (h : w.grownBy w1 none) (k : w1.grownBy w2 (some w.heap.size)) : Below w.heap.size w w2 :=
  ⟨k.os.trans h.os, k.tape.trans h.tape, k.output.trans h.output, Nat.le_trans h.size k.size, fun i hi => (k.block i (Nat.lt_of_lt_of_le hi h.size) (fun e => by injection e with e; omega)).trans (h.block i hi (by simp))⟩

theorem drawVarC (B : Nat) (v : Value) (l : List UInt8) (w : World) (hC : Code B w v l) (hB : B ≤ w.heap.size) (hl : l.length ≤ 1048576) :
    Calls Tryd.prog 7 #[v] w fun e w' => e = .returned (.int .i64 (num l (st0 l))) ∧ Below w.heap.size w w' := by
  have HC : Hid (Code B w v l) := hC
  clear hC
  go_enter Tryd.func7, Tryd.ntmps7
  go_wp2_with fail
  refine (newC B v l _ HC.out hB hl).mono ?_
  rintro e w1 ⟨rfl, hc, hg⟩
  go_wp2_with fail
  refine (numC B _ v l _ _ hc).mono ?_
  rintro e w2 ⟨rfl, hc2, hg2⟩
  go_wp2
  go_ret
  exact ⟨rfl, below_new hg hg2⟩

theorem drawHexC (B : Nat) (v : Value) (l : List UInt8) (w : World) (hC : Code B w v l) (hB : B ≤ w.heap.size) (hl : l.length ≤ 1048576) :
    Calls Tryd.prog 8 #[v] w fun e w' => e = .returned (.string ⟨(text l (st0 l) 40).toArray⟩) ∧ Below w.heap.size w w' := by
  have HC : Hid (Code B w v l) := hC
  clear hC
  go_enter Tryd.func8, Tryd.ntmps8
  go_wp2_with fail
  refine (newC B v l _ HC.out hB hl).mono ?_
  rintro e w1 ⟨rfl, hc, hg⟩
  go_wp2_with fail
  refine (textC B _ v l _ 40 (by omega) _ hc).mono ?_
  rintro e w2 ⟨rfl, hc2, hg2⟩
  go_wp2
  go_ret
  exact ⟨rfl, below_new hg hg2⟩

/-- the text that DrawReadVar draws -/
def rvText (l : List UInt8) : ByteArray :=
  if below l (textSt l (numSt l (st0 l)) 4) 4 = 0 then spoil l (belowSt l (textSt l (numSt l (st0 l)) 4) 4) (⟨(varB (num l (st0 l))).toArray⟩ ++ ⟨(text l (numSt l (st0 l)) 4).toArray⟩)
  else ⟨(varB (num l (st0 l))).toArray⟩ ++ ⟨(text l (numSt l (st0 l)) 4).toArray⟩
theorem varB_len (n : Int) : (varB n).length ≤ 8 := by
  unfold varB
  split
  · exact vb_len 7 _ 8 (by omega) (by have : (128 : Nat) ^ 8 = 72057594037927936 := by decide
                                      omega)
  · simp
theorem rvText_size (l : List UInt8) : (rvText l).size ≤ 100 := by
  have h1 := varB_len (num l (st0 l))
  have h2 := text_length l (numSt l (st0 l)) 4
  have h3 : ((⟨(varB (num l (st0 l))).toArray⟩ : ByteArray) ++ ⟨(text l (numSt l (st0 l)) 4).toArray⟩).size ≤ 12 := by
    rw [ByteArray.size_append, size_mk, size_mk]; omega
  unfold rvText
  split
  · have := spoil_size l (belowSt l (textSt l (numSt l (st0 l)) 4) 4) (⟨(varB (num l (st0 l))).toArray⟩ ++ ⟨(text l (numSt l (st0 l)) 4).toArray⟩)
    omega
  · omega

set_option maxRecDepth 100000 in
theorem drawReadVarC (B : Nat) (v : Value) (l : List UInt8) (w : World) (hC : Code B w v l) (hB : B ≤ w.heap.size) (hl : l.length ≤ 1048576) :
    Calls Tryd.prog 17 #[v] w fun e w' => e = .returned (.string (rvText l)) ∧ Below w.heap.size w w' := by
  have HC : Hid (Code B w v l) := hC
  have h1 := varB_len (num l (st0 l))
  have h2 := text_length l (numSt l (st0 l)) 4
  have HX : Hid (rvText l = if below l (textSt l (numSt l (st0 l)) 4) 4 = 0 then spoil l (belowSt l (textSt l (numSt l (st0 l)) 4) 4) (⟨(varB (num l (st0 l))).toArray⟩ ++ ⟨(text l (numSt l (st0 l)) 4).toArray⟩) else ⟨(varB (num l (st0 l))).toArray⟩ ++ ⟨(text l (numSt l (st0 l)) 4).toArray⟩) := rfl
  clear hC
  obtain ⟨F, hF⟩ : ∃ F, varB (num l (st0 l)) = F := ⟨_, rfl⟩
  obtain ⟨T, hT⟩ : ∃ T, text l (numSt l (st0 l)) 4 = T := ⟨_, rfl⟩
  rw [hF] at h1 HX
  rw [hT] at h2 HX
  have HF : Hid (varB (num l (st0 l)) = F) := hF
  have HT : Hid (text l (numSt l (st0 l)) 4 = T) := hT
  have hFs : (⟨F.toArray⟩ : ByteArray).size + (⟨T.toArray⟩ : ByteArray).size ≤ 12 := by rw [size_mk, size_mk]; omega
  have hps : ((⟨F.toArray⟩ : ByteArray) ++ ⟨T.toArray⟩).size ≤ 12 := by rw [ByteArray.size_append]; exact hFs
  have HPS : Hid (((⟨F.toArray⟩ : ByteArray) ++ ⟨T.toArray⟩).size ≤ 12) := hps
  clear hF hT hps
  go_enter Tryd.func17, Tryd.ntmps17
  go_wp2_with fail
  refine (newC B v l _ HC.out hB hl).mono ?_
  rintro e w1 ⟨rfl, hc, hg⟩
  go_wp2_with fail
  refine (numC B _ v l _ _ hc).mono ?_
  rintro e w2 ⟨rfl, hc2, hg2⟩
  have hb2 := below_new hg hg2
  go_wp2_with fail
  refine (varSC _ _).mono ?_
  rw [HF.out]
  rintro e w3 ⟨rfl, hb3⟩
  have hc3 : Ctx B w.heap.size v l (numSt l (st0 l)) w3 := hc2.grown ⟨hb3.os, hb3.tape, hb3.output, hb3.size, fun k hk _ => hb3.block k hk⟩ (r := none) (fun k e => by cases e)
  have hb13 : w1.grownBy w3 (some w.heap.size) := grown_trans hg2 ⟨hb3.os, hb3.tape, hb3.output, hb3.size, fun k hk _ => hb3.block k hk⟩
  clear hc hc2 hg2 hb2 hb3
  go_wp2_with fail
  refine (textC B _ v l _ 4 (by omega) _ hc3).mono ?_
  rw [HT.out]
  rintro e w4 ⟨rfl, hc4, hg4⟩
  have hb14 := grown_trans hb13 hg4
  clear hc3 hb13 hg4
  go_wp2_with fail
  refine (onceC B _ v l _ 4 _ hc4).mono ?_
  by_cases h0 : below l (textSt l (numSt l (st0 l)) 4) 4 = 0
  · rw [if_pos h0] at HX
    have hq : (below l (textSt l (numSt l (st0 l)) 4) 4 == 0) = true := by rw [h0]; rfl
    rw [hq]
    clear h0 hq
    rintro e w5 ⟨rfl, hc5, hg5⟩
    have hb15 := grown_trans hb14 hg5
    clear hc4 hb14 hg5
    go_wp2_with fail
    refine (spoilC B _ v l _ _ ?_ _ hc5).mono ?_
    · have := HPS.out; first | exact Nat.le_trans this (by omega) | (simp at this ⊢; omega)
    rintro e w6 ⟨rfl, hc6, hg6⟩
    go_wp2
    go_ret
    exact ⟨ret_s HX.out.symm, below_new hg (grown_trans hb15 hg6)⟩
  · rw [if_neg h0] at HX
    have hq : (below l (textSt l (numSt l (st0 l)) 4) 4 == 0) = false := by rw [beq_eq_false_iff_ne]; exact h0
    rw [hq]
    clear h0 hq
    rintro e w5 ⟨rfl, hc5, hg5⟩
    go_wp2
    go_ret
    exact ⟨ret_s HX.out.symm, below_new hg (grown_trans hb14 hg5)⟩
end Draw
end Go.Proofs.YtgfapncaddgmpaaDoor
