/- What is made of a number is read as it, whatever stands behind; no other text is read: FnNumbers answers true. -/
import Derived.Test.YtgfapncaddgmpaaDoorDraws1
import Derived.Test.YtgfapncaddgmpaaDoorArgs
import Derived.Test.YtgfapncaddgmpaaDoorReadFixedWalks
import Derived.Test.YtgfapncaddgmpaaDoorReadVarWalks
import Derived.Test.YtgfapncaddgmpaaDoorHexWalks
import Derived.Test.YtgfapncaddgmpaaDoorUnhexWalks
import Derived.Test.YtgfapncaddgmpaaDoorReadDecWalks
namespace Go.Proofs.YtgfapncaddgmpaaDoor
open Go.RowKit
namespace Numbers
open Num Bytes Draw

theorem bigC (a : Option Addr) (len cap : Nat) (w : World) : Calls Tryd.prog 6 #[.slice a len cap] w fun e w' => e = .returned (.bool (decide ((1048576 : Int) < (len : Int)))) ∧ w = w' := by
  go_enter Tryd.func6, Tryd.ntmps6
  go_wp2
  go_ret
  exact ⟨rfl, rfl⟩

theorem cat_size (S t : List UInt8) (h : S.length + t.length ≤ 100) : ((⟨S.toArray⟩ : ByteArray) ++ ⟨t.toArray⟩).size ≤ maxLen := by
  rw [ByteArray.size_append, size_mk, size_mk]; unfold maxLen; omega

/-- a number's Var, whatever stands behind, is read as it -/
theorem rvIn (n : Int) (S t : List UInt8) (h0 : 0 ≤ n) (hm : n ≤ 562949953421311) (hS : vb 7 n.toNat = S) (h : S.length + t.length ≤ 100) (w : World) :
    Calls Tryd.prog 10 #[.string (⟨S.toArray⟩ ++ ⟨t.toArray⟩)] w fun e w' => e = .returned (.tuple #[.int .i64 n, .int .i64 (S.length : Int)]) ∧ w = w' := by
  obtain ⟨m, rfl⟩ := Int.eq_ofNat_of_zero_le h0
  rw [Int.toNat_natCast] at hS
  refine (ReadVar.impl_any _ w (cat_size S t h)).mono ?_
  rintro e w' ⟨⟨x, k, rfl, hr⟩, rfl⟩
  have hu := res_vb m (by omega) t
  rw [hS, ← ByteArray.mk_append_mk] at hu
  obtain ⟨rfl, rfl⟩ := hr.unique hu
  exact ⟨rfl, rfl⟩
theorem rvAny (p : ByteArray) (hp : p.size ≤ maxLen) (w : World) :
    Calls Tryd.prog 10 #[.string p] w fun e w' => (∃ x k : Nat, e = .returned (.tuple #[.int .i64 (x : Int), .int .i64 (k : Int)]) ∧ Hid (Res p x k)) ∧ w = w' := by
  refine (ReadVar.impl_any _ w hp).mono ?_
  rintro e w' ⟨⟨x, k, rfl, hr⟩, rfl⟩
  exact ⟨⟨x, k, rfl, hr⟩, rfl⟩
theorem rfIn (n : Int) (F t : List UInt8) (h0 : 0 ≤ n) (hm : n < 72057594037927936) (hF : fixedTo n.toNat 7 7 = F) (h : F.length + t.length ≤ 100) (w : World) :
    Calls Tryd.prog 12 #[.string (⟨F.toArray⟩ ++ ⟨t.toArray⟩), .int .i64 7] w fun e w' => e = .returned (.tuple #[.int .i64 n, .bool true]) ∧ w = w' := by
  obtain ⟨m, rfl⟩ := Int.eq_ofNat_of_zero_le h0
  rw [Int.toNat_natCast] at hF
  have hl : F.length = 7 := by rw [← hF, fixedTo_length]
  have hb := beTo_fixed m (by omega) t
  rw [hF, ← ByteArray.mk_append_mk] at hb
  have hy := ReadFixed.impl_yes (⟨F.toArray⟩ ++ ⟨t.toArray⟩) 7 w (cat_size F t h) (by omega) (by omega) (by rw [ByteArray.size_append, size_mk, size_mk]; omega)
  rw [hb, show ((7 : Nat) : Int) = 7 from rfl] at hy
  exact hy.mono fun _ _ q => ⟨q.1, q.2.symm⟩
theorem rfAny (p : ByteArray) (hp : p.size ≤ maxLen) (w : World) :
    Calls Tryd.prog 12 #[.string p, .int .i64 7] w fun e w' => (∃ (y : Nat) (z : Int), e = .returned (.tuple #[.int .i64 (y : Int), .bool (z == 1)])) ∧ w = w' := by
  by_cases h : 7 ≤ p.size
  · have hy := ReadFixed.impl_yes p 7 w hp (by omega) (by omega) h
    rw [show ((7 : Nat) : Int) = 7 from rfl] at hy
    exact hy.mono fun _ _ q => ⟨⟨_, 1, q.1⟩, q.2.symm⟩
  · refine (ReadFixed.impl_no p 7 w hp (.inr (.inr (by omega)))).mono ?_
    rintro e w' ⟨rfl, rfl⟩
    exact ⟨⟨0, 0, rfl⟩, rfl⟩
theorem rdIn (n : Int) (h0 : -999999999 ≤ n) (h1 : n ≤ 999999999) (w : World) (ht : Dec.Tab w) (he : ReadDec.Errs w) :
    Calls Tryd.prog 13 #[.string ⟨(Lib.itoa n).toArray⟩] w fun e w' => e = .returned (.tuple #[.int .i64 n, .bool true]) ∧ Below w.heap.size w w' := by
  have hl := Lib.itoa_length_le n (by omega) (by omega)
  refine (ReadDec.impl_any _ (by rw [size_mk]; omega) w ht he).mono ?_
  rintro e w' ⟨⟨d, b, rfl, hr⟩, hb⟩
  obtain ⟨rfl, rfl⟩ := hr.unique (rd_itoa_in n h0 h1)
  exact ⟨rfl, hb⟩
theorem rdOut (n : Int) (h : -9223372036854775808 ≤ n ∧ n ≤ 9223372036854775807) (h' : n < -999999999 ∨ 999999999 < n) (w : World) (ht : Dec.Tab w) (he : ReadDec.Errs w) :
    Calls Tryd.prog 13 #[.string ⟨(Lib.itoa n).toArray⟩] w fun e w' => e = .returned (.tuple #[.int .i64 0, .bool false]) ∧ Below w.heap.size w w' := by
  have hl := Lib.itoa_length_le n h.1 h.2
  refine (ReadDec.impl_any _ (by rw [size_mk]; omega) w ht he).mono ?_
  rintro e w' ⟨⟨d, b, rfl, hr⟩, hb⟩
  obtain ⟨rfl, rfl⟩ := hr.unique (rd_itoa_out n h h')
  exact ⟨rfl, hb⟩
theorem uhC (t : List UInt8) (h : t.length ≤ 100) (w : World) :
    Calls Tryd.prog 15 #[.string ⟨(hexL t).toArray⟩] w fun e w' => e = .returned (.tuple #[.string ⟨t.toArray⟩, .bool true]) ∧ Below w.heap.size w w' := by
  refine (Unhex.impl_any _ w (by rw [size_mk, hexL_length]; omega)).mono ?_
  rintro e w' ⟨⟨d, b, rfl, hr⟩, hb⟩
  obtain ⟨rfl, rfl⟩ := hr.unique (uh_hex t)
  exact ⟨rfl, hb⟩
theorem hexC (t : List UInt8) (h : t.length ≤ 100) (w : World) :
    Calls Tryd.prog 16 #[.string ⟨t.toArray⟩] w fun e w' => e = .returned (.string ⟨(hexL t).toArray⟩) ∧ Below w.heap.size w w' :=
  Hex.impl_any ⟨t.toArray⟩ w (by rw [size_mk]; omega)

/-- a text that is read as a number begins with that number's Var -/
theorem rv_var (p : ByteArray) (z j : Nat) (h : Res p z j) (hj : j ≠ 0) : z ≤ 562949953421311 ∧ j ≤ p.size ∧ (varB (z : Int) == (p.extract 0 j).toList) = true := by
  rcases h with ⟨rfl, _⟩ | ⟨h1, h7, hs, hv, rfl, _⟩
  · exact absurd rfl hj
  · have hl := lev_small (pre p j) (by rw [pre_length p j hs]; exact h7)
    refine ⟨hl, hs, ?_⟩
    have e : varB (lev (pre p j) : Int) = pre p j := by
      unfold varB
      rw [if_pos (by omega), Int.toNat_natCast]
      exact vb_lev 7 _ hv (by rw [pre_length p j hs]; omega)
    rw [e, pre_str p j hs, ByteArray.toList_mk]
    simp

end Numbers
end Go.Proofs.YtgfapncaddgmpaaDoor
