/- Both ReadDec tell the number of at most nine digits of which Dec makes the text. -/
import Derived.Test.YtjopmakbnompnaaDoorDecWalks
namespace Go.Proofs.YtjopmakbnompnaaDoor
open Go.RowKit
namespace ReadDec
open Num Bytes

/-- the two errors that strconv hands on are there -/
def Errs (w : World) : Prop := (∃ tp p, w.var? Tryd.prog "strconv.ErrSyntax" = some #[.iface tp p]) ∧ ∃ tp p, w.var? Tryd.prog "strconv.ErrRange" = some #[.iface tp p]
theorem gSyn : Tryd.prog.globalNamed "strconv.ErrSyntax" = some 2 := by kernel_rfl
theorem gRan : Tryd.prog.globalNamed "strconv.ErrRange" = some 3 := by kernel_rfl
theorem var_lt {w : World} {name : String} {g : Nat} {cs : Array Value} (hg : Tryd.prog.globalNamed name = some g) (h : w.var? Tryd.prog name = some cs) : g < w.heap.size := by
  rcases Nat.lt_or_ge g w.heap.size with h1 | h1
  · exact h1
  · exfalso
    simp [World.var?, hg, Array.getElem?_eq_none h1] at h
theorem Errs.on {w w' : World} (h : Errs w) (hb : Below w.heap.size w w') : Errs w' := by
  obtain ⟨⟨t1, p1, h1⟩, t2, p2, h2⟩ := h
  exact ⟨⟨t1, p1, var?_below hb gSyn (var_lt gSyn h1) h1⟩, t2, p2, var?_below hb gRan (var_lt gRan h2) h2⟩

/-- the answer is that of the text -/
def Told (l : List UInt8) (e : Ending) : Prop := ∃ (n : Int) (b : Bool), e = .returned (.tuple #[.int .i64 n, .bool b]) ∧ RdRes l n b

theorem atoi_ok (s : ByteArray) (hs : s.size ≤ 1048576) (v : Int) (h : Lib.atoiAll s.data.toList = .ok v) (w : World) :
    Calls Tryd.prog 57 #[.string s] w fun e w' => e = .returned (.tuple #[.int .i64 v, .nilIface]) ∧ Below w.heap.size w w' := by
  refine (Any.strconv_Atoi_ok Tryd.laysC172 s (by omega) v h w).mono ?_
  rintro e w' ⟨rfl, rfl | ⟨t, rfl⟩⟩
  · exact ⟨rfl, Below.refl _ _⟩
  · exact ⟨rfl, Lib.bytesWorld_below _ _ _⟩

theorem atoi_err (s : ByteArray) (hs : s.size ≤ 1048576) (h : ∀ v, Lib.atoiAll s.data.toList ≠ .ok v) (w : World) (he : Errs w) :
    Calls Tryd.prog 57 #[.string s] w fun e w' => ∃ (x : Int) (N : Nat), e = .returned (.tuple #[.int .i64 x, .iface (Tryd.laysC172_ren.t 168) (.pointer (some ⟨N, 0, none⟩))]) ∧ Below w.heap.size w w' := by
  obtain ⟨⟨t1, p1, h1⟩, t2, p2, h2⟩ := he
  cases hq : Lib.atoiAll s.data.toList
  · exact absurd hq (h _)
  · refine (Any.strconv_Atoi_syntax_var Tryd.laysC172 s (by omega) hq t1 p1 w h1).mono ?_
    rintro e w' ⟨N, rfl, _, _, hb⟩
    exact ⟨_, N, rfl, hb⟩
  · refine (Any.strconv_Atoi_range_var Tryd.laysC172 s (by omega) hq t2 p2 w h2).mono ?_
    rintro e w' ⟨N, rfl, _, _, hb⟩
    exact ⟨_, N, rfl, hb⟩

set_option maxRecDepth 100000 in
set_option maxHeartbeats 400000 in
theorem impl_any (s : ByteArray) (hs : s.size ≤ 1048576) (w : World) (ht : Dec.Tab w) (he : Errs w) :
    Calls Tryd.prog 39 #[.string s] w fun e w' => Told s.data.toList e ∧ Below w.heap.size w w' := by
  have hL : s.toList = s.data.toList := ByteArray.toList_eq s
  by_cases hok : ∃ v, Lib.atoiAll s.data.toList = .ok v
  · obtain ⟨v, hv⟩ := hok
    by_cases hr : v < -999999999 ∨ 999999999 < v
    · have HR : Hid (RdRes s.data.toList 0 false) := rd_out hv hr
      have HV : Hid (Lib.atoiAll s.data.toList = .ok v) := hv
      clear hv hL
      by_cases h1 : v < -999999999
      all_goals
        go_enter Tryd.func39, Tryd.ntmps39
        go_wp2_with fail
        refine (atoi_ok s hs v HV.out _).mono ?_
        rintro e w1 ⟨rfl, hB⟩
        go_wp2
        go_ret2
        exact ⟨⟨_, _, rfl, HR.out⟩, hB⟩
    · have h1 : -999999999 ≤ v := by omega
      have h2 : v ≤ 999999999 := by omega
      have HV : Hid (Lib.atoiAll s.data.toList = .ok v) := hv
      by_cases hq0 : Lib.itoa v = s.data.toList
      · have HR : Hid (RdRes s.data.toList v true) := .inl ⟨rfl, h1, h2, hq0⟩
        have hq : (Lib.itoa v == s.toList) = true := by rw [hL]; simp [hq0]
        clear hv hq0 hr hL
        go_enter Tryd.func39, Tryd.ntmps39
        go_wp2_with fail
        refine (atoi_ok s hs v HV.out _).mono ?_
        rintro e w1 ⟨rfl, hB⟩
        go_wp2_with fail
        refine (Dec.impl_any v (by omega) (by omega) _ (ht.on hB)).mono ?_
        rintro e w2 ⟨rfl, hB2⟩
        go_wp2
        go_ret2
        exact ⟨⟨_, _, rfl, HR.out⟩, hB.trans (hB2.mono hB.size)⟩
      · have HR : Hid (RdRes s.data.toList 0 false) := rd_ne hv hq0
        have hq : (Lib.itoa v == s.toList) = false := by rw [hL, beq_eq_false_iff_ne]; exact hq0
        clear hv hq0 hr hL
        go_enter Tryd.func39, Tryd.ntmps39
        go_wp2_with fail
        refine (atoi_ok s hs v HV.out _).mono ?_
        rintro e w1 ⟨rfl, hB⟩
        go_wp2_with fail
        refine (Dec.impl_any v (by omega) (by omega) _ (ht.on hB)).mono ?_
        rintro e w2 ⟨rfl, hB2⟩
        go_wp2
        go_ret2
        exact ⟨⟨_, _, rfl, HR.out⟩, hB.trans (hB2.mono hB.size)⟩
  · have hno : ∀ v, Lib.atoiAll s.data.toList ≠ .ok v := fun v h => hok ⟨v, h⟩
    have HR : Hid (RdRes s.data.toList 0 false) := rd_err hno
    have HN : Hid (∀ v, Lib.atoiAll s.data.toList ≠ .ok v) := hno
    clear hok hno hL
    go_enter Tryd.func39, Tryd.ntmps39
    go_wp2_with fail
    refine (atoi_err s hs HN.out _ he).mono ?_
    rintro e w1 ⟨x, N, rfl, hB⟩
    go_wp2
    go_ret2
    exact ⟨⟨_, _, rfl, HR.out⟩, hB⟩

/-- the digits of the first k bytes -/
theorem tk_succ (s : ByteArray) (k : Nat) (h : k < s.size) : s.data.toList.take (k + 1) = s.data.toList.take k ++ [s[k]] := by
  rw [List.take_succ_eq_append_getElem (by simpa using h)]; rfl

set_option maxRecDepth 100000 in
set_option maxHeartbeats 800000 in
theorem spec_any (s : ByteArray) (hs : s.size ≤ 1048576) (w : World) :
    Calls Tryd.prog 36 #[.string s] w fun e w' => Told s.data.toList e ∧ Below w.heap.size w w' := by
  have hL : s.toList = s.data.toList := ByteArray.toList_eq s
  obtain ⟨L, hLL⟩ : ∃ L, s.data.toList = L := ⟨_, rfl⟩
  have hlen : L.length = s.size := by rw [← hLL]; simp
  have HT : Hid (∀ k (h : k < s.size), L.take (k + 1) = L.take k ++ [s[k]]) := fun k h => by rw [← hLL]; exact tk_succ s k h
  have HH : Hid (0 < s.size → ∀ h : 0 < s.size, L.head? = some s[0]) := fun _ h => by
    rw [← hLL]
    have h2 : 0 < s.data.toList.length := by simpa using h
    rw [List.head?_eq_getElem?, List.getElem?_eq_getElem h2]; rfl
  rw [hLL] at hL
  rw [hLL]
  clear hLL
  go_enter Tryd.func36, Tryd.ntmps36
  go_wp2
  go_loop [4, 5, 6] (fun v c i => ∃ m : Nat, m ≤ 11 ∧ m ≤ s.size ∧ i = .int .i64 m ∧ v = .int .i64 (dsum (L.take m) 0 : Nat) ∧ c = .int .i64 (dcnt (L.take m) : Nat)) (fun _ _ i => 11 - (intOf i).toNat)
  case atStart => exact ⟨0, by omega, by omega, rfl, rfl, rfl⟩
  case round =>
    obtain ⟨m, hm1, hm2, rfl, rfl, rfl⟩ := hrel
    have hcm : dcnt (L.take m) ≤ m := Nat.le_trans (dcnt_le _) (List.length_take_le _ _)
    have hsb := dsum_lt (L.take m) 0
    have hpw : 10 ^ dcnt (L.take m) ≤ 10 ^ 11 := Nat.pow_le_pow_right (by omega) (by omega)
    have hp11 : (10 : Nat) ^ 11 = 100000000000 := by decide
    rw [hp11] at hpw
    have hsm : dsum (L.take m) 0 ≤ 100000000000 := by omega
    by_cases hlt : m < s.size ∧ m < 11
    · obtain ⟨hl1, hl2⟩ := hlt
      have hc : s[m].toNat < 256 := s[m].toNat_lt
      by_cases hd : isDig s[m] = true
      · have hd' : 48 ≤ s[m].toNat ∧ s[m].toNat ≤ 57 := by simpa [isDig] using hd
        have HS : Hid (dsum (L.take (m + 1)) 0 = dsum (L.take m) 0 * 10 + (s[m].toNat - 48)) := by show _ = _; rw [HT.out m hl1, dsum_append, dsum_one _ _ hd]
        have HC : Hid (dcnt (L.take (m + 1)) = dcnt (L.take m) + 1) := by show _ = _; rw [HT.out m hl1, dcnt_append, dcnt_one _ hd]
        obtain ⟨hd1, hd2⟩ := hd'
        have hd1' : (48 : Int) ≤ s[m].toNat := by omega
        have hd2' : (s[m].toNat : Int) ≤ 57 := by omega
        clear hd hsb hpw hp11
        obtain ⟨A, hA⟩ : ∃ A, dsum (L.take m) 0 = A := ⟨_, rfl⟩
        obtain ⟨B, hB⟩ : ∃ B, dcnt (L.take m) = B := ⟨_, rfl⟩
        rw [hA] at HS hsm
        rw [hB] at HC hcm
        rw [hA, hB]
        clear hA hB
        go_wp2
        go_round
        case rel => exact ⟨m + 1, by omega, by omega, by go_num, by rw [HS.out]; go_num, by rw [HC.out]; go_num⟩
        case measure => simp only [intOf]; omega
      · have HS : Hid (dsum (L.take (m + 1)) 0 = dsum (L.take m) 0) := by show _ = _; rw [HT.out m hl1, dsum_append]; simp [dsum, hd]
        have HC : Hid (dcnt (L.take (m + 1)) = dcnt (L.take m)) := by show _ = _; rw [HT.out m hl1, dcnt_append]; simp [dcnt, hd]
        have hd' : ¬ (48 ≤ s[m].toNat ∧ s[m].toNat ≤ 57) := by simpa [isDig] using hd
        clear hd hsb hpw hp11
        obtain ⟨A, hA⟩ : ∃ A, dsum (L.take m) 0 = A := ⟨_, rfl⟩
        obtain ⟨B, hB⟩ : ∃ B, dcnt (L.take m) = B := ⟨_, rfl⟩
        rw [hA] at HS hsm
        rw [hB] at HC hcm
        rw [hA, hB]
        clear hA hB
        by_cases h48 : (48 : Int) ≤ s[m].toNat
        all_goals
          go_wp2
          go_round
          case rel => exact ⟨m + 1, by omega, by omega, by go_num, by rw [HS.out], by rw [HC.out]⟩
          case measure => simp only [intOf]; omega
    · have HT11 : Hid (L.take m = L.take 11) := by
        show _ = _
        by_cases h11 : m = 11
        · rw [h11]
        · rw [List.take_of_length_le (by omega), List.take_of_length_le (by omega)]
      rw [HT11.out] at hsm
      rw [HT11.out]
      have HX0 : Hid (specNum L = if L.head? = some 45 then -(dsum (L.take 11) 0 : Int) else dsum (L.take 11) 0) := rfl
      clear hsb hpw hp11 hcm
      obtain ⟨A, hA⟩ : ∃ A, dsum (L.take 11) 0 = A := ⟨_, rfl⟩
      obtain ⟨B, hB⟩ : ∃ B, dcnt (L.take 11) = B := ⟨_, rfl⟩
      rw [hA] at hsm HX0
      rw [hA, hB]
      clear hA
      have hmI : ¬ ((m : Int) < s.size ∧ (m : Int) < 11) := by omega
      by_cases hmlt : (m : Int) < s.size
      · have h10 : (10 : Int) < (s.size : Int) := by omega
        have HR : Hid (RdRes L 0 false) := spec_no (.inr (.inl (by omega)))
        have h0 : (0 : Int) < s.size := by omega
        clear HX0 HT HH
        by_cases h45 : s[0].toNat = 45
        · have h45' : ((s[0].toNat : Int) == 45) = true := by rw [h45]; rfl
          clear h45
          by_cases hC : (9 : Int) < (B : Int)
          all_goals
            go_wp2
            go_ret2
            exact ⟨⟨_, _, rfl, HR.out⟩, Below.refl _ _⟩
        · have h45' : ((s[0].toNat : Int) == 45) = false := by rw [beq_eq_false_iff_ne]; omega
          clear h45
          by_cases hC : (9 : Int) < (B : Int)
          all_goals
            go_wp2
            go_ret2
            exact ⟨⟨_, _, rfl, HR.out⟩, Below.refl _ _⟩
      · skip
        by_cases h0 : (0 : Int) < s.size
        · by_cases h45 : s[0].toNat = 45
          · have h45' : ((s[0].toNat : Int) == 45) = true := by rw [h45]; rfl
            have HX : Hid (specNum L = -(A : Int)) := by
              show _ = _
              rw [HX0.out, if_pos]
              rw [HH.out (by omega) (by omega)]
              congr 1
              apply UInt8.toNat_inj.1; rw [h45]; rfl
            clear h45 HX0 HT HH
            by_cases hC : (9 : Int) < (B : Int)
            · have HR : Hid (RdRes L 0 false) := spec_no (.inl (by omega))
              go_wp2
              go_ret2
              exact ⟨⟨_, _, rfl, HR.out⟩, Below.refl _ _⟩
            · by_cases h10 : (10 : Int) < (s.size : Int)
              · have HR : Hid (RdRes L 0 false) := spec_no (.inr (.inl (by omega)))
                go_wp2
                go_ret2
                exact ⟨⟨_, _, rfl, HR.out⟩, Below.refl _ _⟩
              · by_cases hq0 : Lib.itoa (-(A : Int)) = L
                · have hq : (Lib.itoa (-(A : Int)) == L) = true := by simp [hq0]
                  have HR : Hid (RdRes L (-(A : Int)) true) := by
                    have := spec_yes (l := L) (by omega) (by rw [HX.out]; exact hq0)
                    rw [HX.out] at this; exact this
                  clear hq0
                  go_wp2_with fail
                  refine (Dec.spec_any (-(A : Int)) (by omega) (by omega) _).mono ?_
                  rintro e w2 ⟨rfl, hB2⟩
                  go_wp2
                  go_ret2
                  exact ⟨⟨_, _, rfl, HR.out⟩, hB2⟩
                · have hq : (Lib.itoa (-(A : Int)) == L) = false := by rw [beq_eq_false_iff_ne]; exact hq0
                  have HR : Hid (RdRes L 0 false) := spec_no (.inr (.inr (by rw [HX.out]; exact hq0)))
                  clear hq0
                  go_wp2_with fail
                  refine (Dec.spec_any (-(A : Int)) (by omega) (by omega) _).mono ?_
                  rintro e w2 ⟨rfl, hB2⟩
                  go_wp2
                  go_ret2
                  exact ⟨⟨_, _, rfl, HR.out⟩, hB2⟩
          · have h45' : ((s[0].toNat : Int) == 45) = false := by rw [beq_eq_false_iff_ne]; omega
            have HX : Hid (specNum L = (A : Int)) := by
              show _ = _
              rw [HX0.out, if_neg]
              rw [HH.out (by omega) (by omega)]
              intro e
              injection e with e
              rw [e] at h45
              exact h45 rfl
            clear h45 HX0 HT HH
            by_cases hC : (9 : Int) < (B : Int)
            · have HR : Hid (RdRes L 0 false) := spec_no (.inl (by omega))
              go_wp2
              go_ret2
              exact ⟨⟨_, _, rfl, HR.out⟩, Below.refl _ _⟩
            · by_cases h10 : (10 : Int) < (s.size : Int)
              · have HR : Hid (RdRes L 0 false) := spec_no (.inr (.inl (by omega)))
                go_wp2
                go_ret2
                exact ⟨⟨_, _, rfl, HR.out⟩, Below.refl _ _⟩
              · by_cases hq0 : Lib.itoa ((A : Int)) = L
                · have hq : (Lib.itoa ((A : Int)) == L) = true := by simp [hq0]
                  have HR : Hid (RdRes L ((A : Int)) true) := by
                    have := spec_yes (l := L) (by omega) (by rw [HX.out]; exact hq0)
                    rw [HX.out] at this; exact this
                  clear hq0
                  go_wp2_with fail
                  refine (Dec.spec_any ((A : Int)) (by omega) (by omega) _).mono ?_
                  rintro e w2 ⟨rfl, hB2⟩
                  go_wp2
                  go_ret2
                  exact ⟨⟨_, _, rfl, HR.out⟩, hB2⟩
                · have hq : (Lib.itoa ((A : Int)) == L) = false := by rw [beq_eq_false_iff_ne]; exact hq0
                  have HR : Hid (RdRes L 0 false) := spec_no (.inr (.inr (by rw [HX.out]; exact hq0)))
                  clear hq0
                  go_wp2_with fail
                  refine (Dec.spec_any ((A : Int)) (by omega) (by omega) _).mono ?_
                  rintro e w2 ⟨rfl, hB2⟩
                  go_wp2
                  go_ret2
                  exact ⟨⟨_, _, rfl, HR.out⟩, hB2⟩
        · have HX : Hid (specNum L = (A : Int)) := by
            show _ = _
            rw [HX0.out, if_neg]
            have : L = [] := List.eq_nil_of_length_eq_zero (by omega)
            rw [this]; simp
          clear HX0 HT HH
          by_cases hC : (9 : Int) < (B : Int)
          · have HR : Hid (RdRes L 0 false) := spec_no (.inl (by omega))
            go_wp2
            go_ret2
            exact ⟨⟨_, _, rfl, HR.out⟩, Below.refl _ _⟩
          · have h10 : ¬ (10 : Int) < (s.size : Int) := by omega
            by_cases hq0 : Lib.itoa ((A : Int)) = L
            · have hq : (Lib.itoa ((A : Int)) == L) = true := by simp [hq0]
              have HR : Hid (RdRes L ((A : Int)) true) := by
                have := spec_yes (l := L) (by omega) (by rw [HX.out]; exact hq0)
                rw [HX.out] at this; exact this
              clear hq0
              go_wp2_with fail
              refine (Dec.spec_any ((A : Int)) (by omega) (by omega) _).mono ?_
              rintro e w2 ⟨rfl, hB2⟩
              go_wp2
              go_ret2
              exact ⟨⟨_, _, rfl, HR.out⟩, hB2⟩
            · have hq : (Lib.itoa ((A : Int)) == L) = false := by rw [beq_eq_false_iff_ne]; exact hq0
              have HR : Hid (RdRes L 0 false) := spec_no (.inr (.inr (by rw [HX.out]; exact hq0)))
              clear hq0
              go_wp2_with fail
              refine (Dec.spec_any ((A : Int)) (by omega) (by omega) _).mono ?_
              rintro e w2 ⟨rfl, hB2⟩
              go_wp2
              go_ret2
              exact ⟨⟨_, _, rfl, HR.out⟩, hB2⟩

end ReadDec
end Go.Proofs.YtjopmakbnompnaaDoor
