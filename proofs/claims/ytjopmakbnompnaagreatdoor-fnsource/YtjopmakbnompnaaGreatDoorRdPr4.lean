/- Several texts of one proof, in build order: DecWalks, Take, SourceSpec, ReadDecWalks, ReadOpSpec. -/
import Derived.Lib.AppendIntMem
import Derived.Outline
import Derived.OpenShut
import Derived.Deep.RegionHeld3
import Derived.Deep.QuietTactic
import Derived.BigQuiet
import Derived.Test.YtjopmakbnompnaaGreatDoorRdPr1
import Derived.Test.YtjopmakbnompnaaGreatDoorRdPr2
import Derived.Test.YtjopmakbnompnaaGreatDoorRdPr3
/- Both Dec return the number in decimal digits. -/
namespace Go.Proofs.YtjopmakbnompnaaGreatDoor
open Go.RowKit
namespace Dec
open Num Bytes

/-- the table that strconv reads -/
def Tab (w : World) : Prop := Lib.TabIs Tryz.prog w "internal/strconv.uint64pow10" .u64 Lib.pow10Tab
theorem Tab.on {w w' : World} (h : Tab w) (hb : Below w.heap.size w w') : Tab w' := Lib.tabBelow_of_tabIs h w' hb

theorem itoaC (n : Int) (h0 : -9223372036854775808 ≤ n) (h1 : n ≤ 9223372036854775807) (w : World) (ht : Tab w) :
    Calls Tryz.prog 77 #[.int .i64 n] w fun e w' => e = .returned (.string ⟨(Lib.itoa n).toArray⟩) ∧ Below w.heap.size w w' := by
  refine (Any.strconv_Itoa Tryz.laysM171 n h0 h1 w ht).mono ?_
  rintro e w' ⟨rfl, k, os, rfl⟩
  exact ⟨rfl, Lib.below_grow _ _ (Nat.le_refl _) _ _⟩

theorem impl_any (n : Int) (h0 : -9223372036854775808 ≤ n) (h1 : n ≤ 9223372036854775807) (w : World) (ht : Tab w) :
    Calls Tryz.prog 43 #[.int .i64 n] w fun e w' => e = .returned (.string ⟨(Lib.itoa n).toArray⟩) ∧ Below w.heap.size w w' := by
  go_enter Tryz.func43, Tryz.ntmps43
  go_wp2_with (go_at_call 77; refine (itoaC n h0 h1 _ ht).mono ?_; rintro e w1 ⟨rfl, hB⟩)
  go_ret
  exact ⟨rfl, hB⟩

theorem spec_zero (w : World) :
    Calls Tryz.prog 72 #[.int .i64 0] w fun e w' => e = .returned (.string ⟨(Lib.itoa 0).toArray⟩) ∧ Below w.heap.size w w' := by
  have HZ : Hid (Lib.itoa 0 = [48]) := by show _ = _; rw [show (0 : Int) = ((0 : Nat) : Int) from rfl, Lib.itoa_nonneg, Lib.decDigits]; rfl
  go_enter Tryz.func72, Tryz.ntmps72
  go_wp2
  go_ret
  exact ⟨congrArg (fun l : List UInt8 => Ending.returned (.string ⟨l.toArray⟩)) HZ.out.symm, Below.refl _ _⟩

set_option maxRecDepth 100000 in
set_option maxHeartbeats 800000 in
theorem spec_pos (n : Nat) (hn : (n : Int) ≤ 9223372036854775807) (h0 : (0 : Int) < n) (w : World) :
    Calls Tryz.prog 72 #[.int .i64 n] w fun e w' => e = .returned (.string ⟨(Lib.itoa n).toArray⟩) ∧ Below w.heap.size w w' := by
  have hz : ((n : Int) == 0) = false := by rw [beq_eq_false_iff_ne]; omega
  go_enter Tryz.func72, Tryz.ntmps72
  go_wp2
  go_loopw [0, 3, 5] (fun v s _ wr => ∃ k : Nat, v = .int .i64 ((n / 10 ^ k : Nat) : Int) ∧ s = .string ⟨(decTo n k).toArray⟩ ∧ (∀ j, j < k → n / 10 ^ j ≠ 0) ∧ k ≤ 20 ∧ Below w.heap.size w wr) (fun v _ _ _ => (intOf v).natAbs)
  case atStart => exact ⟨0, by simp, rfl, fun j hj => by omega, by omega, Below.refl _ _⟩
  case round =>
    obtain ⟨k, rfl, rfl, hne, hk, hB⟩ := hrel
    have HN : Hid (∀ j, j < k → n / 10 ^ j ≠ 0) := hne
    clear hne
    by_cases hd0 : n / 10 ^ k = 0
    · have HF : Hid (Lib.itoa n = decTo n k) := by show _ = _; rw [Lib.itoa_nonneg, decTo_all k n (by omega) HN.out hd0]
      rw [hd0]
      clear hd0
      go_wp2
      go_ret
      exact ⟨congrArg (fun l : List UInt8 => Ending.returned (.string ⟨l.toArray⟩)) HF.out.symm, hB⟩
    · have hk' := dk_lt n k (by omega) hd0
      have HN' : Hid (∀ j, j < k + 1 → n / 10 ^ j ≠ 0) := fun j hj => by
        rcases Nat.lt_or_ge j k with h1 | h1
        · exact HN.out j h1
        · rw [show j = k by omega]; exact hd0
      have HS : Hid (n / 10 ^ (k + 1) = n / 10 ^ k / 10) := dstep n k
      have HP : Hid (decTo n (k + 1) = UInt8.ofNat (48 + n / 10 ^ k % 10) :: decTo n k) := rfl
      have hle := Nat.div_le_self n (10 ^ k)
      obtain ⟨D, hD⟩ : ∃ D : Nat, n / 10 ^ k = D := ⟨_, rfl⟩
      rw [hD] at hd0 HS HP hle
      rw [hD]
      have hDn : (D : Int) ≤ 9223372036854775807 := by omega
      have hD1 : (1 : Int) ≤ (D : Int) := by omega
      have hq : ((D : Int) != 0) = true := by rw [bne_iff_ne]; omega
      have hv : 48 + (D : Int) % 10 = ((UInt8.ofNat (48 + D % 10)).toNat : Int) := by have := (dig_isDig (D % 10) (by omega)).2; omega
      have hcv := str1 (48 + (D : Int) % 10) (UInt8.ofNat (48 + D % 10)) hv wr
      obtain ⟨b, hbb⟩ : ∃ b, UInt8.ofNat (48 + D % 10) = b := ⟨_, rfl⟩
      rw [hbb] at HP hcv
      have hln : (decTo n k).length = k := decTo_length n k
      clear hbb hD hv hle hd0
      obtain ⟨F, hF⟩ : ∃ F, decTo n k = F := ⟨_, rfl⟩
      rw [hF] at hln HP
      rw [hF]
      clear hF
      go_wp2
      go_roundw
      case rel =>
        refine ⟨k + 1, ?_, ?_, HN'.out, by omega, hB.alloc hB.size _⟩
        · rw [HS.out]; simp
        · rw [HP.out]; simp [ByteArray.mk_append_mk]
      case measure => simp only [intOf]; omega

set_option maxRecDepth 100000 in
set_option maxHeartbeats 800000 in
theorem spec_neg (n : Nat) (N : Int) (hN : N = -(n : Int)) (hn : (n : Int) ≤ 9223372036854775808) (h0 : (0 : Int) < n) (w : World) :
    Calls Tryz.prog 72 #[.int .i64 N] w fun e w' => e = .returned (.string ⟨(Lib.itoa N).toArray⟩) ∧ Below w.heap.size w w' := by
  have hz : (N == 0) = false := by rw [beq_eq_false_iff_ne]; omega
  have hlt : N < 0 := by omega
  have HI : Hid (Lib.itoa N = 45 :: Lib.decDigits n) := by show _ = _; rw [hN, Lib.itoa_neg n (by omega)]
  have HN0 : Hid (N = -(n : Int)) := hN
  clear hN
  go_enter Tryz.func72, Tryz.ntmps72
  go_wp2
  go_loopw [0, 3, 5] (fun v s _ wr => ∃ (k : Nat) (V : Int), V = -((n / 10 ^ k : Nat) : Int) ∧ v = .int .i64 V ∧ s = .string ⟨(decTo n k).toArray⟩ ∧ (∀ j, j < k → n / 10 ^ j ≠ 0) ∧ k ≤ 20 ∧ Below w.heap.size w wr) (fun v _ _ _ => (intOf v).natAbs)
  case atStart => exact ⟨0, N, by have := HN0.out; simp; exact this, rfl, rfl, fun j hj => by omega, by omega, Below.refl _ _⟩
  case round =>
    obtain ⟨k, V, hV, rfl, rfl, hne, hk, hB⟩ := hrel
    have HN : Hid (∀ j, j < k → n / 10 ^ j ≠ 0) := hne
    clear hne
    by_cases hd0 : n / 10 ^ k = 0
    · have HF : Hid (Lib.itoa N = 45 :: decTo n k) := by show _ = _; rw [HI.out, decTo_all k n (by omega) HN.out hd0]
      obtain rfl : V = 0 := by omega
      have hln : (decTo n k).length = k := decTo_length n k
      obtain ⟨F, hF⟩ : ∃ F, decTo n k = F := ⟨_, rfl⟩
      rw [hF] at hln HF
      rw [hF]
      clear hd0 hV hF
      go_wp2
      go_ret
      exact ⟨congrArg (fun l : List UInt8 => Ending.returned (.string ⟨l.toArray⟩)) HF.out.symm, hB⟩
    · have hk' := dk_lt n k (by omega) hd0
      have HN' : Hid (∀ j, j < k + 1 → n / 10 ^ j ≠ 0) := fun j hj => by
        rcases Nat.lt_or_ge j k with h1 | h1
        · exact HN.out j h1
        · rw [show j = k by omega]; exact hd0
      have HS : Hid (n / 10 ^ (k + 1) = n / 10 ^ k / 10) := dstep n k
      have HP : Hid (decTo n (k + 1) = UInt8.ofNat (48 + n / 10 ^ k % 10) :: decTo n k) := rfl
      have hle := Nat.div_le_self n (10 ^ k)
      obtain ⟨D, hD⟩ : ∃ D : Nat, n / 10 ^ k = D := ⟨_, rfl⟩
      rw [hD] at hd0 HS HP hle hV
      have htm : V.tmod 10 = -((D % 10 : Nat) : Int) := by rw [hV, Int.neg_tmod, Int.tmod_eq_emod_of_nonneg (by omega)]; omega
      have htd : V.tdiv 10 = -((D / 10 : Nat) : Int) := by rw [hV, Int.neg_tdiv, Int.tdiv_eq_ediv_of_nonneg (by omega)]; omega
      obtain ⟨r, hr⟩ : ∃ r : Int, -((D % 10 : Nat) : Int) = r := ⟨_, rfl⟩
      obtain ⟨V2, hV2⟩ : ∃ V2 : Int, -((D / 10 : Nat) : Int) = V2 := ⟨_, rfl⟩
      have hv := (dig_isDig (D % 10) (by omega)).2
      obtain ⟨b, hbb⟩ : ∃ b, UInt8.ofNat (48 + D % 10) = b := ⟨_, rfl⟩
      rw [hbb] at HP hv
      rw [hr] at htm
      rw [hV2] at htd
      have HB : Hid (48 + -r = (b.toNat : Int)) := by show _ = _; omega
      have HV2 : Hid (V2 = -((D / 10 : Nat) : Int)) := hV2.symm
      have hr1 : -9 ≤ r := by omega
      have hr2 : r ≤ 0 := by omega
      have hq : (V != 0) = true := by rw [bne_iff_ne]; omega
      have hVl : -9223372036854775808 ≤ V := by omega
      have hVu : V ≤ -1 := by omega
      have hV2l : -9223372036854775808 ≤ V2 := by omega
      have hV2u : V2 ≤ 0 := by omega
      have HM : Hid (V2.natAbs < V.natAbs) := by show _ < _; omega
      have hln : (decTo n k).length = k := decTo_length n k
      clear hbb hD hv hle hd0 hr hV2 hV
      obtain ⟨F, hF⟩ : ∃ F, decTo n k = F := ⟨_, rfl⟩
      rw [hF] at hln HP
      rw [hF]
      clear hF
      by_cases hr0 : r < 0
      · have hcv := str1 (48 + -r) b HB.out wr
        go_wp2
        go_roundw
        case rel =>
          refine ⟨k + 1, V2, ?_, rfl, ?_, HN'.out, by omega, hB.alloc hB.size _⟩
          · rw [HS.out]; exact HV2.out
          · rw [HP.out]; simp [ByteArray.mk_append_mk]
        case measure => exact HM.out
      · obtain rfl : r = 0 := by omega
        have hcv := str1 48 b HB.out wr
        go_wp2
        go_roundw
        case rel =>
          refine ⟨k + 1, V2, ?_, rfl, ?_, HN'.out, by omega, hB.alloc hB.size _⟩
          · rw [HS.out]; exact HV2.out
          · rw [HP.out]; simp [ByteArray.mk_append_mk]
        case measure => exact HM.out

theorem spec_any (n : Int) (h0 : -9223372036854775808 ≤ n) (h1 : n ≤ 9223372036854775807) (w : World) :
    Calls Tryz.prog 72 #[.int .i64 n] w fun e w' => e = .returned (.string ⟨(Lib.itoa n).toArray⟩) ∧ Below w.heap.size w w' := by
  rcases Int.lt_trichotomy n 0 with h | h | h
  · exact spec_neg n.natAbs n (by omega) (by omega) (by omega) w
  · subst h; exact spec_zero w
  · obtain ⟨m, rfl⟩ := Int.eq_ofNat_of_zero_le (show 0 ≤ n by omega)
    exact spec_pos m h1 h w

end Dec
end Go.Proofs.YtjopmakbnompnaaGreatDoor
/- An operation of a region that draws its order, taken first, its slot written out. -/
namespace Go.Proofs.YtjopmakbnompnaaGreatDoor
namespace Bas
section
variable {P : Program} {ops : Array Oper} {Q : Exit → Act → World → Prop} {md : Region.Mode} {S : World → Prop}
theorem takeH {i : Nat} (d : Option Tmp) (v : Value) {oi : Oper} {fuel : Nat} {listed : Array Bool} {a : Act} {w : World} (hi : ops[i]? = some oi) (hd : oi.dst = d)
    (hs : Region.noSelect ops = true) (hf : Region.free md ops listed i = true) (hr : (Region.ready md ops listed).contains i = true)
    (hQ : ∀ c a w, Q (.panic c) (a.put d v) w → Q (.panic c) a w) (hy : YieldsIf P ops S oi v a) (hS : S w)
    (h : wpAnyH P md ops Q S fuel (listed.setIfInBounds i true) (a.put d v) w) : wpAnyH P md ops Q S (fuel + 1) listed a w := by
  subst hd; exact wpAnyH_take hi hs hf hr hQ hy hS h
theorem undrewB {w w' : World} (h : RowKit.Below w.drew.heap.size w.drew w') : RowKit.Below w.heap.size w w' := ⟨h.os, h.tape, h.output, h.size, h.block⟩
end
end Bas
end Go.Proofs.YtjopmakbnompnaaGreatDoor
/- What the specification's l6Words, l6Args and ShowOp answer. -/
set_option linter.unusedVariables false
set_option linter.unusedSimpArgs false
namespace Go.Proofs.YtjopmakbnompnaaGreatDoor
open Go.RowKit
namespace Ops
open Bas Flat Strs

set_option maxRecDepth 100000 in
theorem wordsC (w : World) : Calls Tryz.prog 70 #[] w fun e w' => ∃ v', e = .returned v' ∧ OwnsS w.heap.size w' v' words ∧ Below w.heap.size w w' := by
  go_enter Tryz.func70, Tryz.ntmps70
  go_wp2
  go_ret
  exact ⟨_, rfl, World.ownsRow_lit w _ 17 (Nat.le_refl _) (by simp [maxLen]) rfl, alloc_below w _⟩

theorem nargs3 {k : Int} (h : k = 2 ∨ k = 3 ∨ k = 4 ∨ k = 12) : nargs k = 3 := by unfold nargs; rw [if_pos h]
theorem nargs1 {k : Int} (h : k = 8 ∨ k = 15 ∨ k = 16) : nargs k = 1 := by unfold nargs; rw [if_neg (by omega), if_pos h]
theorem nargs0 {k : Int} (h : k = 9 ∨ k = 10 ∨ k = 11) : nargs k = 0 := by unfold nargs; rw [if_neg (by omega), if_neg (by omega), if_pos h]
theorem nargs2 {k : Int} (h3 : ¬ (k = 2 ∨ k = 3 ∨ k = 4 ∨ k = 12)) (h1 : ¬ (k = 8 ∨ k = 15 ∨ k = 16)) (h0 : ¬ (k = 9 ∨ k = 10 ∨ k = 11)) : nargs k = 2 := by unfold nargs; rw [if_neg h3, if_neg h1, if_neg h0]

set_option maxRecDepth 100000 in
set_option maxHeartbeats 1600000 in
theorem argsC (k : Int) (w : World) : Calls Tryz.prog 71 #[.int .i64 k] w fun e w' => e = .returned (.int .i64 (nargs k)) ∧ w = w' := by
  by_cases h3 : k = 2 ∨ k = 3 ∨ k = 4 ∨ k = 12
  · rw [nargs3 h3]
    rcases h3 with rfl | rfl | rfl | rfl
    all_goals
      go_enter Tryz.func71, Tryz.ntmps71
      go_wp2
      go_ret
      exact ⟨rfl, rfl⟩
  by_cases h1 : k = 8 ∨ k = 15 ∨ k = 16
  · rw [nargs1 h1]
    rcases h1 with rfl | rfl | rfl
    all_goals
      go_enter Tryz.func71, Tryz.ntmps71
      go_wp2
      go_ret
      exact ⟨rfl, rfl⟩
  by_cases h0 : k = 9 ∨ k = 10 ∨ k = 11
  · rw [nargs0 h0]
    rcases h0 with rfl | rfl | rfl
    all_goals
      go_enter Tryz.func71, Tryz.ntmps71
      go_wp2
      go_ret
      exact ⟨rfl, rfl⟩
  rw [nargs2 h3 h1 h0]
  have d2 : (k == 2) = false := by simp; omega
  have d3 : (k == 3) = false := by simp; omega
  have d4 : (k == 4) = false := by simp; omega
  have d12 : (k == 12) = false := by simp; omega
  have d8 : (k == 8) = false := by simp; omega
  have d15 : (k == 15) = false := by simp; omega
  have d16 : (k == 16) = false := by simp; omega
  have d9 : (k == 9) = false := by simp; omega
  have d10 : (k == 10) = false := by simp; omega
  have d11 : (k == 11) = false := by simp; omega
  clear h3 h1 h0
  go_enter Tryz.func71, Tryz.ntmps71
  go_wp2
  go_ret
  exact ⟨rfl, rfl⟩
theorem show_no {o : O4} (h : okOp o = false) : showOp o = [] := by unfold showOp; rw [if_neg (by simp [h])]
theorem show_is {o : O4} (h : okOp o = true) : showOp o = wordOf o.k ++ joinN ([o.a, o.b, o.c].take (nargs o.k)) := by unfold showOp nums; rw [if_pos h]
theorem small_i64 {x : Int} (h : 0 ≤ x ∧ x ≤ 65535) : -9223372036854775808 ≤ x ∧ x ≤ 9223372036854775807 := by omega
theorem word_len (k : Int) : (wordOf k).length ≤ 5 := by
  have : ∀ w ∈ words, w.length ≤ 5 := by decide
  unfold wordOf
  rw [List.getD_eq_getElem?_getD]
  cases hw : words[k.toNat]? with
  | none => simp
  | some u => exact this u (List.mem_of_getElem? hw)
theorem itoa_len {x : Int} (h : 0 ≤ x ∧ x ≤ 65535) : (Lib.itoa x).length ≤ 10 := (Num.spec_of x (by omega) (by omega)).2.2
theorem ret_s {a b : List UInt8} (h : a = b) : Ending.returned (.string ⟨a.toArray⟩) = .returned (.string ⟨b.toArray⟩) := by rw [h]

set_option maxRecDepth 100000 in
set_option maxHeartbeats 3200000 in
theorem showOpC (o : O4) (w : World) : Calls Tryz.prog 41 #[o.val] w fun e w' => e = .returned (.string ⟨(showOp o).toArray⟩) ∧ Below w.heap.size w w' := by
  obtain ⟨k, a, b, c⟩ := o
  show Calls _ _ #[.agg #[.int .i64 k, .int .i64 a, .int .i64 b, .int .i64 c]] _ _
  have X0 := Blk.new w #[.int .i64 k, .int .i64 a, .int .i64 b, .int .i64 c] 36
  have b0 := alloc_below w (.cells #[.int .i64 k, .int .i64 a, .int .i64 b, .int .i64 c] 36)
  have cO := specC k a b c (w.alloc (.cells #[.int .i64 k, .int .i64 a, .int .i64 b, .int .i64 c] 36))
  have eV : opV k a b c = .agg #[.int .i64 k, .int .i64 a, .int .i64 b, .int .i64 c] := rfl
  have eO : opOk k a b c = okOp ⟨k, a, b, c⟩ := rfl
  rw [eV, eO] at cO
  obtain ⟨p, hp⟩ : ∃ p, okOp ⟨k, a, b, c⟩ = p := ⟨_, rfl⟩
  rw [hp] at cO
  clear eV eO
  cases p
  · have HF : Hid ([] = showOp ⟨k, a, b, c⟩) := (show_no hp).symm
    clear hp
    go_enter Tryz.func41, Tryz.ntmps41
    go_wp2_with fail
    refine cO.mono ?_
    rintro e w1 ⟨rfl, b1⟩
    go_wp2
    go_ret
    exact ⟨ret_s HF.out, b0.trans (b1.mono b0.size)⟩
  obtain ⟨hk1, hk2⟩ := ok_kind hp
  obtain ⟨⟨ha, hb, hc⟩, -⟩ := ok_fields hp
  have HS : Hid (showOp ⟨k, a, b, c⟩ = wordOf k ++ joinN ([a, b, c].take (nargs k))) := show_is hp
  simp only at hk1 hk2 ha hb hc
  obtain ⟨i, rfl⟩ := Int.eq_ofNat_of_zero_le (show 0 ≤ k by omega)
  have hi : i < 17 := by omega
  have i1 : (i : Int) < 17 := by omega
  have i0 : (0 : Int) ≤ i := by omega
  have HW : Hid (words[i]'(by rw [words_length]; exact hi) = wordOf (i : Int)) := by
    show _ = _
    unfold wordOf
    rw [Int.toNat_natCast, List.getD_eq_getElem?_getD, List.getElem?_eq_getElem (by rw [words_length]; exact hi)]; rfl
  have ca := Dec.spec_any a (small_i64 ha).1 (small_i64 ha).2
  have cb := Dec.spec_any b (small_i64 hb).1 (small_i64 hb).2
  have cc := Dec.spec_any c (small_i64 hc).1 (small_i64 hc).2
  have la := itoa_len ha
  have lb := itoa_len hb
  have lc := itoa_len hc
  obtain ⟨ta, hta⟩ : ∃ t, Lib.itoa a = t := ⟨_, rfl⟩
  obtain ⟨tb, htb⟩ : ∃ t, Lib.itoa b = t := ⟨_, rfl⟩
  obtain ⟨tc, htc⟩ : ∃ t, Lib.itoa c = t := ⟨_, rfl⟩
  rw [hta] at ca la
  rw [htb] at cb lb
  rw [htc] at cc lc
  obtain ⟨na, hna'⟩ : ∃ n, ta.length = n := ⟨_, rfl⟩
  obtain ⟨nb, hnb⟩ : ∃ n, tb.length = n := ⟨_, rfl⟩
  obtain ⟨nc, hnc⟩ : ∃ n, tc.length = n := ⟨_, rfl⟩
  rw [hna'] at la
  rw [hnb] at lb
  rw [hnc] at lc
  have HT : Hid (Lib.itoa a = ta ∧ Lib.itoa b = tb ∧ Lib.itoa c = tc) := ⟨hta, htb, htc⟩
  clear hta htb htc
  have Ha := (show Hid _ from ca)
  have Hb := (show Hid _ from cb)
  have Hc := (show Hid _ from cc)
  clear ca cb cc hp ha hb hc
  go_enter Tryz.func41, Tryz.ntmps41
  go_wp2_with fail
  refine cO.mono ?_
  rintro e w1 ⟨rfl, b1⟩
  clear cO
  have X1 := X0.on b1 X0.lt
  have bb1 := b0.trans (b1.mono b0.size)
  have hz1 : w.heap.size < w1.heap.size := X1.lt
  have x1 := X1.cell 0
  clear X0 b0 b1
  go_wp2_with fail
  refine wp_region_held_drew (S := fun W => W.cell? ⟨w.heap.size, 0, none⟩ = some (.int .i64 i)) (by kernel_rfl) x1 (fun hHeld => ?_)
  refine takeH (i := 1) (some 9) (.pointer (some ⟨w.heap.size, 0, none⟩)) rfl rfl (by kernel_rfl) (by kernel_rfl) (by kernel_rfl) (fun _ _ _ h => h) (Or.inl ⟨by rfl, fun w hSw => by (try dsimp only at hSw); go_simp⟩) (by assumption) ?_
  try simp only [Act.put, List.setIfInBounds_toArray, List.set_cons_zero, List.set_cons_succ]
  refine takeH (i := 2) (some 10) (.int .i64 i) rfl rfl (by kernel_rfl) (by kernel_rfl) (by kernel_rfl) (fun _ _ _ h => h) (Or.inl ⟨by rfl, fun w hSw => by (try dsimp only at hSw); go_simp⟩) (by assumption) ?_
  try simp only [Act.put, List.setIfInBounds_toArray, List.set_cons_zero, List.set_cons_succ]
  refine wpAnyH_ready (rs := [0]) (by kernel_rfl) (by simp) ?_
  refine AllReadyH.cons rfl (fun K hK => ?_) AllReadyH.nil
  go_simp
  refine (wordsC _).mono ?_
  rintro e w2 ⟨v2, rfl, O2, b2⟩
  have b2 := undrewB b2
  have X2 := X1.on b2 X1.lt
  have bb2 := bb1.trans (b2.mono bb1.size)
  obtain ⟨a2, c2, hv2⟩ := O2.form
  rw [words_length] at hv2
  subst hv2
  obtain ⟨q, off, rfl, hq, hcc⟩ := O2.sees.open (by rw [words_length]; omega)
  have s2 := seeS hcc i (by rw [words_length]; exact hi)
  rw [HW.out] at s2
  obtain ⟨wd, hwd⟩ : ∃ wd, wordOf (i : Int) = wd := ⟨_, rfl⟩
  rw [hwd] at s2
  have lw := word_len (i : Int)
  rw [hwd] at lw
  obtain ⟨nw, hnw⟩ : ∃ n, wd.length = n := ⟨_, rfl⟩
  rw [hnw] at lw
  have HS' : Hid (showOp ⟨i, a, b, c⟩ = wd ++ joinN ([a, b, c].take (nargs i))) := by rw [← hwd]; exact HS.out
  clear hcc HW hwd HS O2 x1
  go_simp
  refine hK.out _ _ (X2.cell 0) (fun hHeld1 => ?_)
  clear hK K hHeld
  refine takeH (i := 3) (some 11) (.pointer (some ⟨q, off + i, none⟩)) rfl rfl (by kernel_rfl) (by kernel_rfl) (by kernel_rfl) (fun _ _ _ h => h) (Or.inl ⟨by rfl, fun w hSw => by (try dsimp only at hSw); go_simp⟩) (by assumption) ?_
  try simp only [Act.put, List.setIfInBounds_toArray, List.set_cons_zero, List.set_cons_succ]
  refine wpAnyH_ready (rs := [4]) (by kernel_rfl) (by simp) ?_
  refine AllReadyH.cons rfl (fun K hK => ?_) AllReadyH.nil
  go_simp
  refine hK.out _ _ (X2.cell 0) (fun hHeld2 => ?_)
  clear hK K hHeld1
  try simp only [Act.put, List.setIfInBounds_toArray, List.set_cons_zero, List.set_cons_succ]
  refine takeH (i := 5) (some 3) (.string ⟨wd.toArray⟩) rfl rfl (by kernel_rfl) (by kernel_rfl) (by kernel_rfl) (fun _ _ _ h => h) (Or.inl ⟨by rfl, fun w hSw => by (try dsimp only at hSw); go_simp⟩) (by assumption) ?_
  try simp only [Act.put, List.setIfInBounds_toArray, List.set_cons_zero, List.set_cons_succ]
  refine wpAnyH_done (by kernel_rfl) ?_ _
  clear hHeld2 s2 X1 b2 bb1
  have x2 := X2.cell 0
  go_wp2_with fail
  refine (argsC i w2).mono ?_
  rintro e w3 ⟨rfl, rfl⟩
  have hz2 := X2.lt
  have hna := nargs_le i
  obtain ⟨m, hm⟩ : ∃ m, nargs i = m := ⟨_, rfl⟩
  rw [hm] at hna HS' ⊢
  clear hm x2
  match m, hna with
  | 0, _ =>
    have HF : Hid (wd = showOp ⟨i, a, b, c⟩) := by show _ = _; rw [HS'.out]; simp [joinN, HT.out]
    clear HS'
    go_wp2
    go_ret
    exact ⟨ret_s HF.out, bb2⟩
  | 1, _ =>
    have HF : Hid (wd ++ 32 :: ta = showOp ⟨i, a, b, c⟩) := by show _ = _; rw [HS'.out]; simp [joinN, HT.out]
    clear HS'
    have x3 := X2.cell 1
    go_wp2_with fail
    refine (Ha.out w2).mono ?_
    rintro e w4 ⟨rfl, b4⟩
    clear x3
    go_wp2
    go_ret
    refine ⟨?_, bb2.trans (b4.mono bb2.size)⟩
    rw [← HF.out]; simp [ByteArray.mk_append_mk]
  | 2, _ =>
    have HF : Hid (wd ++ 32 :: (ta ++ 32 :: tb) = showOp ⟨i, a, b, c⟩) := by show _ = _; rw [HS'.out]; simp [joinN, HT.out]
    clear HS'
    have x3 := X2.cell 1
    go_wp2_with fail
    refine (Ha.out w2).mono ?_
    rintro e w4 ⟨rfl, b4⟩
    clear x3
    have X4 := X2.on b4 X2.lt
    have bb4 := bb2.trans (b4.mono bb2.size)
    have x4 := X4.cell 2
    go_wp2_with fail
    refine (Hb.out w4).mono ?_
    rintro e w5 ⟨rfl, b5⟩
    clear x4
    go_wp2
    go_ret
    refine ⟨?_, bb4.trans (b5.mono bb4.size)⟩
    rw [← HF.out]; simp [ByteArray.mk_append_mk]
  | 3, _ =>
    have HF : Hid (wd ++ 32 :: (ta ++ 32 :: (tb ++ 32 :: tc)) = showOp ⟨i, a, b, c⟩) := by show _ = _; rw [HS'.out]; simp [joinN, HT.out]
    clear HS'
    have x3 := X2.cell 1
    go_wp2_with fail
    refine (Ha.out w2).mono ?_
    rintro e w4 ⟨rfl, b4⟩
    clear x3
    have X4 := X2.on b4 X2.lt
    have bb4 := bb2.trans (b4.mono bb2.size)
    have x4 := X4.cell 2
    go_wp2_with fail
    refine (Hb.out w4).mono ?_
    rintro e w5 ⟨rfl, b5⟩
    clear x4
    have X5 := X4.on b5 X4.lt
    have bb5 := bb4.trans (b5.mono bb4.size)
    have x5 := X5.cell 3
    go_wp2_with fail
    refine (Hc.out w5).mono ?_
    rintro e w6 ⟨rfl, b6⟩
    clear x5
    go_wp2
    go_ret
    refine ⟨?_, bb5.trans (b6.mono bb5.size)⟩
    rw [← HF.out]; simp [ByteArray.mk_append_mk]
end Ops
end Go.Proofs.YtjopmakbnompnaaGreatDoor
/- Both ReadDec tell the number of at most nine digits of which Dec makes the text. -/
namespace Go.Proofs.YtjopmakbnompnaaGreatDoor
open Go.RowKit
namespace ReadDec
open Num Bytes

/-- the two errors that strconv hands on are there -/
def Errs (w : World) : Prop := (∃ tp p, w.var? Tryz.prog "strconv.ErrSyntax" = some #[.iface tp p]) ∧ ∃ tp p, w.var? Tryz.prog "strconv.ErrRange" = some #[.iface tp p]
theorem gSyn : Tryz.prog.globalNamed "strconv.ErrSyntax" = some 3 := by kernel_rfl
theorem gRan : Tryz.prog.globalNamed "strconv.ErrRange" = some 4 := by kernel_rfl
theorem var_lt {w : World} {name : String} {g : Nat} {cs : Array Value} (hg : Tryz.prog.globalNamed name = some g) (h : w.var? Tryz.prog name = some cs) : g < w.heap.size := by
  rcases Nat.lt_or_ge g w.heap.size with h1 | h1
  · exact h1
  · exfalso
    simp [World.var?, hg, Array.getElem?_eq_none h1] at h
theorem Errs.on {w w' : World} (h : Errs w) (hb : Below w.heap.size w w') : Errs w' := by
  obtain ⟨⟨t1, p1, h1⟩, t2, p2, h2⟩ := h
  exact ⟨⟨t1, p1, var?_below hb gSyn (var_lt gSyn h1) h1⟩, t2, p2, var?_below hb gRan (var_lt gRan h2) h2⟩

/-- the answer is that of the text -/
def Told (l : List UInt8) (e : Ending) : Prop := ∃ (n : Int) (b : Bool), e = .returned (.tuple #[.int .i64 n, .bool b]) ∧ RdRes l n b

theorem atoi_ok (s : ByteArray) (hs : s.size ≤ 1048576) (v : Int) (h : Lib.atoiAll s.data.toList = .ok v) (w : World) :
    Calls Tryz.prog 68 #[.string s] w fun e w' => e = .returned (.tuple #[.int .i64 v, .nilIface]) ∧ Below w.heap.size w w' := by
  refine (Any.strconv_Atoi_ok Tryz.laysC172 s (by omega) v h w).mono ?_
  rintro e w' ⟨rfl, rfl | ⟨t, rfl⟩⟩
  · exact ⟨rfl, Below.refl _ _⟩
  · exact ⟨rfl, Lib.bytesWorld_below _ _ _⟩

theorem atoi_err (s : ByteArray) (hs : s.size ≤ 1048576) (h : ∀ v, Lib.atoiAll s.data.toList ≠ .ok v) (w : World) (he : Errs w) :
    Calls Tryz.prog 68 #[.string s] w fun e w' => ∃ (x : Int) (N : Nat), e = .returned (.tuple #[.int .i64 x, .iface (Tryz.laysC172_ren.t 168) (.pointer (some ⟨N, 0, none⟩))]) ∧ Below w.heap.size w w' := by
  obtain ⟨⟨t1, p1, h1⟩, t2, p2, h2⟩ := he
  cases hq : Lib.atoiAll s.data.toList
  · exact absurd hq (h _)
  · refine (Any.strconv_Atoi_syntax_var Tryz.laysC172 s (by omega) hq t1 p1 w h1).mono ?_
    rintro e w' ⟨N, rfl, _, _, hb⟩
    exact ⟨_, N, rfl, hb⟩
  · refine (Any.strconv_Atoi_range_var Tryz.laysC172 s (by omega) hq t2 p2 w h2).mono ?_
    rintro e w' ⟨N, rfl, _, _, hb⟩
    exact ⟨_, N, rfl, hb⟩

set_option maxRecDepth 100000 in
set_option maxHeartbeats 400000 in
theorem impl_any (s : ByteArray) (hs : s.size ≤ 1048576) (w : World) (ht : Dec.Tab w) (he : Errs w) :
    Calls Tryz.prog 39 #[.string s] w fun e w' => Told s.data.toList e ∧ Below w.heap.size w w' := by
  have hL : s.toList = s.data.toList := ByteArray.toList_eq s
  by_cases hok : ∃ v, Lib.atoiAll s.data.toList = .ok v
  · obtain ⟨v, hv⟩ := hok
    by_cases hr : v < -999999999 ∨ 999999999 < v
    · have HR : Hid (RdRes s.data.toList 0 false) := rd_out hv hr
      have HV : Hid (Lib.atoiAll s.data.toList = .ok v) := hv
      clear hv hL
      by_cases h1 : v < -999999999
      all_goals
        go_enter Tryz.func39, Tryz.ntmps39
        go_wp2_with fail
        refine (atoi_ok s hs v HV.out _).mono ?_
        rintro e w1 ⟨rfl, hB⟩
        go_wp2
        go_ret2
        exact ⟨⟨_, _, rfl, HR.out⟩, hB⟩
    · have h1 : -999999999 ≤ v := by omega
      have h2 : v ≤ 999999999 := by omega
      have HV : Hid (Lib.atoiAll s.data.toList = .ok v) := hv
      by_cases hq0 : Lib.itoa v = s.data.toList
      · have HR : Hid (RdRes s.data.toList v true) := .inl ⟨rfl, h1, h2, hq0⟩
        have hq : (Lib.itoa v == s.toList) = true := by rw [hL]; simp [hq0]
        clear hv hq0 hr hL
        go_enter Tryz.func39, Tryz.ntmps39
        go_wp2_with fail
        refine (atoi_ok s hs v HV.out _).mono ?_
        rintro e w1 ⟨rfl, hB⟩
        go_wp2_with fail
        refine (Dec.impl_any v (by omega) (by omega) _ (ht.on hB)).mono ?_
        rintro e w2 ⟨rfl, hB2⟩
        go_wp2
        go_ret2
        exact ⟨⟨_, _, rfl, HR.out⟩, hB.trans (hB2.mono hB.size)⟩
      · have HR : Hid (RdRes s.data.toList 0 false) := rd_ne hv hq0
        have hq : (Lib.itoa v == s.toList) = false := by rw [hL, beq_eq_false_iff_ne]; exact hq0
        clear hv hq0 hr hL
        go_enter Tryz.func39, Tryz.ntmps39
        go_wp2_with fail
        refine (atoi_ok s hs v HV.out _).mono ?_
        rintro e w1 ⟨rfl, hB⟩
        go_wp2_with fail
        refine (Dec.impl_any v (by omega) (by omega) _ (ht.on hB)).mono ?_
        rintro e w2 ⟨rfl, hB2⟩
        go_wp2
        go_ret2
        exact ⟨⟨_, _, rfl, HR.out⟩, hB.trans (hB2.mono hB.size)⟩
  · have hno : ∀ v, Lib.atoiAll s.data.toList ≠ .ok v := fun v h => hok ⟨v, h⟩
    have HR : Hid (RdRes s.data.toList 0 false) := rd_err hno
    have HN : Hid (∀ v, Lib.atoiAll s.data.toList ≠ .ok v) := hno
    clear hok hno hL
    go_enter Tryz.func39, Tryz.ntmps39
    go_wp2_with fail
    refine (atoi_err s hs HN.out _ he).mono ?_
    rintro e w1 ⟨x, N, rfl, hB⟩
    go_wp2
    go_ret2
    exact ⟨⟨_, _, rfl, HR.out⟩, hB⟩

/-- the digits of the first k bytes -/
theorem tk_succ (s : ByteArray) (k : Nat) (h : k < s.size) : s.data.toList.take (k + 1) = s.data.toList.take k ++ [s[k]] := by
  rw [List.take_succ_eq_append_getElem (by simpa using h)]; rfl

set_option maxRecDepth 100000 in
set_option maxHeartbeats 800000 in
theorem spec_any (s : ByteArray) (hs : s.size ≤ 1048576) (w : World) :
    Calls Tryz.prog 111 #[.string s] w fun e w' => Told s.data.toList e ∧ Below w.heap.size w w' := by
  have hL : s.toList = s.data.toList := ByteArray.toList_eq s
  obtain ⟨L, hLL⟩ : ∃ L, s.data.toList = L := ⟨_, rfl⟩
  have hlen : L.length = s.size := by rw [← hLL]; simp
  have HT : Hid (∀ k (h : k < s.size), L.take (k + 1) = L.take k ++ [s[k]]) := fun k h => by rw [← hLL]; exact tk_succ s k h
  have HH : Hid (0 < s.size → ∀ h : 0 < s.size, L.head? = some s[0]) := fun _ h => by
    rw [← hLL]
    have h2 : 0 < s.data.toList.length := by simpa using h
    rw [List.head?_eq_getElem?, List.getElem?_eq_getElem h2]; rfl
  rw [hLL] at hL
  rw [hLL]
  clear hLL
  go_enter Tryz.func111, Tryz.ntmps111
  go_wp2
  go_loop [4, 5, 6] (fun v c i => ∃ m : Nat, m ≤ 11 ∧ m ≤ s.size ∧ i = .int .i64 m ∧ v = .int .i64 (dsum (L.take m) 0 : Nat) ∧ c = .int .i64 (dcnt (L.take m) : Nat)) (fun _ _ i => 11 - (intOf i).toNat)
  case atStart => exact ⟨0, by omega, by omega, rfl, rfl, rfl⟩
  case round =>
    obtain ⟨m, hm1, hm2, rfl, rfl, rfl⟩ := hrel
    have hcm : dcnt (L.take m) ≤ m := Nat.le_trans (dcnt_le _) (List.length_take_le _ _)
    have hsb := dsum_lt (L.take m) 0
    have hpw : 10 ^ dcnt (L.take m) ≤ 10 ^ 11 := Nat.pow_le_pow_right (by omega) (by omega)
    have hp11 : (10 : Nat) ^ 11 = 100000000000 := by decide
    rw [hp11] at hpw
    have hsm : dsum (L.take m) 0 ≤ 100000000000 := by omega
    by_cases hlt : m < s.size ∧ m < 11
    · obtain ⟨hl1, hl2⟩ := hlt
      have hc : s[m].toNat < 256 := s[m].toNat_lt
      by_cases hd : isDig s[m] = true
      · have hd' : 48 ≤ s[m].toNat ∧ s[m].toNat ≤ 57 := by simpa [isDig] using hd
        have HS : Hid (dsum (L.take (m + 1)) 0 = dsum (L.take m) 0 * 10 + (s[m].toNat - 48)) := by show _ = _; rw [HT.out m hl1, dsum_append, dsum_one _ _ hd]
        have HC : Hid (dcnt (L.take (m + 1)) = dcnt (L.take m) + 1) := by show _ = _; rw [HT.out m hl1, dcnt_append, dcnt_one _ hd]
        obtain ⟨hd1, hd2⟩ := hd'
        have hd1' : (48 : Int) ≤ s[m].toNat := by omega
        have hd2' : (s[m].toNat : Int) ≤ 57 := by omega
        clear hd hsb hpw hp11
        obtain ⟨A, hA⟩ : ∃ A, dsum (L.take m) 0 = A := ⟨_, rfl⟩
        obtain ⟨B, hB⟩ : ∃ B, dcnt (L.take m) = B := ⟨_, rfl⟩
        rw [hA] at HS hsm
        rw [hB] at HC hcm
        rw [hA, hB]
        clear hA hB
        go_wp2
        go_round
        case rel => exact ⟨m + 1, by omega, by omega, by go_num, by rw [HS.out]; go_num, by rw [HC.out]; go_num⟩
        case measure => simp only [intOf]; omega
      · have HS : Hid (dsum (L.take (m + 1)) 0 = dsum (L.take m) 0) := by show _ = _; rw [HT.out m hl1, dsum_append]; simp [dsum, hd]
        have HC : Hid (dcnt (L.take (m + 1)) = dcnt (L.take m)) := by show _ = _; rw [HT.out m hl1, dcnt_append]; simp [dcnt, hd]
        have hd' : ¬ (48 ≤ s[m].toNat ∧ s[m].toNat ≤ 57) := by simpa [isDig] using hd
        clear hd hsb hpw hp11
        obtain ⟨A, hA⟩ : ∃ A, dsum (L.take m) 0 = A := ⟨_, rfl⟩
        obtain ⟨B, hB⟩ : ∃ B, dcnt (L.take m) = B := ⟨_, rfl⟩
        rw [hA] at HS hsm
        rw [hB] at HC hcm
        rw [hA, hB]
        clear hA hB
        by_cases h48 : (48 : Int) ≤ s[m].toNat
        all_goals
          go_wp2
          go_round
          case rel => exact ⟨m + 1, by omega, by omega, by go_num, by rw [HS.out], by rw [HC.out]⟩
          case measure => simp only [intOf]; omega
    · have HT11 : Hid (L.take m = L.take 11) := by
        show _ = _
        by_cases h11 : m = 11
        · rw [h11]
        · rw [List.take_of_length_le (by omega), List.take_of_length_le (by omega)]
      rw [HT11.out] at hsm
      rw [HT11.out]
      have HX0 : Hid (specNum L = if L.head? = some 45 then -(dsum (L.take 11) 0 : Int) else dsum (L.take 11) 0) := rfl
      clear hsb hpw hp11 hcm
      obtain ⟨A, hA⟩ : ∃ A, dsum (L.take 11) 0 = A := ⟨_, rfl⟩
      obtain ⟨B, hB⟩ : ∃ B, dcnt (L.take 11) = B := ⟨_, rfl⟩
      rw [hA] at hsm HX0
      rw [hA, hB]
      clear hA
      have hmI : ¬ ((m : Int) < s.size ∧ (m : Int) < 11) := by omega
      by_cases hmlt : (m : Int) < s.size
      · have h10 : (10 : Int) < (s.size : Int) := by omega
        have HR : Hid (RdRes L 0 false) := spec_no (.inr (.inl (by omega)))
        have h0 : (0 : Int) < s.size := by omega
        clear HX0 HT HH
        by_cases h45 : s[0].toNat = 45
        · have h45' : ((s[0].toNat : Int) == 45) = true := by rw [h45]; rfl
          clear h45
          by_cases hC : (9 : Int) < (B : Int)
          all_goals
            go_wp2
            go_ret2
            exact ⟨⟨_, _, rfl, HR.out⟩, Below.refl _ _⟩
        · have h45' : ((s[0].toNat : Int) == 45) = false := by rw [beq_eq_false_iff_ne]; omega
          clear h45
          by_cases hC : (9 : Int) < (B : Int)
          all_goals
            go_wp2
            go_ret2
            exact ⟨⟨_, _, rfl, HR.out⟩, Below.refl _ _⟩
      · skip
        by_cases h0 : (0 : Int) < s.size
        · by_cases h45 : s[0].toNat = 45
          · have h45' : ((s[0].toNat : Int) == 45) = true := by rw [h45]; rfl
            have HX : Hid (specNum L = -(A : Int)) := by
              show _ = _
              rw [HX0.out, if_pos]
              rw [HH.out (by omega) (by omega)]
              congr 1
              apply UInt8.toNat_inj.1; rw [h45]; rfl
            clear h45 HX0 HT HH
            by_cases hC : (9 : Int) < (B : Int)
            · have HR : Hid (RdRes L 0 false) := spec_no (.inl (by omega))
              go_wp2
              go_ret2
              exact ⟨⟨_, _, rfl, HR.out⟩, Below.refl _ _⟩
            · by_cases h10 : (10 : Int) < (s.size : Int)
              · have HR : Hid (RdRes L 0 false) := spec_no (.inr (.inl (by omega)))
                go_wp2
                go_ret2
                exact ⟨⟨_, _, rfl, HR.out⟩, Below.refl _ _⟩
              · by_cases hq0 : Lib.itoa (-(A : Int)) = L
                · have hq : (Lib.itoa (-(A : Int)) == L) = true := by simp [hq0]
                  have HR : Hid (RdRes L (-(A : Int)) true) := by
                    have := spec_yes (l := L) (by omega) (by rw [HX.out]; exact hq0)
                    rw [HX.out] at this; exact this
                  clear hq0
                  go_wp2_with fail
                  refine (Dec.spec_any (-(A : Int)) (by omega) (by omega) _).mono ?_
                  rintro e w2 ⟨rfl, hB2⟩
                  go_wp2
                  go_ret2
                  exact ⟨⟨_, _, rfl, HR.out⟩, hB2⟩
                · have hq : (Lib.itoa (-(A : Int)) == L) = false := by rw [beq_eq_false_iff_ne]; exact hq0
                  have HR : Hid (RdRes L 0 false) := spec_no (.inr (.inr (by rw [HX.out]; exact hq0)))
                  clear hq0
                  go_wp2_with fail
                  refine (Dec.spec_any (-(A : Int)) (by omega) (by omega) _).mono ?_
                  rintro e w2 ⟨rfl, hB2⟩
                  go_wp2
                  go_ret2
                  exact ⟨⟨_, _, rfl, HR.out⟩, hB2⟩
          · have h45' : ((s[0].toNat : Int) == 45) = false := by rw [beq_eq_false_iff_ne]; omega
            have HX : Hid (specNum L = (A : Int)) := by
              show _ = _
              rw [HX0.out, if_neg]
              rw [HH.out (by omega) (by omega)]
              intro e
              injection e with e
              rw [e] at h45
              exact h45 rfl
            clear h45 HX0 HT HH
            by_cases hC : (9 : Int) < (B : Int)
            · have HR : Hid (RdRes L 0 false) := spec_no (.inl (by omega))
              go_wp2
              go_ret2
              exact ⟨⟨_, _, rfl, HR.out⟩, Below.refl _ _⟩
            · by_cases h10 : (10 : Int) < (s.size : Int)
              · have HR : Hid (RdRes L 0 false) := spec_no (.inr (.inl (by omega)))
                go_wp2
                go_ret2
                exact ⟨⟨_, _, rfl, HR.out⟩, Below.refl _ _⟩
              · by_cases hq0 : Lib.itoa ((A : Int)) = L
                · have hq : (Lib.itoa ((A : Int)) == L) = true := by simp [hq0]
                  have HR : Hid (RdRes L ((A : Int)) true) := by
                    have := spec_yes (l := L) (by omega) (by rw [HX.out]; exact hq0)
                    rw [HX.out] at this; exact this
                  clear hq0
                  go_wp2_with fail
                  refine (Dec.spec_any ((A : Int)) (by omega) (by omega) _).mono ?_
                  rintro e w2 ⟨rfl, hB2⟩
                  go_wp2
                  go_ret2
                  exact ⟨⟨_, _, rfl, HR.out⟩, hB2⟩
                · have hq : (Lib.itoa ((A : Int)) == L) = false := by rw [beq_eq_false_iff_ne]; exact hq0
                  have HR : Hid (RdRes L 0 false) := spec_no (.inr (.inr (by rw [HX.out]; exact hq0)))
                  clear hq0
                  go_wp2_with fail
                  refine (Dec.spec_any ((A : Int)) (by omega) (by omega) _).mono ?_
                  rintro e w2 ⟨rfl, hB2⟩
                  go_wp2
                  go_ret2
                  exact ⟨⟨_, _, rfl, HR.out⟩, hB2⟩
        · have HX : Hid (specNum L = (A : Int)) := by
            show _ = _
            rw [HX0.out, if_neg]
            have : L = [] := List.eq_nil_of_length_eq_zero (by omega)
            rw [this]; simp
          clear HX0 HT HH
          by_cases hC : (9 : Int) < (B : Int)
          · have HR : Hid (RdRes L 0 false) := spec_no (.inl (by omega))
            go_wp2
            go_ret2
            exact ⟨⟨_, _, rfl, HR.out⟩, Below.refl _ _⟩
          · have h10 : ¬ (10 : Int) < (s.size : Int) := by omega
            by_cases hq0 : Lib.itoa ((A : Int)) = L
            · have hq : (Lib.itoa ((A : Int)) == L) = true := by simp [hq0]
              have HR : Hid (RdRes L ((A : Int)) true) := by
                have := spec_yes (l := L) (by omega) (by rw [HX.out]; exact hq0)
                rw [HX.out] at this; exact this
              clear hq0
              go_wp2_with fail
              refine (Dec.spec_any ((A : Int)) (by omega) (by omega) _).mono ?_
              rintro e w2 ⟨rfl, hB2⟩
              go_wp2
              go_ret2
              exact ⟨⟨_, _, rfl, HR.out⟩, hB2⟩
            · have hq : (Lib.itoa ((A : Int)) == L) = false := by rw [beq_eq_false_iff_ne]; exact hq0
              have HR : Hid (RdRes L 0 false) := spec_no (.inr (.inr (by rw [HX.out]; exact hq0)))
              clear hq0
              go_wp2_with fail
              refine (Dec.spec_any ((A : Int)) (by omega) (by omega) _).mono ?_
              rintro e w2 ⟨rfl, hB2⟩
              go_wp2
              go_ret2
              exact ⟨⟨_, _, rfl, HR.out⟩, hB2⟩

end ReadDec
end Go.Proofs.YtjopmakbnompnaaGreatDoor
/- What the specification's ReadOp answers. -/
set_option linter.unusedVariables false
set_option linter.unusedSimpArgs false
namespace Go.Proofs.YtjopmakbnompnaaGreatDoor
open Go.RowKit
namespace Ops
open Bas Flat Strs Num

/-- what ReadOp answers -/
def ToldOp (l : Txt) (e : Ending) : Prop := ∃ (o : O4) (b : Bool), e = .returned (.tuple #[o.val, .bool b]) ∧ RdOp l o b
def zerosO : Array Value := #[.int .i64 0, .int .i64 0, .int .i64 0, .int .i64 0]
/-- the parts, the words, the op that is being read, the result's place -/
structure RSt (w W : World) (p : Nat) (vp vw : Value) (ps : List Txt) (k a b c : Int) : Prop where
  P : OwnsS w.heap.size W vp ps
  V : OwnsS w.heap.size W vw words
  R : Blk W w.heap.size #[.int .i64 0, .int .i64 0, .int .i64 0, .int .i64 0] 36
  O : Blk W p #[.int .i64 k, .int .i64 a, .int .i64 b, .int .i64 c] 36
  ne : w.heap.size < p
  b : Below w.heap.size w W
section
variable {w W W' : World} {p : Nat} {vp vw : Value} {ps : List Txt} {k a b c : Int}
theorem RSt.on (h : RSt w W p vp vw ps k a b c) (hb : Below W.heap.size W W') : RSt w W' p vp vw ps k a b c :=
  { P := h.P.on hb (Nat.le_refl _), V := h.V.on hb (Nat.le_refl _), R := h.R.on hb h.R.lt, O := h.O.on hb h.O.lt, ne := h.ne, b := h.b.trans (hb.mono h.b.size) }
theorem RSt.drewN (h : RSt w W p vp vw ps k a b c) (n : Nat) : RSt w (W.drewN n) p vp vw ps k a b c :=
  h.on ⟨rfl, rfl, rfl, Nat.le_refl _, fun _ _ => rfl⟩
theorem RSt.set (h : RSt w W p vp vw ps k a b c) (i : Nat) (u : Value) {k' a' b' c' : Int} (e : (#[.int .i64 k, .int .i64 a, .int .i64 b, .int .i64 c] : Array Value).setIfInBounds i u = #[.int .i64 k', .int .i64 a', .int .i64 b', .int .i64 c']) : RSt w (W.setCell ⟨p, i, none⟩ u) p vp vw ps k' a' b' c' :=
  have hne := h.ne
  { P := h.P.other (h.P.off h.O (by decide)) _, V := h.V.other (h.V.off h.O (by decide)) _, R := h.R.other (by omega) _ _, O := by have := h.O.set i u; rw [e] at this; exact this, ne := hne, b := h.b.setCell (by show w.heap.size ≤ p; omega) _ }
end

set_option maxRecDepth 100000 in
set_option maxHeartbeats 8000000 in
theorem readOpC (L : Txt) (hs : L.length ≤ 1048576) (w : World) :
    Calls Tryz.prog 95 #[.string ⟨L.toArray⟩] w fun e w' => ToldOp L e ∧ Below w.heap.size w w' := by
  have b0 := alloc_below w (.cells #[.int .i64 0, .int .i64 0, .int .i64 0, .int .i64 0] 36)
  have R0 := Blk.new w #[.int .i64 0, .int .i64 0, .int .i64 0, .int .i64 0] 36
  have c1 := splitC ⟨L.toArray⟩ 32 (by show L.toArray.size ≤ _; simpa using hs) (w.alloc (.cells #[.int .i64 0, .int .i64 0, .int .i64 0, .int .i64 0] 36))
  have hL : (⟨L.toArray⟩ : ByteArray).data.toList = L := by simp
  rw [hL] at c1
  clear hL
  obtain ⟨p0, r, hsp⟩ : ∃ p0 r, split 32 L = p0 :: r := by
    match h : split 32 L, split_ne 32 L with
    | p0 :: r, _ => exact ⟨p0, r, rfl⟩
  have HSP : Hid (split 32 L = p0 :: r) := hsp
  rw [hsp] at c1
  clear hsp
  go_enter Tryz.func95, Tryz.ntmps95
  go_wp2_with fail
  refine c1.mono ?_
  rintro e w1 ⟨v1, rfl, P1, b1⟩
  clear c1
  have R1 := R0.on b1 R0.lt
  have bb1 := b0.trans (b1.mono b0.size)
  have hz1 : w.heap.size < w1.heap.size := R1.lt
  obtain ⟨a1, cp1, rfl⟩ := P1.form
  obtain ⟨m, hm⟩ : ∃ m, (p0 :: r).length = m := ⟨_, rfl⟩
  have hm1 : 1 ≤ m := by rw [← hm]; simp
  rw [hm] at P1 ⊢
  have bA := alloc_below w1 (.cells #[.int .i64 0, .int .i64 0, .int .i64 0, .int .i64 0] 36)
  have O1 := Blk.new w1 #[.int .i64 0, .int .i64 0, .int .i64 0, .int .i64 0] 36
  go_wp2_with fail
  refine (wordsC _).mono ?_
  rintro e w2 ⟨v2, rfl, V2, b2⟩
  have S : RSt w w2 w1.heap.size (.slice a1 m cp1) v2 (p0 :: r) 0 0 0 0 :=
    { P := ((P1.mono (by simp)).on bA (Nat.le_refl _)).on b2 (Nat.le_refl _), V := V2.mono (by simp; omega), R := (R1.on bA R1.lt).on b2 (by simp; omega), O := O1.on b2 O1.lt, ne := hz1, b := bb1.trans ((bA.trans (b2.mono bA.size)).mono bb1.size) }
  obtain ⟨p, hp⟩ : ∃ p, w1.heap.size = p := ⟨_, rfl⟩
  rw [hp] at S ⊢
  clear hp b0 R0 P1 b1 R1 bb1 hz1 bA O1 V2 b2
  obtain ⟨a2, cp2, hv2⟩ := S.V.form
  rw [words_length] at hv2
  subst hv2
  go_wp2
  go_loopw [7] (fun iv wr => ∃ k : Nat, 1 ≤ k ∧ k ≤ 17 ∧ iv = .int .i64 k ∧ RSt w wr p (.slice a1 m cp1) (.slice a2 17 cp2) (p0 :: r) (kindTo p0 k) 0 0 0) (fun iv _ => 17 - (intOf iv).toNat)
  case atStart => exact ⟨1, by omega, by omega, rfl, by rw [kindTo_one]; exact S⟩
  case round =>
    obtain ⟨k, hk1, hk2, rfl, S⟩ := hrel
    by_cases hlt : k < 17
    · obtain ⟨q, off, rfl, hq, hcc⟩ := S.V.sees.open (by rw [words_length]; omega)
      obtain ⟨q', off', rfl, hq', hcc'⟩ := S.P.sees.open (by simp)
      have s1 := seeS hcc k (by rw [words_length]; exact hlt)
      have s2 := seeS hcc' 0 (by simp)
      rw [Nat.add_zero, List.getElem_cons_zero] at s2
      have i1 : (k : Int) < 17 := by omega
      have i2 : (0 : Int) ≤ k := by omega
      have i3 : (0 : Int) < m := by omega
      have hgw : words.getD k [] = words[k]'(by rw [words_length]; exact hlt) := by
        rw [List.getD_eq_getElem?_getD, List.getElem?_eq_getElem (by rw [words_length]; exact hlt)]; rfl
      obtain ⟨wd, hwd⟩ : ∃ wd, words[k]'(by rw [words_length]; exact hlt) = wd := ⟨_, rfl⟩
      rw [hwd] at s1 hgw
      clear hcc hcc' hwd
      by_cases he : wd = p0
      · have HK : Hid (kindTo p0 (k + 1) = k) := by show (if _ then _ else _) = _; rw [if_pos ⟨hk1, by rw [hgw]; exact he⟩]
        subst he
        clear hgw
        go_wp2_with fail
        go_quiet (fail)
        have S := S.drewN nq
        have o0 := S.O.cell 0
        have f0 := S.O.froz 0
        have S' := S.set 0 (.int .i64 k) (k' := k) (a' := 0) (b' := 0) (c' := 0) rfl
        clear S s1 s2
        go_wp2
        go_roundw
        case rel => exact ⟨k + 1, by omega, by omega, by go_num, by rw [HK.out]; exact S'⟩
        case measure => simp [intOf]; omega
      · have HK : Hid (kindTo p0 (k + 1) = kindTo p0 k) := by show (if _ then _ else _) = _; rw [if_neg (fun h => he (hgw.symm.trans h.2))]
        have d1 : (wd == p0) = false := by simp [he]
        clear hgw he
        go_wp2_with fail
        go_quiet (fail)
        have S := S.drewN nq
        clear s1 s2
        go_wp2
        go_roundw
        case rel => exact ⟨k + 1, by omega, by omega, by go_num, by rw [HK.out]; exact S⟩
        case measure => simp [intOf]; omega
    · obtain rfl : k = 17 := by omega
      have i1 : ¬ (17 : Int) < 17 := by omega
      obtain ⟨kk, hkk⟩ : ∃ kk, kindTo p0 17 = kk := ⟨_, rfl⟩
      have HKK : Hid (kindTo p0 17 = kk) := hkk
      rw [hkk] at S
      have hkl : kk ≤ 17 := by rw [← hkk]; exact kindTo_le _ _
      clear hkk hk1 hk2 hlt
      have o0 := S.O.cell 0
      have r0 := S.R.cell 0; have r1 := S.R.cell 1; have r2 := S.R.cell 2; have r3 := S.R.cell 3
      have z0 := S.R.froz 0; have z1 := S.R.froz 1; have z2 := S.R.froz 2; have z3 := S.R.froz 3
      have hrl : r.length + 1 = m := by rw [← hm]; simp
      by_cases hk0 : kk = 0
      · have HF : Hid (RdOp L z4 false) := no_kind HSP.out (.inl (by rw [HKK.out]; exact hk0))
        subst hk0
        have bz := (((S.b.setCell (p := ⟨w.heap.size, 0, none⟩) (Nat.le_refl _) (.int .i64 0)).setCell (p := ⟨w.heap.size, 1, none⟩) (Nat.le_refl _) (.int .i64 0)).setCell (p := ⟨w.heap.size, 2, none⟩) (Nat.le_refl _) (.int .i64 0)).setCell (p := ⟨w.heap.size, 3, none⟩) (Nat.le_refl _) (.int .i64 0)
        clear S
        go_wp2
        refine bodyPost_ret (v := .tuple #[.agg #[.int .i64 0, .int .i64 0, .int .i64 0, .int .i64 0], .bool false]) (by simp [results, Tryz.results95, go_sem, r0, r1, r2, r3, z0, z1, z2, z3]) rfl ?_
        exact ⟨⟨z4, false, rfl, HF.out⟩, bz⟩
      · have hkI : ((kk : Int) == 0) = false := by simp [hk0]
        have hnl := nargs_le (kk : Int)
        obtain ⟨na, hna⟩ : ∃ na, nargs (kk : Int) = na := ⟨_, rfl⟩
        have HNA : Hid (nargs (kk : Int) = na) := hna
        rw [hna] at hnl
        clear hna
        have cA := argsC kk wr
        rw [HNA.out] at cA
        by_cases hml : m = 1 + na
        · have dm : ((m : Int) != 1 + (na : Int)) = false := by simp; omega
          clear r0 r1 r2 r3 z0 z1 z2 z3
          go_wp2_with fail
          refine cA.mono ?_
          rintro e w3 ⟨rfl, rfl⟩
          clear cA o0
          go_wp2
          go_loopw [8] (fun iv wr => ∃ (i : Nat) (ns : List Int), 1 ≤ i ∧ i ≤ m ∧ iv = .int .i64 i ∧ ns.length + 1 = i ∧ ReadN r ns ∧ RSt w wr p (.slice a1 m cp1) (.slice a2 17 cp2) (p0 :: r) kk (ns.getD 0 0) (ns.getD 1 0) (ns.getD 2 0)) (fun iv _ => m - (intOf iv).toNat)
          case atStart => exact ⟨1, [], by omega, by omega, rfl, rfl, readN_nil r, S⟩
          case round =>
            clear S
            obtain ⟨i, ns, hi1, hi2, rfl, hnl', hrn, S⟩ := hrel
            by_cases hlt : i < m
            · have i1 : (i : Int) < m := by omega
              have i2 : (0 : Int) ≤ i := by omega
              have hir : i - 1 < r.length := by omega
              obtain ⟨q, off, rfl, hq, hcc⟩ := S.P.sees.open (by simp)
              have s1 := seeS hcc i (by rw [hm]; exact hlt)
              have ei : (p0 :: r)[i]'(by rw [hm]; exact hlt) = r[i - 1] := by
                rw [List.getElem_cons]; split; omega; rfl
              rw [ei] at s1
              have hlp : r[i - 1].length ≤ 1048576 := by
                have := split_len 32 L r[i - 1] (by rw [HSP.out]; exact List.mem_cons_of_mem _ (List.getElem_mem hir))
                omega
              have cD := ReadDec.spec_any ⟨(r[i - 1]).toArray⟩ (by show (r[i - 1]).toArray.size ≤ _; simpa using hlp) wr
              have eD : (⟨(r[i - 1]).toArray⟩ : ByteArray).data.toList = r[i - 1] := by simp
              rw [eD] at cD
              have HN := (show Hid _ from (fun (n : Int) (h : RdRes r[i - 1] n false) => no_num HSP.out hir h))
              have HY := (show Hid _ from (fun (n : Int) (h : RdRes (r[ns.length]'(by omega)) n true) => readN_snoc hrn (by omega) h))
              have HE : Hid (∀ h : ns.length < r.length, r[ns.length] = r[i - 1]) := fun h => by congr 1; omega
              obtain ⟨pt, hpt⟩ : ∃ pt, r[i - 1] = pt := ⟨_, rfl⟩
              have HPT : Hid (r[i - 1] = pt) := hpt
              rw [hpt] at s1 cD HN
              clear hcc ei eD hpt hlp
              go_wp2_with fail
              refine cD.mono ?_
              rintro e w4 ⟨⟨n, b, rfl, hrd⟩, b4⟩
              have S := S.on b4
              clear cD s1
              cases b
              · have HF : Hid (RdOp L z4 false) := HN.out n hrd
                have r0 := S.R.cell 0; have r1 := S.R.cell 1; have r2 := S.R.cell 2; have r3 := S.R.cell 3
                have z0 := S.R.froz 0; have z1 := S.R.froz 1; have z2 := S.R.froz 2; have z3 := S.R.froz 3
                have bz := (((S.b.setCell (p := ⟨w.heap.size, 0, none⟩) (Nat.le_refl _) (.int .i64 0)).setCell (p := ⟨w.heap.size, 1, none⟩) (Nat.le_refl _) (.int .i64 0)).setCell (p := ⟨w.heap.size, 2, none⟩) (Nat.le_refl _) (.int .i64 0)).setCell (p := ⟨w.heap.size, 3, none⟩) (Nat.le_refl _) (.int .i64 0)
                clear S
                go_wp2
                refine bodyPost_ret (v := .tuple #[.agg #[.int .i64 0, .int .i64 0, .int .i64 0, .int .i64 0], .bool false]) (by simp [results, Tryz.results95, go_sem, r0, r1, r2, r3, z0, z1, z2, z3]) rfl ?_
                exact ⟨⟨z4, false, rfl, HF.out⟩, bz⟩
              · have HR : Hid (ReadN r (ns ++ [n])) := HY.out n (by rw [HE.out (by omega), HPT.out]; exact hrd)
                clear HN HY HE HPT hrd hrn
                match ns, hnl' with
                | [], hnl' =>
                  obtain rfl : i = 1 := by simpa using hnl'.symm
                  have o0 := S.O.cell 1
                  have f0 := S.O.froz 1
                  have S' := S.set 1 (.int .i64 n) (k' := kk) (a' := n) (b' := 0) (c' := 0) rfl
                  clear S
                  go_wp2
                  go_roundw
                  case rel => exact ⟨1 + 1, [n], by omega, by omega, rfl, by simp, HR.out, S'⟩
                  case measure => simp [intOf]; omega
                | [x0], hnl' =>
                  obtain rfl : i = 2 := by simpa using hnl'.symm
                  have o0 := S.O.cell 2
                  have f0 := S.O.froz 2
                  have S' := S.set 2 (.int .i64 n) (k' := kk) (a' := x0) (b' := n) (c' := 0) rfl
                  clear S
                  go_wp2
                  go_roundw
                  case rel => exact ⟨2 + 1, [x0, n], by omega, by omega, rfl, by simp, HR.out, S'⟩
                  case measure => simp [intOf]; omega
                | [x0, x1], hnl' =>
                  obtain rfl : i = 3 := by simpa using hnl'.symm
                  have o0 := S.O.cell 3
                  have f0 := S.O.froz 3
                  have S' := S.set 3 (.int .i64 n) (k' := kk) (a' := x0) (b' := x1) (c' := n) rfl
                  clear S
                  go_wp2
                  go_roundw
                  case rel => exact ⟨3 + 1, [x0, x1, n], by omega, by omega, rfl, by simp, HR.out, S'⟩
                  case measure => simp [intOf]; omega
                | _ :: _ :: _ :: _, hnl' => simp at hnl'; omega
            · obtain rfl : i = m := by omega
              have i1 : ¬ (i : Int) < i := by omega
              have HT := (show Hid _ from told_op HSP.out (by rw [HKK.out]; exact hk0) hrn (by omega))
              rw [HKK.out] at HT
              obtain ⟨x0, hx0⟩ : ∃ x, ns.getD 0 0 = x := ⟨_, rfl⟩
              obtain ⟨x1, hx1⟩ : ∃ x, ns.getD 1 0 = x := ⟨_, rfl⟩
              obtain ⟨x2, hx2⟩ : ∃ x, ns.getD 2 0 = x := ⟨_, rfl⟩
              have eN : ofNums (kk : Int) ns = ⟨kk, x0, x1, x2⟩ := by unfold ofNums; rw [hx0, hx1, hx2]
              rw [hx0, hx1, hx2] at S
              rw [eN] at HT
              have cS := showOpC ⟨kk, x0, x1, x2⟩ wr
              have eV : O4.val ⟨kk, x0, x1, x2⟩ = .agg #[.int .i64 kk, .int .i64 x0, .int .i64 x1, .int .i64 x2] := rfl
              rw [eV] at cS
              obtain ⟨T, hT⟩ : ∃ T, showOp ⟨kk, x0, x1, x2⟩ = T := ⟨_, rfl⟩
              rw [hT] at cS HT
              clear eN hx0 hx1 hx2 hrn hT eV
              have o0 := S.O.cell 0; have o1 := S.O.cell 1; have o2 := S.O.cell 2; have o3 := S.O.cell 3
              go_wp2_with fail
              refine cS.mono ?_
              rintro e w4 ⟨rfl, b4⟩
              have S := S.on b4
              clear cS o0 o1 o2 o3
              have r0 := S.R.cell 0; have r1 := S.R.cell 1; have r2 := S.R.cell 2; have r3 := S.R.cell 3
              have z0 := S.R.froz 0; have z1 := S.R.froz 1; have z2 := S.R.froz 2; have z3 := S.R.froz 3
              by_cases hTL : T = L
              · have HF : Hid (RdOp L ⟨kk, x0, x1, x2⟩ true) := HT.out.1 hTL
                subst hTL
                have o0 := S.O.cell 0; have o1 := S.O.cell 1; have o2 := S.O.cell 2; have o3 := S.O.cell 3
                have bz := (((S.b.setCell (p := ⟨w.heap.size, 0, none⟩) (Nat.le_refl _) (.int .i64 kk)).setCell (p := ⟨w.heap.size, 1, none⟩) (Nat.le_refl _) (.int .i64 x0)).setCell (p := ⟨w.heap.size, 2, none⟩) (Nat.le_refl _) (.int .i64 x1)).setCell (p := ⟨w.heap.size, 3, none⟩) (Nat.le_refl _) (.int .i64 x2)
                clear S HT
                go_wp2
                refine bodyPost_ret (v := .tuple #[.agg #[.int .i64 kk, .int .i64 x0, .int .i64 x1, .int .i64 x2], .bool true]) (by simp [results, Tryz.results95, go_sem, r0, r1, r2, r3, z0, z1, z2, z3]) rfl ?_
                exact ⟨⟨⟨kk, x0, x1, x2⟩, true, rfl, HF.out⟩, bz⟩
              · have HF : Hid (RdOp L z4 false) := HT.out.2 hTL
                have dT : (T == L) = false := by simp [hTL]
                have bz := (((S.b.setCell (p := ⟨w.heap.size, 0, none⟩) (Nat.le_refl _) (.int .i64 0)).setCell (p := ⟨w.heap.size, 1, none⟩) (Nat.le_refl _) (.int .i64 0)).setCell (p := ⟨w.heap.size, 2, none⟩) (Nat.le_refl _) (.int .i64 0)).setCell (p := ⟨w.heap.size, 3, none⟩) (Nat.le_refl _) (.int .i64 0)
                clear S HT hTL
                go_wp2
                refine bodyPost_ret (v := .tuple #[.agg #[.int .i64 0, .int .i64 0, .int .i64 0, .int .i64 0], .bool false]) (by simp [results, Tryz.results95, go_sem, r0, r1, r2, r3, z0, z1, z2, z3]) rfl ?_
                exact ⟨⟨z4, false, rfl, HF.out⟩, bz⟩
        · have HF : Hid (RdOp L z4 false) := no_kind HSP.out (.inr (by rw [HKK.out, HNA.out]; omega))
          have dm : ((m : Int) != 1 + (na : Int)) = true := by simp; omega
          go_wp2_with fail
          refine cA.mono ?_
          rintro e w3 ⟨rfl, rfl⟩
          clear cA o0
          have bz := (((S.b.setCell (p := ⟨w.heap.size, 0, none⟩) (Nat.le_refl _) (.int .i64 0)).setCell (p := ⟨w.heap.size, 1, none⟩) (Nat.le_refl _) (.int .i64 0)).setCell (p := ⟨w.heap.size, 2, none⟩) (Nat.le_refl _) (.int .i64 0)).setCell (p := ⟨w.heap.size, 3, none⟩) (Nat.le_refl _) (.int .i64 0)
          clear S
          go_wp2
          refine bodyPost_ret (v := .tuple #[.agg #[.int .i64 0, .int .i64 0, .int .i64 0, .int .i64 0], .bool false]) (by simp [results, Tryz.results95, go_sem, r0, r1, r2, r3, z0, z1, z2, z3]) rfl ?_
          exact ⟨⟨z4, false, rfl, HF.out⟩, bz⟩
end Ops
end Go.Proofs.YtjopmakbnompnaaGreatDoor
