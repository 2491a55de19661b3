/- What the program's ShowOp answers. -/
import Derived.Test.YtjopmakbnompnaaDoorImplWords
import Derived.Test.YtjopmakbnompnaaDoorReadCodeL
import Derived.Test.YtjopmakbnompnaaDoorDecWalks
set_option linter.unusedVariables false
set_option linter.unusedSimpArgs false
namespace Go.Proofs.YtjopmakbnompnaaDoor
open Go.RowKit
namespace Ops
open Bas

theorem showI_no {o : O4} (h : okOp o = false) : showOp o = [] := by unfold showOp; rw [if_neg (by simp [h])]
theorem showI_is {o : O4} (h : okOp o = true) : showOp o = wordOf o.k ++ joinN ([o.a, o.b, o.c].take (nargs o.k)) := by unfold showOp nums; rw [if_pos h]
theorem joinN_app (l r : List Int) : joinN (l ++ r) = joinN l ++ joinN r := by
  induction l with
  | nil => rfl
  | cons x l ih => simp [joinN, ih]
theorem joinN_take {l : List Int} {j : Nat} (h : j < l.length) : joinN (l.take (j + 1)) = joinN (l.take j) ++ 32 :: Lib.itoa l[j] := by
  rw [List.take_succ_eq_append_getElem h, joinN_app]; simp [joinN]
theorem retI_s {a b : List UInt8} (h : a = b) : Ending.returned (.string ⟨a.toArray⟩) = .returned (.string ⟨b.toArray⟩) := by rw [h]
theorem itoaI_len {x : Int} (h : 0 ≤ x ∧ x ≤ 65535) : (Lib.itoa x).length ≤ 10 := (Num.spec_of x (by omega) (by omega)).2.2
theorem fAt3 (a b c : Int) {j : Nat} (h : j < [a, b, c].length) : (#[.int .i64 a, .int .i64 b, .int .i64 c] : Array Value)[j]? = some (.int .i64 [a, b, c][j]) := by
  match j, h with
  | 0, _ => rfl
  | 1, _ => rfl
  | 2, _ => rfl

set_option maxRecDepth 100000 in
set_option maxHeartbeats 3200000 in
theorem showOpI (o : O4) (w : World) (hT : WTab w) (ht : Dec.Tab w) : Calls Tryd.prog 10 #[o.val] w fun e w' => e = .returned (.string ⟨(showOp o).toArray⟩) ∧ Below w.heap.size w w' := by
  obtain ⟨k, a, b, c⟩ := o
  show Calls _ _ #[.agg #[.int .i64 k, .int .i64 a, .int .i64 b, .int .i64 c]] _ _
  have X0 := Blk.new w #[.int .i64 k, .int .i64 a, .int .i64 b, .int .i64 c] 25
  have b0 := alloc_below w (.cells #[.int .i64 k, .int .i64 a, .int .i64 b, .int .i64 c] 25)
  have cO := implC k a b c (w.alloc (.cells #[.int .i64 k, .int .i64 a, .int .i64 b, .int .i64 c] 25))
  have eV : opV k a b c = .agg #[.int .i64 k, .int .i64 a, .int .i64 b, .int .i64 c] := rfl
  have eO : opOk k a b c = okOp ⟨k, a, b, c⟩ := rfl
  rw [eV, eO] at cO
  obtain ⟨p, hp⟩ : ∃ p, okOp ⟨k, a, b, c⟩ = p := ⟨_, rfl⟩
  rw [hp] at cO
  clear eV eO
  cases p
  · have HF : Hid ([] = showOp ⟨k, a, b, c⟩) := (showI_no hp).symm
    clear hp
    go_enter Tryd.func10, Tryd.ntmps10
    go_wp2_with fail
    refine cO.mono ?_
    rintro e w1 ⟨rfl, b1⟩
    go_wp2
    go_ret
    exact ⟨retI_s HF.out, b0.trans (b1.mono b0.size)⟩
  obtain ⟨hk1, hk2⟩ := ok_kind hp
  obtain ⟨⟨ha, hb, hc⟩, -⟩ := ok_fields hp
  have HS : Hid (showOp ⟨k, a, b, c⟩ = wordOf k ++ joinN ([a, b, c].take (nargs k))) := showI_is hp
  simp only at hk1 hk2 ha hb hc
  obtain ⟨i, rfl⟩ := Int.eq_ofNat_of_zero_le (show 0 ≤ k by omega)
  have hi : i < words.length := by rw [words_length]; omega
  have i1 : (i : Int) < 17 := by omega
  have i0 : (0 : Int) ≤ i := by omega
  have HW : Hid (words[i] = wordOf (i : Int)) := by
    show _ = _
    unfold wordOf
    rw [Int.toNat_natCast, List.getD_eq_getElem?_getD, List.getElem?_eq_getElem hi]; rfl
  have HSm : Hid (∀ x ∈ [a, b, c], 0 ≤ x ∧ x ≤ 65535) := fun x hx => by
    simp at hx
    rcases hx with rfl | rfl | rfl <;> assumption
  have hT1 := (show Hid _ from hT)
  have ht1 := (show Hid _ from ht)
  clear hp ha hb hc hT ht
  go_enter Tryd.func10, Tryd.ntmps10
  go_wp2_with fail
  refine cO.mono ?_
  rintro e w1 ⟨rfl, b1⟩
  clear cO
  have X1 := X0.on b1 X0.lt
  have bb1 := b0.trans (b1.mono b0.size)
  have x0 := X1.cell 0; have x1 := X1.cell 1; have x2 := X1.cell 2; have x3 := X1.cell 3
  have cw := WTab.on hT1.out bb1 i hi
  have lw : (words[i]).length ≤ 5 := by
    have : ∀ q ∈ words, q.length ≤ 5 := by decide
    exact this _ (List.getElem_mem hi)
  obtain ⟨wd, hwd⟩ : ∃ wd, words[i] = wd := ⟨_, rfl⟩
  have HS' : Hid (showOp ⟨i, a, b, c⟩ = wd ++ joinN ([a, b, c].take (nargs i))) := by rw [← hwd, HW.out]; exact HS.out
  rw [hwd] at cw lw
  clear hwd HW HS X0 b0 b1
  have F2 := Blk.new w1 #[.int .i64 a, .int .i64 b, .int .i64 c] 60
  have b2 := alloc_below w1 (.cells #[.int .i64 a, .int .i64 b, .int .i64 c] 60)
  have X2 := X1.on b2 X1.lt
  have y0 := X2.cell 0
  have bb2 := bb1.trans (b2.mono bb1.size)
  go_wp2_with fail
  refine (namedC i ⟨hk1, hk2⟩ _).mono ?_
  rintro e w3 ⟨rfl, b3⟩
  have F3 := F2.on b3 F2.lt
  have bb3 := bb2.trans (b3.mono bb2.size)
  obtain ⟨q, hq⟩ : ∃ q, w1.heap.size = q := ⟨_, rfl⟩
  have hz1 := X1.lt
  rw [hq] at F3 hz1 ⊢
  have hna := nargs_le i
  obtain ⟨m, hm⟩ : ∃ m, nargs i = m := ⟨_, rfl⟩
  rw [hm] at hna HS' ⊢
  have m1 : (m : Int) ≤ 3 := by omega
  have m0 : (0 : Int) ≤ m := by omega
  clear hm x0 x1 x2 x3 y0 cw X1 X2 bb1 bb2 b2 b3 F2 hq
  go_wp2
  go_loopw [3, 6, 26] (fun tv _ iv wr => ∃ (j : Nat) (T : Txt), j ≤ m ∧ iv = .int .i64 j ∧ tv = .string ⟨T.toArray⟩ ∧ T = wd ++ joinN ([a, b, c].take j) ∧ T.length ≤ 5 + 11 * j ∧ Blk wr q #[.int .i64 a, .int .i64 b, .int .i64 c] 60 ∧ Below w.heap.size w wr) (fun _ _ iv _ => m - (intOf iv).toNat)
  case atStart => exact ⟨0, wd, Nat.zero_le _, rfl, rfl, by simp [joinN], by omega, F3, bb3⟩
  case round =>
    obtain ⟨j, T, hj, rfl, rfl, hTe, hTl, F, bb⟩ := hrel
    clear F3 bb3
    have HTE : Hid (T = wd ++ joinN ([a, b, c].take j)) := hTe
    clear hTe
    by_cases hlt : j < m
    · have hj3 : j < [a, b, c].length := by simp; omega
      have cj := (F.cell j).trans (fAt3 a b c hj3)
      have hx := HSm.out _ (List.getElem_mem hj3)
      have HJ : Hid (joinN ([a, b, c].take (j + 1)) = joinN ([a, b, c].take j) ++ 32 :: Lib.itoa [a, b, c][j]) := joinN_take hj3
      obtain ⟨x, hxe⟩ : ∃ x, [a, b, c][j] = x := ⟨_, rfl⟩
      rw [hxe] at cj hx HJ
      have lx := itoaI_len hx
      have cD := Dec.impl_any x (by omega) (by omega) wr (Dec.Tab.on ht1.out bb)
      obtain ⟨tx, htx⟩ : ∃ t, Lib.itoa x = t := ⟨_, rfl⟩
      rw [htx] at cD lx HJ
      have j1 : (j : Int) < m := by omega
      have j0 : (0 : Int) ≤ j := by omega
      obtain ⟨lt, hlt'⟩ : ∃ l, T.length = l := ⟨_, rfl⟩
      obtain ⟨lx', hlx⟩ : ∃ l, tx.length = l := ⟨_, rfl⟩
      have hl3 : (T ++ 32 :: tx).length ≤ 5 + 11 * (j + 1) := by simp; omega
      rw [hlt'] at hTl
      rw [hlx] at lx
      clear hxe htx hx
      go_wp2_with fail
      refine cD.mono ?_
      rintro e w4 ⟨rfl, b4⟩
      clear cD cj
      go_wp2
      go_roundw
      case rel =>
        refine ⟨j + 1, T ++ 32 :: tx, by omega, by go_num, ?_, by rw [HJ.out, HTE.out]; simp, hl3, F.on b4 F.lt, bb.trans (b4.mono bb.size)⟩
        simp [ByteArray.mk_append_mk]
      case measure => simp [intOf]; omega
    · obtain rfl : j = m := by omega
      have HF : Hid (T = showOp ⟨i, a, b, c⟩) := HTE.out.trans HS'.out.symm
      have j1 : ¬ (j : Int) < j := by omega
      go_wp2
      go_ret
      exact ⟨retI_s HF.out, bb⟩
end Ops
end Go.Proofs.YtjopmakbnompnaaDoor
