/- What the specification's l6Words, l6Args and ShowOp answer. -/
import Derived.Test.YtjopmakbnompnaaDoorSourceL
import Derived.Test.YtjopmakbnompnaaDoorStrRow
import Derived.Test.YtjopmakbnompnaaDoorOpSpec
import Derived.Test.YtjopmakbnompnaaDoorDecWalks
import Derived.Deep.RegionHeld3
import Derived.Test.YtjopmakbnompnaaDoorTake
set_option linter.unusedVariables false
set_option linter.unusedSimpArgs false
namespace Go.Proofs.YtjopmakbnompnaaDoor
open Go.RowKit
namespace Ops
open Bas Flat Strs

set_option maxRecDepth 100000 in
theorem wordsC (w : World) : Calls Tryd.prog 29 #[] w fun e w' => ∃ v', e = .returned v' ∧ OwnsS w.heap.size w' v' words ∧ Below w.heap.size w w' := by
  go_enter Tryd.func29, Tryd.ntmps29
  go_wp2
  go_ret
  exact ⟨_, rfl, World.ownsRow_lit w _ 17 (Nat.le_refl _) (by simp [maxLen]) rfl, alloc_below w _⟩

theorem nargs3 {k : Int} (h : k = 2 ∨ k = 3 ∨ k = 4 ∨ k = 12) : nargs k = 3 := by unfold nargs; rw [if_pos h]
theorem nargs1 {k : Int} (h : k = 8 ∨ k = 15 ∨ k = 16) : nargs k = 1 := by unfold nargs; rw [if_neg (by omega), if_pos h]
theorem nargs0 {k : Int} (h : k = 9 ∨ k = 10 ∨ k = 11) : nargs k = 0 := by unfold nargs; rw [if_neg (by omega), if_neg (by omega), if_pos h]
theorem nargs2 {k : Int} (h3 : ¬ (k = 2 ∨ k = 3 ∨ k = 4 ∨ k = 12)) (h1 : ¬ (k = 8 ∨ k = 15 ∨ k = 16)) (h0 : ¬ (k = 9 ∨ k = 10 ∨ k = 11)) : nargs k = 2 := by unfold nargs; rw [if_neg h3, if_neg h1, if_neg h0]

set_option maxRecDepth 100000 in
set_option maxHeartbeats 1600000 in
theorem argsC (k : Int) (w : World) : Calls Tryd.prog 30 #[.int .i64 k] w fun e w' => e = .returned (.int .i64 (nargs k)) ∧ w = w' := by
  by_cases h3 : k = 2 ∨ k = 3 ∨ k = 4 ∨ k = 12
  · rw [nargs3 h3]
    rcases h3 with rfl | rfl | rfl | rfl
    all_goals
      go_enter Tryd.func30, Tryd.ntmps30
      go_wp2
      go_ret
      exact ⟨rfl, rfl⟩
  by_cases h1 : k = 8 ∨ k = 15 ∨ k = 16
  · rw [nargs1 h1]
    rcases h1 with rfl | rfl | rfl
    all_goals
      go_enter Tryd.func30, Tryd.ntmps30
      go_wp2
      go_ret
      exact ⟨rfl, rfl⟩
  by_cases h0 : k = 9 ∨ k = 10 ∨ k = 11
  · rw [nargs0 h0]
    rcases h0 with rfl | rfl | rfl
    all_goals
      go_enter Tryd.func30, Tryd.ntmps30
      go_wp2
      go_ret
      exact ⟨rfl, rfl⟩
  rw [nargs2 h3 h1 h0]
  have d2 : (k == 2) = false := by simp; omega
  have d3 : (k == 3) = false := by simp; omega
  have d4 : (k == 4) = false := by simp; omega
  have d12 : (k == 12) = false := by simp; omega
  have d8 : (k == 8) = false := by simp; omega
  have d15 : (k == 15) = false := by simp; omega
  have d16 : (k == 16) = false := by simp; omega
  have d9 : (k == 9) = false := by simp; omega
  have d10 : (k == 10) = false := by simp; omega
  have d11 : (k == 11) = false := by simp; omega
  clear h3 h1 h0
  go_enter Tryd.func30, Tryd.ntmps30
  go_wp2
  go_ret
  exact ⟨rfl, rfl⟩
theorem show_no {o : O4} (h : okOp o = false) : showOp o = [] := by unfold showOp; rw [if_neg (by simp [h])]
theorem show_is {o : O4} (h : okOp o = true) : showOp o = wordOf o.k ++ joinN ([o.a, o.b, o.c].take (nargs o.k)) := by unfold showOp nums; rw [if_pos h]
theorem small_i64 {x : Int} (h : 0 ≤ x ∧ x ≤ 65535) : -9223372036854775808 ≤ x ∧ x ≤ 9223372036854775807 := by omega
theorem word_len (k : Int) : (wordOf k).length ≤ 5 := by
  have : ∀ w ∈ words, w.length ≤ 5 := by decide
  unfold wordOf
  rw [List.getD_eq_getElem?_getD]
  cases hw : words[k.toNat]? with
  | none => simp
  | some u => exact this u (List.mem_of_getElem? hw)
theorem itoa_len {x : Int} (h : 0 ≤ x ∧ x ≤ 65535) : (Lib.itoa x).length ≤ 10 := (Num.spec_of x (by omega) (by omega)).2.2
theorem ret_s {a b : List UInt8} (h : a = b) : Ending.returned (.string ⟨a.toArray⟩) = .returned (.string ⟨b.toArray⟩) := by rw [h]

set_option maxRecDepth 100000 in
set_option maxHeartbeats 3200000 in
theorem showOpC (o : O4) (w : World) : Calls Tryd.prog 8 #[o.val] w fun e w' => e = .returned (.string ⟨(showOp o).toArray⟩) ∧ Below w.heap.size w w' := by
  obtain ⟨k, a, b, c⟩ := o
  show Calls _ _ #[.agg #[.int .i64 k, .int .i64 a, .int .i64 b, .int .i64 c]] _ _
  have X0 := Blk.new w #[.int .i64 k, .int .i64 a, .int .i64 b, .int .i64 c] 25
  have b0 := alloc_below w (.cells #[.int .i64 k, .int .i64 a, .int .i64 b, .int .i64 c] 25)
  have cO := specC k a b c (w.alloc (.cells #[.int .i64 k, .int .i64 a, .int .i64 b, .int .i64 c] 25))
  have eV : opV k a b c = .agg #[.int .i64 k, .int .i64 a, .int .i64 b, .int .i64 c] := rfl
  have eO : opOk k a b c = okOp ⟨k, a, b, c⟩ := rfl
  rw [eV, eO] at cO
  obtain ⟨p, hp⟩ : ∃ p, okOp ⟨k, a, b, c⟩ = p := ⟨_, rfl⟩
  rw [hp] at cO
  clear eV eO
  cases p
  · have HF : Hid ([] = showOp ⟨k, a, b, c⟩) := (show_no hp).symm
    clear hp
    go_enter Tryd.func8, Tryd.ntmps8
    go_wp2_with fail
    refine cO.mono ?_
    rintro e w1 ⟨rfl, b1⟩
    go_wp2
    go_ret
    exact ⟨ret_s HF.out, b0.trans (b1.mono b0.size)⟩
  obtain ⟨hk1, hk2⟩ := ok_kind hp
  obtain ⟨⟨ha, hb, hc⟩, -⟩ := ok_fields hp
  have HS : Hid (showOp ⟨k, a, b, c⟩ = wordOf k ++ joinN ([a, b, c].take (nargs k))) := show_is hp
  simp only at hk1 hk2 ha hb hc
  obtain ⟨i, rfl⟩ := Int.eq_ofNat_of_zero_le (show 0 ≤ k by omega)
  have hi : i < 17 := by omega
  have i1 : (i : Int) < 17 := by omega
  have i0 : (0 : Int) ≤ i := by omega
  have HW : Hid (words[i]'(by rw [words_length]; exact hi) = wordOf (i : Int)) := by
    show _ = _
    unfold wordOf
    rw [Int.toNat_natCast, List.getD_eq_getElem?_getD, List.getElem?_eq_getElem (by rw [words_length]; exact hi)]; rfl
  have ca := Dec.spec_any a (small_i64 ha).1 (small_i64 ha).2
  have cb := Dec.spec_any b (small_i64 hb).1 (small_i64 hb).2
  have cc := Dec.spec_any c (small_i64 hc).1 (small_i64 hc).2
  have la := itoa_len ha
  have lb := itoa_len hb
  have lc := itoa_len hc
  obtain ⟨ta, hta⟩ : ∃ t, Lib.itoa a = t := ⟨_, rfl⟩
  obtain ⟨tb, htb⟩ : ∃ t, Lib.itoa b = t := ⟨_, rfl⟩
  obtain ⟨tc, htc⟩ : ∃ t, Lib.itoa c = t := ⟨_, rfl⟩
  rw [hta] at ca la
  rw [htb] at cb lb
  rw [htc] at cc lc
  obtain ⟨na, hna'⟩ : ∃ n, ta.length = n := ⟨_, rfl⟩
  obtain ⟨nb, hnb⟩ : ∃ n, tb.length = n := ⟨_, rfl⟩
  obtain ⟨nc, hnc⟩ : ∃ n, tc.length = n := ⟨_, rfl⟩
  rw [hna'] at la
  rw [hnb] at lb
  rw [hnc] at lc
  have HT : Hid (Lib.itoa a = ta ∧ Lib.itoa b = tb ∧ Lib.itoa c = tc) := ⟨hta, htb, htc⟩
  clear hta htb htc
  have Ha := (show Hid _ from ca)
  have Hb := (show Hid _ from cb)
  have Hc := (show Hid _ from cc)
  clear ca cb cc hp ha hb hc
  go_enter Tryd.func8, Tryd.ntmps8
  go_wp2_with fail
  refine cO.mono ?_
  rintro e w1 ⟨rfl, b1⟩
  clear cO
  have X1 := X0.on b1 X0.lt
  have bb1 := b0.trans (b1.mono b0.size)
  have hz1 : w.heap.size < w1.heap.size := X1.lt
  have x1 := X1.cell 0
  clear X0 b0 b1
  go_wp2_with fail
  refine wp_region_held_drew (S := fun W => W.cell? ⟨w.heap.size, 0, none⟩ = some (.int .i64 i)) (by kernel_rfl) x1 (fun hHeld => ?_)
  refine takeH (i := 1) (some 9) (.pointer (some ⟨w.heap.size, 0, none⟩)) rfl rfl (by kernel_rfl) (by kernel_rfl) (by kernel_rfl) (fun _ _ _ h => h) (Or.inl ⟨by rfl, fun w hSw => by (try dsimp only at hSw); go_simp⟩) (by assumption) ?_
  try simp only [Act.put, List.setIfInBounds_toArray, List.set_cons_zero, List.set_cons_succ]
  refine takeH (i := 2) (some 10) (.int .i64 i) rfl rfl (by kernel_rfl) (by kernel_rfl) (by kernel_rfl) (fun _ _ _ h => h) (Or.inl ⟨by rfl, fun w hSw => by (try dsimp only at hSw); go_simp⟩) (by assumption) ?_
  try simp only [Act.put, List.setIfInBounds_toArray, List.set_cons_zero, List.set_cons_succ]
  refine wpAnyH_ready (rs := [0]) (by kernel_rfl) (by simp) ?_
  refine AllReadyH.cons rfl (fun K hK => ?_) AllReadyH.nil
  go_simp
  refine (wordsC _).mono ?_
  rintro e w2 ⟨v2, rfl, O2, b2⟩
  have b2 := undrewB b2
  have X2 := X1.on b2 X1.lt
  have bb2 := bb1.trans (b2.mono bb1.size)
  obtain ⟨a2, c2, hv2⟩ := O2.form
  rw [words_length] at hv2
  subst hv2
  obtain ⟨q, off, rfl, hq, hcc⟩ := O2.sees.open (by rw [words_length]; omega)
  have s2 := seeS hcc i (by rw [words_length]; exact hi)
  rw [HW.out] at s2
  obtain ⟨wd, hwd⟩ : ∃ wd, wordOf (i : Int) = wd := ⟨_, rfl⟩
  rw [hwd] at s2
  have lw := word_len (i : Int)
  rw [hwd] at lw
  obtain ⟨nw, hnw⟩ : ∃ n, wd.length = n := ⟨_, rfl⟩
  rw [hnw] at lw
  have HS' : Hid (showOp ⟨i, a, b, c⟩ = wd ++ joinN ([a, b, c].take (nargs i))) := by rw [← hwd]; exact HS.out
  clear hcc HW hwd HS O2 x1
  go_simp
  refine hK.out _ _ (X2.cell 0) (fun hHeld1 => ?_)
  clear hK K hHeld
  refine takeH (i := 3) (some 11) (.pointer (some ⟨q, off + i, none⟩)) rfl rfl (by kernel_rfl) (by kernel_rfl) (by kernel_rfl) (fun _ _ _ h => h) (Or.inl ⟨by rfl, fun w hSw => by (try dsimp only at hSw); go_simp⟩) (by assumption) ?_
  try simp only [Act.put, List.setIfInBounds_toArray, List.set_cons_zero, List.set_cons_succ]
  refine wpAnyH_ready (rs := [4]) (by kernel_rfl) (by simp) ?_
  refine AllReadyH.cons rfl (fun K hK => ?_) AllReadyH.nil
  go_simp
  refine hK.out _ _ (X2.cell 0) (fun hHeld2 => ?_)
  clear hK K hHeld1
  try simp only [Act.put, List.setIfInBounds_toArray, List.set_cons_zero, List.set_cons_succ]
  refine takeH (i := 5) (some 3) (.string ⟨wd.toArray⟩) rfl rfl (by kernel_rfl) (by kernel_rfl) (by kernel_rfl) (fun _ _ _ h => h) (Or.inl ⟨by rfl, fun w hSw => by (try dsimp only at hSw); go_simp⟩) (by assumption) ?_
  try simp only [Act.put, List.setIfInBounds_toArray, List.set_cons_zero, List.set_cons_succ]
  refine wpAnyH_done (by kernel_rfl) ?_ _
  clear hHeld2 s2 X1 b2 bb1
  have x2 := X2.cell 0
  go_wp2_with fail
  refine (argsC i w2).mono ?_
  rintro e w3 ⟨rfl, rfl⟩
  have hz2 := X2.lt
  have hna := nargs_le i
  obtain ⟨m, hm⟩ : ∃ m, nargs i = m := ⟨_, rfl⟩
  rw [hm] at hna HS' ⊢
  clear hm x2
  match m, hna with
  | 0, _ =>
    have HF : Hid (wd = showOp ⟨i, a, b, c⟩) := by show _ = _; rw [HS'.out]; simp [joinN, HT.out]
    clear HS'
    go_wp2
    go_ret
    exact ⟨ret_s HF.out, bb2⟩
  | 1, _ =>
    have HF : Hid (wd ++ 32 :: ta = showOp ⟨i, a, b, c⟩) := by show _ = _; rw [HS'.out]; simp [joinN, HT.out]
    clear HS'
    have x3 := X2.cell 1
    go_wp2_with fail
    refine (Ha.out w2).mono ?_
    rintro e w4 ⟨rfl, b4⟩
    clear x3
    go_wp2
    go_ret
    refine ⟨?_, bb2.trans (b4.mono bb2.size)⟩
    rw [← HF.out]; simp [ByteArray.mk_append_mk]
  | 2, _ =>
    have HF : Hid (wd ++ 32 :: (ta ++ 32 :: tb) = showOp ⟨i, a, b, c⟩) := by show _ = _; rw [HS'.out]; simp [joinN, HT.out]
    clear HS'
    have x3 := X2.cell 1
    go_wp2_with fail
    refine (Ha.out w2).mono ?_
    rintro e w4 ⟨rfl, b4⟩
    clear x3
    have X4 := X2.on b4 X2.lt
    have bb4 := bb2.trans (b4.mono bb2.size)
    have x4 := X4.cell 2
    go_wp2_with fail
    refine (Hb.out w4).mono ?_
    rintro e w5 ⟨rfl, b5⟩
    clear x4
    go_wp2
    go_ret
    refine ⟨?_, bb4.trans (b5.mono bb4.size)⟩
    rw [← HF.out]; simp [ByteArray.mk_append_mk]
  | 3, _ =>
    have HF : Hid (wd ++ 32 :: (ta ++ 32 :: (tb ++ 32 :: tc)) = showOp ⟨i, a, b, c⟩) := by show _ = _; rw [HS'.out]; simp [joinN, HT.out]
    clear HS'
    have x3 := X2.cell 1
    go_wp2_with fail
    refine (Ha.out w2).mono ?_
    rintro e w4 ⟨rfl, b4⟩
    clear x3
    have X4 := X2.on b4 X2.lt
    have bb4 := bb2.trans (b4.mono bb2.size)
    have x4 := X4.cell 2
    go_wp2_with fail
    refine (Hb.out w4).mono ?_
    rintro e w5 ⟨rfl, b5⟩
    clear x4
    have X5 := X4.on b5 X4.lt
    have bb5 := bb4.trans (b5.mono bb4.size)
    have x5 := X5.cell 3
    go_wp2_with fail
    refine (Hc.out w5).mono ?_
    rintro e w6 ⟨rfl, b6⟩
    clear x5
    go_wp2
    go_ret
    refine ⟨?_, bb5.trans (b6.mono bb5.size)⟩
    rw [← HF.out]; simp [ByteArray.mk_append_mk]
end Ops
end Go.Proofs.YtjopmakbnompnaaDoor
