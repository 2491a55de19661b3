/- HistOk and Stamps, as the program has them. -/
import Derived.Test.YtppikpdphcfomaaHistImpl
import Derived.Test.YtppikpdphcfomaaHistSpec2
set_option linter.unusedVariables false
set_option linter.unusedSimpArgs false
namespace Go.Proofs.Ytppikpdphcfomaa
open Go.RowKit
namespace Hist
open Bas Flat Logs

set_option maxRecDepth 100000 in
set_option maxHeartbeats 1600000 in
theorem implHist (v : Value) (ls : List Wr) (B : Nat) (w : World) (hv : SeesW B w v ls) (hB : B ≤ w.heap.size) :
    Calls Try.prog 20 #[v] w fun e w' => e = .returned (.bool (histOk ls)) ∧ Below w.heap.size w w' := by
  have cT := inTurnC v ls B w hv hB
  obtain ⟨p, hp⟩ : ∃ p, histOk ls = p := ⟨_, rfl⟩
  rw [hp] at cT ⊢
  clear hp
  obtain ⟨a, cap, rfl⟩ := hv.form
  go_enter Try.func20, Try.ntmps20
  go_wp2_with fail
  refine cT.mono ?_
  rintro e w1 ⟨v1, rfl, -, b1⟩
  go_wp2
  go_ret
  exact ⟨rfl, b1⟩

set_option maxRecDepth 100000 in
set_option maxHeartbeats 3200000 in
theorem implStamps (v : Value) (ls : List Wr) (B : Nat) (w : World) (hv : SeesW B w v ls) (hB : B ≤ w.heap.size) :
    Calls Try.prog 15 #[v] w fun e w' => ∃ v', e = .returned v' ∧ Ints.Owns w.heap.size w' v' (stampsOf ls) ∧ Below w.heap.size w w' := by
  have cT := inTurnC v ls B w hv hB
  obtain ⟨p, hp⟩ : ∃ p, histOk ls = p := ⟨_, rfl⟩
  have HS : Hid (stampsOf ls = (turned ls).map Wr.s) := by
    show _ = _
    cases h : histOk ls
    · rw [stamps_no h, turned_no h]; rfl
    · rw [stamps_yes h, turned_yes h]
  have hl := turned_len ls
  rw [hp] at cT
  obtain ⟨T, hT⟩ : ∃ T, turned ls = T := ⟨_, rfl⟩
  rw [hT] at cT HS hl
  obtain ⟨a, cap, rfl⟩ := hv.form
  obtain ⟨g, hg⟩ : ∃ g, w.heap.size = g := ⟨_, rfl⟩
  rw [hg] at cT hB ⊢
  clear hp hT hv
  obtain ⟨n, hn⟩ : ∃ n, T.length = n := ⟨_, rfl⟩
  have HN := (show Hid _ from hn)
  rw [hn] at hl
  clear hn
  have h8' : (n : Int) ≤ 200 := by omega
  go_enter Try.func15, Try.ntmps15
  go_wp2_with fail
  refine cT.mono ?_
  rintro e w1 ⟨v1, rfl, V1, b1⟩
  clear cT
  obtain ⟨a1, c1, rfl⟩ := V1.form
  rw [HN.out] at V1 ⊢
  obtain ⟨h, hh⟩ : ∃ h, w1.heap.size = h := ⟨_, rfl⟩
  have HH := (show Hid _ from hh)
  have HV := (show Hid _ from V1)
  have hgh : g ≤ h := by have := b1.size; omega
  clear V1 hh
  go_wp2
  go_loopw [5, 15] (fun ov iv wr => ∃ (k cx : Nat) (ax : Option Addr), k ≤ n ∧ iv = .int .i64 k ∧ ov = .slice ax k cx ∧ Ints.Owns h wr (.slice ax k cx) ((T.map Wr.s).take k) ∧ Below h w1 wr) (fun _ iv _ => n - (intOf iv).toNat)
  case atStart => exact ⟨0, _, _, Nat.zero_le _, rfl, rfl, ⟨by simp [Ints.iv], .inl ⟨rfl, rfl⟩⟩, Below.refl _ _⟩
  case round =>
    obtain ⟨k, cx, ax, hk, rfl, rfl, O, hb⟩ := hrel
    have hsz : h ≤ wr.heap.size := by have := hb.size; have := HH.out; omega
    by_cases hlt : k < n
    · have hkl : k < T.length := by have := HN.out; omega
      have hV := HV.out
      rw [HH.out] at hV
      obtain ⟨b, off, rfl, hbB, hc⟩ := SeesW.open (SeesW.on hV hb (Nat.le_refl _)) (Nat.lt_of_le_of_lt (Nat.zero_le k) hkl)
      obtain ⟨p, c, e0, e1, e2, p2⟩ := hc k hkl
      obtain ⟨x, hx⟩ : ∃ x, T[k] = x := ⟨_, rfl⟩
      have HE : Hid ((T.map Wr.s).take (k + 1) = (T.map Wr.s).take k ++ [x.s]) := by
        show _ = _
        rw [List.take_succ_eq_append_getElem (by simpa using hkl), ← hx]; simp
      rw [hx] at e0 e1 e2 p2
      obtain ⟨m, hm'⟩ : ∃ m, x.ps.length = m := ⟨_, rfl⟩
      rw [hm'] at e2
      have i1 : (k : Int) < n := by omega
      have hl0 : ((T.map Wr.s).take k).length ≤ 4000000 := by rw [List.length_take]; omega
      have hl1 : ((T.map Wr.s).take (k + 1)).length = k + 1 := by rw [List.length_take, List.length_map]; omega
      have X4 := Blk.new wr #[.int .i64 x.s, .int .i64 x.who, .slice p m c] 33
      have x40 := X4.cell 0
      have a4 := alloc_below wr (.cells #[.int .i64 x.s, .int .i64 x.who, .slice p m c] 33)
      have O5 := O.on a4 (Nat.le_refl _)
      have b5 := hb.trans (a4.mono hsz)
      have hsz5 := Nat.le_trans hsz a4.size
      obtain ⟨v3, w3, hr3, O3, G3, L3⟩ := pushI _ _ h _ O5 hsz5 hl0 x.s
      rw [← HE.out] at O3
      have b3 := b5.grown G3 hsz5 (fun q hq => (O5.at q hq).1)
      have hzz : (wr.alloc (.cells #[.int .i64 x.s, .int .i64 x.who, .slice p m c] 33)).heap.size = wr.heap.size + 1 := by simp
      rw [hzz] at hr3
      obtain ⟨a3, c3, rfl⟩ := O3.form
      rw [hl1] at O3 hr3
      clear hc hx hl0 hl1 L3 G3 hzz X4 a4 O5 b5 hsz5 O p2 hV hm'
      go_wp2_with (at_builtin; refine wpList_app _ rfl _ _ 24 rfl _ _ _ _ rfl rfl hr3 ?_)
      clear hr3
      go_roundw
      case rel => exact ⟨k + 1, _, _, by omega, by go_num, rfl, O3, b3⟩
      case measure => simp [intOf]; omega
    · obtain rfl : k = n := by omega
      have hT : (T.map Wr.s).take k = stampsOf ls := by rw [HS.out, List.take_of_length_le (by rw [List.length_map, HN.out]; exact Nat.le_refl _)]
      rw [hT] at O
      have i1 : ¬ (k : Int) < k := by omega
      go_wp2
      go_ret
      exact ⟨_, rfl, O.mono hgh, b1.trans (hb.mono hgh)⟩
end Hist
end Go.Proofs.Ytppikpdphcfomaa
