/- LastWriter and Stamps, as specified. -/
import Derived.Test.YtppikpdphcfomaaHistSpec
import Derived.Test.YtppikpdphcfomaaHistL2
import Derived.Test.YtppikpdphcfomaaIntApp
set_option linter.unusedVariables false
set_option linter.unusedSimpArgs false
namespace Go.Proofs.Ytppikpdphcfomaa
open Go.RowKit
namespace Hist
open Bas Flat Logs

theorem ret_i {a b : Int} (h : a = b) : Ending.returned (.int .i64 a) = .returned (.int .i64 b) := by rw [h]

set_option maxRecDepth 100000 in
set_option maxHeartbeats 6400000 in
theorem specLastW (v : Value) (ls : List Wr) (cell nn : Int) (B : Nat) (w : World) (hv : SeesW B w v ls) (hB : B ≤ w.heap.size) :
    Calls Try.prog 29 #[v, .int .i64 cell, .int .i64 nn] w fun e w' => e = .returned (.int .i64 (lastW ls cell nn)) ∧ Below w.heap.size w w' := by
  have cH := specHist v ls B w hv hB
  obtain ⟨a, cap, rfl⟩ := hv.form
  obtain ⟨n, hn⟩ : ∃ n, ls.length = n := ⟨_, rfl⟩
  obtain ⟨g, hg⟩ : ∃ g, w.heap.size = g := ⟨_, rfl⟩
  obtain ⟨p, hp⟩ : ∃ p, histOk ls = p := ⟨_, rfl⟩
  rw [hg, hn, hp] at cH
  rw [hg] at hB ⊢
  cases p
  · have HF : Hid (lastW ls cell nn = 0) := lastW_no hp
    rw [hn]
    clear hp hv
    go_enter Try.func29, Try.ntmps29
    go_wp2_with fail
    refine cH.mono ?_
    rintro e w1 ⟨rfl, b1⟩
    go_wp2
    go_ret
    exact ⟨ret_i HF.out.symm, b1⟩
  have h200 := (histOk_iff.1 hp).1
  have HEN := (show Hid _ from (histOk_iff.1 hp).2.1)
  have HY : Hid (lastW ls cell nn = lw ls cell nn) := lastW_yes hp
  have HN := (show Hid _ from hn)
  rw [hn] at hv h200 ⊢
  have h8' : (n : Int) ≤ 200 := by omega
  have HV := (show Hid _ from hv)
  clear hp hn hv
  go_enter Try.func29, Try.ntmps29
  go_wp2_with fail
  refine cH.mono ?_
  rintro e w1 ⟨rfl, b1⟩
  clear cH
  go_wp2
  go_loopw [7, 8] (fun bv iv wr => ∃ (i : Nat) (bst : Int), i ≤ n ∧ iv = .int .i64 i ∧ bv = .int .i64 bst ∧ Hid (bst = lw (ls.take i) cell nn) ∧ Below g w wr) (fun _ iv _ => n - (intOf iv).toNat)
  case atStart => exact ⟨0, 0, by omega, rfl, rfl, rfl, b1⟩
  case round =>
    obtain ⟨i, bst, hi, rfl, rfl, HBS, hb⟩ := hrel
    clear b1
    have hsz : g ≤ wr.heap.size := by have := hb.size; omega
    by_cases hlt : i < n
    · have hil : i < ls.length := by have := HN.out; omega
      obtain ⟨b, off, rfl, hbB, hc⟩ := SeesW.open (SeesW.on HV.out hb hB) (Nat.lt_of_le_of_lt (Nat.zero_le i) hil)
      obtain ⟨p, c, e0, e1, e2, p2⟩ := hc i hil
      have HR := (show Hid (rowsOk ls[i].ps = true) from (entOk_out (HEN.out _ (List.getElem_mem hil))).2.2)
      have HT : Hid (lw (ls.take (i + 1)) cell nn = if hit cell nn ls[i] = true ∧ bst < ls[i].s then ls[i].s else bst) := by show _ = _; rw [lw_take ls cell nn i hil, HBS.out]
      have HH : Hid (hit cell nn ls[i] = ((lastOf ls[i].ps cell).isSome && decide (ls[i].s ≤ nn))) := hit_of HR.out
      obtain ⟨x, hx⟩ : ∃ x, ls[i] = x := ⟨_, rfl⟩
      rw [hx] at e0 e1 e2 p2 HT HH
      have i1 : (i : Int) < n := by omega
      have cL := Logs.specLast _ x.ps cell B wr p2
      obtain ⟨y, hy⟩ : ∃ y, (lastOf x.ps cell).getD 0 = y := ⟨_, rfl⟩
      obtain ⟨is, his⟩ : ∃ y, (lastOf x.ps cell).isSome = y := ⟨_, rfl⟩
      rw [hy, his] at cL
      rw [his] at HH
      obtain ⟨m, hm'⟩ : ∃ m, x.ps.length = m := ⟨_, rfl⟩
      rw [hm'] at e2 cL
      clear hc hx p2 hy his hm' HBS
      cases is
      · have HZ : Hid (bst = lw (ls.take (i + 1)) cell nn) := by show _ = _; rw [HT.out, HH.out]; simp
        clear HT HH
        go_wp2_with (go_at_call 14; refine cL.mono ?_; rintro e w2 ⟨rfl, rfl⟩)
        go_roundw
        case rel => exact ⟨i + 1, bst, by omega, by go_num, rfl, HZ, hb⟩
        case measure => simp [intOf]; omega
      · by_cases q1 : x.s ≤ nn
        · by_cases q2 : bst < x.s
          · have HZ : Hid (x.s = lw (ls.take (i + 1)) cell nn) := by show _ = _; rw [HT.out, HH.out]; simp [q1, q2]
            clear HT HH
            go_wp2_with (go_at_call 14; refine cL.mono ?_; rintro e w2 ⟨rfl, rfl⟩)
            go_roundw
            case rel => exact ⟨i + 1, x.s, by omega, by go_num, rfl, HZ, hb⟩
            case measure => simp [intOf]; omega
          · have HZ : Hid (bst = lw (ls.take (i + 1)) cell nn) := by show _ = _; rw [HT.out, HH.out]; simp [q1, q2]
            have q2' : x.s ≤ bst := by omega
            clear HT HH q2
            go_wp2_with (go_at_call 14; refine cL.mono ?_; rintro e w2 ⟨rfl, rfl⟩)
            go_roundw
            case rel => exact ⟨i + 1, bst, by omega, by go_num, rfl, HZ, hb⟩
            case measure => simp [intOf]; omega
        · have HZ : Hid (bst = lw (ls.take (i + 1)) cell nn) := by show _ = _; rw [HT.out, HH.out]; simp [q1]
          have q1' : nn < x.s := by omega
          clear HT HH q1
          go_wp2_with (go_at_call 14; refine cL.mono ?_; rintro e w2 ⟨rfl, rfl⟩)
          go_roundw
          case rel => exact ⟨i + 1, bst, by omega, by go_num, rfl, HZ, hb⟩
          case measure => simp [intOf]; omega
    · obtain rfl : i = n := by omega
      have HZ : Hid (bst = lastW ls cell nn) := by show _ = _; rw [HBS.out, HY.out, List.take_of_length_le (by have := HN.out; omega)]
      have i1 : ¬ (i : Int) < i := by omega
      clear HBS
      go_wp2
      go_ret
      exact ⟨ret_i HZ.out, hb⟩

theorem owns_litI (w : World) {B : Nat} (hB : B ≤ w.heap.size) : Ints.Owns B (w.alloc (.cells #[] 3)) (.slice (some ⟨w.heap.size, 0, none⟩) 0 0) [] := Ints.owns_lit w hB

set_option maxRecDepth 100000 in
set_option maxHeartbeats 6400000 in
theorem specStamps (v : Value) (ls : List Wr) (B : Nat) (w : World) (hv : SeesW B w v ls) (hB : B ≤ w.heap.size) :
    Calls Try.prog 28 #[v] w fun e w' => ∃ v', e = .returned v' ∧ Ints.Owns w.heap.size w' v' (stampsOf ls) ∧ Below w.heap.size w w' := by
  have u0 := owns_litI w (Nat.le_refl _)
  have b0 := alloc_below w (.cells #[] 3)
  have cH := specHist v ls B (w.alloc (.cells #[] 3)) (hv.on b0 hB) (by have := b0.size; omega)
  obtain ⟨W0, hW0⟩ : ∃ W, w.alloc (.cells #[] 3) = W := ⟨_, rfl⟩
  rw [hW0] at u0 b0 cH
  obtain ⟨a, cap, rfl⟩ := hv.form
  obtain ⟨n, hn⟩ : ∃ n, ls.length = n := ⟨_, rfl⟩
  obtain ⟨g, hg⟩ : ∃ g, w.heap.size = g := ⟨_, rfl⟩
  obtain ⟨p, hp⟩ : ∃ p, histOk ls = p := ⟨_, rfl⟩
  rw [hn, hp] at cH
  rw [hg] at hB u0 b0 ⊢
  have hz0 := b0.size
  cases p
  · have HF : Hid (stampsOf ls = []) := stamps_no hp
    rw [hn]
    clear hp hv
    go_enter Try.func28, Try.ntmps28
    go_wp2_with fail
    refine cH.mono ?_
    rintro e w1 ⟨rfl, b1⟩
    have u1 := u0.on b1 (Nat.le_refl _)
    go_wp2
    go_ret
    exact ⟨_, rfl, by rw [HF.out, ← hg]; rw [← hg] at u1; exact u1, b0.trans (b1.mono (by omega))⟩
  have h200 := (histOk_iff.1 hp).1
  obtain ⟨T, hT⟩ : ∃ T, turnOf ls = T := ⟨_, rfl⟩
  have HOK := (show Hid _ from hp)
  have HTT := (show Hid (turnOf ls = T) from hT)
  have HTL : Hid (T.length = n) := by rw [← hT, ← hn]; exact turn_length ls
  have HY : Hid (stampsOf ls = T.map Wr.s) := by rw [← hT]; exact stamps_yes hp
  have HN := (show Hid _ from hn)
  rw [hn] at hv h200 ⊢
  have h8' : (n : Int) ≤ 200 := by omega
  have HV := (show Hid _ from hv)
  clear hp hn hv hT
  go_enter Try.func28, Try.ntmps28
  go_wp2_with fail
  refine cH.mono ?_
  rintro e w1 ⟨rfl, b1⟩
  have u1 := u0.on b1 (Nat.le_refl _)
  have bb := b0.trans (b1.mono (by omega))
  clear cH b0 b1 u0 hW0 hz0
  go_wp2
  go_loopw [3, 4] (fun ov lv wr => ∃ (k : Nat) (last : Int) (ax : Option Addr) (cx : Nat), k ≤ n ∧ ov = .slice ax k cx ∧ lv = .int .i64 last ∧ Hid (Top T k last) ∧ Ints.Owns g wr (.slice ax k cx) ((T.map Wr.s).take k) ∧ Below g w wr) (fun ov _ _ => n - (match ov with | .slice _ k _ => k | _ => 0))
  case atStart => exact ⟨0, 0, _, _, by omega, rfl, rfl, .inl ⟨rfl, rfl⟩, u1, bb⟩
  case round =>
    obtain ⟨k, last, ax, cx, hk, rfl, rfl, HTop, O, hb⟩ := hrel
    clear bb u1
    have hsz : g ≤ wr.heap.size := by have := hb.size; omega
    by_cases hlt : k < n
    · have i1 : (k : Int) < n := by omega
      have hkT : k < T.length := by have := HTL.out; omega
      have hOb := O.at
      go_wp2
      go_loop [5, 6] (fun bv iv => ∃ (i : Nat) (bst : Int), i ≤ n ∧ iv = .int .i64 i ∧ bv = .int .i64 bst ∧ Hid (bst = nx last (ls.take i))) (fun _ iv => n - (intOf iv).toNat)
      case atStart => exact ⟨0, 1000001, by omega, rfl, rfl, rfl⟩
      case round =>
        obtain ⟨i, bst, hi, rfl, rfl, HBS⟩ := hrel
        by_cases hlt2 : i < n
        · have hil : i < ls.length := by have := HN.out; omega
          obtain ⟨b, off, rfl, hbB, hc⟩ := SeesW.open (SeesW.on HV.out hb hB) (Nat.lt_of_le_of_lt (Nat.zero_le i) hil)
          obtain ⟨p, c, e0, -, -, -⟩ := hc i hil
          have HT : Hid (nx last (ls.take (i + 1)) = if last < ls[i].s ∧ ls[i].s < bst then ls[i].s else bst) := by show _ = _; rw [nx_take last ls i hil, HBS.out]
          obtain ⟨x, hx⟩ : ∃ x, ls[i].s = x := ⟨_, rfl⟩
          rw [hx] at e0 HT
          have i1 : (i : Int) < n := by omega
          clear hc hx HBS
          by_cases q1 : last < x
          · by_cases q2 : x < bst
            · have HZ : Hid (x = nx last (ls.take (i + 1))) := by show _ = _; rw [HT.out, if_pos ⟨q1, q2⟩]
              clear HT
              go_wp2
              go_round
              case rel => exact ⟨i + 1, x, by omega, by go_num, rfl, HZ⟩
              case measure => simp [intOf]; omega
            · have HZ : Hid (bst = nx last (ls.take (i + 1))) := by show _ = _; rw [HT.out, if_neg (fun h => q2 h.2)]
              have q2' : bst ≤ x := by omega
              clear HT q2
              go_wp2
              go_round
              case rel => exact ⟨i + 1, bst, by omega, by go_num, rfl, HZ⟩
              case measure => simp [intOf]; omega
          · have HZ : Hid (bst = nx last (ls.take (i + 1))) := by show _ = _; rw [HT.out, if_neg (fun h => q1 h.1)]
            have q1' : x ≤ last := by omega
            clear HT q1
            go_wp2
            go_round
            case rel => exact ⟨i + 1, bst, by omega, by go_num, rfl, HZ⟩
            case measure => simp [intOf]; omega
        · obtain rfl : i = n := by omega
          have i2 : ¬ (i : Int) < i := by omega
          have HE : Hid (bst = T[k].s) := by
            show _ = _
            have e := HBS.out
            rw [List.take_of_length_le (by have := HN.out; omega)] at e
            have h1 := HTT.out
            subst h1
            rw [e]; exact nx_turn HOK.out hkT HTop.out
          have HP : Hid (Top T (k + 1) bst) := by rw [HE.out]; exact Top.next hkT
          have HA : Hid ((T.map Wr.s).take (k + 1) = (T.map Wr.s).take k ++ [bst]) := by
            show _ = _
            rw [List.take_succ_eq_append_getElem (by simpa using hkT), HE.out]; simp
          have hln : ((T.map Wr.s).take k).length ≤ 4000000 := by rw [List.length_take]; omega
          have hl1 : ((T.map Wr.s).take (k + 1)).length = k + 1 := by rw [List.length_take, List.length_map]; omega
          obtain ⟨v3, w3, hr3, O3, G3, L3⟩ := pushI _ _ g wr O hsz hln bst
          rw [← HA.out] at O3
          have b3 := hb.grown G3 hsz (fun q hq => (hOb q hq).1)
          obtain ⟨a3, c3, rfl⟩ := O3.form
          rw [hl1] at O3 hr3
          clear HBS HE HA hln hl1 G3 L3
          go_wp2_with (at_builtin; refine wpList_app _ rfl (.tmp 44) (.tmp 46) 24 rfl _ _ _ _ rfl rfl hr3 ?_)
          go_roundw
          case rel => exact ⟨k + 1, bst, a3, c3, by omega, rfl, rfl, HP, O3, b3⟩
          case measure => show i - (k + 1) < i - k; omega
    · obtain rfl : k = n := by omega
      have i1 : ¬ (k : Int) < k := by omega
      have HZ : Hid ((T.map Wr.s).take k = stampsOf ls) := by show _ = _; rw [HY.out, List.take_of_length_le (by rw [List.length_map]; have := HTL.out; omega)]
      go_wp2
      go_ret
      exact ⟨_, rfl, by rw [← HZ.out]; exact O, hb⟩
end Hist
end Go.Proofs.Ytppikpdphcfomaa
