/- StateAt, as specified. -/
import Derived.Test.YtppikpdphcfomaaHistSpec2
import Derived.Test.YtppikpdphcfomaaLogOver
set_option linter.unusedVariables false
set_option linter.unusedSimpArgs false
namespace Go.Proofs.Ytppikpdphcfomaa
open Go.RowKit
namespace Hist
open Bas Flat Logs

theorem own8 {B n c : Nat} {W : World} {a : Option Addr} {zs : List Int} (h : Ints.Owns B W (.slice a n c) zs) : zs.length = n := by
  obtain ⟨a', c', e⟩ := h.form
  simp only [Value.slice.injEq] at e
  exact e.2.1.symm
/-- the state ahead of entry i, or behind it -/
def cut (p i k : Nat) : Nat := if k ≤ p then i else i + 1
theorem cut_no {p i k : Nat} (h : k ≠ p) : cut p i (k + 1) = cut p i k := by unfold cut; split <;> split <;> omega
theorem cut_at (p i : Nat) : cut p i p = i := by unfold cut; rw [if_pos (Nat.le_refl _)]
theorem cut_yes (p i : Nat) : cut p i (p + 1) = i + 1 := by unfold cut; rw [if_neg (by omega)]
theorem cut_zero (p i : Nat) : cut p i 0 = i := by unfold cut; rw [if_pos (Nat.zero_le _)]
theorem cut_end {p i n : Nat} (h : p < n) : cut p i n = i + 1 := by unfold cut; rw [if_neg (by omega)]

set_option maxRecDepth 100000 in
set_option maxHeartbeats 6400000 in
theorem specState (v0 v : Value) (zs : List Int) (ls : List Wr) (nn : Int) (B : Nat) (w : World) (h0 : Ints.Sees B w v0 zs) (hv : SeesW B w v ls) (hB : B ≤ w.heap.size) :
    Calls Try.prog 22 #[v0, v, .int .i64 nn] w fun e w' => ∃ v', e = .returned v' ∧ Ints.Owns w.heap.size w' v' (stateAt zs ls nn) ∧ Below w.heap.size w w' := by
  have cV := Ths.specCells v0 zs B w h0
  rw [← vals_eq] at cV
  have cH := specHist v ls B w hv hB
  obtain ⟨a0, k0, rfl⟩ := h0.form
  obtain ⟨a, cap, rfl⟩ := hv.form
  obtain ⟨n, hn⟩ : ∃ n, ls.length = n := ⟨_, rfl⟩
  obtain ⟨p, hp⟩ : ∃ p, valsOk zs = p := ⟨_, rfl⟩
  obtain ⟨q, hq⟩ : ∃ p, histOk ls = p := ⟨_, rfl⟩
  obtain ⟨g, hg⟩ : ∃ g, w.heap.size = g := ⟨_, rfl⟩
  rw [hp] at cV
  rw [hn, hq, hg] at cH
  rw [hg] at hB ⊢
  cases p
  · have HF : Hid (stateAt zs ls nn = []) := state_no (by rw [hp]; rfl)
    have u0 := owns_litI w (Nat.le_refl _)
    have b0 := alloc_below w (.cells #[] 3)
    rw [← HF.out, hg] at u0
    rw [hg] at b0
    rw [hn]
    clear hp hq h0 hv cH
    go_enter Try.func22, Try.ntmps22
    go_wp2_with (go_at_call 49; refine cV.mono ?_; rintro e w1 ⟨rfl, rfl⟩)
    go_ret
    exact ⟨_, rfl, u0, b0⟩
  cases q
  · have HF : Hid (stateAt zs ls nn = []) := state_no (by rw [hp, hq]; rfl)
    rw [hn]
    clear hp hq h0 hv
    go_enter Try.func22, Try.ntmps22
    go_wp2_with (first | (go_at_call 49; refine cV.mono ?_; rintro e w1 ⟨rfl, rfl⟩) | (go_at_call 12; refine cH.mono ?_; rintro e w1 ⟨rfl, b1⟩; have u0 := owns_litI w1 (Nat.le_refl _); have b0 := alloc_below w1 (.cells #[] 3)))
    go_ret
    have hs := b1.size
    exact ⟨_, rfl, by rw [HF.out]; exact u0.mono (by omega), b1.trans (b0.mono (by omega))⟩
  have hz8 := vals_len hp
  have h200 := (histOk_iff.1 hq).1
  obtain ⟨T, hT⟩ : ∃ T, turnOf ls = T := ⟨_, rfl⟩
  have HTL : Hid (T.length = n) := by rw [← hT, ← hn]; exact turn_length ls
  have HPL : Hid (∀ k (hk : k < T.length), ∃ p, ∃ hp : p < ls.length, ls[p] = T[k] ∧ ∀ j (hj : j < ls.length), ls[j].s = T[k].s → j = p) := by rw [← hT]; exact fun k hk => place hq hk
  have HRO : Hid (∀ e ∈ T, rowsOk e.ps = true) := by rw [← hT]; exact fun e he => (entOk_out ((histOk_iff.1 hq).2.1 e ((turn_perm ls).mem_iff.1 he))).2.2
  have HVO := (show Hid _ from hp)
  have HSY : Hid (stampsOf ls = T.map Wr.s) := by rw [← hT]; exact stamps_yes hq
  have HY : Hid (stateAt zs ls nn = goAll zs (T.take (cntTo T nn))) := by rw [← hT]; exact state_yes (by rw [hp, hq]; rfl)
  have HN := (show Hid _ from hn)
  have HL8 : Hid (∀ i, (goAll zs (T.take i)).length = 8) := fun i => by rw [goAll_length]; exact hz8
  have HZ8 := (show Hid _ from hz8)
  rw [hn] at hv h200 ⊢
  rw [hz8] at h0 cV ⊢
  have h8' : (n : Int) ≤ 200 := by omega
  have HV := (show Hid _ from hv)
  clear hp hq hn hv hT hz8
  go_enter Try.func22, Try.ntmps22
  go_wp2_with fail
  refine cV.mono ?_
  rintro e w1 ⟨rfl, rfl⟩
  go_wp2_with fail
  refine cH.mono ?_
  rintro e w1 ⟨rfl, b1⟩
  have u0 := owns_litI w1 (Nat.le_refl _)
  have b0 := alloc_below w1 (.cells #[] 3)
  obtain ⟨q1, hq1⟩ : ∃ q, w1.heap.size = q := ⟨_, rfl⟩
  have h0b := (h0.on b1 hB).on b0 (by have := b1.size; omega)
  have hs1 := b1.size
  have hgq : g ≤ q1 := by omega
  have hzA := b0.size
  rw [hq1] at u0 b0 hzA
  obtain ⟨v3, w3, hr3, O3, G3, L3⟩ := Ints.appJ (.slice (some ⟨q1, 0, none⟩) 0 0) (.slice a0 8 k0) 24 [] zs B q1 _ u0 hzA h0b (by simp; have := HZ8.out; omega)
  rw [List.nil_append] at O3
  have b3 : Below g w w3 := (b1.trans (b0.mono hgq)).grown G3 (Nat.le_trans hgq hzA) (fun k hk => by cases hk; exact hgq)
  have hs3 := b3.size
  obtain ⟨a3, c3, rfl⟩ := O3.form
  rw [HZ8.out] at O3 hr3
  clear u0 b0 G3 L3 h0b h0 cV cH
  go_wp2_with (at_builtin; refine wpList_app _ rfl (.tmp 20) (.tmp 21) 24 rfl _ _ _ _ rfl rfl hr3 ?_)
  clear hr3
  have O3' : Ints.Owns g w3 (.slice a3 8 c3) (goAll zs (T.take 0)) := O3.mono hgq
  have cT := fun W (b : Below g w W) => specStamps _ ls B W (SeesW.on HV.out b hB) (by have := b.size; omega)
  rw [HSY.out] at cT
  have HCT := (show Hid _ from cT)
  clear O3 cT hzA
  go_wp2_with fail
  refine (HCT.out _ b3).mono ?_
  rintro e w4 ⟨v4, rfl, O4, b4⟩
  have O5 := O3'.on b4 (Nat.le_refl _)
  have b5 := b3.trans (b4.mono (by omega))
  obtain ⟨a4, c4, rfl⟩ := O4.form
  have hl4 : (T.map Wr.s).length = n := by rw [List.length_map]; exact HTL.out
  rw [hl4] at O4 ⊢
  have S4 : Ints.Sees w4.heap.size w4 (.slice a4 n c4) (T.map Wr.s) := O4.sees
  have hs4 := b5.size
  obtain ⟨h4, hh4⟩ : ∃ h, w4.heap.size = h := ⟨_, rfl⟩
  have HH4 := (show Hid _ from hh4)
  rw [hh4] at S4
  clear O4 O3' b4 b3 HCT hl4 b1
  go_wp2
  go_loopw [7, 9] (fun nv iv wr => ∃ (i : Nat) (ax : Option Addr) (cx : Nat), i ≤ n ∧ iv = .int .i64 i ∧ nv = .slice ax 8 cx ∧ Ints.Owns g wr (.slice ax 8 cx) (goAll zs (T.take i)) ∧ Hid (∀ j (h : j < T.length), j < i → T[j].s ≤ nn) ∧ Below g w wr ∧ Below h4 w4 wr) (fun _ iv _ => n - (intOf iv).toNat)
  case atStart => exact ⟨0, a3, c3, by omega, rfl, rfl, O5, fun j _ h => by omega, b5, Below.refl _ _⟩
  case round =>
    obtain ⟨i, ax, cx, hi, rfl, rfl, O, HJ, hb, hb4⟩ := hrel
    clear O5 b5
    have hsz : g ≤ wr.heap.size := by have := hb.size; omega
    by_cases hlt : i < n
    · have hiT : i < T.length := by have := HTL.out; omega
      obtain ⟨bo, oo, rfl, hbo, hco⟩ := (Flat.Sees.open (Ints.flat_sees (S4.on hb4 (Nat.le_refl _))) (by rw [List.length_map]; omega))
      have f0 : wr.cell? ⟨bo, oo + i, none⟩ = some (.int .i64 T[i].s) := by
        have := hco i (by rw [List.length_map]; exact hiT) 0 _ rfl
        have e : oo + i * Ints.intEl.sz + 0 = oo + i := by show oo + i * 1 + 0 = _; omega
        rw [e] at this
        simpa using this
      obtain ⟨x, hx⟩ : ∃ x, T[i].s = x := ⟨_, rfl⟩
      have HX := (show Hid (T[i].s = x) from hx)
      rw [hx] at f0
      have i1 : (i : Int) < n := by omega
      clear hco hx
      by_cases q1 : x ≤ nn
      · obtain ⟨p, hpl, hpe, hpu⟩ := HPL.out i hiT
        have HPE := (show Hid _ from hpe); have HPU := (show Hid _ from hpu)
        have hpn : p < n := by have := HN.out; omega
        have HJ2 : Hid (∀ j (h : j < T.length), j < i + 1 → T[j].s ≤ nn) := fun j hj hji => by
          rcases Nat.lt_succ_iff_lt_or_eq.1 hji with h | h
          · exact HJ.out j hj h
          · subst h; rw [HX.out]; exact q1
        have O0 : Ints.Owns g wr (.slice ax 8 cx) (goAll zs (T.take (cut p i 0))) := by rw [cut_zero]; exact O
        clear hpe hpu O
        go_wp2
        go_loopw [7, 10] (fun nv kv ws => ∃ (k : Nat) (ay : Option Addr) (cy : Nat), k ≤ n ∧ kv = .int .i64 k ∧ nv = .slice ay 8 cy ∧ Ints.Owns g ws (.slice ay 8 cy) (goAll zs (T.take (cut p i k))) ∧ Below g w ws ∧ Below h4 w4 ws) (fun _ kv _ => n - (intOf kv).toNat)
        case atStart => exact ⟨0, ax, cx, by omega, rfl, rfl, O0, hb, hb4⟩
        case round =>
          obtain ⟨k, ay, cy, hk, rfl, rfl, O, hbk, hbk4⟩ := hrel
          clear O0
          have hszk : g ≤ wr.heap.size := by have := hbk.size; omega
          by_cases hkn : k < n
          · have hkl : k < ls.length := by have := HN.out; omega
            obtain ⟨b, off, rfl, hbB, hc⟩ := SeesW.open (SeesW.on HV.out hbk hB) (Nat.lt_of_le_of_lt (Nat.zero_le k) hkl)
            obtain ⟨pp, pc, e0, e1, e2, p2⟩ := hc k hkl
            have f1 : wr.cell? ⟨bo, oo + i, none⟩ = some (.int .i64 x) := by
              have h9 := (Flat.Sees.open (Ints.flat_sees (S4.on hbk4 (Nat.le_refl _))) (by rw [List.length_map]; omega))
              obtain ⟨bo', oo', eb, -, hco⟩ := h9
              simp only [Option.some.injEq, Addr.mk.injEq, and_true] at eb
              obtain ⟨rfl, rfl⟩ := eb
              have := hco i (by rw [List.length_map]; exact hiT) 0 _ rfl
              have e : oo + i * Ints.intEl.sz + 0 = oo + i := by show oo + i * 1 + 0 = _; omega
              rw [e] at this
              rw [← HX.out]
              simpa using this
            have k1 : (k : Int) < n := by omega
            by_cases hkp : k = p
            · subst hkp
              have hk1 : ls[k].s = x := by rw [HPE.out, HX.out]
              have HPS : Hid (overOf (goAll zs (T.take i)) ls[k].ps = goAll zs (T.take (i + 1))) := by
                show _ = _
                rw [HPE.out, over_yes (by rw [goAll_vals HVO.out (fun e he => HRO.out e (List.mem_of_mem_take he)), HRO.out _ (List.getElem_mem hiT)]; rfl), goAll_take]
              rw [hk1] at e0
              rw [cut_at] at O
              obtain ⟨xs, hxs⟩ : ∃ l, ls[k].ps = l := ⟨_, rfl⟩
              rw [hxs] at e2 p2 HPS
              obtain ⟨m, hm⟩ : ∃ m, xs.length = m := ⟨_, rfl⟩
              rw [hm] at e2 p2
              have cO : ∀ W, Ints.Owns g W (.slice ay 8 cy) (goAll zs (T.take i)) → Below wr.heap.size wr W → Calls Try.prog 17 #[.slice ay 8 cy, .slice pp m pc] W fun e w' => ∃ v', e = .returned v' ∧ Ints.Owns W.heap.size w' v' (goAll zs (T.take (i + 1))) ∧ Below W.heap.size W w' := fun W o b => by
                rw [← HPS.out]
                exact specOver _ _ _ xs W.heap.size W o.sees ((p2.on (b.mono hszk) hB).up (by have := b.size; omega)) (Nat.le_refl _)
              have HCO := (show Hid _ from cO)
              have HO := (show Hid _ from O)
              clear hc hk1 hxs hm p2 cO O e1
              go_wp2_with fail
              go_region
              all_goals
                go_wp2_with fail
                refine (HCO.out _ ?_ ?_).mono ?_
                · exact HO.out
                · first | exact (Below.refl _ _).drew | exact (Below.refl _ _).drew.drew | exact Below.refl _ _
                rintro e w6 ⟨v6, rfl, O6, b6⟩
                obtain ⟨a6, c6, rfl⟩ := O6.form
                have hl6 := HL8.out (i + 1)
                rw [hl6] at O6 ⊢
                clear hl6
                have O7 : Ints.Owns g w6 (.slice a6 8 c6) (goAll zs (T.take (cut k i (k + 1)))) := by rw [cut_yes]; exact O6.mono hszk
                have bz : Below g w w6 ∧ Below h4 w4 w6 := by
                  have hh := hbk4.size
                  have e4 := HH4.out
                  first
                    | exact ⟨hbk.drew.trans (b6.mono hszk), hbk4.drew.trans (b6.mono (by show h4 ≤ wr.heap.size; omega))⟩
                    | exact ⟨hbk.drew.drew.trans (b6.mono hszk), hbk4.drew.drew.trans (b6.mono (by show h4 ≤ wr.heap.size; omega))⟩
                    | exact ⟨hbk.trans (b6.mono hszk), hbk4.trans (b6.mono (by show h4 ≤ wr.heap.size; omega))⟩
                go_wp2
                go_roundw
                case rel => exact ⟨k + 1, a6, c6, by omega, by go_num, rfl, O7, bz.1, bz.2⟩
                case measure => simp [intOf]; omega
            · have hne : (ls[k].s == x) = false := by
                cases h : (ls[k].s == x)
                · rfl
                · exact absurd (HPU.out k hkl (by rw [HX.out]; exact of_decide_eq_true (by simpa using h))) hkp
              have O7 : Ints.Owns g wr (.slice ay 8 cy) (goAll zs (T.take (cut p i (k + 1)))) := by rw [cut_no hkp]; exact O
              obtain ⟨y, hy⟩ : ∃ y, ls[k].s = y := ⟨_, rfl⟩
              rw [hy] at e0 hne
              have HO := (show Hid _ from O7)
              clear hc hy p2 O O7 e1 e2 hkp
              go_wp2_with fail
              go_region
              all_goals
                go_wp2
                go_roundw
                case rel => exact ⟨k + 1, ay, cy, by omega, by go_num, rfl, HO.out, by first | exact hbk.drew | exact hbk.drew.drew | exact hbk, by first | exact hbk4.drew | exact hbk4.drew.drew | exact hbk4⟩
                case measure => simp [intOf]; omega
          · obtain rfl : k = n := by omega
            have i2 : ¬ (k : Int) < k := by omega
            rw [cut_end hpn] at O
            go_wp2
            go_roundw
            case rel => exact ⟨i + 1, ay, cy, by omega, by go_num, rfl, O, HJ2, hbk, hbk4⟩
            case measure => simp [intOf]; omega
      · have q1' : nn < x := by omega
        have HC : Hid (cntTo T nn = i) := cnt_is HJ.out (fun h => by have := HX.out; omega) (by omega)
        have HE : Hid (goAll zs (T.take i) = stateAt zs ls nn) := by show _ = _; rw [HY.out, HC.out]
        clear q1
        go_wp2
        go_ret
        exact ⟨_, rfl, by rw [← HE.out]; exact O, hb⟩
    · obtain rfl : i = n := by omega
      have i1 : ¬ (i : Int) < i := by omega
      have HC : Hid (cntTo T nn = i) := cnt_is HJ.out (fun h => by have := HTL.out; omega) (by have := HTL.out; omega)
      have HE : Hid (goAll zs (T.take i) = stateAt zs ls nn) := by show _ = _; rw [HY.out, HC.out]
      go_wp2
      go_ret
      exact ⟨_, rfl, by rw [← HE.out]; exact O, hb⟩
end Hist
end Go.Proofs.Ytppikpdphcfomaa
