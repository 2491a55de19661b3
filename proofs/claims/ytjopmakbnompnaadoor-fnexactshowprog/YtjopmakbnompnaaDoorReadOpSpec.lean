/- What the specification's ReadOp answers. -/
import Derived.Test.YtjopmakbnompnaaDoorReadOpL
import Derived.Test.YtjopmakbnompnaaDoorSplitSpec
import Derived.Test.YtjopmakbnompnaaDoorSourceSpec
import Derived.Test.YtjopmakbnompnaaDoorReadDecWalks
import Derived.Deep.QuietTactic
import Derived.BigQuiet
set_option linter.unusedVariables false
set_option linter.unusedSimpArgs false
namespace Go.Proofs.YtjopmakbnompnaaDoor
open Go.RowKit
namespace Ops
open Bas Flat Strs Num

/-- what ReadOp answers -/
def ToldOp (l : Txt) (e : Ending) : Prop := ∃ (o : O4) (b : Bool), e = .returned (.tuple #[o.val, .bool b]) ∧ RdOp l o b
def zerosO : Array Value := #[.int .i64 0, .int .i64 0, .int .i64 0, .int .i64 0]
/-- the parts, the words, the op that is being read, the result's place -/
structure RSt (w W : World) (p : Nat) (vp vw : Value) (ps : List Txt) (k a b c : Int) : Prop where
  P : OwnsS w.heap.size W vp ps
  V : OwnsS w.heap.size W vw words
  R : Blk W w.heap.size #[.int .i64 0, .int .i64 0, .int .i64 0, .int .i64 0] 25
  O : Blk W p #[.int .i64 k, .int .i64 a, .int .i64 b, .int .i64 c] 25
  ne : w.heap.size < p
  b : Below w.heap.size w W
section
variable {w W W' : World} {p : Nat} {vp vw : Value} {ps : List Txt} {k a b c : Int}
theorem RSt.on (h : RSt w W p vp vw ps k a b c) (hb : Below W.heap.size W W') : RSt w W' p vp vw ps k a b c :=
  { P := h.P.on hb (Nat.le_refl _), V := h.V.on hb (Nat.le_refl _), R := h.R.on hb h.R.lt, O := h.O.on hb h.O.lt, ne := h.ne, b := h.b.trans (hb.mono h.b.size) }
theorem RSt.drewN (h : RSt w W p vp vw ps k a b c) (n : Nat) : RSt w (W.drewN n) p vp vw ps k a b c :=
  h.on ⟨rfl, rfl, rfl, Nat.le_refl _, fun _ _ => rfl⟩
theorem RSt.set (h : RSt w W p vp vw ps k a b c) (i : Nat) (u : Value) {k' a' b' c' : Int} (e : (#[.int .i64 k, .int .i64 a, .int .i64 b, .int .i64 c] : Array Value).setIfInBounds i u = #[.int .i64 k', .int .i64 a', .int .i64 b', .int .i64 c']) : RSt w (W.setCell ⟨p, i, none⟩ u) p vp vw ps k' a' b' c' :=
  have hne := h.ne
  { P := h.P.other (h.P.off h.O (by decide)) _, V := h.V.other (h.V.off h.O (by decide)) _, R := h.R.other (by omega) _ _, O := by have := h.O.set i u; rw [e] at this; exact this, ne := hne, b := h.b.setCell (by show w.heap.size ≤ p; omega) _ }
end

set_option maxRecDepth 100000 in
set_option maxHeartbeats 8000000 in
theorem readOpC (L : Txt) (hs : L.length ≤ 1048576) (w : World) :
    Calls Tryd.prog 11 #[.string ⟨L.toArray⟩] w fun e w' => ToldOp L e ∧ Below w.heap.size w w' := by
  have b0 := alloc_below w (.cells #[.int .i64 0, .int .i64 0, .int .i64 0, .int .i64 0] 25)
  have R0 := Blk.new w #[.int .i64 0, .int .i64 0, .int .i64 0, .int .i64 0] 25
  have c1 := splitC ⟨L.toArray⟩ 32 (by show L.toArray.size ≤ _; simpa using hs) (w.alloc (.cells #[.int .i64 0, .int .i64 0, .int .i64 0, .int .i64 0] 25))
  have hL : (⟨L.toArray⟩ : ByteArray).data.toList = L := by simp
  rw [hL] at c1
  clear hL
  obtain ⟨p0, r, hsp⟩ : ∃ p0 r, split 32 L = p0 :: r := by
    match h : split 32 L, split_ne 32 L with
    | p0 :: r, _ => exact ⟨p0, r, rfl⟩
  have HSP : Hid (split 32 L = p0 :: r) := hsp
  rw [hsp] at c1
  clear hsp
  go_enter Tryd.func11, Tryd.ntmps11
  go_wp2_with fail
  refine c1.mono ?_
  rintro e w1 ⟨v1, rfl, P1, b1⟩
  clear c1
  have R1 := R0.on b1 R0.lt
  have bb1 := b0.trans (b1.mono b0.size)
  have hz1 : w.heap.size < w1.heap.size := R1.lt
  obtain ⟨a1, cp1, rfl⟩ := P1.form
  obtain ⟨m, hm⟩ : ∃ m, (p0 :: r).length = m := ⟨_, rfl⟩
  have hm1 : 1 ≤ m := by rw [← hm]; simp
  rw [hm] at P1 ⊢
  have bA := alloc_below w1 (.cells #[.int .i64 0, .int .i64 0, .int .i64 0, .int .i64 0] 25)
  have O1 := Blk.new w1 #[.int .i64 0, .int .i64 0, .int .i64 0, .int .i64 0] 25
  go_wp2_with fail
  refine (wordsC _).mono ?_
  rintro e w2 ⟨v2, rfl, V2, b2⟩
  have S : RSt w w2 w1.heap.size (.slice a1 m cp1) v2 (p0 :: r) 0 0 0 0 :=
    { P := ((P1.mono (by simp)).on bA (Nat.le_refl _)).on b2 (Nat.le_refl _), V := V2.mono (by simp; omega), R := (R1.on bA R1.lt).on b2 (by simp; omega), O := O1.on b2 O1.lt, ne := hz1, b := bb1.trans ((bA.trans (b2.mono bA.size)).mono bb1.size) }
  obtain ⟨p, hp⟩ : ∃ p, w1.heap.size = p := ⟨_, rfl⟩
  rw [hp] at S ⊢
  clear hp b0 R0 P1 b1 R1 bb1 hz1 bA O1 V2 b2
  obtain ⟨a2, cp2, hv2⟩ := S.V.form
  rw [words_length] at hv2
  subst hv2
  go_wp2
  go_loopw [7] (fun iv wr => ∃ k : Nat, 1 ≤ k ∧ k ≤ 17 ∧ iv = .int .i64 k ∧ RSt w wr p (.slice a1 m cp1) (.slice a2 17 cp2) (p0 :: r) (kindTo p0 k) 0 0 0) (fun iv _ => 17 - (intOf iv).toNat)
  case atStart => exact ⟨1, by omega, by omega, rfl, by rw [kindTo_one]; exact S⟩
  case round =>
    obtain ⟨k, hk1, hk2, rfl, S⟩ := hrel
    by_cases hlt : k < 17
    · obtain ⟨q, off, rfl, hq, hcc⟩ := S.V.sees.open (by rw [words_length]; omega)
      obtain ⟨q', off', rfl, hq', hcc'⟩ := S.P.sees.open (by simp)
      have s1 := seeS hcc k (by rw [words_length]; exact hlt)
      have s2 := seeS hcc' 0 (by simp)
      rw [Nat.add_zero, List.getElem_cons_zero] at s2
      have i1 : (k : Int) < 17 := by omega
      have i2 : (0 : Int) ≤ k := by omega
      have i3 : (0 : Int) < m := by omega
      have hgw : words.getD k [] = words[k]'(by rw [words_length]; exact hlt) := by
        rw [List.getD_eq_getElem?_getD, List.getElem?_eq_getElem (by rw [words_length]; exact hlt)]; rfl
      obtain ⟨wd, hwd⟩ : ∃ wd, words[k]'(by rw [words_length]; exact hlt) = wd := ⟨_, rfl⟩
      rw [hwd] at s1 hgw
      clear hcc hcc' hwd
      by_cases he : wd = p0
      · have HK : Hid (kindTo p0 (k + 1) = k) := by show (if _ then _ else _) = _; rw [if_pos ⟨hk1, by rw [hgw]; exact he⟩]
        subst he
        clear hgw
        go_wp2_with fail
        go_quiet (fail)
        have S := S.drewN nq
        have o0 := S.O.cell 0
        have f0 := S.O.froz 0
        have S' := S.set 0 (.int .i64 k) (k' := k) (a' := 0) (b' := 0) (c' := 0) rfl
        clear S s1 s2
        go_wp2
        go_roundw
        case rel => exact ⟨k + 1, by omega, by omega, by go_num, by rw [HK.out]; exact S'⟩
        case measure => simp [intOf]; omega
      · have HK : Hid (kindTo p0 (k + 1) = kindTo p0 k) := by show (if _ then _ else _) = _; rw [if_neg (fun h => he (hgw.symm.trans h.2))]
        have d1 : (wd == p0) = false := by simp [he]
        clear hgw he
        go_wp2_with fail
        go_quiet (fail)
        have S := S.drewN nq
        clear s1 s2
        go_wp2
        go_roundw
        case rel => exact ⟨k + 1, by omega, by omega, by go_num, by rw [HK.out]; exact S⟩
        case measure => simp [intOf]; omega
    · obtain rfl : k = 17 := by omega
      have i1 : ¬ (17 : Int) < 17 := by omega
      obtain ⟨kk, hkk⟩ : ∃ kk, kindTo p0 17 = kk := ⟨_, rfl⟩
      have HKK : Hid (kindTo p0 17 = kk) := hkk
      rw [hkk] at S
      have hkl : kk ≤ 17 := by rw [← hkk]; exact kindTo_le _ _
      clear hkk hk1 hk2 hlt
      have o0 := S.O.cell 0
      have r0 := S.R.cell 0; have r1 := S.R.cell 1; have r2 := S.R.cell 2; have r3 := S.R.cell 3
      have z0 := S.R.froz 0; have z1 := S.R.froz 1; have z2 := S.R.froz 2; have z3 := S.R.froz 3
      have hrl : r.length + 1 = m := by rw [← hm]; simp
      by_cases hk0 : kk = 0
      · have HF : Hid (RdOp L z4 false) := no_kind HSP.out (.inl (by rw [HKK.out]; exact hk0))
        subst hk0
        have bz := (((S.b.setCell (p := ⟨w.heap.size, 0, none⟩) (Nat.le_refl _) (.int .i64 0)).setCell (p := ⟨w.heap.size, 1, none⟩) (Nat.le_refl _) (.int .i64 0)).setCell (p := ⟨w.heap.size, 2, none⟩) (Nat.le_refl _) (.int .i64 0)).setCell (p := ⟨w.heap.size, 3, none⟩) (Nat.le_refl _) (.int .i64 0)
        clear S
        go_wp2
        refine bodyPost_ret (v := .tuple #[.agg #[.int .i64 0, .int .i64 0, .int .i64 0, .int .i64 0], .bool false]) (by simp [results, Tryd.results11, go_sem, r0, r1, r2, r3, z0, z1, z2, z3]) rfl ?_
        exact ⟨⟨z4, false, rfl, HF.out⟩, bz⟩
      · have hkI : ((kk : Int) == 0) = false := by simp [hk0]
        have hnl := nargs_le (kk : Int)
        obtain ⟨na, hna⟩ : ∃ na, nargs (kk : Int) = na := ⟨_, rfl⟩
        have HNA : Hid (nargs (kk : Int) = na) := hna
        rw [hna] at hnl
        clear hna
        have cA := argsC kk wr
        rw [HNA.out] at cA
        by_cases hml : m = 1 + na
        · have dm : ((m : Int) != 1 + (na : Int)) = false := by simp; omega
          clear r0 r1 r2 r3 z0 z1 z2 z3
          go_wp2_with fail
          refine cA.mono ?_
          rintro e w3 ⟨rfl, rfl⟩
          clear cA o0
          go_wp2
          go_loopw [8] (fun iv wr => ∃ (i : Nat) (ns : List Int), 1 ≤ i ∧ i ≤ m ∧ iv = .int .i64 i ∧ ns.length + 1 = i ∧ ReadN r ns ∧ RSt w wr p (.slice a1 m cp1) (.slice a2 17 cp2) (p0 :: r) kk (ns.getD 0 0) (ns.getD 1 0) (ns.getD 2 0)) (fun iv _ => m - (intOf iv).toNat)
          case atStart => exact ⟨1, [], by omega, by omega, rfl, rfl, readN_nil r, S⟩
          case round =>
            clear S
            obtain ⟨i, ns, hi1, hi2, rfl, hnl', hrn, S⟩ := hrel
            by_cases hlt : i < m
            · have i1 : (i : Int) < m := by omega
              have i2 : (0 : Int) ≤ i := by omega
              have hir : i - 1 < r.length := by omega
              obtain ⟨q, off, rfl, hq, hcc⟩ := S.P.sees.open (by simp)
              have s1 := seeS hcc i (by rw [hm]; exact hlt)
              have ei : (p0 :: r)[i]'(by rw [hm]; exact hlt) = r[i - 1] := by
                rw [List.getElem_cons]; split; omega; rfl
              rw [ei] at s1
              have hlp : r[i - 1].length ≤ 1048576 := by
                have := split_len 32 L r[i - 1] (by rw [HSP.out]; exact List.mem_cons_of_mem _ (List.getElem_mem hir))
                omega
              have cD := ReadDec.spec_any ⟨(r[i - 1]).toArray⟩ (by show (r[i - 1]).toArray.size ≤ _; simpa using hlp) wr
              have eD : (⟨(r[i - 1]).toArray⟩ : ByteArray).data.toList = r[i - 1] := by simp
              rw [eD] at cD
              have HN := (show Hid _ from (fun (n : Int) (h : RdRes r[i - 1] n false) => no_num HSP.out hir h))
              have HY := (show Hid _ from (fun (n : Int) (h : RdRes (r[ns.length]'(by omega)) n true) => readN_snoc hrn (by omega) h))
              have HE : Hid (∀ h : ns.length < r.length, r[ns.length] = r[i - 1]) := fun h => by congr 1; omega
              obtain ⟨pt, hpt⟩ : ∃ pt, r[i - 1] = pt := ⟨_, rfl⟩
              have HPT : Hid (r[i - 1] = pt) := hpt
              rw [hpt] at s1 cD HN
              clear hcc ei eD hpt hlp
              go_wp2_with fail
              refine cD.mono ?_
              rintro e w4 ⟨⟨n, b, rfl, hrd⟩, b4⟩
              have S := S.on b4
              clear cD s1
              cases b
              · have HF : Hid (RdOp L z4 false) := HN.out n hrd
                have r0 := S.R.cell 0; have r1 := S.R.cell 1; have r2 := S.R.cell 2; have r3 := S.R.cell 3
                have z0 := S.R.froz 0; have z1 := S.R.froz 1; have z2 := S.R.froz 2; have z3 := S.R.froz 3
                have bz := (((S.b.setCell (p := ⟨w.heap.size, 0, none⟩) (Nat.le_refl _) (.int .i64 0)).setCell (p := ⟨w.heap.size, 1, none⟩) (Nat.le_refl _) (.int .i64 0)).setCell (p := ⟨w.heap.size, 2, none⟩) (Nat.le_refl _) (.int .i64 0)).setCell (p := ⟨w.heap.size, 3, none⟩) (Nat.le_refl _) (.int .i64 0)
                clear S
                go_wp2
                refine bodyPost_ret (v := .tuple #[.agg #[.int .i64 0, .int .i64 0, .int .i64 0, .int .i64 0], .bool false]) (by simp [results, Tryd.results11, go_sem, r0, r1, r2, r3, z0, z1, z2, z3]) rfl ?_
                exact ⟨⟨z4, false, rfl, HF.out⟩, bz⟩
              · have HR : Hid (ReadN r (ns ++ [n])) := HY.out n (by rw [HE.out (by omega), HPT.out]; exact hrd)
                clear HN HY HE HPT hrd hrn
                match ns, hnl' with
                | [], hnl' =>
                  obtain rfl : i = 1 := by simpa using hnl'.symm
                  have o0 := S.O.cell 1
                  have f0 := S.O.froz 1
                  have S' := S.set 1 (.int .i64 n) (k' := kk) (a' := n) (b' := 0) (c' := 0) rfl
                  clear S
                  go_wp2
                  go_roundw
                  case rel => exact ⟨1 + 1, [n], by omega, by omega, rfl, by simp, HR.out, S'⟩
                  case measure => simp [intOf]; omega
                | [x0], hnl' =>
                  obtain rfl : i = 2 := by simpa using hnl'.symm
                  have o0 := S.O.cell 2
                  have f0 := S.O.froz 2
                  have S' := S.set 2 (.int .i64 n) (k' := kk) (a' := x0) (b' := n) (c' := 0) rfl
                  clear S
                  go_wp2
                  go_roundw
                  case rel => exact ⟨2 + 1, [x0, n], by omega, by omega, rfl, by simp, HR.out, S'⟩
                  case measure => simp [intOf]; omega
                | [x0, x1], hnl' =>
                  obtain rfl : i = 3 := by simpa using hnl'.symm
                  have o0 := S.O.cell 3
                  have f0 := S.O.froz 3
                  have S' := S.set 3 (.int .i64 n) (k' := kk) (a' := x0) (b' := x1) (c' := n) rfl
                  clear S
                  go_wp2
                  go_roundw
                  case rel => exact ⟨3 + 1, [x0, x1, n], by omega, by omega, rfl, by simp, HR.out, S'⟩
                  case measure => simp [intOf]; omega
                | _ :: _ :: _ :: _, hnl' => simp at hnl'; omega
            · obtain rfl : i = m := by omega
              have i1 : ¬ (i : Int) < i := by omega
              have HT := (show Hid _ from told_op HSP.out (by rw [HKK.out]; exact hk0) hrn (by omega))
              rw [HKK.out] at HT
              obtain ⟨x0, hx0⟩ : ∃ x, ns.getD 0 0 = x := ⟨_, rfl⟩
              obtain ⟨x1, hx1⟩ : ∃ x, ns.getD 1 0 = x := ⟨_, rfl⟩
              obtain ⟨x2, hx2⟩ : ∃ x, ns.getD 2 0 = x := ⟨_, rfl⟩
              have eN : ofNums (kk : Int) ns = ⟨kk, x0, x1, x2⟩ := by unfold ofNums; rw [hx0, hx1, hx2]
              rw [hx0, hx1, hx2] at S
              rw [eN] at HT
              have cS := showOpC ⟨kk, x0, x1, x2⟩ wr
              have eV : O4.val ⟨kk, x0, x1, x2⟩ = .agg #[.int .i64 kk, .int .i64 x0, .int .i64 x1, .int .i64 x2] := rfl
              rw [eV] at cS
              obtain ⟨T, hT⟩ : ∃ T, showOp ⟨kk, x0, x1, x2⟩ = T := ⟨_, rfl⟩
              rw [hT] at cS HT
              clear eN hx0 hx1 hx2 hrn hT eV
              have o0 := S.O.cell 0; have o1 := S.O.cell 1; have o2 := S.O.cell 2; have o3 := S.O.cell 3
              go_wp2_with fail
              refine cS.mono ?_
              rintro e w4 ⟨rfl, b4⟩
              have S := S.on b4
              clear cS o0 o1 o2 o3
              have r0 := S.R.cell 0; have r1 := S.R.cell 1; have r2 := S.R.cell 2; have r3 := S.R.cell 3
              have z0 := S.R.froz 0; have z1 := S.R.froz 1; have z2 := S.R.froz 2; have z3 := S.R.froz 3
              by_cases hTL : T = L
              · have HF : Hid (RdOp L ⟨kk, x0, x1, x2⟩ true) := HT.out.1 hTL
                subst hTL
                have o0 := S.O.cell 0; have o1 := S.O.cell 1; have o2 := S.O.cell 2; have o3 := S.O.cell 3
                have bz := (((S.b.setCell (p := ⟨w.heap.size, 0, none⟩) (Nat.le_refl _) (.int .i64 kk)).setCell (p := ⟨w.heap.size, 1, none⟩) (Nat.le_refl _) (.int .i64 x0)).setCell (p := ⟨w.heap.size, 2, none⟩) (Nat.le_refl _) (.int .i64 x1)).setCell (p := ⟨w.heap.size, 3, none⟩) (Nat.le_refl _) (.int .i64 x2)
                clear S HT
                go_wp2
                refine bodyPost_ret (v := .tuple #[.agg #[.int .i64 kk, .int .i64 x0, .int .i64 x1, .int .i64 x2], .bool true]) (by simp [results, Tryd.results11, go_sem, r0, r1, r2, r3, z0, z1, z2, z3]) rfl ?_
                exact ⟨⟨⟨kk, x0, x1, x2⟩, true, rfl, HF.out⟩, bz⟩
              · have HF : Hid (RdOp L z4 false) := HT.out.2 hTL
                have dT : (T == L) = false := by simp [hTL]
                have bz := (((S.b.setCell (p := ⟨w.heap.size, 0, none⟩) (Nat.le_refl _) (.int .i64 0)).setCell (p := ⟨w.heap.size, 1, none⟩) (Nat.le_refl _) (.int .i64 0)).setCell (p := ⟨w.heap.size, 2, none⟩) (Nat.le_refl _) (.int .i64 0)).setCell (p := ⟨w.heap.size, 3, none⟩) (Nat.le_refl _) (.int .i64 0)
                clear S HT hTL
                go_wp2
                refine bodyPost_ret (v := .tuple #[.agg #[.int .i64 0, .int .i64 0, .int .i64 0, .int .i64 0], .bool false]) (by simp [results, Tryd.results11, go_sem, r0, r1, r2, r3, z0, z1, z2, z3]) rfl ?_
                exact ⟨⟨z4, false, rfl, HF.out⟩, bz⟩
        · have HF : Hid (RdOp L z4 false) := no_kind HSP.out (.inr (by rw [HKK.out, HNA.out]; omega))
          have dm : ((m : Int) != 1 + (na : Int)) = true := by simp; omega
          go_wp2_with fail
          refine cA.mono ?_
          rintro e w3 ⟨rfl, rfl⟩
          clear cA o0
          have bz := (((S.b.setCell (p := ⟨w.heap.size, 0, none⟩) (Nat.le_refl _) (.int .i64 0)).setCell (p := ⟨w.heap.size, 1, none⟩) (Nat.le_refl _) (.int .i64 0)).setCell (p := ⟨w.heap.size, 2, none⟩) (Nat.le_refl _) (.int .i64 0)).setCell (p := ⟨w.heap.size, 3, none⟩) (Nat.le_refl _) (.int .i64 0)
          clear S
          go_wp2
          refine bodyPost_ret (v := .tuple #[.agg #[.int .i64 0, .int .i64 0, .int .i64 0, .int .i64 0], .bool false]) (by simp [results, Tryd.results11, go_sem, r0, r1, r2, r3, z0, z1, z2, z3]) rfl ?_
          exact ⟨⟨z4, false, rfl, HF.out⟩, bz⟩
end Ops
end Go.Proofs.YtjopmakbnompnaaDoor
