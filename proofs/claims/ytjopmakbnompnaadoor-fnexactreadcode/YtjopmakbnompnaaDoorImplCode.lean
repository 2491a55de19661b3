/- What the program's readOps and ReadCode answer. -/
import Derived.Test.YtjopmakbnompnaaDoorImplRead
import Derived.Test.YtjopmakbnompnaaDoorSrcImplL
import Derived.Test.YtjopmakbnompnaaDoorCodeImpl
import Derived.Test.YtjopmakbnompnaaDoorCodeSrcSpec
import Derived.LaidEql
set_option linter.unusedVariables false
set_option linter.unusedSimpArgs false
namespace Go.Proofs.YtjopmakbnompnaaDoor
open Go.RowKit
namespace Ops
open Bas Flat Strs Num

/-! ### lines -/
theorem suffix_yes (M : Txt) : Lib.hasSuffix (M ++ [10]) [10] = true ∧ Lib.trimSuffix (M ++ [10]) [10] = M := by
  have h : Lib.hasSuffix (M ++ [10]) [10] = true := by
    unfold Lib.hasSuffix
    rw [List.isSuffixOf_iff_suffix]
    exact ⟨M, rfl⟩
  refine ⟨h, ?_⟩
  unfold Lib.trimSuffix
  rw [if_pos h]
  simp
theorem suffix_no {S : Txt} (h : ∀ x ∈ S, x ≠ 10) : Lib.hasSuffix S [10] = false ∧ Lib.trimSuffix S [10] = S := by
  have hn : Lib.hasSuffix S [10] = false := by
    cases hs : Lib.hasSuffix S [10] with
    | false => rfl
    | true =>
      unfold Lib.hasSuffix at hs
      rw [List.isSuffixOf_iff_suffix] at hs
      obtain ⟨M, rfl⟩ := hs
      exact absurd rfl (h 10 (by simp))
  refine ⟨hn, ?_⟩
  unfold Lib.trimSuffix
  rw [if_neg (by simp [hn])]
theorem first_cases (S : Txt) : (firstOf S = (S, []) ∧ ∀ x ∈ S, x ≠ 10) ∨ ∃ M R, firstOf S = (M ++ [10], R) ∧ S = M ++ 10 :: R ∧ ∀ x ∈ M, x ≠ 10 := by
  rcases index_two S 10 with hi | ⟨i, hi⟩
  · exact .inl ⟨by unfold firstOf; rw [if_pos hi], none_at hi⟩
  · obtain ⟨hlt, he, hn⟩ := at_index hi
    refine .inr ⟨S.take i, S.drop (i + 1), ?_, he, hn⟩
    unfold firstOf
    rw [hi, if_neg (by omega), Int.toNat_natCast]
    congr 1
    have : S[i] = 10 := by
      have h1 := Lib.indexByte_some hi
      rw [List.getElem?_eq_getElem hlt] at h1
      exact Option.some.inj h1.1
    rw [List.take_succ_eq_append_getElem hlt, this]

/-- an error, as a value -/
def errV : Option Txt → Value
  | none => .nilIface
  | some ln => .iface 102 (.agg #[.string ⟨ln.toArray⟩])
/-- what readOps answers -/
def ToldRd (B : Nat) (L : Txt) (e : Ending) (w' : World) : Prop := ∃ v xs rest er, e = .returned (.tuple #[v, .string ⟨rest.toArray⟩, errV er]) ∧ Owns4 B w' v xs ∧ AllOk xs ∧ xs.length ≤ 25 ∧ rest.length ≤ L.length ∧ ToldOps L xs rest er
theorem rd_true {M : Txt} {o : O4} (h : RdOp M o true) : okOp o = true ∧ showOp o = M := by
  rcases h with ⟨-, a, b⟩ | ⟨e, -⟩
  · exact ⟨a, b⟩
  · cases e
theorem rd_false {M : Txt} {o : O4} (h : RdOp M o false) : ∀ o', okOp o' = true → showOp o' ≠ M := by
  rcases h with ⟨e, -⟩ | ⟨-, -, h⟩
  · cases e
  · exact h

set_option maxRecDepth 100000 in
set_option maxHeartbeats 6400000 in
theorem readOpsI (L : Txt) (hs : L.length ≤ 1048576) (w : World) (hl : Laid w) :
    Calls Tryd.prog 43 #[.string ⟨L.toArray⟩] w fun e w' => ToldRd w.heap.size L e w' ∧ Below w.heap.size w w' := by
  have HLd : Hid (∀ W, Below w.heap.size w W → Laid W) := fun W hb => hl.on hb
  clear hl
  obtain ⟨g, hg⟩ : ∃ g, w.heap.size = g := ⟨_, rfl⟩
  have O0 : Owns4 g w (.slice none 0 0) [] := Owns.nil _ _ _ _
  have b0 : Below g w w := Below.refl _ _
  rw [hg] at HLd ⊢
  have HL0 : Hid (L = linesOf [] ++ L) := rfl
  have HA0 : Hid (AllOk []) := fun o ho => by simp at ho
  go_enter Tryd.func43, Tryd.ntmps43
  go_wp2
  go_loopw [0, 5, 6, 7, 8, 9, 10, 11] (fun sv cv _ _ _ _ _ _ wr => ∃ (S : Txt) (xs : List O4) (a : Option Addr) (m c : Nat), sv = .string ⟨S.toArray⟩ ∧ cv = .slice a m c ∧ xs.length = m ∧ m ≤ 25 ∧ S.length ≤ L.length ∧ Hid (L = linesOf xs ++ S) ∧ Hid (AllOk xs) ∧ Owns4 g wr (.slice a m c) xs ∧ Below g w wr) (fun sv _ _ _ _ _ _ _ _ => match sv with | .string b => b.size | _ => 0)
  case atStart => exact ⟨L, [], none, 0, 0, rfl, rfl, rfl, by omega, Nat.le_refl _, HL0, HA0, O0, b0⟩
  case round =>
    obtain ⟨S, xs, a, m, c, rfl, rfl, hxm, hm, hSl, HE, HA, O, b⟩ := hrel
    clear O0 b0 HL0 HA0
    have hsz : g ≤ wr.heap.size := by have := b.size; omega
    by_cases hS0 : S = []
    · subst hS0
      have HT : Hid (ToldOps L xs [] none) := .all rfl (by rw [HE.out, List.append_nil])
      go_wp2
      refine bodyPost_ret (v := .tuple #[.slice a m c, .string ⟨([] : Txt).toArray⟩, .nilIface]) (by simp [results, Tryd.results43, go_sem]) rfl ?_
      exact ⟨⟨_, xs, [], none, rfl, O, HA.out, by omega, by simp, HT.out⟩, b⟩
    by_cases hm25 : m = 25
    · have HT : Hid (ToldOps L xs S none) := .long (by omega) HE.out
      have dS : (S == []) = false := by simp [hS0]
      subst hm25
      go_wp2
      refine bodyPost_ret (v := .tuple #[.slice a 25 c, .string ⟨S.toArray⟩, .nilIface]) (by simp [results, Tryd.results43, go_sem]) rfl ?_
      exact ⟨⟨_, xs, S, none, rfl, O, HA.out, by omega, hSl, HT.out⟩, b⟩
    have hm24 : (m : Int) ≤ 24 := by omega
    have dS : (S == []) = false := by simp [hS0]
    have c1 := firstC S (by omega) wr
    rcases first_cases S with ⟨hf, hno⟩ | ⟨M, R, hf, hSe, hno⟩
    · rw [hf] at c1
      have HT : Hid (ToldOps L xs [] (some S)) := .wrong S (by rw [List.append_nil]; exact HE.out) (.inr ⟨hno, hS0, rfl⟩)
      obtain ⟨hs1, hs2⟩ := suffix_no hno
      have HSF : Hid (Lib.hasSuffix S [10] = false ∧ Lib.trimSuffix S [10] = S) := ⟨hs1, hs2⟩
      clear hs1 hs2 hf hno
      go_wp2_with fail
      refine c1.mono ?_
      rintro e w1 ⟨rfl, b1⟩
      clear c1
      have bb1 := b.trans (b1.mono hsz)
      have hz1 : g ≤ w1.heap.size := by have := bb1.size; omega
      have O1 := O.on b1 (Nat.le_refl _)
      have c2 := cutC S (by omega) w1
      rw [HSF.out.1, HSF.out.2] at c2
      go_wp2_with fail
      refine c2.mono ?_
      rintro e w2 ⟨rfl, rfl⟩
      clear c2
      have c3 := readOpI S (by omega) w1 (HLd.out w1 bb1)
      go_wp2_with fail
      refine c3.mono ?_
      rintro e w3 ⟨⟨o, bo, rfl, hro⟩, b3⟩
      clear c3 hro
      have bb3 := bb1.trans (b3.mono hz1)
      have O3 := O1.on b3 (Nat.le_refl _)
      have hz3 : g ≤ w3.heap.size := by have := bb3.size; omega
      have eV : o.val = .agg #[.int .i64 o.k, .int .i64 o.a, .int .i64 o.b, .int .i64 o.c] := rfl
      rw [eV]
      have bA := alloc_below w3 (.cells #[.int .i64 o.k, .int .i64 o.a, .int .i64 o.b, .int .i64 o.c] 25)
      have O4 := O3.on bA (Nat.le_refl _)
      have bb4 := bb3.trans (bA.mono hz3)
      clear eV O O1 O3 bA
      go_wp2
      refine bodyPost_ret (v := .tuple #[.slice a m c, .string ⟨([] : Txt).toArray⟩, .iface 102 (.agg #[.string ⟨S.toArray⟩])]) (by simp [results, Tryd.results43, go_sem]) rfl ?_
      exact ⟨⟨_, xs, [], some S, rfl, O4, HA.out, by omega, by simp, HT.out⟩, bb4⟩
    · rw [hf] at c1
      obtain ⟨hs1, hs2⟩ := suffix_yes M
      have HSF : Hid (Lib.hasSuffix (M ++ [10]) [10] = true ∧ Lib.trimSuffix (M ++ [10]) [10] = M) := ⟨hs1, hs2⟩
      have hlS : S.length = M.length + 1 + R.length := by rw [hSe]; simp; omega
      have HSE : Hid (S = M ++ 10 :: R) := hSe
      have HNo : Hid (∀ x ∈ M, x ≠ 10) := hno
      clear hs1 hs2 hf hno hSe
      obtain ⟨ln, hln⟩ : ∃ ln, M ++ [10] = ln := ⟨_, rfl⟩
      have HLN : Hid (M ++ [10] = ln) := hln
      have hlln : ln.length = M.length + 1 := by rw [← hln]; simp
      rw [hln] at c1 HSF
      clear hln
      go_wp2_with fail
      refine c1.mono ?_
      rintro e w1 ⟨rfl, b1⟩
      clear c1
      have bb1 := b.trans (b1.mono hsz)
      have hz1 : g ≤ w1.heap.size := by have := bb1.size; omega
      have O1 := O.on b1 (Nat.le_refl _)
      have c2 := cutC ln (by omega) w1
      rw [HSF.out.1, HSF.out.2] at c2
      go_wp2_with fail
      refine c2.mono ?_
      rintro e w2 ⟨rfl, rfl⟩
      clear c2
      have c3 := readOpI M (by omega) w1 (HLd.out w1 bb1)
      go_wp2_with fail
      refine c3.mono ?_
      rintro e w3 ⟨⟨o, bo, rfl, hro⟩, b3⟩
      clear c3
      have bb3 := bb1.trans (b3.mono hz1)
      have O3 := O1.on b3 (Nat.le_refl _)
      have hz3 : g ≤ w3.heap.size := by have := bb3.size; omega
      have eV : o.val = .agg #[.int .i64 o.k, .int .i64 o.a, .int .i64 o.b, .int .i64 o.c] := rfl
      rw [eV]
      have bA := alloc_below w3 (.cells #[.int .i64 o.k, .int .i64 o.a, .int .i64 o.b, .int .i64 o.c] 25)
      have XA := Blk.new w3 #[.int .i64 o.k, .int .i64 o.a, .int .i64 o.b, .int .i64 o.c] 25
      have OA := O3.on bA (Nat.le_refl _)
      have bbA := bb3.trans (bA.mono hz3)
      have hzA : g ≤ (w3.alloc (.cells #[.int .i64 o.k, .int .i64 o.a, .int .i64 o.b, .int .i64 o.c] 25)).heap.size := by have := bbA.size; omega
      clear eV O O1 O3
      cases bo
      · have HT : Hid (ToldOps L xs R (some ln)) := .wrong ln (by rw [HE.out, HSE.out, ← HLN.out]; simp) (.inl ⟨M, HLN.out.symm, HNo.out, rd_false hro⟩)
        clear hro HSE HLN
        go_wp2
        refine bodyPost_ret (v := .tuple #[.slice a m c, .string ⟨R.toArray⟩, .iface 102 (.agg #[.string ⟨ln.toArray⟩])]) (by simp [results, Tryd.results43, go_sem]) rfl ?_
        exact ⟨⟨_, xs, R, some ln, rfl, OA, HA.out, by omega, by omega, HT.out⟩, bbA⟩
      · have HE' : Hid (L = linesOf (xs ++ [o]) ++ R) := by
          show _ = _
          rw [HE.out, HSE.out, lines_snoc, (rd_true hro).2]; simp
        have HA' : Hid (AllOk (xs ++ [o])) := by
          intro q hq
          rcases List.mem_append.1 hq with hq | hq
          · exact HA.out q hq
          · simp at hq; rw [hq]; exact (rd_true hro).1
        have c0 := XA.cell 0; have c1 := XA.cell 1; have c2 := XA.cell 2; have c3 := XA.cell 3
        obtain ⟨v5, w5, hr5, O5, G5⟩ := pushO _ xs g _ OA hzA (by omega) o
        have hzz : (w3.alloc (.cells #[.int .i64 o.k, .int .i64 o.a, .int .i64 o.b, .int .i64 o.c] 25)).heap.size = w3.heap.size + 1 := by simp
        rw [hzz] at hr5
        have b5 := bbA.grown G5 hzA (fun q hq => (OA.at q hq).1)
        obtain ⟨a5, c5, rfl⟩ := O5.form
        have hx1 : (xs ++ [o]).length = m + 1 := by simp [hxm]
        rw [hx1] at O5 hr5
        clear hro HSE HLN HE HA OA XA hzz hzA bA G5 bbA
        go_wp2_with (at_builtin; refine wpList_app _ rfl _ _ 35 rfl _ _ _ _ rfl rfl hr5 ?_)
        clear hr5 c0 c1 c2 c3
        go_roundw
        case rel => exact ⟨R, xs ++ [o], _, _, _, rfl, rfl, hx1, by omega, by omega, HE', HA', O5, b5⟩
        case measure => show R.toArray.size < S.toArray.size; rw [List.size_toArray, List.size_toArray]; omega

/-! ### ReadCode -/
theorem told_nilI {B : Nat} {w' : World} {L : Txt} (h : RdCode L [] false) {e : Ending} (he : e = .returned (.tuple #[.slice none 0 0, .bool false])) : ToldCode B L e w' :=
  ⟨_, [], false, he, Owns.nil _ _ _ _, h⟩
set_option maxRecDepth 100000 in
set_option maxHeartbeats 1600000 in
theorem readCodeI (L : Txt) (hs : L.length ≤ 1048576) (w : World) (hl : Laid w) :
    Calls Tryd.prog 20 #[.string ⟨L.toArray⟩] w fun e w' => ToldCode w.heap.size L e w' ∧ Below w.heap.size w w' := by
  have c1 := readOpsI L hs w hl
  go_enter Tryd.func20, Tryd.ntmps20
  go_wp2_with fail
  refine c1.mono ?_
  rintro e w1 ⟨⟨v1, xs, rest, er, rfl, O1, hok, hlen, -, ht⟩, b1⟩
  clear c1
  obtain ⟨a, c, rfl⟩ := O1.form
  cases er with
  | some ln =>
    have HF : Hid (RdCode L [] false) := rc_some ht hok
    have eE : errV (some ln) = .iface 102 (.agg #[.string ⟨ln.toArray⟩]) := rfl
    rw [eE]
    clear ht eE
    go_wp2
    go_ret2
    exact ⟨told_nilI HF.out rfl, b1⟩
  | none =>
    have HR := (show Hid _ from rc_none ht hok)
    have eE : errV none = .nilIface := rfl
    rw [eE]
    have c2 := codeImpl _ xs w1.heap.size w1 O1.sees (Nat.le_refl _) (by omega)
    obtain ⟨q, hq⟩ : ∃ q, codeOk xs = q := ⟨_, rfl⟩
    rw [hq] at c2 HR
    clear ht eE hq
    go_wp2_with fail
    refine c2.mono ?_
    rintro e w2 ⟨rfl, b2⟩
    clear c2
    have bb2 := b1.trans (b2.mono b1.size)
    cases q
    · have HF : Hid (RdCode L [] false) := HR.out.2 rfl
      go_wp2
      go_ret2
      exact ⟨told_nilI HF.out rfl, bb2⟩
    · have HF : Hid (RdCode L xs true) := HR.out.1 rfl
      have O2 := O1.on b2 (Nat.le_refl _)
      go_wp2
      go_ret2
      exact ⟨⟨_, xs, true, rfl, O2, HF.out⟩, bb2⟩
end Ops
end Go.Proofs.YtjopmakbnompnaaDoor
