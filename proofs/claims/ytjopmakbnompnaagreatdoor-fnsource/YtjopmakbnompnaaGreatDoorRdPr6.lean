/- Several texts of one proof, in build order: CodeSrcSpec, ShapeSpec4, ProgSrcSpec. -/
import Derived.Deep.QuietTactic
import Derived.BigQuiet
import Derived.Test.YtjopmakbnompnaaGreatDoorRdPr2
import Derived.Test.YtjopmakbnompnaaGreatDoorRdPr4
import Derived.Test.YtjopmakbnompnaaGreatDoorRdPr5
/- What the specification's ShowCode, l6Lines and ReadCode answer. -/
set_option linter.unusedVariables false
set_option linter.unusedSimpArgs false
namespace Go.Proofs.YtjopmakbnompnaaGreatDoor
open Go.RowKit
namespace Ops
open Bas Flat Strs Num

theorem sc_no {xs : List O4} (h : codeOk xs = false) : showCode xs = [] := by unfold showCode; rw [if_neg (by simp [h])]
theorem sc_yes {xs : List O4} (h : codeOk xs = true) : showCode xs = linesOf xs := by unfold showCode; rw [if_pos h]
theorem code_len {xs : List O4} (h : codeOk xs = true) : xs.length ≤ 24 := by
  unfold codeOk at h
  rw [Bool.and_eq_true] at h
  exact of_decide_eq_true h.1
theorem lines_take {xs : List O4} {k : Nat} (h : k < xs.length) : linesOf (xs.take (k + 1)) = linesOf (xs.take k) ++ showOp xs[k] ++ [10] := by rw [List.take_succ_eq_append_getElem h, lines_snoc]

set_option maxRecDepth 100000 in
set_option maxHeartbeats 3200000 in
theorem showCodeC (v : Value) (xs : List O4) (B : Nat) (w : World) (hv : Sees4 B w v xs) (hB : B ≤ w.heap.size) (hlen : xs.length ≤ 1048576) :
    Calls Tryz.prog 60 #[v] w fun e w' => e = .returned (.string ⟨(showCode xs).toArray⟩) ∧ Below w.heap.size w w' := by
  have c0 := codeSpec v xs B w hv hB hlen
  obtain ⟨a, cap, rfl⟩ := hv.form
  obtain ⟨n, hn⟩ : ∃ n, xs.length = n := ⟨_, rfl⟩
  rw [hn] at hv hlen c0 ⊢
  obtain ⟨p, hp⟩ : ∃ p, codeOk xs = p := ⟨_, rfl⟩
  rw [hp] at c0
  obtain ⟨g, hg⟩ : ∃ g, w.heap.size = g := ⟨_, rfl⟩
  rw [hg] at hB c0 ⊢
  cases p
  · have HF : Hid ([] = showCode xs) := (sc_no hp).symm
    clear hp
    go_enter Tryz.func60, Tryz.ntmps60
    go_wp2_with fail
    refine c0.mono ?_
    rintro e w1 ⟨rfl, b1⟩
    go_wp2
    go_ret
    exact ⟨ret_s HF.out, b1⟩
  have h24 := code_len hp
  rw [hn] at h24
  have HS : Hid (showCode xs = linesOf xs) := sc_yes hp
  clear hp
  go_enter Tryz.func60, Tryz.ntmps60
  go_wp2_with fail
  refine c0.mono ?_
  rintro e w1 ⟨rfl, b1⟩
  clear c0
  go_wp2
  go_loopw [3, 4] (fun sv iv wr => ∃ (k : Nat) (T : Txt), k ≤ n ∧ iv = .int .i64 k ∧ sv = .string ⟨T.toArray⟩ ∧ T = linesOf (xs.take k) ∧ Below g w wr) (fun _ iv _ => n - (intOf iv).toNat)
  case atStart => exact ⟨0, [], Nat.zero_le _, rfl, rfl, rfl, b1⟩
  case round =>
    obtain ⟨k, T, hk, rfl, rfl, hT, hb⟩ := hrel
    clear b1
    have hsz : g ≤ wr.heap.size := by have := hb.size; omega
    by_cases hlt : k < n
    · obtain ⟨b, off, rfl, hbB, hc⟩ := (hv.on hb hB).open (by omega)
      obtain ⟨a0, a1, a2, a3⟩ := see4 (B := B) hc k (by omega)
      have i1 : (k : Int) < n := by omega
      have HL : Hid (linesOf (xs.take (k + 1)) = linesOf (xs.take k) ++ showOp xs[k] ++ [10]) := lines_take (by omega)
      have cO := showOpC xs[k] wr
      have lT := lines_len (xs.take k)
      rw [← hT] at lT
      have lk : (xs.take k).length ≤ k := List.length_take_le _ _
      have lS := show_len xs[k]
      obtain ⟨x, hx⟩ : ∃ x, xs[k] = x := ⟨_, rfl⟩
      rw [hx] at a0 a1 a2 a3 cO HL lS
      have eV : x.val = .agg #[.int .i64 x.k, .int .i64 x.a, .int .i64 x.b, .int .i64 x.c] := rfl
      rw [eV] at cO
      obtain ⟨U, hU⟩ : ∃ U, showOp x = U := ⟨_, rfl⟩
      rw [hU] at cO HL lS
      have HT : Hid (T = linesOf (xs.take k)) := hT
      obtain ⟨lt, hlt'⟩ : ∃ l, T.length = l := ⟨_, rfl⟩
      obtain ⟨lu, hlu⟩ : ∃ l, U.length = l := ⟨_, rfl⟩
      rw [hlt'] at lT
      rw [hlu] at lS
      have lT' : lt ≤ 1000 := by omega
      clear hc hx eV hU hT lT lk
      go_wp2_with fail
      refine cO.mono ?_
      rintro e w2 ⟨rfl, b2⟩
      clear cO a0 a1 a2 a3
      go_wp2
      go_roundw
      case rel =>
        refine ⟨k + 1, T ++ U ++ [10], by omega, by go_num, ?_, by rw [HL.out, ← HT.out], hb.trans (b2.mono hsz)⟩
        simp [ByteArray.mk_append_mk]
      case measure => simp [intOf]; omega
    · obtain rfl : k = n := by omega
      have HF : Hid (T = showCode xs) := by show _ = _; rw [HS.out, hT, List.take_of_length_le (by omega)]
      have i1 : ¬ (k : Int) < k := by omega
      clear hT
      go_wp2
      go_ret
      exact ⟨ret_s HF.out, hb⟩

theorem seesOneO (W : World) (x : O4) (t : TypeId) : Sees4 (W.heap.size + 1) (W.alloc (.cells #[.int .i64 x.k, .int .i64 x.a, .int .i64 x.b, .int .i64 x.c] t)) (.slice (some ⟨W.heap.size, 0, none⟩) 1 1) [x] :=
  ⟨_, 1, rfl, by simp, by unfold maxLen; omega, fun _ => ⟨W.heap.size, 0, rfl, by omega, fun j hj => by
    have hj0 : j = 0 := by simpa using hj
    subst hj0
    intro i u hu
    have hb : Blk (W.alloc (.cells #[.int .i64 x.k, .int .i64 x.a, .int .i64 x.b, .int .i64 x.c] t)) W.heap.size #[.int .i64 x.k, .int .i64 x.a, .int .i64 x.b, .int .i64 x.c] t := Blk.new W _ _
    simp only [Nat.zero_mul, Nat.zero_add]
    rw [hb.cell]
    change [Value.int .i64 x.k, .int .i64 x.a, .int .i64 x.b, .int .i64 x.c][i]? = some u at hu
    simpa using hu⟩⟩
/-- append(v, o) -/
theorem pushO (v : Value) (xs : List O4) (B : Nat) (w : World) (h : Owns4 B w v xs) (hB : B ≤ w.heap.size) (hlen : xs.length ≤ 4000000) (x : O4) :
    ∃ v' w', (Builtin.append_ #[24, 24] 24 #[v, .slice (some ⟨w.heap.size, 0, none⟩) 1 1]).run Tryz.prog (w.alloc (.cells #[.int .i64 x.k, .int .i64 x.a, .int .i64 x.b, .int .i64 x.c] 36)) = .ok v' w' ∧ Owns4 B w' v' (xs ++ [x]) ∧ w.grownBy w' v.ownBlock := by
  obtain ⟨v', w', hr, hO, hG, hl⟩ := app rowOp v _ 24 xs [x] _ B (w.alloc (.cells #[.int .i64 x.k, .int .i64 x.a, .int .i64 x.b, .int .i64 x.c] 36)) (h.on (alloc_below w _) (Nat.le_refl _)) (by simp; omega) (seesOneO w x _) (by simp; omega)
  exact ⟨v', w', hr, hO, grown_allocS hG⟩

/-- what l6Lines answers -/
def ToldLines (B : Nat) (ps : List Txt) (e : Ending) (w' : World) : Prop := ∃ v' xs b, e = .returned (.tuple #[v', .bool b]) ∧ Owns4 B w' v' xs ∧ ((b = true ∧ ReadL ps xs ∧ xs.length = ps.length) ∨ (b = false ∧ xs = [] ∧ ∃ (i : Nat) (h : i < ps.length) (o : O4), RdOp ps[i] o false))

set_option maxRecDepth 100000 in
set_option maxHeartbeats 3200000 in
theorem linesC (v : Value) (ps : List Txt) (B : Nat) (w : World) (hv : SeesS B w v ps) (hB : B ≤ w.heap.size) (hlen : ps.length ≤ 1000) (hl : ∀ p ∈ ps, p.length ≤ 1048576) :
    Calls Tryz.prog 65 #[v] w fun e w' => ToldLines w.heap.size ps e w' ∧ Below w.heap.size w w' := by
  obtain ⟨a, cap, rfl⟩ := hv.form
  obtain ⟨n, hn⟩ : ∃ n, ps.length = n := ⟨_, rfl⟩
  rw [hn] at hv hlen ⊢
  obtain ⟨g, hg⟩ : ∃ g, w.heap.size = g := ⟨_, rfl⟩
  have O0 : Owns4 g (w.alloc (.cells #[] 36)) (.slice (some ⟨w.heap.size, 0, none⟩) 0 0) [] := by rw [← hg]; exact World.ownsRow_lit w #[] 0 (Nat.le_refl _) (by simp [maxLen]) rfl
  have b0 : Below g w (w.alloc (.cells #[] 36)) := by rw [← hg]; exact alloc_below w _
  rw [hg] at O0 hB ⊢
  have HL := (show Hid _ from hl)
  clear hl
  go_enter Tryz.func65, Tryz.ntmps65
  go_wp2
  go_loopw [4, 5] (fun ov iv wr => ∃ (k : Nat) (xs : List O4) (ax : Option Addr) (mx cx : Nat), k ≤ n ∧ iv = .int .i64 k ∧ ov = .slice ax mx cx ∧ xs.length = k ∧ ReadL ps xs ∧ Owns4 g wr (.slice ax mx cx) xs ∧ Below g w wr) (fun _ iv _ => n - (intOf iv).toNat)
  case atStart => exact ⟨0, [], _, _, _, Nat.zero_le _, rfl, rfl, rfl, readL_nil ps, O0, b0⟩
  case round =>
    obtain ⟨k, xs, ax, mx, cx, hk, rfl, rfl, hxl, hrl, O, hb⟩ := hrel
    clear O0 b0
    have hsz : g ≤ wr.heap.size := by have := hb.size; omega
    by_cases hlt : k < n
    · obtain ⟨b, off, rfl, hbB, hc⟩ := (hv.on hb hB).open (by omega)
      have s1 := seeS hc k (by omega)
      have i1 : (k : Int) < n := by omega
      have i2 : (0 : Int) ≤ k := by omega
      have hkx : k < ps.length := by omega
      have cO := readOpC ps[k] (HL.out _ (List.getElem_mem hkx)) wr
      have HY := (show Hid _ from (fun (o : O4) (h : RdOp (ps[xs.length]'(by omega)) o true) => readL_snoc hrl (by omega) h))
      have HE : Hid (∀ h : xs.length < ps.length, ps[xs.length] = ps[k]) := fun h => by congr 1
      obtain ⟨pt, hpt⟩ : ∃ pt, ps[k] = pt := ⟨_, rfl⟩
      have HPT : Hid (ps[k] = pt) := hpt
      rw [hpt] at s1 cO
      clear hc hpt
      go_wp2_with fail
      refine cO.mono ?_
      rintro e w2 ⟨⟨o, q, rfl, hro⟩, b2⟩
      clear cO s1
      have bb2 := hb.trans (b2.mono hsz)
      have hz2 : g ≤ w2.heap.size := by have := bb2.size; omega
      have O2 := O.on b2 (Nat.le_refl _)
      have eV : o.val = .agg #[.int .i64 o.k, .int .i64 o.a, .int .i64 o.b, .int .i64 o.c] := rfl
      rw [eV]
      have bA := alloc_below w2 (.cells #[.int .i64 o.k, .int .i64 o.a, .int .i64 o.b, .int .i64 o.c] 36)
      have bbA := bb2.trans (bA.mono hz2)
      cases q
      · have HN : Hid (∃ (i : Nat) (h : i < ps.length) (o : O4), RdOp ps[i] o false) := ⟨k, hkx, o, by rw [HPT.out]; exact hro⟩
        clear hro HY HE HPT eV O O2
        go_wp2
        go_ret2
        exact ⟨⟨.slice (some ⟨(w2.alloc (.cells #[.int .i64 o.k, .int .i64 o.a, .int .i64 o.b, .int .i64 o.c] 36)).heap.size, 0, none⟩) 0 0, [], false, by first | rfl | simp, World.ownsRow_lit _ #[] 0 (by have := bbA.size; omega) (by simp [maxLen]) rfl, .inr ⟨rfl, rfl, HN.out⟩⟩, bbA.trans ((alloc_below _ _).mono (by have := bbA.size; omega))⟩
      · have HR : Hid (ReadL ps (xs ++ [o])) := HY.out o (by rw [HE.out (by omega), HPT.out]; exact hro)
        have OA := O2.on bA (Nat.le_refl _)
        have XA := Blk.new w2 #[.int .i64 o.k, .int .i64 o.a, .int .i64 o.b, .int .i64 o.c] 36
        have c0 := XA.cell 0; have c1 := XA.cell 1; have c2 := XA.cell 2; have c3 := XA.cell 3
        have hzA : g ≤ (w2.alloc (.cells #[.int .i64 o.k, .int .i64 o.a, .int .i64 o.b, .int .i64 o.c] 36)).heap.size := by have := bbA.size; omega
        obtain ⟨v3, w3, hr3, O3, G3⟩ := pushO _ xs g _ OA hzA (by omega) o
        have hzz : (w2.alloc (.cells #[.int .i64 o.k, .int .i64 o.a, .int .i64 o.b, .int .i64 o.c] 36)).heap.size = w2.heap.size + 1 := by simp
        rw [hzz] at hr3
        have b3 := bbA.grown G3 hzA (fun q hq => (OA.at q hq).1)
        obtain ⟨a3, c3', rfl⟩ := O3.form
        obtain ⟨n3, hn3⟩ : ∃ n, (xs ++ [o]).length = n := ⟨_, rfl⟩
        rw [hn3] at O3 hr3
        clear hro HY HE HPT eV O O2 OA XA hzz hzA bA
        go_wp2_with (at_builtin; refine wpList_app _ rfl _ _ 24 rfl _ _ _ _ rfl rfl hr3 ?_)
        clear hr3 c0 c1 c2 c3
        go_roundw
        case rel => exact ⟨k + 1, xs ++ [o], _, _, _, by omega, by go_num, rfl, by simp; omega, HR.out, O3, b3⟩
        case measure => simp [intOf]; omega
    · obtain rfl : k = n := by omega
      have i1 : ¬ (k : Int) < k := by omega
      have HR : Hid (ReadL ps xs ∧ xs.length = ps.length) := ⟨hrl, by omega⟩
      clear hrl
      go_wp2
      go_ret2
      exact ⟨⟨.slice ax mx cx, xs, true, rfl, O, .inl ⟨rfl, HR.out⟩⟩, hb⟩
/-- what ReadCode answers -/
def ToldCode (B : Nat) (L : Txt) (e : Ending) (w' : World) : Prop := ∃ v' xs b, e = .returned (.tuple #[v', .bool b]) ∧ Owns4 B w' v' xs ∧ RdCode L xs b
theorem told_nil (w : World) {g : Nat} (hg : g ≤ w.heap.size) {L : Txt} {b : Bool} (h : RdCode L [] b) (e : Ending) (he : e = .returned (.tuple #[.slice (some ⟨w.heap.size, 0, none⟩) 0 0, .bool b])) : ToldCode g L e (w.alloc (.cells #[] 36)) :=
  ⟨_, [], b, he, World.ownsRow_lit w #[] 0 hg (by simp [maxLen]) rfl, h⟩

set_option maxRecDepth 100000 in
set_option maxHeartbeats 3200000 in
theorem readCodeC (L : Txt) (hs : L.length ≤ 1048576) (w : World) :
    Calls Tryz.prog 35 #[.string ⟨L.toArray⟩] w fun e w' => ToldCode w.heap.size L e w' ∧ Below w.heap.size w w' := by
  by_cases h0 : L = []
  · subst h0
    have HF : Hid (RdCode [] [] true) := rd_empty
    go_enter Tryz.func35, Tryz.ntmps35
    go_wp2
    go_ret2
    exact ⟨told_nil w (Nat.le_refl _) HF.out _ rfl, alloc_below w _⟩
  obtain ⟨M, x, hMx⟩ : ∃ M x, L = M ++ [x] := by
    rcases List.eq_nil_or_concat L with h | ⟨M, x, h⟩
    · exact absurd h h0
    · exact ⟨M, x, by rw [h, List.concat_eq_append]⟩
  obtain ⟨n, hMl⟩ : ∃ n, M.length = n := ⟨_, rfl⟩
  have hLn : L.length = n + 1 := by rw [hMx]; simp [hMl]
  have hsn : L[n]'(by omega) = x := by
    subst hMx
    rw [List.getElem_append_right (by omega)]
    simp [hMl]
  have HM : Hid ((⟨L.toArray⟩ : ByteArray).extract 0 n = ⟨M.toArray⟩) := by
    show _ = _
    rw [piece, hMx]
    simp [← hMl]
  have HLM : Hid (L = M ++ [x]) := hMx
  have dL : (L == []) = false := by simp [h0]
  have hnB : n < (⟨L.toArray⟩ : ByteArray).size := by show n < L.toArray.size; simp; omega
  have HX : Hid (((⟨L.toArray⟩ : ByteArray)[n]'hnB) = x) := by
    show _ = _
    have : ((⟨L.toArray⟩ : ByteArray)[n]'hnB) = L[n]'(by omega) := rfl
    rw [this]; exact hsn
  clear hMx hMl h0 hsn
  by_cases hx : x = 10
  · have dx : (((((⟨L.toArray⟩ : ByteArray)[n]'hnB).toNat : Nat) : Int) != 10) = false := by rw [HX.out, hx]; rfl
    have c1 := splitC ⟨M.toArray⟩ 10 (by show M.toArray.size ≤ _; have := congrArg List.length HLM.out; simp at this ⊢; omega) w
    have eM : (⟨M.toArray⟩ : ByteArray).data.toList = M := by simp
    rw [eM] at c1
    have hML : M.length ≤ 1048576 := by have := congrArg List.length HLM.out; simp at this; omega
    have HPl := (show Hid _ from split_len 10 M)
    have HL10 : Hid (L = M ++ [10]) := by rw [← hx]; exact HLM.out
    have HLo := (show Hid _ from @rd_long M)
    have HLi := (show Hid _ from @rd_line M)
    have HTo := (show Hid _ from @told_code M)
    obtain ⟨ps, hps⟩ : ∃ ps, split 10 M = ps := ⟨_, rfl⟩
    rw [hps] at c1 HPl HLo HLi HTo
    rw [← HL10.out] at HLo HLi HTo
    have hlp : ∀ p ∈ ps, p.length ≤ 1048576 := fun p hp => Nat.le_trans (HPl.out p hp) hML
    have Hlp := (show Hid _ from hlp)
    clear eM hps hlp HPl hx HX
    obtain ⟨g, hg⟩ : ∃ g, w.heap.size = g := ⟨_, rfl⟩
    rw [hg] at c1 ⊢
    go_enter Tryz.func35, Tryz.ntmps35
    go_wp2_with fail
    rw [HM.out]
    refine c1.mono ?_
    rintro e w1 ⟨v1, rfl, P1, b1⟩
    clear c1 dx dL
    have hz1 : g ≤ w1.heap.size := by have := b1.size; omega
    obtain ⟨a1, cp1, rfl⟩ := P1.form
    obtain ⟨m, hm⟩ : ∃ m, ps.length = m := ⟨_, rfl⟩
    rw [hm] at P1 ⊢
    by_cases h24 : 24 < m
    · have HF : Hid (RdCode L [] false) := HLo.out (by rw [hm]; exact h24)
      have d24 : (24 : Int) < m := by omega
      go_wp2
      go_ret2
      exact ⟨told_nil w1 hz1 HF.out _ rfl, b1.trans ((alloc_below w1 _).mono hz1)⟩
    · have d24 : ¬ (24 : Int) < m := by omega
      have c2 := linesC _ ps w1.heap.size w1 P1.sees (Nat.le_refl _) (by omega) Hlp.out
      go_wp2_with fail
      refine c2.mono ?_
      rintro e w2 ⟨⟨v2, xs, q, rfl, O2, hq⟩, b2⟩
      clear c2
      have bb2 := b1.trans (b2.mono hz1)
      have hz2 : g ≤ w2.heap.size := by have := bb2.size; omega
      obtain ⟨a2, cp2, rfl⟩ := O2.form
      rcases hq with ⟨rfl, hr, hl⟩ | ⟨rfl, -, i, hi, o, ho⟩
      · have HT := (show Hid _ from HTo.out hr hl)
        have c3 := codeSpec _ xs w2.heap.size w2 O2.sees (Nat.le_refl _) (by omega)
        obtain ⟨q, hq⟩ : ∃ q, codeOk xs = q := ⟨_, rfl⟩
        rw [hq] at c3 HT
        clear hr hl hq HTo HLi HLo
        go_wp2_with fail
        refine c3.mono ?_
        rintro e w3 ⟨rfl, b3⟩
        clear c3
        have bb3 := bb2.trans (b3.mono hz2)
        have hz3 : g ≤ w3.heap.size := by have := bb3.size; omega
        cases q
        · have HF : Hid (RdCode L [] false) := HT.out.2 rfl
          go_wp2
          go_ret2
          exact ⟨told_nil w3 hz3 HF.out _ rfl, bb3.trans ((alloc_below w3 _).mono hz3)⟩
        · have HF : Hid (RdCode L xs true) := HT.out.1 rfl
          have O3 := (O2.on b3 (Nat.le_refl _)).mono hz1
          go_wp2
          go_ret2
          exact ⟨⟨_, xs, true, rfl, O3, HF.out⟩, bb3⟩
      · have HF : Hid (RdCode L [] false) := HLi.out hi ho
        clear ho HLi HTo HLo
        go_wp2
        go_ret2
        exact ⟨told_nil w2 hz2 HF.out _ rfl, bb2.trans ((alloc_below w2 _).mono hz2)⟩
  · have dx : (((((⟨L.toArray⟩ : ByteArray)[n]'hnB).toNat : Nat) : Int) != 10) = true := by
      rw [HX.out]
      simp only [bne_iff_ne, ne_eq]
      intro e
      exact hx (UInt8.toNat_inj.1 (by have : (10 : UInt8).toNat = 10 := rfl; omega))
    have HF : Hid (RdCode L [] false) := by rw [HLM.out]; exact rd_no_end hx
    clear hx HX HLM
    go_enter Tryz.func35, Tryz.ntmps35
    go_wp2
    go_ret2
    exact ⟨told_nil w (Nat.le_refl _) HF.out _ rfl, alloc_below w _⟩
end Ops
end Go.Proofs.YtjopmakbnompnaaGreatDoor
/- What the specification's KidOk, ProgOk and SameProg answer. -/
set_option linter.unusedVariables false
set_option linter.unusedSimpArgs false
namespace Go.Proofs.YtjopmakbnompnaaGreatDoor
open Go.RowKit
namespace Ops
open Bas Flat

theorem kid_no1 {xs : List O4} (h : codeOk xs = false) : kidOk xs = false := by unfold kidOk; rw [h]; rfl
theorem kid_no2 {xs : List O4} (h : hasFork xs = true) : kidOk xs = false := by unfold kidOk; rw [h]; simp
theorem kid_all {xs : List O4} (h1 : codeOk xs = true) (h2 : hasFork xs = false) : kidOk xs = xs.all fun o => !(touch o == 2) := by unfold kidOk; rw [h1, h2]; simp

set_option maxRecDepth 100000 in
set_option maxHeartbeats 1600000 in
theorem kidSpec (v : Value) (xs : List O4) (B : Nat) (w : World) (hv : Sees4 B w v xs) (hB : B ≤ w.heap.size) (hlen : xs.length ≤ 1048576) :
    Calls Tryz.prog 25 #[v] w fun e w' => e = .returned (.bool (kidOk xs)) ∧ Below w.heap.size w w' := by
  have c0 := codeSpec v xs B w hv hB hlen
  obtain ⟨a, cap, rfl⟩ := hv.form
  obtain ⟨n, hn⟩ : ∃ n, xs.length = n := ⟨_, rfl⟩
  rw [hn] at hv hlen c0 ⊢
  obtain ⟨p, hp⟩ : ∃ p, codeOk xs = p := ⟨_, rfl⟩
  rw [hp] at c0
  cases p
  · have HF : Hid (false = kidOk xs) := (kid_no1 hp).symm
    clear hp
    go_enter Tryz.func25, Tryz.ntmps25
    go_wp2_with fail
    refine c0.mono ?_
    rintro e w1 ⟨rfl, b1⟩
    go_wp2
    go_ret
    exact ⟨ret_b HF.out, b1⟩
  obtain ⟨q, hq⟩ : ∃ q, hasFork xs = q := ⟨_, rfl⟩
  have HP : Hid (codeOk xs = true) := hp
  clear hp
  cases q
  · have HE : Hid (kidOk xs = xs.all fun o => !(touch o == 2)) := kid_all HP.out hq
    have HQ : Hid (hasFork xs = false) := hq
    clear hq
    obtain ⟨g, hg⟩ : ∃ g, w.heap.size = g := ⟨_, rfl⟩
    rw [hg] at hB c0 ⊢
    go_enter Tryz.func25, Tryz.ntmps25
    go_wp2_with fail
    refine c0.mono ?_
    rintro e w1 ⟨rfl, b1⟩
    clear c0
    go_wp2_with fail
    refine (forkSpec _ xs B w1 (hv.on b1 hB) (by omega)).mono ?_
    rw [HQ.out]
    rintro e w2 ⟨rfl, rfl⟩
    go_wp2
    go_loopw [3] (fun i' wr => ∃ k : Nat, k ≤ n ∧ i' = .int .i64 k ∧ (∀ j (h : j < xs.length), j < k → (!(touch xs[j] == 2)) = true) ∧ Below g w wr) (fun i' _ => n - (intOf i').toNat)
    case atStart => exact ⟨0, Nat.zero_le _, rfl, fun j _ h => by omega, b1⟩
    case round =>
      obtain ⟨k, hk, rfl, hall, hb⟩ := hrel
      clear b1
      have hsz : g ≤ wr.heap.size := by have := hb.size; omega
      by_cases hlt : k < n
      · have hvr := hv.on hb hB
        obtain ⟨b, off, rfl, hbB, hc⟩ := hvr.open (by omega)
        obtain ⟨a0, a1, a2, a3⟩ := see4 (B := B) hc k (by omega)
        have cT := touchSpec xs[k].k xs[k].a xs[k].b xs[k].c wr
        have eV : opV xs[k].k xs[k].a xs[k].b xs[k].c = .agg #[.int .i64 xs[k].k, .int .i64 xs[k].a, .int .i64 xs[k].b, .int .i64 xs[k].c] := rfl
        have eT : touches xs[k].k xs[k].a xs[k].b xs[k].c = touch xs[k] := rfl
        rw [eV, eT] at cT
        have HA := (show Hid _ from hall)
        by_cases h2 : touch xs[k] = 2
        · have HF : Hid (false = kidOk xs) := by
            show _ = _
            rw [HE.out]
            exact (all_no (k := k) (by omega) (by simp [h2])).symm
          rw [h2] at cT
          clear hall h2 hc eV eT
          go_wp2_with fail
          refine cT.mono ?_
          rintro e w2 ⟨rfl, hb2⟩
          clear cT
          go_wp2
          go_ret
          exact ⟨ret_b HF.out, hb.trans (hb2.mono hsz)⟩
        · have HF : Hid (∀ j (h : j < xs.length), j < k + 1 → (!(touch xs[j] == 2)) = true) := fun j hj hjk => by
            rcases Nat.lt_succ_iff_lt_or_eq.1 hjk with h | h
            · exact HA.out j hj h
            · subst h; simp [h2]
          obtain ⟨t, ht⟩ : ∃ t, touch xs[k] = t := ⟨_, rfl⟩
          rw [ht] at cT h2
          have e2 : (t == 2) = false := by simp [h2]
          clear hall h2 hc eV eT ht HA
          go_wp2_with fail
          refine cT.mono ?_
          rintro e w2 ⟨rfl, hb2⟩
          clear cT
          go_wp2
          go_roundw
          case rel => exact ⟨k + 1, by omega, by go_num, HF.out, hb.trans (hb2.mono hsz)⟩
          case measure => simp [intOf]; omega
      · have HF : Hid (true = kidOk xs) := by
          show _ = _
          rw [HE.out]
          exact (all_yes fun j hj => hall j hj (by omega)).symm
        clear hall
        go_wp2
        go_ret
        exact ⟨ret_b HF.out, hb⟩
  · have HF : Hid (false = kidOk xs) := (kid_no2 hq).symm
    have HQ : Hid (hasFork xs = true) := hq
    clear hq
    go_enter Tryz.func25, Tryz.ntmps25
    go_wp2_with fail
    refine c0.mono ?_
    rintro e w1 ⟨rfl, b1⟩
    clear c0
    go_wp2_with fail
    refine (forkSpec _ xs B w1 (hv.on b1 hB) (by omega)).mono ?_
    rw [HQ.out]
    rintro e w2 ⟨rfl, rfl⟩
    go_wp2
    go_ret
    exact ⟨ret_b HF.out, b1⟩

theorem prog_no1 {xs : List O4} {kss : List (List O4)} (h : codeOk xs = false) : progOk xs kss = false := by unfold progOk; rw [h]; rfl
theorem prog_no2 {xs : List O4} {kss : List (List O4)} (h : ¬ kss.length ≤ 3) : progOk xs kss = false := by unfold progOk; rw [decide_eq_false h]; simp
theorem prog_no3 {xs : List O4} {kss : List (List O4)} (h : ¬ hasFork xs = decide (0 < kss.length)) : progOk xs kss = false := by unfold progOk; rw [beq_eq_false_iff_ne.2 h]; simp
theorem prog_all {xs : List O4} {kss : List (List O4)} (h1 : codeOk xs = true) (h2 : kss.length ≤ 3) (h3 : hasFork xs = decide (0 < kss.length)) : progOk xs kss = kss.all kidOk := by unfold progOk; rw [h1, decide_eq_true h2, h3]; simp

set_option maxRecDepth 100000 in
set_option maxHeartbeats 3200000 in
theorem progSpec (vc vk : Value) (xs : List O4) (kss : List (List O4)) (B : Nat) (w : World) (hv : SeesP B w vc vk xs kss) (hB : B ≤ w.heap.size) (hf : Fits xs kss) :
    Calls Tryz.prog 8 #[.agg #[vc, vk]] w fun e w' => e = .returned (.bool (progOk xs kss)) ∧ Below w.heap.size w w' := by
  obtain ⟨a, cap, rfl⟩ := hv.c.form
  obtain ⟨ak, capk, rfl⟩ := hv.k.form
  obtain ⟨n, hn⟩ : ∃ n, xs.length = n := ⟨_, rfl⟩
  obtain ⟨m, hm⟩ : ∃ m, kss.length = m := ⟨_, rfl⟩
  obtain ⟨hf1, hf2, hf3⟩ := hf
  rw [hn, hm] at hv ⊢
  rw [hm] at hf2
  have HA3 := (show Hid _ from hf3)
  clear hf3
  have b0 := alloc_below w (.cells #[.slice a n cap, .slice ak m capk] 27)
  have X0 := Blk.new w #[.slice a n cap, .slice ak m capk] 27
  obtain ⟨W0, hW0⟩ : ∃ W0, w.alloc (.cells #[.slice a n cap, .slice ak m capk] 27) = W0 := ⟨_, rfl⟩
  rw [hW0] at b0 X0
  have hs := X0.lt
  have hv0 := hv.on b0 hB
  have c0 := codeSpec _ xs B W0.drew hv0.c.drew (by show B ≤ W0.heap.size; omega) hf1
  obtain ⟨p, hp⟩ : ∃ p, codeOk xs = p := ⟨_, rfl⟩
  rw [hp] at c0
  have HP : Hid (codeOk xs = p) := hp
  clear hp
  have x0 := X0.cell 0; have x1 := X0.cell 1
  have f1 : (0 : Int) ≤ m := by omega
  cases p
  · have HF : Hid (false = progOk xs kss) := (prog_no1 HP.out).symm
    go_enter Tryz.func8, Tryz.ntmps8
    go_wp2_with fail
    clear hW0
    refine wp_region_held_drew (S := fun W => W.cell? ⟨w.heap.size, 0, none⟩ = some (.slice a n cap) ∧ W.cell? ⟨w.heap.size, 1, none⟩ = some (.slice ak m capk)) (by kernel_rfl) ⟨x0, x1⟩ (fun hHeld => ?_)
    refine takeH (i := 0) (some 4) (.pointer (some ⟨w.heap.size, 0, none⟩)) rfl rfl (by kernel_rfl) (by kernel_rfl) (by kernel_rfl) (fun _ _ _ h => h) (Or.inl ⟨by rfl, fun w hSw => by (try dsimp only at hSw); go_simp⟩) (by assumption) ?_
    simp only [Act.put, List.setIfInBounds_toArray, List.set_cons_zero, List.set_cons_succ]
    refine takeH (i := 1) (some 5) (.slice a n cap) rfl rfl (by kernel_rfl) (by kernel_rfl) (by kernel_rfl) (fun _ _ _ h => h) (Or.inl ⟨by rfl, fun w hSw => by (try dsimp only at hSw); go_simp⟩) (by assumption) ?_
    simp only [Act.put, List.setIfInBounds_toArray, List.set_cons_zero, List.set_cons_succ]
    refine wpAnyH_ready (rs := [2]) (by kernel_rfl) (by simp) ?_
    refine AllReadyH.cons rfl (fun K hK => ?_) AllReadyH.nil
    go_simp
    refine c0.mono ?_
    rintro e w1 ⟨rfl, b1⟩
    have b1 := undrewB b1
    have X1 := X0.on b1 hs
    have bb1 := b0.trans (b1.mono b0.size)
    go_simp
    refine hK.out _ _ ⟨X1.cell 0, X1.cell 1⟩ (fun hHeld1 => ?_)
    clear hK K c0 hHeld x0 x1
    refine takeH (i := 3) (some 7) (.bool true) rfl rfl (by kernel_rfl) (by kernel_rfl) (by kernel_rfl) (fun _ _ _ h => h) (Or.inl ⟨by rfl, fun w hSw => by (try dsimp only at hSw); go_simp⟩) (by assumption) ?_
    simp only [Act.put, List.setIfInBounds_toArray, List.set_cons_zero, List.set_cons_succ]
    refine takeH (i := 4) (some 8) (.bool true) rfl rfl (by kernel_rfl) (by kernel_rfl) (by kernel_rfl) (fun _ _ _ h => h) (Or.inl ⟨by rfl, fun w hSw => by (try dsimp only at hSw); go_simp⟩) (by assumption) ?_
    simp only [Act.put, List.setIfInBounds_toArray, List.set_cons_zero, List.set_cons_succ]
    refine takeH (i := 5) (some 9) undef rfl rfl (by kernel_rfl) (by kernel_rfl) (by kernel_rfl) (fun _ _ _ h => h) (Or.inr ⟨by rfl, rfl⟩) (by assumption) ?_
    simp only [Act.put, List.setIfInBounds_toArray, List.set_cons_zero, List.set_cons_succ]
    refine takeH (i := 6) (some 10) undef rfl rfl (by kernel_rfl) (by kernel_rfl) (by kernel_rfl) (fun _ _ _ h => h) (Or.inr ⟨by rfl, rfl⟩) (by assumption) ?_
    simp only [Act.put, List.setIfInBounds_toArray, List.set_cons_zero, List.set_cons_succ]
    refine takeH (i := 7) (some 11) undef rfl rfl (by kernel_rfl) (by kernel_rfl) (by kernel_rfl) (fun _ _ _ h => h) (Or.inr ⟨by rfl, rfl⟩) (by assumption) ?_
    simp only [Act.put, List.setIfInBounds_toArray, List.set_cons_zero, List.set_cons_succ]
    refine takeH (i := 8) (some 12) undef rfl rfl (by kernel_rfl) (by kernel_rfl) (by kernel_rfl) (fun _ _ _ h => h) (Or.inr ⟨by rfl, rfl⟩) (by assumption) ?_
    simp only [Act.put, List.setIfInBounds_toArray, List.set_cons_zero, List.set_cons_succ]
    refine takeH (i := 9) (some 13) (.bool true) rfl rfl (by kernel_rfl) (by kernel_rfl) (by kernel_rfl) (fun _ _ _ h => h) (Or.inl ⟨by rfl, fun w hSw => by (try dsimp only at hSw); go_simp⟩) (by assumption) ?_
    simp only [Act.put, List.setIfInBounds_toArray, List.set_cons_zero, List.set_cons_succ]
    refine takeH (i := 10) (some 14) (.bool true) rfl rfl (by kernel_rfl) (by kernel_rfl) (by kernel_rfl) (fun _ _ _ h => h) (Or.inl ⟨by rfl, fun w hSw => by (try dsimp only at hSw); go_simp⟩) (by assumption) ?_
    simp only [Act.put, List.setIfInBounds_toArray, List.set_cons_zero, List.set_cons_succ]
    refine takeH (i := 11) (some 15) undef rfl rfl (by kernel_rfl) (by kernel_rfl) (by kernel_rfl) (fun _ _ _ h => h) (Or.inr ⟨by rfl, rfl⟩) (by assumption) ?_
    simp only [Act.put, List.setIfInBounds_toArray, List.set_cons_zero, List.set_cons_succ]
    refine takeH (i := 12) (some 16) undef rfl rfl (by kernel_rfl) (by kernel_rfl) (by kernel_rfl) (fun _ _ _ h => h) (Or.inr ⟨by rfl, rfl⟩) (by assumption) ?_
    simp only [Act.put, List.setIfInBounds_toArray, List.set_cons_zero, List.set_cons_succ]
    refine takeH (i := 13) (some 17) undef rfl rfl (by kernel_rfl) (by kernel_rfl) (by kernel_rfl) (fun _ _ _ h => h) (Or.inr ⟨by rfl, rfl⟩) (by assumption) ?_
    simp only [Act.put, List.setIfInBounds_toArray, List.set_cons_zero, List.set_cons_succ]
    refine takeH (i := 14) (some 18) undef rfl rfl (by kernel_rfl) (by kernel_rfl) (by kernel_rfl) (fun _ _ _ h => h) (Or.inr ⟨by rfl, rfl⟩) (by assumption) ?_
    simp only [Act.put, List.setIfInBounds_toArray, List.set_cons_zero, List.set_cons_succ]
    refine takeH (i := 15) (some 19) undef rfl rfl (by kernel_rfl) (by kernel_rfl) (by kernel_rfl) (fun _ _ _ h => h) (Or.inr ⟨by rfl, rfl⟩) (by assumption) ?_
    simp only [Act.put, List.setIfInBounds_toArray, List.set_cons_zero, List.set_cons_succ]
    refine takeH (i := 16) (some 20) undef rfl rfl (by kernel_rfl) (by kernel_rfl) (by kernel_rfl) (fun _ _ _ h => h) (Or.inr ⟨by rfl, rfl⟩) (by assumption) ?_
    simp only [Act.put, List.setIfInBounds_toArray, List.set_cons_zero, List.set_cons_succ]
    refine takeH (i := 17) (some 21) undef rfl rfl (by kernel_rfl) (by kernel_rfl) (by kernel_rfl) (fun _ _ _ h => h) (Or.inr ⟨by rfl, rfl⟩) (by assumption) ?_
    simp only [Act.put, List.setIfInBounds_toArray, List.set_cons_zero, List.set_cons_succ]
    refine takeH (i := 18) (some 22) undef rfl rfl (by kernel_rfl) (by kernel_rfl) (by kernel_rfl) (fun _ _ _ h => h) (Or.inr ⟨by rfl, rfl⟩) (by assumption) ?_
    simp only [Act.put, List.setIfInBounds_toArray, List.set_cons_zero, List.set_cons_succ]
    refine takeH (i := 19) (some 23) (.bool true) rfl rfl (by kernel_rfl) (by kernel_rfl) (by kernel_rfl) (fun _ _ _ h => h) (Or.inl ⟨by rfl, fun w hSw => by (try dsimp only at hSw); go_simp⟩) (by assumption) ?_
    simp only [Act.put, List.setIfInBounds_toArray, List.set_cons_zero, List.set_cons_succ]
    refine wpAnyH_done (by kernel_rfl) ?_ _
    go_wp2
    go_ret
    exact ⟨ret_b HF.out, bb1⟩
  · by_cases h3 : 3 < m
    · have HF : Hid (false = progOk xs kss) := (prog_no2 (by omega)).symm
      have d3 : decide ((3 : Int) < m) = true := decide_eq_true (by omega)
      go_enter Tryz.func8, Tryz.ntmps8
      go_wp2_with fail
      clear hW0
      refine wp_region_held_drew (S := fun W => W.cell? ⟨w.heap.size, 0, none⟩ = some (.slice a n cap) ∧ W.cell? ⟨w.heap.size, 1, none⟩ = some (.slice ak m capk)) (by kernel_rfl) ⟨x0, x1⟩ (fun hHeld => ?_)
      refine takeH (i := 0) (some 4) (.pointer (some ⟨w.heap.size, 0, none⟩)) rfl rfl (by kernel_rfl) (by kernel_rfl) (by kernel_rfl) (fun _ _ _ h => h) (Or.inl ⟨by rfl, fun w hSw => by (try dsimp only at hSw); go_simp⟩) (by assumption) ?_
      simp only [Act.put, List.setIfInBounds_toArray, List.set_cons_zero, List.set_cons_succ]
      refine takeH (i := 1) (some 5) (.slice a n cap) rfl rfl (by kernel_rfl) (by kernel_rfl) (by kernel_rfl) (fun _ _ _ h => h) (Or.inl ⟨by rfl, fun w hSw => by (try dsimp only at hSw); go_simp⟩) (by assumption) ?_
      simp only [Act.put, List.setIfInBounds_toArray, List.set_cons_zero, List.set_cons_succ]
      refine wpAnyH_ready (rs := [2]) (by kernel_rfl) (by simp) ?_
      refine AllReadyH.cons rfl (fun K hK => ?_) AllReadyH.nil
      go_simp
      refine c0.mono ?_
      rintro e w1 ⟨rfl, b1⟩
      have b1 := undrewB b1
      have X1 := X0.on b1 hs
      have bb1 := b0.trans (b1.mono b0.size)
      go_simp
      refine hK.out _ _ ⟨X1.cell 0, X1.cell 1⟩ (fun hHeld1 => ?_)
      clear hK K c0 hHeld x0 x1
      refine takeH (i := 3) (some 7) (.bool false) rfl rfl (by kernel_rfl) (by kernel_rfl) (by kernel_rfl) (fun _ _ _ h => h) (Or.inl ⟨by rfl, fun w hSw => by (try dsimp only at hSw); go_simp⟩) (by assumption) ?_
      simp only [Act.put, List.setIfInBounds_toArray, List.set_cons_zero, List.set_cons_succ]
      refine takeH (i := 4) (some 8) (.bool false) rfl rfl (by kernel_rfl) (by kernel_rfl) (by kernel_rfl) (fun _ _ _ h => h) (Or.inl ⟨by rfl, fun w hSw => by (try dsimp only at hSw); go_simp⟩) (by assumption) ?_
      simp only [Act.put, List.setIfInBounds_toArray, List.set_cons_zero, List.set_cons_succ]
      refine takeH (i := 5) (some 9) (.pointer (some ⟨w.heap.size, 1, none⟩)) rfl rfl (by kernel_rfl) (by kernel_rfl) (by kernel_rfl) (fun _ _ _ h => h) (Or.inl ⟨by rfl, fun w hSw => by (try dsimp only at hSw); go_simp⟩) (by assumption) ?_
      simp only [Act.put, List.setIfInBounds_toArray, List.set_cons_zero, List.set_cons_succ]
      refine takeH (i := 6) (some 10) (.slice ak m capk) rfl rfl (by kernel_rfl) (by kernel_rfl) (by kernel_rfl) (fun _ _ _ h => h) (Or.inl ⟨by rfl, fun w hSw => by (try dsimp only at hSw); go_simp⟩) (by assumption) ?_
      simp only [Act.put, List.setIfInBounds_toArray, List.set_cons_zero, List.set_cons_succ]
      refine takeH (i := 7) (some 11) (.int .i64 m) rfl rfl (by kernel_rfl) (by kernel_rfl) (by kernel_rfl) (fun _ _ _ h => h) (Or.inl ⟨by rfl, fun w hSw => by (try dsimp only at hSw); go_simp⟩) (by assumption) ?_
      simp only [Act.put, List.setIfInBounds_toArray, List.set_cons_zero, List.set_cons_succ]
      refine takeH (i := 8) (some 12) (.bool true) rfl rfl (by kernel_rfl) (by kernel_rfl) (by kernel_rfl) (fun _ _ _ h => h) (Or.inl ⟨by rfl, fun w hSw => by (try dsimp only at hSw); go_simp⟩) (by assumption) ?_
      simp only [Act.put, List.setIfInBounds_toArray, List.set_cons_zero, List.set_cons_succ]
      refine takeH (i := 9) (some 13) (.bool true) rfl rfl (by kernel_rfl) (by kernel_rfl) (by kernel_rfl) (fun _ _ _ h => h) (Or.inl ⟨by rfl, fun w hSw => by (try dsimp only at hSw); go_simp⟩) (by assumption) ?_
      simp only [Act.put, List.setIfInBounds_toArray, List.set_cons_zero, List.set_cons_succ]
      refine takeH (i := 10) (some 14) (.bool true) rfl rfl (by kernel_rfl) (by kernel_rfl) (by kernel_rfl) (fun _ _ _ h => h) (Or.inl ⟨by rfl, fun w hSw => by (try dsimp only at hSw); go_simp⟩) (by assumption) ?_
      simp only [Act.put, List.setIfInBounds_toArray, List.set_cons_zero, List.set_cons_succ]
      refine takeH (i := 11) (some 15) undef rfl rfl (by kernel_rfl) (by kernel_rfl) (by kernel_rfl) (fun _ _ _ h => h) (Or.inr ⟨by rfl, rfl⟩) (by assumption) ?_
      simp only [Act.put, List.setIfInBounds_toArray, List.set_cons_zero, List.set_cons_succ]
      refine takeH (i := 12) (some 16) undef rfl rfl (by kernel_rfl) (by kernel_rfl) (by kernel_rfl) (fun _ _ _ h => h) (Or.inr ⟨by rfl, rfl⟩) (by assumption) ?_
      simp only [Act.put, List.setIfInBounds_toArray, List.set_cons_zero, List.set_cons_succ]
      refine takeH (i := 13) (some 17) undef rfl rfl (by kernel_rfl) (by kernel_rfl) (by kernel_rfl) (fun _ _ _ h => h) (Or.inr ⟨by rfl, rfl⟩) (by assumption) ?_
      simp only [Act.put, List.setIfInBounds_toArray, List.set_cons_zero, List.set_cons_succ]
      refine takeH (i := 14) (some 18) undef rfl rfl (by kernel_rfl) (by kernel_rfl) (by kernel_rfl) (fun _ _ _ h => h) (Or.inr ⟨by rfl, rfl⟩) (by assumption) ?_
      simp only [Act.put, List.setIfInBounds_toArray, List.set_cons_zero, List.set_cons_succ]
      refine takeH (i := 15) (some 19) undef rfl rfl (by kernel_rfl) (by kernel_rfl) (by kernel_rfl) (fun _ _ _ h => h) (Or.inr ⟨by rfl, rfl⟩) (by assumption) ?_
      simp only [Act.put, List.setIfInBounds_toArray, List.set_cons_zero, List.set_cons_succ]
      refine takeH (i := 16) (some 20) undef rfl rfl (by kernel_rfl) (by kernel_rfl) (by kernel_rfl) (fun _ _ _ h => h) (Or.inr ⟨by rfl, rfl⟩) (by assumption) ?_
      simp only [Act.put, List.setIfInBounds_toArray, List.set_cons_zero, List.set_cons_succ]
      refine takeH (i := 17) (some 21) undef rfl rfl (by kernel_rfl) (by kernel_rfl) (by kernel_rfl) (fun _ _ _ h => h) (Or.inr ⟨by rfl, rfl⟩) (by assumption) ?_
      simp only [Act.put, List.setIfInBounds_toArray, List.set_cons_zero, List.set_cons_succ]
      refine takeH (i := 18) (some 22) undef rfl rfl (by kernel_rfl) (by kernel_rfl) (by kernel_rfl) (fun _ _ _ h => h) (Or.inr ⟨by rfl, rfl⟩) (by assumption) ?_
      simp only [Act.put, List.setIfInBounds_toArray, List.set_cons_zero, List.set_cons_succ]
      refine takeH (i := 19) (some 23) (.bool true) rfl rfl (by kernel_rfl) (by kernel_rfl) (by kernel_rfl) (fun _ _ _ h => h) (Or.inl ⟨by rfl, fun w hSw => by (try dsimp only at hSw); go_simp⟩) (by assumption) ?_
      simp only [Act.put, List.setIfInBounds_toArray, List.set_cons_zero, List.set_cons_succ]
      refine wpAnyH_done (by kernel_rfl) ?_ _
      go_wp2
      go_ret
      exact ⟨ret_b HF.out, bb1⟩
    · have d3 : decide ((3 : Int) < m) = false := decide_eq_false (by omega)
      obtain ⟨t, ht'⟩ : ∃ t, decide (0 < m) = t := ⟨_, rfl⟩
      have ht : decide ((0 : Int) < m) = t := by rw [← ht']; simp
      go_enter Tryz.func8, Tryz.ntmps8
      go_wp2_with fail
      clear hW0
      refine wp_region_held_drew (S := fun W => W.cell? ⟨w.heap.size, 0, none⟩ = some (.slice a n cap) ∧ W.cell? ⟨w.heap.size, 1, none⟩ = some (.slice ak m capk)) (by kernel_rfl) ⟨x0, x1⟩ (fun hHeld => ?_)
      refine takeH (i := 0) (some 4) (.pointer (some ⟨w.heap.size, 0, none⟩)) rfl rfl (by kernel_rfl) (by kernel_rfl) (by kernel_rfl) (fun _ _ _ h => h) (Or.inl ⟨by rfl, fun w hSw => by (try dsimp only at hSw); go_simp⟩) (by assumption) ?_
      simp only [Act.put, List.setIfInBounds_toArray, List.set_cons_zero, List.set_cons_succ]
      refine takeH (i := 1) (some 5) (.slice a n cap) rfl rfl (by kernel_rfl) (by kernel_rfl) (by kernel_rfl) (fun _ _ _ h => h) (Or.inl ⟨by rfl, fun w hSw => by (try dsimp only at hSw); go_simp⟩) (by assumption) ?_
      simp only [Act.put, List.setIfInBounds_toArray, List.set_cons_zero, List.set_cons_succ]
      refine wpAnyH_ready (rs := [2]) (by kernel_rfl) (by simp) ?_
      refine AllReadyH.cons rfl (fun K hK => ?_) AllReadyH.nil
      go_simp
      refine c0.mono ?_
      rintro e w1 ⟨rfl, b1⟩
      have b1 := undrewB b1
      have X1 := X0.on b1 hs
      have bb1 := b0.trans (b1.mono b0.size)
      go_simp
      refine hK.out _ _ ⟨X1.cell 0, X1.cell 1⟩ (fun hHeld1 => ?_)
      clear hK K c0 hHeld x0 x1
      refine takeH (i := 3) (some 7) (.bool false) rfl rfl (by kernel_rfl) (by kernel_rfl) (by kernel_rfl) (fun _ _ _ h => h) (Or.inl ⟨by rfl, fun w hSw => by (try dsimp only at hSw); go_simp⟩) (by assumption) ?_
      simp only [Act.put, List.setIfInBounds_toArray, List.set_cons_zero, List.set_cons_succ]
      refine takeH (i := 4) (some 8) (.bool false) rfl rfl (by kernel_rfl) (by kernel_rfl) (by kernel_rfl) (fun _ _ _ h => h) (Or.inl ⟨by rfl, fun w hSw => by (try dsimp only at hSw); go_simp⟩) (by assumption) ?_
      simp only [Act.put, List.setIfInBounds_toArray, List.set_cons_zero, List.set_cons_succ]
      refine takeH (i := 5) (some 9) (.pointer (some ⟨w.heap.size, 1, none⟩)) rfl rfl (by kernel_rfl) (by kernel_rfl) (by kernel_rfl) (fun _ _ _ h => h) (Or.inl ⟨by rfl, fun w hSw => by (try dsimp only at hSw); go_simp⟩) (by assumption) ?_
      simp only [Act.put, List.setIfInBounds_toArray, List.set_cons_zero, List.set_cons_succ]
      refine takeH (i := 6) (some 10) (.slice ak m capk) rfl rfl (by kernel_rfl) (by kernel_rfl) (by kernel_rfl) (fun _ _ _ h => h) (Or.inl ⟨by rfl, fun w hSw => by (try dsimp only at hSw); go_simp⟩) (by assumption) ?_
      simp only [Act.put, List.setIfInBounds_toArray, List.set_cons_zero, List.set_cons_succ]
      refine takeH (i := 7) (some 11) (.int .i64 m) rfl rfl (by kernel_rfl) (by kernel_rfl) (by kernel_rfl) (fun _ _ _ h => h) (Or.inl ⟨by rfl, fun w hSw => by (try dsimp only at hSw); go_simp⟩) (by assumption) ?_
      simp only [Act.put, List.setIfInBounds_toArray, List.set_cons_zero, List.set_cons_succ]
      refine takeH (i := 8) (some 12) (.bool false) rfl rfl (by kernel_rfl) (by kernel_rfl) (by kernel_rfl) (fun _ _ _ h => h) (Or.inl ⟨by rfl, fun w hSw => by (try dsimp only at hSw); go_simp⟩) (by assumption) ?_
      simp only [Act.put, List.setIfInBounds_toArray, List.set_cons_zero, List.set_cons_succ]
      refine takeH (i := 9) (some 13) (.bool false) rfl rfl (by kernel_rfl) (by kernel_rfl) (by kernel_rfl) (fun _ _ _ h => h) (Or.inl ⟨by rfl, fun w hSw => by (try dsimp only at hSw); go_simp⟩) (by assumption) ?_
      simp only [Act.put, List.setIfInBounds_toArray, List.set_cons_zero, List.set_cons_succ]
      refine takeH (i := 10) (some 14) (.bool false) rfl rfl (by kernel_rfl) (by kernel_rfl) (by kernel_rfl) (fun _ _ _ h => h) (Or.inl ⟨by rfl, fun w hSw => by (try dsimp only at hSw); go_simp⟩) (by assumption) ?_
      simp only [Act.put, List.setIfInBounds_toArray, List.set_cons_zero, List.set_cons_succ]
      refine takeH (i := 11) (some 15) (.pointer (some ⟨w.heap.size, 0, none⟩)) rfl rfl (by kernel_rfl) (by kernel_rfl) (by kernel_rfl) (fun _ _ _ h => h) (Or.inl ⟨by rfl, fun w hSw => by (try dsimp only at hSw); go_simp⟩) (by assumption) ?_
      simp only [Act.put, List.setIfInBounds_toArray, List.set_cons_zero, List.set_cons_succ]
      refine takeH (i := 12) (some 16) (.slice a n cap) rfl rfl (by kernel_rfl) (by kernel_rfl) (by kernel_rfl) (fun _ _ _ h => h) (Or.inl ⟨by rfl, fun w hSw => by (try dsimp only at hSw); go_simp⟩) (by assumption) ?_
      simp only [Act.put, List.setIfInBounds_toArray, List.set_cons_zero, List.set_cons_succ]
      refine takeH (i := 14) (some 18) (.pointer (some ⟨w.heap.size, 1, none⟩)) rfl rfl (by kernel_rfl) (by kernel_rfl) (by kernel_rfl) (fun _ _ _ h => h) (Or.inl ⟨by rfl, fun w hSw => by (try dsimp only at hSw); go_simp⟩) (by assumption) ?_
      simp only [Act.put, List.setIfInBounds_toArray, List.set_cons_zero, List.set_cons_succ]
      refine takeH (i := 15) (some 19) (.slice ak m capk) rfl rfl (by kernel_rfl) (by kernel_rfl) (by kernel_rfl) (fun _ _ _ h => h) (Or.inl ⟨by rfl, fun w hSw => by (try dsimp only at hSw); go_simp⟩) (by assumption) ?_
      simp only [Act.put, List.setIfInBounds_toArray, List.set_cons_zero, List.set_cons_succ]
      refine takeH (i := 16) (some 20) (.int .i64 m) rfl rfl (by kernel_rfl) (by kernel_rfl) (by kernel_rfl) (fun _ _ _ h => h) (Or.inl ⟨by rfl, fun w hSw => by (try dsimp only at hSw); go_simp⟩) (by assumption) ?_
      simp only [Act.put, List.setIfInBounds_toArray, List.set_cons_zero, List.set_cons_succ]
      refine takeH (i := 17) (some 21) (.bool t) rfl rfl (by kernel_rfl) (by kernel_rfl) (by kernel_rfl) (fun _ _ _ h => h) (Or.inl ⟨by rfl, fun w hSw => by (try dsimp only at hSw); go_simp⟩) (by assumption) ?_
      simp only [Act.put, List.setIfInBounds_toArray, List.set_cons_zero, List.set_cons_succ]
      refine wpAnyH_ready (rs := [13]) (by kernel_rfl) (by simp) ?_
      refine AllReadyH.cons rfl (fun K hK => ?_) AllReadyH.nil
      go_simp
      refine (forkSpec _ xs B w1 (hv.c.on bb1 hB) (by omega)).mono ?_
      rintro e w2 ⟨rfl, rfl⟩
      go_simp
      refine hK.out _ _ ⟨X1.cell 0, X1.cell 1⟩ (fun hHeld2 => ?_)
      clear hK K hHeld1
      obtain ⟨q, hq⟩ : ∃ q, hasFork xs = q := ⟨_, rfl⟩
      rw [hq]
      by_cases hqt : q = t
      · have HE : Hid (progOk xs kss = kss.all kidOk) := prog_all HP.out (by omega) (by rw [hq, hqt, hm]; exact ht'.symm)
        subst hqt
        have d4 : (q != q) = false := by simp
        clear hq ht ht'
        refine takeH (i := 18) (some 22) (.bool false) rfl rfl (by kernel_rfl) (by kernel_rfl) (by kernel_rfl) (fun _ _ _ h => h) (Or.inl ⟨by rfl, fun w hSw => by (try dsimp only at hSw); go_simp⟩) (by assumption) ?_
        simp only [Act.put, List.setIfInBounds_toArray, List.set_cons_zero, List.set_cons_succ]
        refine takeH (i := 19) (some 23) (.bool false) rfl rfl (by kernel_rfl) (by kernel_rfl) (by kernel_rfl) (fun _ _ _ h => h) (Or.inl ⟨by rfl, fun w hSw => by (try dsimp only at hSw); go_simp⟩) (by assumption) ?_
        simp only [Act.put, List.setIfInBounds_toArray, List.set_cons_zero, List.set_cons_succ]
        refine wpAnyH_done (by kernel_rfl) ?_ _
        clear hHeld2
        have hvk := hv.k
        have HV := (show Hid _ from hvk)
        clear hvk
        obtain ⟨g, hg⟩ : ∃ g, w.heap.size = g := ⟨_, rfl⟩
        rw [hg] at hB bb1 X1 ⊢
        have hgw : g < w1.heap.size := X1.lt
        have y0 := X1.cell 1
        go_wp2
        clear y0
        go_loopw [3] (fun i' wr => ∃ k : Nat, k ≤ m ∧ i' = .int .i64 k ∧ (∀ j (h : j < kss.length), j < k → kidOk kss[j] = true) ∧ Below g w wr ∧ Blk wr g #[.slice a n cap, .slice ak m capk] 27) (fun i' _ => m - (intOf i').toNat)
        case atStart => exact ⟨0, Nat.zero_le _, rfl, fun j _ h => by omega, bb1, X1⟩
        case round =>
          obtain ⟨k, hk, rfl, hall, hb, X⟩ := hrel
          have y1 := X.cell 1
          have hsz : g ≤ wr.heap.size := by have := X.lt; omega
          by_cases hlt : k < m
          · obtain ⟨b, off, rfl, hbB, hc⟩ := SeesK.open HV.out (by omega)
            obtain ⟨s, hs1, hs2⟩ := hc k (by omega)
            have a0 := (hb.cell (p := ⟨b, off + k, none⟩) (by show b < g; omega)).trans hs1
            have cK := kidSpec _ _ B wr (hs2.on hb hB) (by omega) (HA3.out _ (List.getElem_mem (show k < kss.length by omega)))
            have HAl := (show Hid _ from hall)
            have i1 : (k : Int) < m := by omega
            by_cases hko : kidOk kss[k] = true
            · have HF : Hid (∀ j (h : j < kss.length), j < k + 1 → kidOk kss[j] = true) := fun j hj hjk => by
                rcases Nat.lt_succ_iff_lt_or_eq.1 hjk with h | h
                · exact HAl.out j hj h
                · subst h; exact hko
              rw [hko] at cK
              clear hall hc hs1 hs2 hko
              go_wp2_with fail
              refine cK.mono ?_
              rintro e w3 ⟨rfl, hb3⟩
              clear cK
              go_wp2
              go_roundw
              case rel => exact ⟨k + 1, by omega, by go_num, HF.out, hb.trans (hb3.mono hsz), X.on hb3 X.lt⟩
              case measure => simp [intOf]; omega
            · have hko' : kidOk kss[k] = false := by simpa using hko
              have HF : Hid (false = progOk xs kss) := by
                show _ = _
                rw [HE.out]
                exact (List.all_eq_false.2 ⟨kss[k], List.getElem_mem (by omega), by simp [hko']⟩).symm
              rw [hko'] at cK
              clear hall hc hs1 hs2 hko hko'
              go_wp2_with fail
              refine cK.mono ?_
              rintro e w3 ⟨rfl, hb3⟩
              clear cK
              go_wp2
              go_ret
              exact ⟨ret_b HF.out, by rw [hg]; exact hb.trans (hb3.mono hsz)⟩
          · have HF : Hid (true = progOk xs kss) := by
              show _ = _
              rw [HE.out]
              exact (List.all_eq_true.2 fun ks hks => by
                obtain ⟨j, hj, rfl⟩ := List.mem_iff_getElem.1 hks
                exact hall j hj (by omega)).symm
            obtain rfl : k = m := by omega
            clear hall
            go_wp2
            go_ret
            exact ⟨ret_b HF.out, by rw [hg]; exact hb⟩
      · have HF : Hid (false = progOk xs kss) := (prog_no3 (by rw [hq, hm, ht']; exact hqt)).symm
        have d4 : (q != t) = true := by simp [hqt]
        clear hq ht ht'
        refine takeH (i := 18) (some 22) (.bool true) rfl rfl (by kernel_rfl) (by kernel_rfl) (by kernel_rfl) (fun _ _ _ h => h) (Or.inl ⟨by rfl, fun w hSw => by (try dsimp only at hSw); go_simp⟩) (by assumption) ?_
        simp only [Act.put, List.setIfInBounds_toArray, List.set_cons_zero, List.set_cons_succ]
        refine takeH (i := 19) (some 23) (.bool true) rfl rfl (by kernel_rfl) (by kernel_rfl) (by kernel_rfl) (fun _ _ _ h => h) (Or.inl ⟨by rfl, fun w hSw => by (try dsimp only at hSw); go_simp⟩) (by assumption) ?_
        simp only [Act.put, List.setIfInBounds_toArray, List.set_cons_zero, List.set_cons_succ]
        refine wpAnyH_done (by kernel_rfl) ?_ _
        clear hHeld2
        go_wp2
        go_ret
        exact ⟨ret_b HF.out, bb1⟩

end Ops
end Go.Proofs.YtjopmakbnompnaaGreatDoor
/- What the specification's ShowProg answers. -/
set_option linter.unusedVariables false
set_option linter.unusedSimpArgs false
namespace Go.Proofs.YtjopmakbnompnaaGreatDoor
open Go.RowKit
namespace Ops
open Bas Flat Strs Num

theorem sp_none {xs : List O4} {kss : List (List O4)} (h : progOk xs kss = false) : showProg xs kss = [] := by unfold showProg; rw [if_neg (by simp [h])]
theorem sp_text {xs : List O4} {kss : List (List O4)} (h : progOk xs kss = true) : showProg xs kss = linesOf xs ++ kidsText kss := by unfold showProg progText; rw [if_pos h]
theorem kids_take {kss : List (List O4)} {k : Nat} (h : k < kss.length) : kidsText (kss.take (k + 1)) = kidsText (kss.take k) ++ kidL ++ linesOf kss[k] := by
  rw [List.take_succ_eq_append_getElem h]
  unfold kidsText
  rw [List.flatMap_append]
  simp only [List.flatMap_cons, List.flatMap_nil, List.append_nil, List.append_assoc]
theorem kids_len {kss : List (List O4)} (h : ∀ ks ∈ kss, codeOk ks = true) : (kidsText kss).length ≤ 1000 * kss.length := by
  induction kss with
  | nil => simp [kidsText]
  | cons ks r ih =>
    have h1 := lines_len ks
    have h2 := code_len (h ks (by simp))
    have h3 := ih (fun k hk => h k (by simp [hk]))
    have h4 : kidL.length = 4 := rfl
    rw [kidsText_cons]; simp; omega

set_option maxRecDepth 100000 in
set_option maxHeartbeats 3200000 in
theorem showProgC (vc vk : Value) (xs : List O4) (kss : List (List O4)) (B : Nat) (w : World) (hv : SeesP B w vc vk xs kss) (hB : B ≤ w.heap.size) (hf : Fits xs kss) :
    Calls Tryz.prog 29 #[.agg #[vc, vk]] w fun e w' => e = .returned (.string ⟨(showProg xs kss).toArray⟩) ∧ Below w.heap.size w w' := by
  obtain ⟨a, cap, rfl⟩ := hv.c.form
  obtain ⟨ak, capk, rfl⟩ := hv.k.form
  obtain ⟨n, hn⟩ : ∃ n, xs.length = n := ⟨_, rfl⟩
  obtain ⟨m, hm⟩ : ∃ m, kss.length = m := ⟨_, rfl⟩
  rw [hn, hm] at hv ⊢
  have b0 := alloc_below w (.cells #[.slice a n cap, .slice ak m capk] 27)
  have X0 := Blk.new w #[.slice a n cap, .slice ak m capk] 27
  obtain ⟨W0, hW0⟩ : ∃ W0, w.alloc (.cells #[.slice a n cap, .slice ak m capk] 27) = W0 := ⟨_, rfl⟩
  rw [hW0] at b0 X0
  have hs := X0.lt
  have hv0 := hv.on b0 hB
  have c0 := progSpec _ _ xs kss B W0 hv0 (by omega) hf
  obtain ⟨p, hp⟩ : ∃ p, progOk xs kss = p := ⟨_, rfl⟩
  rw [hp] at c0
  have HP : Hid (progOk xs kss = p) := hp
  clear hp
  have x0 := X0.cell 0; have x1 := X0.cell 1
  obtain ⟨g, hg⟩ : ∃ g, w.heap.size = g := ⟨_, rfl⟩
  rw [hg] at hB b0 X0 hs x0 x1 ⊢
  cases p
  · have HF : Hid ([] = showProg xs kss) := (sp_none HP.out).symm
    go_enter Tryz.func29, Tryz.ntmps29
    go_wp2_with fail
    refine c0.mono ?_
    rintro e w1 ⟨rfl, b1⟩
    clear hW0 x0 x1
    go_wp2
    go_ret
    exact ⟨ret_s HF.out, b0.trans (b1.mono (by omega))⟩
  obtain ⟨hc, h3, hks⟩ := prog_codes HP.out
  rw [hm] at h3
  have HS : Hid (showProg xs kss = linesOf xs ++ kidsText kss) := sp_text HP.out
  have HKs := (show Hid _ from hks)
  have lx := lines_len xs
  have lx2 := code_len hc
  have HC : Hid (showCode xs = linesOf xs) := sc_yes hc
  clear hc hks
  go_enter Tryz.func29, Tryz.ntmps29
  go_wp2_with fail
  refine c0.mono ?_
  rintro e w1 ⟨rfl, b1⟩
  clear c0 hW0 x0 x1
  have X1 := X0.on b1 (by omega)
  have bb1 := b0.trans (b1.mono (by omega : g ≤ W0.heap.size))
  have hz1 : g < w1.heap.size := X1.lt
  have x0 := X1.cell 0
  have c1 := showCodeC _ xs B w1 (hv.c.on bb1 hB) (by omega) (by omega)
  rw [HC.out] at c1
  go_wp2_with fail
  refine c1.mono ?_
  rintro e w2 ⟨rfl, b2⟩
  clear c1 x0
  have X2 := X1.on b2 hz1
  have bb2 := bb1.trans (b2.mono (by omega : g ≤ w1.heap.size))
  have hvk := (show Hid _ from hv.k)
  clear X0 b0 X1 b1 bb1 b2
  go_wp2
  go_loopw [3, 4] (fun sv iv wr => ∃ (k : Nat) (T : Txt), k ≤ m ∧ iv = .int .i64 k ∧ sv = .string ⟨T.toArray⟩ ∧ T = linesOf xs ++ kidsText (kss.take k) ∧ Below g w wr ∧ Blk wr g #[.slice a n cap, .slice ak m capk] 27) (fun _ iv _ => m - (intOf iv).toNat)
  case atStart => exact ⟨0, linesOf xs, Nat.zero_le _, rfl, rfl, by simp [kidsText], bb2, X2⟩
  case round =>
    obtain ⟨k, T, hk, rfl, rfl, hT, hb, X⟩ := hrel
    clear bb2 X2
    have hsz : g < wr.heap.size := X.lt
    have y1 := X.cell 1
    by_cases hlt : k < m
    · obtain ⟨b, off, rfl, hbB, hcc⟩ := SeesK.open hvk.out (by omega)
      obtain ⟨s, hs1, hs2⟩ := hcc k (by omega)
      have a0 := (hb.cell (p := ⟨b, off + k, none⟩) (by show b < g; omega)).trans hs1
      have hkx : k < kss.length := by omega
      have hko := HKs.out _ (List.getElem_mem hkx)
      have h24 := code_len hko
      have cK := showCodeC _ kss[k] B wr (hs2.on hb hB) (by omega) (by omega)
      rw [sc_yes hko] at cK
      have HL : Hid (kidsText (kss.take (k + 1)) = kidsText (kss.take k) ++ kidL ++ linesOf kss[k]) := kids_take hkx
      have l1 := lines_len kss[k]
      have l2 := kids_len (kss := kss.take k) (fun q hq => HKs.out q (List.mem_of_mem_take hq))
      have l3 : (kss.take k).length ≤ k := List.length_take_le _ _
      have lT : T.length ≤ 10000 := by rw [hT]; simp; omega
      have HT : Hid (T = linesOf xs ++ kidsText (kss.take k)) := hT
      obtain ⟨U, hU⟩ : ∃ U, linesOf kss[k] = U := ⟨_, rfl⟩
      rw [hU] at cK HL l1
      obtain ⟨lt, hlt'⟩ : ∃ l, T.length = l := ⟨_, rfl⟩
      obtain ⟨lu, hlu⟩ : ∃ l, U.length = l := ⟨_, rfl⟩
      rw [hlt'] at lT
      rw [hlu] at l1
      have lu' : lu ≤ 1000 := by omega
      have i1 : (k : Int) < m := by omega
      have i2 : (0 : Int) ≤ k := by omega
      clear hcc hs1 hs2 hU hT l1 l2 l3 hko h24 lx lx2
      go_wp2_with fail
      refine cK.mono ?_
      rintro e w3 ⟨rfl, b3⟩
      clear cK a0 y1
      go_wp2
      go_roundw
      case rel =>
        refine ⟨k + 1, T ++ kidL ++ U, by omega, by go_num, ?_, by rw [HL.out, HT.out]; simp, hb.trans (b3.mono (by omega)), X.on b3 X.lt⟩
        simp [ByteArray.mk_append_mk, kidL]
      case measure => simp [intOf]; omega
    · obtain rfl : k = m := by omega
      have HF : Hid (T = showProg xs kss) := by show _ = _; rw [HS.out, hT, List.take_of_length_le (by omega)]
      have i1 : ¬ (k : Int) < k := by omega
      clear hT
      go_wp2
      go_ret
      exact ⟨ret_s HF.out, hb⟩
end Ops
end Go.Proofs.YtjopmakbnompnaaGreatDoor
