/- What the specification's ShowCode, l6Lines and ReadCode answer. -/
import Derived.Test.YtjopmakbnompnaaDoorReadCodeL
import Derived.Test.YtjopmakbnompnaaDoorReadOpSpec
import Derived.Test.YtjopmakbnompnaaDoorShapeSpec3
set_option linter.unusedVariables false
set_option linter.unusedSimpArgs false
namespace Go.Proofs.YtjopmakbnompnaaDoor
open Go.RowKit
namespace Ops
open Bas Flat Strs Num

theorem sc_no {xs : List O4} (h : codeOk xs = false) : showCode xs = [] := by unfold showCode; rw [if_neg (by simp [h])]
theorem sc_yes {xs : List O4} (h : codeOk xs = true) : showCode xs = linesOf xs := by unfold showCode; rw [if_pos h]
theorem code_len {xs : List O4} (h : codeOk xs = true) : xs.length ≤ 24 := by
  unfold codeOk at h
  rw [Bool.and_eq_true] at h
  exact of_decide_eq_true h.1
theorem lines_take {xs : List O4} {k : Nat} (h : k < xs.length) : linesOf (xs.take (k + 1)) = linesOf (xs.take k) ++ showOp xs[k] ++ [10] := by rw [List.take_succ_eq_append_getElem h, lines_snoc]

set_option maxRecDepth 100000 in
set_option maxHeartbeats 3200000 in
theorem showCodeC (v : Value) (xs : List O4) (B : Nat) (w : World) (hv : Sees4 B w v xs) (hB : B ≤ w.heap.size) (hlen : xs.length ≤ 1048576) :
    Calls Tryd.prog 15 #[v] w fun e w' => e = .returned (.string ⟨(showCode xs).toArray⟩) ∧ Below w.heap.size w w' := by
  have c0 := codeSpec v xs B w hv hB hlen
  obtain ⟨a, cap, rfl⟩ := hv.form
  obtain ⟨n, hn⟩ : ∃ n, xs.length = n := ⟨_, rfl⟩
  rw [hn] at hv hlen c0 ⊢
  obtain ⟨p, hp⟩ : ∃ p, codeOk xs = p := ⟨_, rfl⟩
  rw [hp] at c0
  obtain ⟨g, hg⟩ : ∃ g, w.heap.size = g := ⟨_, rfl⟩
  rw [hg] at hB c0 ⊢
  cases p
  · have HF : Hid ([] = showCode xs) := (sc_no hp).symm
    clear hp
    go_enter Tryd.func15, Tryd.ntmps15
    go_wp2_with fail
    refine c0.mono ?_
    rintro e w1 ⟨rfl, b1⟩
    go_wp2
    go_ret
    exact ⟨ret_s HF.out, b1⟩
  have h24 := code_len hp
  rw [hn] at h24
  have HS : Hid (showCode xs = linesOf xs) := sc_yes hp
  clear hp
  go_enter Tryd.func15, Tryd.ntmps15
  go_wp2_with fail
  refine c0.mono ?_
  rintro e w1 ⟨rfl, b1⟩
  clear c0
  go_wp2
  go_loopw [3, 4] (fun sv iv wr => ∃ (k : Nat) (T : Txt), k ≤ n ∧ iv = .int .i64 k ∧ sv = .string ⟨T.toArray⟩ ∧ T = linesOf (xs.take k) ∧ Below g w wr) (fun _ iv _ => n - (intOf iv).toNat)
  case atStart => exact ⟨0, [], Nat.zero_le _, rfl, rfl, rfl, b1⟩
  case round =>
    obtain ⟨k, T, hk, rfl, rfl, hT, hb⟩ := hrel
    clear b1
    have hsz : g ≤ wr.heap.size := by have := hb.size; omega
    by_cases hlt : k < n
    · obtain ⟨b, off, rfl, hbB, hc⟩ := (hv.on hb hB).open (by omega)
      obtain ⟨a0, a1, a2, a3⟩ := see4 (B := B) hc k (by omega)
      have i1 : (k : Int) < n := by omega
      have HL : Hid (linesOf (xs.take (k + 1)) = linesOf (xs.take k) ++ showOp xs[k] ++ [10]) := lines_take (by omega)
      have cO := showOpC xs[k] wr
      have lT := lines_len (xs.take k)
      rw [← hT] at lT
      have lk : (xs.take k).length ≤ k := List.length_take_le _ _
      have lS := show_len xs[k]
      obtain ⟨x, hx⟩ : ∃ x, xs[k] = x := ⟨_, rfl⟩
      rw [hx] at a0 a1 a2 a3 cO HL lS
      have eV : x.val = .agg #[.int .i64 x.k, .int .i64 x.a, .int .i64 x.b, .int .i64 x.c] := rfl
      rw [eV] at cO
      obtain ⟨U, hU⟩ : ∃ U, showOp x = U := ⟨_, rfl⟩
      rw [hU] at cO HL lS
      have HT : Hid (T = linesOf (xs.take k)) := hT
      obtain ⟨lt, hlt'⟩ : ∃ l, T.length = l := ⟨_, rfl⟩
      obtain ⟨lu, hlu⟩ : ∃ l, U.length = l := ⟨_, rfl⟩
      rw [hlt'] at lT
      rw [hlu] at lS
      have lT' : lt ≤ 1000 := by omega
      clear hc hx eV hU hT lT lk
      go_wp2_with fail
      refine cO.mono ?_
      rintro e w2 ⟨rfl, b2⟩
      clear cO a0 a1 a2 a3
      go_wp2
      go_roundw
      case rel =>
        refine ⟨k + 1, T ++ U ++ [10], by omega, by go_num, ?_, by rw [HL.out, ← HT.out], hb.trans (b2.mono hsz)⟩
        simp [ByteArray.mk_append_mk]
      case measure => simp [intOf]; omega
    · obtain rfl : k = n := by omega
      have HF : Hid (T = showCode xs) := by show _ = _; rw [HS.out, hT, List.take_of_length_le (by omega)]
      have i1 : ¬ (k : Int) < k := by omega
      clear hT
      go_wp2
      go_ret
      exact ⟨ret_s HF.out, hb⟩

theorem seesOneO (W : World) (x : O4) (t : TypeId) : Sees4 (W.heap.size + 1) (W.alloc (.cells #[.int .i64 x.k, .int .i64 x.a, .int .i64 x.b, .int .i64 x.c] t)) (.slice (some ⟨W.heap.size, 0, none⟩) 1 1) [x] :=
  ⟨_, 1, rfl, by simp, by unfold maxLen; omega, fun _ => ⟨W.heap.size, 0, rfl, by omega, fun j hj => by
    have hj0 : j = 0 := by simpa using hj
    subst hj0
    intro i u hu
    have hb : Blk (W.alloc (.cells #[.int .i64 x.k, .int .i64 x.a, .int .i64 x.b, .int .i64 x.c] t)) W.heap.size #[.int .i64 x.k, .int .i64 x.a, .int .i64 x.b, .int .i64 x.c] t := Blk.new W _ _
    simp only [Nat.zero_mul, Nat.zero_add]
    rw [hb.cell]
    change [Value.int .i64 x.k, .int .i64 x.a, .int .i64 x.b, .int .i64 x.c][i]? = some u at hu
    simpa using hu⟩⟩
/-- append(v, o) -/
theorem pushO (v : Value) (xs : List O4) (B : Nat) (w : World) (h : Owns4 B w v xs) (hB : B ≤ w.heap.size) (hlen : xs.length ≤ 4000000) (x : O4) :
    ∃ v' w', (Builtin.append_ #[35, 35] 35 #[v, .slice (some ⟨w.heap.size, 0, none⟩) 1 1]).run Tryd.prog (w.alloc (.cells #[.int .i64 x.k, .int .i64 x.a, .int .i64 x.b, .int .i64 x.c] 25)) = .ok v' w' ∧ Owns4 B w' v' (xs ++ [x]) ∧ w.grownBy w' v.ownBlock := by
  obtain ⟨v', w', hr, hO, hG, hl⟩ := app rowOp v _ 35 xs [x] _ B (w.alloc (.cells #[.int .i64 x.k, .int .i64 x.a, .int .i64 x.b, .int .i64 x.c] 25)) (h.on (alloc_below w _) (Nat.le_refl _)) (by simp; omega) (seesOneO w x _) (by simp; omega)
  exact ⟨v', w', hr, hO, grown_allocS hG⟩

/-- what l6Lines answers -/
def ToldLines (B : Nat) (ps : List Txt) (e : Ending) (w' : World) : Prop := ∃ v' xs b, e = .returned (.tuple #[v', .bool b]) ∧ Owns4 B w' v' xs ∧ ((b = true ∧ ReadL ps xs ∧ xs.length = ps.length) ∨ (b = false ∧ xs = [] ∧ ∃ (i : Nat) (h : i < ps.length) (o : O4), RdOp ps[i] o false))

set_option maxRecDepth 100000 in
set_option maxHeartbeats 3200000 in
theorem linesC (v : Value) (ps : List Txt) (B : Nat) (w : World) (hv : SeesS B w v ps) (hB : B ≤ w.heap.size) (hlen : ps.length ≤ 1000) (hl : ∀ p ∈ ps, p.length ≤ 1048576) :
    Calls Tryd.prog 42 #[v] w fun e w' => ToldLines w.heap.size ps e w' ∧ Below w.heap.size w w' := by
  obtain ⟨a, cap, rfl⟩ := hv.form
  obtain ⟨n, hn⟩ : ∃ n, ps.length = n := ⟨_, rfl⟩
  rw [hn] at hv hlen ⊢
  obtain ⟨g, hg⟩ : ∃ g, w.heap.size = g := ⟨_, rfl⟩
  have O0 : Owns4 g (w.alloc (.cells #[] 25)) (.slice (some ⟨w.heap.size, 0, none⟩) 0 0) [] := by rw [← hg]; exact World.ownsRow_lit w #[] 0 (Nat.le_refl _) (by simp [maxLen]) rfl
  have b0 : Below g w (w.alloc (.cells #[] 25)) := by rw [← hg]; exact alloc_below w _
  rw [hg] at O0 hB ⊢
  have HL := (show Hid _ from hl)
  clear hl
  go_enter Tryd.func42, Tryd.ntmps42
  go_wp2
  go_loopw [4, 5] (fun ov iv wr => ∃ (k : Nat) (xs : List O4) (ax : Option Addr) (mx cx : Nat), k ≤ n ∧ iv = .int .i64 k ∧ ov = .slice ax mx cx ∧ xs.length = k ∧ ReadL ps xs ∧ Owns4 g wr (.slice ax mx cx) xs ∧ Below g w wr) (fun _ iv _ => n - (intOf iv).toNat)
  case atStart => exact ⟨0, [], _, _, _, Nat.zero_le _, rfl, rfl, rfl, readL_nil ps, O0, b0⟩
  case round =>
    obtain ⟨k, xs, ax, mx, cx, hk, rfl, rfl, hxl, hrl, O, hb⟩ := hrel
    clear O0 b0
    have hsz : g ≤ wr.heap.size := by have := hb.size; omega
    by_cases hlt : k < n
    · obtain ⟨b, off, rfl, hbB, hc⟩ := (hv.on hb hB).open (by omega)
      have s1 := seeS hc k (by omega)
      have i1 : (k : Int) < n := by omega
      have i2 : (0 : Int) ≤ k := by omega
      have hkx : k < ps.length := by omega
      have cO := readOpC ps[k] (HL.out _ (List.getElem_mem hkx)) wr
      have HY := (show Hid _ from (fun (o : O4) (h : RdOp (ps[xs.length]'(by omega)) o true) => readL_snoc hrl (by omega) h))
      have HE : Hid (∀ h : xs.length < ps.length, ps[xs.length] = ps[k]) := fun h => by congr 1
      obtain ⟨pt, hpt⟩ : ∃ pt, ps[k] = pt := ⟨_, rfl⟩
      have HPT : Hid (ps[k] = pt) := hpt
      rw [hpt] at s1 cO
      clear hc hpt
      go_wp2_with fail
      refine cO.mono ?_
      rintro e w2 ⟨⟨o, q, rfl, hro⟩, b2⟩
      clear cO s1
      have bb2 := hb.trans (b2.mono hsz)
      have hz2 : g ≤ w2.heap.size := by have := bb2.size; omega
      have O2 := O.on b2 (Nat.le_refl _)
      have eV : o.val = .agg #[.int .i64 o.k, .int .i64 o.a, .int .i64 o.b, .int .i64 o.c] := rfl
      rw [eV]
      have bA := alloc_below w2 (.cells #[.int .i64 o.k, .int .i64 o.a, .int .i64 o.b, .int .i64 o.c] 25)
      have bbA := bb2.trans (bA.mono hz2)
      cases q
      · have HN : Hid (∃ (i : Nat) (h : i < ps.length) (o : O4), RdOp ps[i] o false) := ⟨k, hkx, o, by rw [HPT.out]; exact hro⟩
        clear hro HY HE HPT eV O O2
        go_wp2
        go_ret2
        exact ⟨⟨.slice (some ⟨(w2.alloc (.cells #[.int .i64 o.k, .int .i64 o.a, .int .i64 o.b, .int .i64 o.c] 25)).heap.size, 0, none⟩) 0 0, [], false, by first | rfl | simp, World.ownsRow_lit _ #[] 0 (by have := bbA.size; omega) (by simp [maxLen]) rfl, .inr ⟨rfl, rfl, HN.out⟩⟩, bbA.trans ((alloc_below _ _).mono (by have := bbA.size; omega))⟩
      · have HR : Hid (ReadL ps (xs ++ [o])) := HY.out o (by rw [HE.out (by omega), HPT.out]; exact hro)
        have OA := O2.on bA (Nat.le_refl _)
        have XA := Blk.new w2 #[.int .i64 o.k, .int .i64 o.a, .int .i64 o.b, .int .i64 o.c] 25
        have c0 := XA.cell 0; have c1 := XA.cell 1; have c2 := XA.cell 2; have c3 := XA.cell 3
        have hzA : g ≤ (w2.alloc (.cells #[.int .i64 o.k, .int .i64 o.a, .int .i64 o.b, .int .i64 o.c] 25)).heap.size := by have := bbA.size; omega
        obtain ⟨v3, w3, hr3, O3, G3⟩ := pushO _ xs g _ OA hzA (by omega) o
        have hzz : (w2.alloc (.cells #[.int .i64 o.k, .int .i64 o.a, .int .i64 o.b, .int .i64 o.c] 25)).heap.size = w2.heap.size + 1 := by simp
        rw [hzz] at hr3
        have b3 := bbA.grown G3 hzA (fun q hq => (OA.at q hq).1)
        obtain ⟨a3, c3', rfl⟩ := O3.form
        obtain ⟨n3, hn3⟩ : ∃ n, (xs ++ [o]).length = n := ⟨_, rfl⟩
        rw [hn3] at O3 hr3
        clear hro HY HE HPT eV O O2 OA XA hzz hzA bA
        go_wp2_with (at_builtin; refine wpList_app _ rfl _ _ 35 rfl _ _ _ _ rfl rfl hr3 ?_)
        clear hr3 c0 c1 c2 c3
        go_roundw
        case rel => exact ⟨k + 1, xs ++ [o], _, _, _, by omega, by go_num, rfl, by simp; omega, HR.out, O3, b3⟩
        case measure => simp [intOf]; omega
    · obtain rfl : k = n := by omega
      have i1 : ¬ (k : Int) < k := by omega
      have HR : Hid (ReadL ps xs ∧ xs.length = ps.length) := ⟨hrl, by omega⟩
      clear hrl
      go_wp2
      go_ret2
      exact ⟨⟨.slice ax mx cx, xs, true, rfl, O, .inl ⟨rfl, HR.out⟩⟩, hb⟩
/-- what ReadCode answers -/
def ToldCode (B : Nat) (L : Txt) (e : Ending) (w' : World) : Prop := ∃ v' xs b, e = .returned (.tuple #[v', .bool b]) ∧ Owns4 B w' v' xs ∧ RdCode L xs b
theorem told_nil (w : World) {g : Nat} (hg : g ≤ w.heap.size) {L : Txt} {b : Bool} (h : RdCode L [] b) (e : Ending) (he : e = .returned (.tuple #[.slice (some ⟨w.heap.size, 0, none⟩) 0 0, .bool b])) : ToldCode g L e (w.alloc (.cells #[] 25)) :=
  ⟨_, [], b, he, World.ownsRow_lit w #[] 0 hg (by simp [maxLen]) rfl, h⟩

set_option maxRecDepth 100000 in
set_option maxHeartbeats 3200000 in
theorem readCodeC (L : Txt) (hs : L.length ≤ 1048576) (w : World) :
    Calls Tryd.prog 19 #[.string ⟨L.toArray⟩] w fun e w' => ToldCode w.heap.size L e w' ∧ Below w.heap.size w w' := by
  by_cases h0 : L = []
  · subst h0
    have HF : Hid (RdCode [] [] true) := rd_empty
    go_enter Tryd.func19, Tryd.ntmps19
    go_wp2
    go_ret2
    exact ⟨told_nil w (Nat.le_refl _) HF.out _ rfl, alloc_below w _⟩
  obtain ⟨M, x, hMx⟩ : ∃ M x, L = M ++ [x] := by
    rcases List.eq_nil_or_concat L with h | ⟨M, x, h⟩
    · exact absurd h h0
    · exact ⟨M, x, by rw [h, List.concat_eq_append]⟩
  obtain ⟨n, hMl⟩ : ∃ n, M.length = n := ⟨_, rfl⟩
  have hLn : L.length = n + 1 := by rw [hMx]; simp [hMl]
  have hsn : L[n]'(by omega) = x := by
    subst hMx
    rw [List.getElem_append_right (by omega)]
    simp [hMl]
  have HM : Hid ((⟨L.toArray⟩ : ByteArray).extract 0 n = ⟨M.toArray⟩) := by
    show _ = _
    rw [piece, hMx]
    simp [← hMl]
  have HLM : Hid (L = M ++ [x]) := hMx
  have dL : (L == []) = false := by simp [h0]
  have hnB : n < (⟨L.toArray⟩ : ByteArray).size := by show n < L.toArray.size; simp; omega
  have HX : Hid (((⟨L.toArray⟩ : ByteArray)[n]'hnB) = x) := by
    show _ = _
    have : ((⟨L.toArray⟩ : ByteArray)[n]'hnB) = L[n]'(by omega) := rfl
    rw [this]; exact hsn
  clear hMx hMl h0 hsn
  by_cases hx : x = 10
  · have dx : (((((⟨L.toArray⟩ : ByteArray)[n]'hnB).toNat : Nat) : Int) != 10) = false := by rw [HX.out, hx]; rfl
    have c1 := splitC ⟨M.toArray⟩ 10 (by show M.toArray.size ≤ _; have := congrArg List.length HLM.out; simp at this ⊢; omega) w
    have eM : (⟨M.toArray⟩ : ByteArray).data.toList = M := by simp
    rw [eM] at c1
    have hML : M.length ≤ 1048576 := by have := congrArg List.length HLM.out; simp at this; omega
    have HPl := (show Hid _ from split_len 10 M)
    have HL10 : Hid (L = M ++ [10]) := by rw [← hx]; exact HLM.out
    have HLo := (show Hid _ from @rd_long M)
    have HLi := (show Hid _ from @rd_line M)
    have HTo := (show Hid _ from @told_code M)
    obtain ⟨ps, hps⟩ : ∃ ps, split 10 M = ps := ⟨_, rfl⟩
    rw [hps] at c1 HPl HLo HLi HTo
    rw [← HL10.out] at HLo HLi HTo
    have hlp : ∀ p ∈ ps, p.length ≤ 1048576 := fun p hp => Nat.le_trans (HPl.out p hp) hML
    have Hlp := (show Hid _ from hlp)
    clear eM hps hlp HPl hx HX
    obtain ⟨g, hg⟩ : ∃ g, w.heap.size = g := ⟨_, rfl⟩
    rw [hg] at c1 ⊢
    go_enter Tryd.func19, Tryd.ntmps19
    go_wp2_with fail
    rw [HM.out]
    refine c1.mono ?_
    rintro e w1 ⟨v1, rfl, P1, b1⟩
    clear c1 dx dL
    have hz1 : g ≤ w1.heap.size := by have := b1.size; omega
    obtain ⟨a1, cp1, rfl⟩ := P1.form
    obtain ⟨m, hm⟩ : ∃ m, ps.length = m := ⟨_, rfl⟩
    rw [hm] at P1 ⊢
    by_cases h24 : 24 < m
    · have HF : Hid (RdCode L [] false) := HLo.out (by rw [hm]; exact h24)
      have d24 : (24 : Int) < m := by omega
      go_wp2
      go_ret2
      exact ⟨told_nil w1 hz1 HF.out _ rfl, b1.trans ((alloc_below w1 _).mono hz1)⟩
    · have d24 : ¬ (24 : Int) < m := by omega
      have c2 := linesC _ ps w1.heap.size w1 P1.sees (Nat.le_refl _) (by omega) Hlp.out
      go_wp2_with fail
      refine c2.mono ?_
      rintro e w2 ⟨⟨v2, xs, q, rfl, O2, hq⟩, b2⟩
      clear c2
      have bb2 := b1.trans (b2.mono hz1)
      have hz2 : g ≤ w2.heap.size := by have := bb2.size; omega
      obtain ⟨a2, cp2, rfl⟩ := O2.form
      rcases hq with ⟨rfl, hr, hl⟩ | ⟨rfl, -, i, hi, o, ho⟩
      · have HT := (show Hid _ from HTo.out hr hl)
        have c3 := codeSpec _ xs w2.heap.size w2 O2.sees (Nat.le_refl _) (by omega)
        obtain ⟨q, hq⟩ : ∃ q, codeOk xs = q := ⟨_, rfl⟩
        rw [hq] at c3 HT
        clear hr hl hq HTo HLi HLo
        go_wp2_with fail
        refine c3.mono ?_
        rintro e w3 ⟨rfl, b3⟩
        clear c3
        have bb3 := bb2.trans (b3.mono hz2)
        have hz3 : g ≤ w3.heap.size := by have := bb3.size; omega
        cases q
        · have HF : Hid (RdCode L [] false) := HT.out.2 rfl
          go_wp2
          go_ret2
          exact ⟨told_nil w3 hz3 HF.out _ rfl, bb3.trans ((alloc_below w3 _).mono hz3)⟩
        · have HF : Hid (RdCode L xs true) := HT.out.1 rfl
          have O3 := (O2.on b3 (Nat.le_refl _)).mono hz1
          go_wp2
          go_ret2
          exact ⟨⟨_, xs, true, rfl, O3, HF.out⟩, bb3⟩
      · have HF : Hid (RdCode L [] false) := HLi.out hi ho
        clear ho HLi HTo HLo
        go_wp2
        go_ret2
        exact ⟨told_nil w2 hz2 HF.out _ rfl, bb2.trans ((alloc_below w2 _).mono hz2)⟩
  · have dx : (((((⟨L.toArray⟩ : ByteArray)[n]'hnB).toNat : Nat) : Int) != 10) = true := by
      rw [HX.out]
      simp only [bne_iff_ne, ne_eq]
      intro e
      exact hx (UInt8.toNat_inj.1 (by have : (10 : UInt8).toNat = 10 := rfl; omega))
    have HF : Hid (RdCode L [] false) := by rw [HLM.out]; exact rd_no_end hx
    clear hx HX HLM
    go_enter Tryd.func19, Tryd.ntmps19
    go_wp2
    go_ret2
    exact ⟨told_nil w (Nat.le_refl _) HF.out _ rfl, alloc_below w _⟩
end Ops
end Go.Proofs.YtjopmakbnompnaaDoor
