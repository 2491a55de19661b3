/- Several texts of one proof, in build order: SerImpl, SerSt, SerWalk, ShapeSpec. -/
import Derived.Test.YtajbmokidcdfnaaSB1
import Derived.Test.YtajbmokidcdfnaaSB2
import Derived.Test.YtajbmokidcdfnaaSB3
import Derived.Test.YtajbmokidcdfnaaSB4
import Derived.Test.YtajbmokidcdfnaaSB5
import Derived.Test.YtajbmokidcdfnaaSB7
import Derived.Test.YtajbmokidcdfnaaSB8
/- What the program's Serial answers. -/
set_option linter.unusedVariables false
set_option linter.unusedSimpArgs false
namespace Go.Proofs.Ytajbmokidcdfnaa
open Go.RowKit
namespace Ops
open Bas Flat

/-- a block, whole, with other cells -/
theorem blk_over {p : Nat} {t : TypeId} : ∀ (l : List Value) (W : World) (cs : Array Value) (k : Nat), Blk W p cs t → k + l.length = cs.size → ∃ cs' : Array Value, Blk (W.setCells p k l) p cs' t ∧ cs'.toList = cs.toList.take k ++ l
  | [], W, cs, k, h, hk => ⟨cs, h, by rw [List.append_nil, List.take_of_length_le (by simpa using Nat.le_of_eq hk.symm)]⟩
  | v :: r, W, cs, k, h, hk => by
    obtain ⟨cs', h1, h2⟩ := blk_over r (W.setCell ⟨p, k, none⟩ v) _ (k + 1) (h.set k v) (by simp at hk ⊢; omega)
    refine ⟨cs', h1, ?_⟩
    have hkl : k < cs.size := by simp at hk; omega
    rw [h2, Array.toList_setIfInBounds, List.take_add_one, List.take_set_of_le (Nat.le_refl _), List.getElem?_set_self (by simpa using hkl)]
    simp
theorem blk_all {p : Nat} {t : TypeId} {W : World} {cs : Array Value} (h : Blk W p cs t) (l : List Value) (hl : l.length = cs.size) : Blk (W.setCells p 0 l) p l.toArray t := by
  obtain ⟨cs', h1, h2⟩ := blk_over l W cs 0 h (by omega)
  have : cs' = l.toArray := by rw [← Array.toArray_toList (xs := cs'), h2]; simp
  rw [this] at h1; exact h1
theorem blk_there {p : Nat} {t : TypeId} {W : World} {cs : Array Value} (h : Blk W p cs t) : W.there p 0 cs.size := fun j hj =>
  ⟨by rw [Nat.zero_add, h.cell]; simp [hj], h.froz _⟩

theorem infoRun : (Try.prog.info? 57).map (·.size) = some 5 := by kernel_rfl
theorem run_store {W : World} {q : Nat} {cs : Array Value} (h : Blk W q cs 57) (hs : cs.size = 5) (o m : Int) (a1 a2 a3 : Option Addr) (n1 c1 n2 c2 n3 c3 : Nat) :
    (Instr.storeAt 57 (.pointer (some ⟨q, 0, none⟩)) (.agg #[.int .i64 o, .slice a1 n1 c1, .slice a2 n2 c2, .slice a3 n3 c3, .int .i64 m])).run Try.prog W = .ok () (W.setCells q 0 [.int .i64 o, .slice a1 n1 c1, .slice a2 n2 c2, .slice a3 n3 c3, .int .i64 m]) :=
  run_storeAt_mid (P := Try.prog) W q 0 57 #[.int .i64 o, .slice a1 n1 c1, .slice a2 n2 c2, .slice a3 n3 c3, .int .i64 m] (by have := blk_there h; rw [hs] at this; exact this) infoRun (by simp [Value.oneCell'])
theorem step_st {P : Program} {w w' : World} {ops : Array Oper} {o : Oper} {a : Act} {K : Act → World → Prop} {Q : Exit → Act → World → Prop} {E : Prop} (hgd : o.guard = none) (ty : TypeId) (x y : Operand) (ho : o.op = .store ty x y)
    (ad v : Value) (hx : a.eval x = ad) (hy : a.eval y = v) (hs : (Instr.storeAt ty ad v).run P w = .ok () w') (h : K (a.put o.dst undef) w') : if Region.wanted o (yielded ops a.tmps) = true then Oper.wp P o a w K Q else E := by
  have hw : Region.wanted o (yielded ops a.tmps) = true := by simp [Region.wanted, hgd]
  rw [if_pos hw]
  unfold Oper.wp execOp
  simp only [ho, hx, hy, hs, Sem.run_bind, Sem.run_pure, Result.andThen_ok]
  exact h
/-- what Serial tells -/
def SerAns (xs : List O4) (kss : List (List O4)) (zs : List Int) (t : Th) (w : World) (e : Ending) (w' : World) : Prop :=
  ∃ q vr vc vm, e = .returned (.agg #[.int .i64 q.out, vr, vc, vm, .int .i64 q.t.n]) ∧ RunTold xs kss zs t q ∧ Ints.Owns w.heap.size w' vr q.r ∧ OwnT w.heap.size w' vc vm q.t ∧ Dj vr vc ∧ Dj vr vm ∧ Below w.heap.size w w'
theorem ser_bad {xs : List O4} {kss : List (List O4)} {zs : List Int} {t : Th} {w w' : World} (h : serOk xs kss zs t = false) (hb : Below w.heap.size w w') : SerAns xs kss zs t w (.returned (.agg #[.int .i64 0, .slice none 0 0, .slice none 0 0, .slice none 0 0, .int .i64 0])) w' :=
  ⟨⟨0, [], ⟨[], [], 0⟩⟩, _, _, _, rfl, .inr ⟨h, rfl⟩, ⟨by simp [Ints.iv], .inl ⟨rfl, rfl⟩⟩, ⟨⟨by simp [Ints.iv], .inl ⟨rfl, rfl⟩⟩, ⟨by simp [Ints.iv], .inl ⟨rfl, rfl⟩⟩, (fun k h => by cases h)⟩, (fun k h => by cases h), (fun k h => by cases h), hb⟩
theorem prog_out {xs : List O4} {kss : List (List O4)} (h : progOk xs kss = true) : codeOk xs = true ∧ kss.length ≤ 3 ∧ ∀ ks ∈ kss, kidOk ks = true := by
  unfold progOk at h
  rw [Bool.and_eq_true, Bool.and_eq_true, Bool.and_eq_true] at h
  exact ⟨h.1.1.1, of_decide_eq_true h.1.1.2, List.all_eq_true.1 h.2⟩
theorem SeesK.form' {B : Nat} {w : World} {v : Value} {kss : List (List O4)} (h : SeesK B w v kss) : ∃ a cap, v = .slice a kss.length cap := by
  obtain ⟨ss, h1, h2, -⟩ := h
  obtain ⟨a, cap, e⟩ := h1.form
  exact ⟨a, cap, by rw [e, h2]⟩

set_option maxRecDepth 100000 in
set_option maxHeartbeats 6400000 in
theorem implSerial (vC vK vO vc vm : Value) (xs : List O4) (kss : List (List O4)) (zs : List Int) (t : Th) (B : Nat) (w : World) (hP : SeesP B w vC vK xs kss) (hO : Ints.Sees B w vO zs) (hT : SeeT B w vc vm t) (hB : B ≤ w.heap.size) (hf : Fits xs kss) (hzl : zs.length ≤ 1048576) :
    Calls Try.prog 31 #[.agg #[vC, vK], vO, .agg #[vc, vm, .int .i64 t.n]] w (SerAns xs kss zs t w) := by
  obtain ⟨g, hg⟩ : ∃ g, w.heap.size = g := ⟨_, rfl⟩
  have a0 := alloc_below w (.cells #[vC, vK] 62)
  have X0 := Blk.new w #[vC, vK] 62
  obtain ⟨tn, htn⟩ : ∃ n, t.n = n := ⟨_, rfl⟩
  obtain ⟨w0, hw0⟩ : ∃ W, w.alloc (.cells #[vC, vK] 62) = W := ⟨_, rfl⟩
  have z0 : w0.heap.size = g + 1 := by rw [← hw0, ← hg]; simp
  rw [hw0] at a0 X0
  have a1 := alloc_below w0 (.cells #[vc, vm, .int .i64 tn] 49)
  have X1 := Blk.new w0 #[vc, vm, .int .i64 tn] 49
  obtain ⟨w1, hw1⟩ : ∃ W, w0.alloc (.cells #[vc, vm, .int .i64 tn] 49) = W := ⟨_, rfl⟩
  have z1 : w1.heap.size = g + 2 := by rw [← hw1]; simp; omega
  rw [hw1] at a1 X1
  have a2 := alloc_below w1 (.cells #[.int .i64 0, .slice none 0 0, .slice none 0 0, .slice none 0 0, .int .i64 0] 57)
  have X2 := Blk.new w1 #[.int .i64 0, .slice none 0 0, .slice none 0 0, .slice none 0 0, .int .i64 0] 57
  obtain ⟨w2, hw2⟩ : ∃ W, w1.alloc (.cells #[.int .i64 0, .slice none 0 0, .slice none 0 0, .slice none 0 0, .int .i64 0] 57) = W := ⟨_, rfl⟩
  have z2 : w2.heap.size = g + 3 := by rw [← hw2]; simp; omega
  rw [hw2] at a2 X2
  have bb : Below g w w2 := by rw [← hg]; exact (a0.trans (a1.mono (by omega))).trans (a2.mono (by omega))
  have X0 := (X0.on a1 (by omega)).on a2 (by omega)
  have X1 := X1.on a2 (by omega)
  rw [hg] at X0 hB
  rw [z0] at X1
  rw [z1] at X2
  have x00 := X0.cell 0; have x01 := X0.cell 1
  have x10 := X1.cell 0; have x11 := X1.cell 1; have x12 := X1.cell 2
  obtain ⟨aC, cC, rfl⟩ := hP.c.form
  obtain ⟨aK, cK, rfl⟩ := hP.k.form'
  obtain ⟨aO, cO, rfl⟩ := hO.form
  obtain ⟨ac, cc, rfl⟩ := hT.c.form
  obtain ⟨am, cm, rfl⟩ := hT.m.form
  have hB2 : B ≤ w2.heap.size := by omega
  have cP := progImpl _ _ xs kss B w2 (hP.on bb hB) hB2 hf
  obtain ⟨bP, hbP⟩ : ∃ b, progOk xs kss = b := ⟨_, rfl⟩
  rw [hbP] at cP
  have hbb : ∀ W, Below w2.heap.size w2 W → Below g w W := fun W b => bb.trans (b.mono (by omega))
  have HG := (show Hid _ from hg)
  have hgz : g + 3 ≤ w2.heap.size := by omega
  rw [htn]
  clear a0 a1 a2 z2
  cases bP with
  | false =>
    have HF : Hid (serOk xs kss zs t = false) := by show _ = _; unfold serOk; rw [hbP]; rfl
    clear hbP
    go_enter Try.func31, Try.ntmps31
    go_wp2_with (first | (go_at_call 83; go_loud (refine cP.mono ?_; rintro e w3 ⟨rfl, b3⟩; have Y0 := X0.on b3 (Nat.lt_of_lt_of_le (show g < g + 3 by omega) hgz); have Y1 := X1.on b3 (Nat.lt_of_lt_of_le (show g + 1 < g + 3 by omega) hgz); have Y2 := X2.on b3 (Nat.lt_of_lt_of_le (show g + 2 < g + 3 by omega) hgz); have y00 := Y0.cell 0; have y01 := Y0.cell 1; have y10 := Y1.cell 0; have y11 := Y1.cell 1; have y12 := Y1.cell 2; have st3 := run_store Y2 rfl 0 0 none none none 0 0 0 0 0 0; have R3 := blk_all Y2 [.int .i64 0, .slice none 0 0, .slice none 0 0, .slice none 0 0, .int .i64 0] rfl; have r30 := R3.cell 0; have r31 := R3.cell 1; have r32 := R3.cell 2; have r33 := R3.cell 3; have r34 := R3.cell 4)) | (refine wpList_st rfl 57 (.tmp 6) (.tmp 25) rfl (.pointer (some ⟨g + 2, 0, none⟩)) _ ?h1a ?h1b st3 ?h1c; (case h1a => rfl); (case h1b => rfl)))
    refine bodyPost_ret (v := .agg #[.int .i64 0, .slice none 0 0, .slice none 0 0, .slice none 0 0, .int .i64 0]) (by simp [results, Try.results31, go_sem, r30, r31, r32, r33, r34]) rfl ?_
    exact ser_bad HF.out (by rw [HG.out]; exact (hbb _ b3).trans (setCells_below (show g ≤ g + 2 by omega) _ 0 _))
  | true =>
    obtain ⟨hcode, hk3, hkids⟩ := prog_out hbP
    obtain ⟨bR, hbR⟩ : ∃ b, ordOk zs kss.length = b := ⟨_, rfl⟩
    obtain ⟨bT, hbT⟩ : ∃ b, thOk t = b := ⟨_, rfl⟩
    have cR : ∀ W, Below w2.heap.size w2 W → Calls Try.prog 84 #[.slice aO zs.length cO, .int .i64 (kss.length : Int)] W fun e w' => e = .returned (.bool bR) ∧ W = w' := fun W b => by
      have := rightOrdC (.slice aO zs.length cO) zs kss.length B W (hO.on (hbb W b) hB) (by omega)
      rw [hbR] at this; exact this
    have cT : ∀ W, Below w2.heap.size w2 W → Calls Try.prog 79 #[.agg #[.slice ac t.c.length cc, .slice am t.m.length cm, .int .i64 tn]] W fun e w' => e = .returned (.bool bT) ∧ Below W.heap.size W w' := fun W b => by
      have := implThOk (.slice ac t.c.length cc) (.slice am t.m.length cm) t B W (hT.on (hbb W b) hB) (Nat.le_trans hB2 b.size)
      rw [hbT, htn] at this; exact this
    have HP2 := (show Hid _ from hbP)
    cases bR with
    | false =>
      have HF : Hid (serOk xs kss zs t = false) := by show _ = _; unfold serOk; rw [hbP, hbR]; rfl
      clear hbP hbR hbT
      go_enter Try.func31, Try.ntmps31
      go_wp2_with (first | (go_at_call 83; go_loud (refine cP.mono ?_; rintro e w3 ⟨rfl, b3⟩; have Y0 := X0.on b3 (Nat.lt_of_lt_of_le (show g < g + 3 by omega) hgz); have Y1 := X1.on b3 (Nat.lt_of_lt_of_le (show g + 1 < g + 3 by omega) hgz); have Y2 := X2.on b3 (Nat.lt_of_lt_of_le (show g + 2 < g + 3 by omega) hgz); have y00 := Y0.cell 0; have y01 := Y0.cell 1; have y10 := Y1.cell 0; have y11 := Y1.cell 1; have y12 := Y1.cell 2; have st3 := run_store Y2 rfl 0 0 none none none 0 0 0 0 0 0; have R3 := blk_all Y2 [.int .i64 0, .slice none 0 0, .slice none 0 0, .slice none 0 0, .int .i64 0] rfl; have r30 := R3.cell 0; have r31 := R3.cell 1; have r32 := R3.cell 2; have r33 := R3.cell 3; have r34 := R3.cell 4)) | (go_at_call 84; refine (cR _ b3).mono ?_; rintro e w3b ⟨rfl, rfl⟩) | (refine wpList_st rfl 57 (.tmp 6) (.tmp 25) rfl (.pointer (some ⟨g + 2, 0, none⟩)) _ ?h2a ?h2b st3 ?h2c; (case h2a => rfl); (case h2b => rfl)))
      refine bodyPost_ret (v := .agg #[.int .i64 0, .slice none 0 0, .slice none 0 0, .slice none 0 0, .int .i64 0]) (by simp [results, Try.results31, go_sem, r30, r31, r32, r33, r34]) rfl ?_
      exact ser_bad HF.out (by rw [HG.out]; exact (hbb _ b3).trans (setCells_below (show g ≤ g + 2 by omega) _ 0 _))
    | true =>
    cases bT with
    | false =>
      have HF : Hid (serOk xs kss zs t = false) := by show _ = _; unfold serOk; rw [hbP, hbR, hbT]; rfl
      clear hbP hbR hbT
      go_enter Try.func31, Try.ntmps31
      go_wp2_with (first | (go_at_call 83; go_loud (refine cP.mono ?_; rintro e w3 ⟨rfl, b3⟩; have Y0 := X0.on b3 (Nat.lt_of_lt_of_le (show g < g + 3 by omega) hgz); have Y1 := X1.on b3 (Nat.lt_of_lt_of_le (show g + 1 < g + 3 by omega) hgz); have Y2 := X2.on b3 (Nat.lt_of_lt_of_le (show g + 2 < g + 3 by omega) hgz); have y00 := Y0.cell 0; have y01 := Y0.cell 1; have y10 := Y1.cell 0; have y11 := Y1.cell 1; have y12 := Y1.cell 2; have st3 := run_store Y2 rfl 0 0 none none none 0 0 0 0 0 0; have R3 := blk_all Y2 [.int .i64 0, .slice none 0 0, .slice none 0 0, .slice none 0 0, .int .i64 0] rfl; have r30 := R3.cell 0; have r31 := R3.cell 1; have r32 := R3.cell 2; have r33 := R3.cell 3; have r34 := R3.cell 4)) | (go_at_call 84; refine (cR _ b3).mono ?_; rintro e w3b ⟨rfl, rfl⟩) | (go_at_call 79; refine (cT _ b3).mono ?_; rintro e w4 ⟨rfl, b4⟩; have hz3 : g + 3 ≤ w3.heap.size := (by have := b3.size; omega); have Z0 := Y0.on b4 (Nat.lt_of_lt_of_le (show g < g + 3 by omega) hz3); have Z1 := Y1.on b4 (Nat.lt_of_lt_of_le (show g + 1 < g + 3 by omega) hz3); have Z2 := Y2.on b4 (Nat.lt_of_lt_of_le (show g + 2 < g + 3 by omega) hz3); have z00 := Z0.cell 0; have z01 := Z0.cell 1; have z10 := Z1.cell 0; have z11 := Z1.cell 1; have z12 := Z1.cell 2; have st4 := run_store Z2 rfl 0 0 none none none 0 0 0 0 0 0; have R4 := blk_all Z2 [.int .i64 0, .slice none 0 0, .slice none 0 0, .slice none 0 0, .int .i64 0] rfl; have s30 := R4.cell 0; have s31 := R4.cell 1; have s32 := R4.cell 2; have s33 := R4.cell 3; have s34 := R4.cell 4) | (refine wpList_st rfl 57 (.tmp 6) (.tmp 25) rfl (.pointer (some ⟨g + 2, 0, none⟩)) _ ?h3a ?h3b st4 ?h3c; (case h3a => rfl); (case h3b => rfl)))
      refine bodyPost_ret (v := .agg #[.int .i64 0, .slice none 0 0, .slice none 0 0, .slice none 0 0, .int .i64 0]) (by simp [results, Try.results31, go_sem, s30, s31, s32, s33, s34]) rfl ?_
      exact ser_bad HF.out (by rw [HG.out]; exact ((hbb _ b3).trans (b4.mono (Nat.le_trans (by omega) hz3))).trans (setCells_below (show g ≤ g + 2 by omega) _ 0 _))
    | true =>
      have HF : Hid (serOk xs kss zs t = true) := by show _ = _; unfold serOk; rw [hbP, hbR, hbT]; rfl
      have HT := (show Hid _ from hbT)
      have HR := (show Hid _ from hbR)
      clear hbP hbR hbT
      obtain ⟨H, hH⟩ : ∃ H, stockL [] t.c t.m t.n = H := ⟨_, rfl⟩
      obtain ⟨-, lc, lm⟩ := ok_len (r := zeros 4) (by decide) HT.out
      have HH : Hid (H = nums (zeros 4) t) := by
        show H = _
        rw [← hH, stock_nums (.inr rfl) lc (.inl lm), if_pos rfl, if_neg (fun h => by rw [h] at lm; simp at lm)]
      have hHl : H.length = 21 := by rw [HH.out]; exact nums_length rfl lc lm
      obtain ⟨n0, n1, n2, n3, n4, n5, n6, n7, n8, n9, n10, n11, n12, n13, n14, n15, n16, n17, n18, n19, n20, rfl⟩ : ∃ n0 n1 n2 n3 n4 n5 n6 n7 n8 n9 n10 n11 n12 n13 n14 n15 n16 n17 n18 n19 n20, H = [n0, n1, n2, n3, n4, n5, n6, n7, n8, n9, n10, n11, n12, n13, n14, n15, n16, n17, n18, n19, n20] := by
        match H, hHl with
        | [n0, n1, n2, n3, n4, n5, n6, n7, n8, n9, n10, n11, n12, n13, n14, n15, n16, n17, n18, n19, n20], _ => exact ⟨_, _, _, _, _, _, _, _, _, _, _, _, _, _, _, _, _, _, _, _, _, rfl⟩
      have cS : ∀ W, B ≤ W.heap.size → Below g w W → Calls Try.prog 85 #[.slice none 0 0, .agg #[.slice ac t.c.length cc, .slice am t.m.length cm, .int .i64 tn]] W fun e w' => e = .returned (.agg #[.int .i64 n0, .int .i64 n1, .int .i64 n2, .int .i64 n3, .int .i64 n4, .int .i64 n5, .int .i64 n6, .int .i64 n7, .int .i64 n8, .int .i64 n9, .int .i64 n10, .int .i64 n11, .int .i64 n12, .int .i64 n13, .int .i64 n14, .int .i64 n15, .int .i64 n16, .int .i64 n17, .int .i64 n18, .int .i64 n19, .int .i64 n20]) ∧ Below W.heap.size W w' := fun W hBW b => by
        have := stockC (.slice none 0 0) (.slice ac t.c.length cc) (.slice am t.m.length cm) [] t.c t.m t.n B W ⟨none, 0, rfl, Nat.le_refl _, by simp, fun h => absurd rfl h⟩ (hT.c.on b hB) (hT.m.on b hB) hBW (by simp) (by omega) (by omega)
        rw [hH, htn] at this; exact this
      have LC := (show Hid _ from lc)
      have LM := (show Hid _ from lm)
      clear hH hHl lc lm
      go_enter Try.func31, Try.ntmps31
      go_wp2_with (first | (go_at_call 83; go_loud (refine cP.mono ?_; rintro e w3 ⟨rfl, b3⟩; have Y0 := X0.on b3 (Nat.lt_of_lt_of_le (show g < g + 3 by omega) hgz); have Y1 := X1.on b3 (Nat.lt_of_lt_of_le (show g + 1 < g + 3 by omega) hgz); have Y2 := X2.on b3 (Nat.lt_of_lt_of_le (show g + 2 < g + 3 by omega) hgz); have y00 := Y0.cell 0; have y01 := Y0.cell 1; have y10 := Y1.cell 0; have y11 := Y1.cell 1; have y12 := Y1.cell 2; have st3 := run_store Y2 rfl 0 0 none none none 0 0 0 0 0 0; have R3 := blk_all Y2 [.int .i64 0, .slice none 0 0, .slice none 0 0, .slice none 0 0, .int .i64 0] rfl; have r30 := R3.cell 0; have r31 := R3.cell 1; have r32 := R3.cell 2; have r33 := R3.cell 3; have r34 := R3.cell 4)) | (go_at_call 84; refine (cR _ b3).mono ?_; rintro e w3b ⟨rfl, rfl⟩) | (go_at_call 79; refine (cT _ b3).mono ?_; rintro e w4 ⟨rfl, b4⟩; have hz3 : g + 3 ≤ w3.heap.size := (by have := b3.size; omega); have Z0 := Y0.on b4 (Nat.lt_of_lt_of_le (show g < g + 3 by omega) hz3); have Z1 := Y1.on b4 (Nat.lt_of_lt_of_le (show g + 1 < g + 3 by omega) hz3); have Z2 := Y2.on b4 (Nat.lt_of_lt_of_le (show g + 2 < g + 3 by omega) hz3); have z00 := Z0.cell 0; have z01 := Z0.cell 1; have z10 := Z1.cell 0; have z11 := Z1.cell 1; have z12 := Z1.cell 2; have st4 := run_store Z2 rfl 0 0 none none none 0 0 0 0 0 0; have R4 := blk_all Z2 [.int .i64 0, .slice none 0 0, .slice none 0 0, .slice none 0 0, .int .i64 0] rfl; have s30 := R4.cell 0; have s31 := R4.cell 1; have s32 := R4.cell 2; have s33 := R4.cell 3; have s34 := R4.cell 4))
      have bg4 : Below g w w4 := (hbb _ b3).trans (b4.mono (Nat.le_trans (by omega) hz3))
      have hz4 : g + 3 ≤ w4.heap.size := by have := b4.size; omega
      refine wp_region_held_drew (S := fun W => W.cell? ⟨g, 0, none⟩ = some (.slice aC xs.length cC) ∧ W.cell? ⟨g, 1, none⟩ = some (.slice aK kss.length cK) ∧ W.cell? ⟨g + 1, 0, none⟩ = some (.slice ac t.c.length cc) ∧ W.cell? ⟨g + 1, 1, none⟩ = some (.slice am t.m.length cm) ∧ W.cell? ⟨g + 1, 2, none⟩ = some (.int .i64 tn)) (by kernel_rfl) ⟨z00, z01, z10, z11, z12⟩ (fun hHeld => ?_)
      have V0 := Z0.drew; have V1 := Z1.drew; have V2 := Z2.drew
      have bgD := bg4.drew
      have hzD : g + 3 ≤ w4.drew.heap.size := hz4
      obtain ⟨WD, hWD⟩ : ∃ WD, w4.drew = WD := ⟨_, rfl⟩
      rw [hWD] at V0 V1 V2 bgD hzD hHeld ⊢
      clear hWD cP cR cT X0 X1 X2 Y0 Y1 Y2 Z0 Z1 Z2 R3 R4 st3 st4 r30 r31 r32 r33 r34 s30 s31 s32 s33 s34 x00 x01 x10 x11 x12 y00 y01 y10 y11 y12 z00 z01 z10 z11 z12 b3 b4 bg4 hz4 hz3
      refine takeH (i := 0) (some 26) (.agg #[.slice aC xs.length cC, .slice aK kss.length cK]) rfl rfl (by kernel_rfl) (by kernel_rfl) (by kernel_rfl) (fun _ _ _ h => h) (Or.inl ⟨by rfl, fun w hSw => by (try dsimp only at hSw); go_simp⟩) (by assumption) ?_
      simp only [Act.put, List.setIfInBounds_toArray, List.set_cons_zero, List.set_cons_succ]
      refine takeH (i := 1) (some 27) (.slice aO zs.length cO) rfl rfl (by kernel_rfl) (by kernel_rfl) (by kernel_rfl) (fun _ _ _ h => h) (Or.inl ⟨by rfl, fun w hSw => by (try dsimp only at hSw); go_simp⟩) (by assumption) ?_
      simp only [Act.put, List.setIfInBounds_toArray, List.set_cons_zero, List.set_cons_succ]
      refine takeH (i := 2) (some 28) (.agg #[.slice ac t.c.length cc, .slice am t.m.length cm, .int .i64 tn]) rfl rfl (by kernel_rfl) (by kernel_rfl) (by kernel_rfl) (fun _ _ _ h => h) (Or.inl ⟨by rfl, fun w hSw => by (try dsimp only at hSw); go_simp⟩) (by assumption) ?_
      simp only [Act.put, List.setIfInBounds_toArray, List.set_cons_zero, List.set_cons_succ]
      refine wpAnyH_ready (rs := [3, 5]) (by kernel_rfl) (by simp) ?_
      refine AllReadyH.cons rfl (fun K hK => ?_) (AllReadyH.cons rfl (fun K hK => ?_) AllReadyH.nil)
      · have hgS := bgD
        have hgS3 : g ≤ WD.heap.size := by omega
        have hBS : B ≤ WD.heap.size := by omega
        go_simp
        refine (cS WD hBS hgS).mono ?_
        rintro e W2 ⟨rfl, b2⟩
        have hg2 := hgS.trans (b2.mono hgS3)
        have z2l : g + 3 ≤ W2.heap.size := by have := b2.size; omega
        have U0 := V0.on b2 (by omega)
        have U1 := V1.on b2 (by omega)
        have U2 := V2.on b2 (by omega)
        have u00 := U0.cell 0; have u01 := U0.cell 1; have u10 := U1.cell 0; have u11 := U1.cell 1; have u12 := U1.cell 2
        go_simp
        refine hK.out _ _ ⟨u00, u01, u10, u11, u12⟩ (fun hHeld3 => ?_)
        clear hK K
        refine takeH (i := 4) (some 30) (.agg #[.slice aC xs.length cC, .slice aK kss.length cK, .slice aO zs.length cO, .int .i64 n0, .int .i64 n1, .int .i64 n2, .int .i64 n3, .int .i64 n4, .int .i64 n5, .int .i64 n6, .int .i64 n7, .int .i64 n8, .int .i64 n9, .int .i64 n10, .int .i64 n11, .int .i64 n12, .int .i64 n13, .int .i64 n14, .int .i64 n15, .int .i64 n16, .int .i64 n17, .int .i64 n18, .int .i64 n19, .int .i64 n20]) rfl rfl (by kernel_rfl) (by kernel_rfl) (by kernel_rfl) (fun _ _ _ h => h) (Or.inl ⟨by rfl, fun w hSw => by (try dsimp only at hSw); go_simp⟩) (by assumption) ?_
        simp only [Act.put, List.setIfInBounds_toArray, List.set_cons_zero, List.set_cons_succ]
        obtain ⟨p, hp⟩ : ∃ p, W2.heap.size = p := ⟨_, rfl⟩
        have aP := alloc_below W2 (.cells #[.slice none 0 0, .slice none 0 0, .slice none 0 0, .int .i64 0, .int .i64 0, .int .i64 0, .int .i64 0, .int .i64 0, .int .i64 0, .int .i64 0, .int .i64 0, .int .i64 0, .int .i64 0, .int .i64 0, .int .i64 0, .int .i64 0, .int .i64 0, .int .i64 0, .int .i64 0, .int .i64 0, .int .i64 0, .int .i64 0, .int .i64 0, .int .i64 0] 116)
        have XP := Blk.new W2 #[.slice none 0 0, .slice none 0 0, .slice none 0 0, .int .i64 0, .int .i64 0, .int .i64 0, .int .i64 0, .int .i64 0, .int .i64 0, .int .i64 0, .int .i64 0, .int .i64 0, .int .i64 0, .int .i64 0, .int .i64 0, .int .i64 0, .int .i64 0, .int .i64 0, .int .i64 0, .int .i64 0, .int .i64 0, .int .i64 0, .int .i64 0, .int .i64 0] 116
        have bP := hg2.trans (aP.mono (by omega))
        have P0 := U0.on aP (by omega)
        have P1 := U1.on aP (by omega)
        have P2 := U2.on aP (by omega)
        have p00 := P0.cell 0; have p01 := P0.cell 1; have p10 := P1.cell 0; have p11 := P1.cell 1; have p12 := P1.cell 2
        have HPP := (show Hid _ from hp)
        clear hp
        refine wpAnyH_ready (rs := [5]) (by kernel_rfl) (by simp) ?_
        refine AllReadyH.cons rfl (fun K hK => ?_) AllReadyH.nil
        go_simp
        refine hK.out _ _ ⟨p00, p01, p10, p11, p12⟩ (fun hHeld5 => ?_)
        clear hK K
        try simp only [Act.put, List.setIfInBounds_toArray, List.set_cons_zero, List.set_cons_succ]
        obtain ⟨W4, hW4⟩ : ∃ W, W2.alloc (.cells #[.slice none 0 0, .slice none 0 0, .slice none 0 0, .int .i64 0, .int .i64 0, .int .i64 0, .int .i64 0, .int .i64 0, .int .i64 0, .int .i64 0, .int .i64 0, .int .i64 0, .int .i64 0, .int .i64 0, .int .i64 0, .int .i64 0, .int .i64 0, .int .i64 0, .int .i64 0, .int .i64 0, .int .i64 0, .int .i64 0, .int .i64 0, .int .i64 0] 116) = W := ⟨_, rfl⟩
        rw [hW4] at XP bP P0 P1 P2 p00 p01 p10 p11 p12 ⊢
        rw [HPP.out] at XP ⊢
        have hpg : g + 3 ≤ p := by have := HPP.out; omega
        clear hW4
        have stP := run_storeAt_mid (P := Try.prog) W4 p 0 116 #[.slice aC xs.length cC, .slice aK kss.length cK, .slice aO zs.length cO, .int .i64 n0, .int .i64 n1, .int .i64 n2, .int .i64 n3, .int .i64 n4, .int .i64 n5, .int .i64 n6, .int .i64 n7, .int .i64 n8, .int .i64 n9, .int .i64 n10, .int .i64 n11, .int .i64 n12, .int .i64 n13, .int .i64 n14, .int .i64 n15, .int .i64 n16, .int .i64 n17, .int .i64 n18, .int .i64 n19, .int .i64 n20] (by have hth : W4.there p 0 24 := blk_there XP; exact hth) infoDoing (by simp [Value.oneCell'])
        have X5 := blk_all XP [.slice aC xs.length cC, .slice aK kss.length cK, .slice aO zs.length cO, .int .i64 n0, .int .i64 n1, .int .i64 n2, .int .i64 n3, .int .i64 n4, .int .i64 n5, .int .i64 n6, .int .i64 n7, .int .i64 n8, .int .i64 n9, .int .i64 n10, .int .i64 n11, .int .i64 n12, .int .i64 n13, .int .i64 n14, .int .i64 n15, .int .i64 n16, .int .i64 n17, .int .i64 n18, .int .i64 n19, .int .i64 n20] rfl
        have b5 : Below g w (W4.setCells p 0 [.slice aC xs.length cC, .slice aK kss.length cK, .slice aO zs.length cO, .int .i64 n0, .int .i64 n1, .int .i64 n2, .int .i64 n3, .int .i64 n4, .int .i64 n5, .int .i64 n6, .int .i64 n7, .int .i64 n8, .int .i64 n9, .int .i64 n10, .int .i64 n11, .int .i64 n12, .int .i64 n13, .int .i64 n14, .int .i64 n15, .int .i64 n16, .int .i64 n17, .int .i64 n18, .int .i64 n19, .int .i64 n20]) := bP.trans (setCells_below (show g ≤ p by omega) _ 0 W4)
        have P0 := (setCells_block (show g ≠ p by omega) [.slice aC xs.length cC, .slice aK kss.length cK, .slice aO zs.length cO, .int .i64 n0, .int .i64 n1, .int .i64 n2, .int .i64 n3, .int .i64 n4, .int .i64 n5, .int .i64 n6, .int .i64 n7, .int .i64 n8, .int .i64 n9, .int .i64 n10, .int .i64 n11, .int .i64 n12, .int .i64 n13, .int .i64 n14, .int .i64 n15, .int .i64 n16, .int .i64 n17, .int .i64 n18, .int .i64 n19, .int .i64 n20] 0 W4).trans P0
        have P1 := (setCells_block (show g + 1 ≠ p by omega) [.slice aC xs.length cC, .slice aK kss.length cK, .slice aO zs.length cO, .int .i64 n0, .int .i64 n1, .int .i64 n2, .int .i64 n3, .int .i64 n4, .int .i64 n5, .int .i64 n6, .int .i64 n7, .int .i64 n8, .int .i64 n9, .int .i64 n10, .int .i64 n11, .int .i64 n12, .int .i64 n13, .int .i64 n14, .int .i64 n15, .int .i64 n16, .int .i64 n17, .int .i64 n18, .int .i64 n19, .int .i64 n20] 0 W4).trans P1
        have P2 := (setCells_block (show g + 2 ≠ p by omega) [.slice aC xs.length cC, .slice aK kss.length cK, .slice aO zs.length cO, .int .i64 n0, .int .i64 n1, .int .i64 n2, .int .i64 n3, .int .i64 n4, .int .i64 n5, .int .i64 n6, .int .i64 n7, .int .i64 n8, .int .i64 n9, .int .i64 n10, .int .i64 n11, .int .i64 n12, .int .i64 n13, .int .i64 n14, .int .i64 n15, .int .i64 n16, .int .i64 n17, .int .i64 n18, .int .i64 n19, .int .i64 n20] 0 W4).trans P2
        have p00 := Blk.cell P0 0; have p01 := Blk.cell P0 1; have p10 := Blk.cell P1 0; have p11 := Blk.cell P1 1; have p12 := Blk.cell P1 2
        refine wpAnyH_ready (rs := [6]) (by kernel_rfl) (by simp) ?_
        refine AllReadyH.cons rfl (fun K hK => ?_) AllReadyH.nil
        refine step_st rfl 116 (.tmp 7) (.tmp 30) rfl (.pointer (some ⟨p, 0, none⟩)) (.agg #[.slice aC xs.length cC, .slice aK kss.length cK, .slice aO zs.length cO, .int .i64 n0, .int .i64 n1, .int .i64 n2, .int .i64 n3, .int .i64 n4, .int .i64 n5, .int .i64 n6, .int .i64 n7, .int .i64 n8, .int .i64 n9, .int .i64 n10, .int .i64 n11, .int .i64 n12, .int .i64 n13, .int .i64 n14, .int .i64 n15, .int .i64 n16, .int .i64 n17, .int .i64 n18, .int .i64 n19, .int .i64 n20]) rfl rfl stP ?_
        refine hK.out _ _ ⟨p00, p01, p10, p11, p12⟩ (fun hHeld6 => ?_)
        clear hK K stP
        try simp only [Act.put, List.setIfInBounds_toArray, List.set_cons_zero, List.set_cons_succ]
        obtain ⟨W5, hW5⟩ : ∃ W, W4.setCells p 0 [.slice aC xs.length cC, .slice aK kss.length cK, .slice aO zs.length cO, .int .i64 n0, .int .i64 n1, .int .i64 n2, .int .i64 n3, .int .i64 n4, .int .i64 n5, .int .i64 n6, .int .i64 n7, .int .i64 n8, .int .i64 n9, .int .i64 n10, .int .i64 n11, .int .i64 n12, .int .i64 n13, .int .i64 n14, .int .i64 n15, .int .i64 n16, .int .i64 n17, .int .i64 n18, .int .i64 n19, .int .i64 n20] = W := ⟨_, rfl⟩
        change Blk (W4.setCells p 0 [.slice aC xs.length cC, .slice aK kss.length cK, .slice aO zs.length cO, .int .i64 n0, .int .i64 n1, .int .i64 n2, .int .i64 n3, .int .i64 n4, .int .i64 n5, .int .i64 n6, .int .i64 n7, .int .i64 n8, .int .i64 n9, .int .i64 n10, .int .i64 n11, .int .i64 n12, .int .i64 n13, .int .i64 n14, .int .i64 n15, .int .i64 n16, .int .i64 n17, .int .i64 n18, .int .i64 n19, .int .i64 n20]) p #[.slice aC xs.length cC, .slice aK kss.length cK, .slice aO zs.length cO, .int .i64 n0, .int .i64 n1, .int .i64 n2, .int .i64 n3, .int .i64 n4, .int .i64 n5, .int .i64 n6, .int .i64 n7, .int .i64 n8, .int .i64 n9, .int .i64 n10, .int .i64 n11, .int .i64 n12, .int .i64 n13, .int .i64 n14, .int .i64 n15, .int .i64 n16, .int .i64 n17, .int .i64 n18, .int .i64 n19, .int .i64 n20] 116 at X5
        rw [hW5] at X5 b5 P2 ⊢
        clear hW5 P0 P1 p00 p01 p10 p11 p12 XP bP
        replace P2 : Blk W5 (g + 2) #[.int .i64 0, .slice none 0 0, .slice none 0 0, .slice none 0 0, .int .i64 0] 57 := P2
        have D5 : Dn W5 p (.slice aC xs.length cC) (.slice aK kss.length cK) (.slice aO zs.length cO) [n0, n1, n2, n3, n4, n5, n6, n7, n8, n9, n10, n11, n12, n13, n14, n15, n16, n17, n18, n19, n20] := X5
        rw [HH.out] at D5
        have hBp : B ≤ p := by omega
        have hB5 : B ≤ W5.heap.size := by have := D5.lt; omega
        have Dc5 : Dc B W5 p (.slice aC xs.length cC) (.slice aK kss.length cK) (.slice aO zs.length cO) xs (zeros 4) t := { d := D5, c := hP.c.on b5 hB, hB := hBp }
        have hnm := (ordOk_named HR.out).1
        have cO := outcomeOf B p (.slice aC xs.length cC) (.slice aK kss.length cK) (.slice aO zs.length cO) xs (forkF kss (fullOrder zs kss.length)) (Kq B (.slice aK kss.length cK) (.slice aO zs.length cO) kss zs) (Kq.stays hBp) hcode (fork_ok hkids hk3 (full_named hnm)) (forkC B p (.slice aC xs.length cC) (.slice aK kss.length cK) (.slice aO zs.length cO) xs kss zs hkids hk3 hnm hzl hBp) (zeros 4) t (by decide) HT.out W5 Dc5 ⟨hP.k.on b5 hB, hO.on b5 hB, hB5⟩
        clear X5 D5 Dc5 cS
        refine wpAnyH_done (by kernel_rfl) ?_ _
        go_wp2_with fail
        refine cO.mono ?_
        rintro e w6 ⟨q, rfl, hE, ho, hqr, hqt, d6, o6⟩
        obtain ⟨m1, m2, m3⟩ := ok_len hqr hqt
        have hgp : g + 2 ≠ p := by omega
        have Q2 : Blk w6 (g + 2) #[.int .i64 0, .slice none 0 0, .slice none 0 0, .slice none 0 0, .int .i64 0] 57 := (o6.block (g + 2) P2.lt hgp).trans P2
        have b6 : Below g w w6 := b5.trans (o6.below (by have := P2.lt; omega) (by omega))
        have HA : Hid (RunTold xs kss zs t q) := .inl ⟨HF.out, hE, ho, hqr, hqt⟩
        obtain ⟨qo, qr, qt⟩ := q
        simp only at HA m1 m2 m3 d6
        have cA := Ints.cloneC (.slice (some ⟨p, 3, none⟩) 4 4) qr w6.heap.size w6 (d6.d.seeRegs m1) (Nat.le_refl _) (by omega)
        obtain ⟨tm, htm⟩ : ∃ n, qt.n = n := ⟨_, rfl⟩
        have HTM := (show Hid _ from htm)
        clear htm
        have M1 := (show Hid _ from m1)
        have M2 := (show Hid _ from m2)
        have M3 := (show Hid _ from m3)
        clear cO hE ho hqr hqt o6 P2 m1 m2 m3
        go_wp2_with (first
          | (go_at_call 87; refine cA.mono ?_; rintro e w7 ⟨v7, rfl, O7, b7⟩; have d7 := d6.on b7 d6.d.lt; have cB := thingsC p _ _ _ qr qt M1.out M2.out M3.out w7 d7.d; rw [HTM.out] at cB; have Q7 := Q2.on b7 Q2.lt; obtain ⟨a7, c7, rfl⟩ := O7.form)
          | (go_at_call 88; refine cB.mono ?_; rintro e w8 ⟨vc8, vm8, rfl, O8, b8⟩; have Q8 := Q7.on b8 Q7.lt; obtain ⟨ac8, cc8, rfl⟩ := O8.c.form; obtain ⟨am8, cm8, rfl⟩ := O8.m.form; have st8 := run_store Q8 rfl qo tm a7 ac8 am8 qr.length c7 qt.c.length cc8 qt.m.length cm8; have R8 := blk_all Q8 [.int .i64 qo, .slice a7 qr.length c7, .slice ac8 qt.c.length cc8, .slice am8 qt.m.length cm8, .int .i64 tm] rfl; have r80 := R8.cell 0; have r81 := R8.cell 1; have r82 := R8.cell 2; have r83 := R8.cell 3; have r84 := R8.cell 4)
          | (refine wpList_st rfl 57 (.tmp 6) (.tmp 39) rfl (.pointer (some ⟨g + 2, 0, none⟩)) _ ?h4a ?h4b st8 ?h4c; (case h4a => rfl); (case h4b => rfl)))
        refine bodyPost_ret (v := .agg #[.int .i64 qo, .slice a7 qr.length c7, .slice ac8 qt.c.length cc8, .slice am8 qt.m.length cm8, .int .i64 tm]) (by simp [results, Try.results31, go_sem, r80, r81, r82, r83, r84]) rfl ?_
        have z6 : w.heap.size ≤ w6.heap.size := b6.size
        have z7 : w6.heap.size ≤ w7.heap.size := b7.size
        have hg6 : g ≤ w6.heap.size := by have := HG.out; omega
        have hgr : g + 2 < w6.heap.size := Q2.lt
        have b8g : Below g w w8 := (b6.trans (b7.mono hg6)).trans (b8.mono (by omega))
        have kp : ∀ (v : Value) (zs' : List Int), Ints.Owns w6.heap.size w8 v zs' → Ints.Owns w.heap.size (w8.setCells (g + 2) 0 [.int .i64 qo, .slice a7 qr.length c7, .slice ac8 qt.c.length cc8, .slice am8 qt.m.length cm8, .int .i64 tm]) v zs' := fun v zs' h =>
          (h.keep (fun k hk => setCells_block (by have := (h.at k hk).1; omega) _ 0 w8)).mono z6
        refine ⟨⟨qo, qr, qt⟩, _, _, _, by rw [← HTM.out], HA.out, kp _ _ (O7.on b8 (Nat.le_refl _)), ⟨kp _ _ (O8.c.mono z7), kp _ _ (O8.m.mono z7), O8.d⟩, dj_new (B' := 0) O7 O8.c, dj_new (B' := 0) O7 O8.m, by rw [HG.out]; exact b8g.trans (setCells_below (show g ≤ g + 2 by omega) _ 0 _)⟩
      · obtain ⟨p, hp⟩ : ∃ p, WD.heap.size = p := ⟨_, rfl⟩
        have aP := alloc_below WD (.cells #[.slice none 0 0, .slice none 0 0, .slice none 0 0, .int .i64 0, .int .i64 0, .int .i64 0, .int .i64 0, .int .i64 0, .int .i64 0, .int .i64 0, .int .i64 0, .int .i64 0, .int .i64 0, .int .i64 0, .int .i64 0, .int .i64 0, .int .i64 0, .int .i64 0, .int .i64 0, .int .i64 0, .int .i64 0, .int .i64 0, .int .i64 0, .int .i64 0] 116)
        have XQ := Blk.new WD #[.slice none 0 0, .slice none 0 0, .slice none 0 0, .int .i64 0, .int .i64 0, .int .i64 0, .int .i64 0, .int .i64 0, .int .i64 0, .int .i64 0, .int .i64 0, .int .i64 0, .int .i64 0, .int .i64 0, .int .i64 0, .int .i64 0, .int .i64 0, .int .i64 0, .int .i64 0, .int .i64 0, .int .i64 0, .int .i64 0, .int .i64 0, .int .i64 0] 116
        have bQ := bgD.trans (aP.mono (by omega))
        have T0 := V0.on aP (by omega); have T1 := V1.on aP (by omega); have T2 := V2.on aP (by omega)
        have t00 := T0.cell 0; have t01 := T0.cell 1; have t10 := T1.cell 0; have t11 := T1.cell 1; have t12 := T1.cell 2
        have HPP := (show Hid _ from hp)
        clear hp
        go_simp
        refine hK.out _ _ ⟨t00, t01, t10, t11, t12⟩ (fun hHeld5 => ?_)
        clear hK K
        try simp only [Act.put, List.setIfInBounds_toArray, List.set_cons_zero, List.set_cons_succ]
        obtain ⟨WA, hWA⟩ : ∃ W, WD.alloc (.cells #[.slice none 0 0, .slice none 0 0, .slice none 0 0, .int .i64 0, .int .i64 0, .int .i64 0, .int .i64 0, .int .i64 0, .int .i64 0, .int .i64 0, .int .i64 0, .int .i64 0, .int .i64 0, .int .i64 0, .int .i64 0, .int .i64 0, .int .i64 0, .int .i64 0, .int .i64 0, .int .i64 0, .int .i64 0, .int .i64 0, .int .i64 0, .int .i64 0] 116) = W := ⟨_, rfl⟩
        have hzA : g + 3 ≤ WA.heap.size := by rw [← hWA]; simp; omega
        rw [hWA] at XQ bQ T0 T1 T2 t00 t01 t10 t11 t12 ⊢
        rw [HPP.out] at XQ ⊢
        have hpg : g + 3 ≤ p := by have := HPP.out; omega
        clear hWA V0 V1 V2
        have V0 := T0; have V1 := T1; have V2 := T2
        clear T0 T1 T2
        have hgS := bQ
        have hgS3 : g ≤ WA.heap.size := by omega
        have hBS : B ≤ WA.heap.size := by omega
        refine wpAnyH_ready (rs := [3]) (by kernel_rfl) (by simp) ?_
        refine AllReadyH.cons rfl (fun K hK => ?_) AllReadyH.nil
        go_simp
        refine (cS WA hBS hgS).mono ?_
        rintro e W2 ⟨rfl, b2⟩
        have hg2 := hgS.trans (b2.mono hgS3)
        have z2l : g + 3 ≤ W2.heap.size := by have := b2.size; omega
        have U0 := V0.on b2 (by omega)
        have U1 := V1.on b2 (by omega)
        have U2 := V2.on b2 (by omega)
        have u00 := U0.cell 0; have u01 := U0.cell 1; have u10 := U1.cell 0; have u11 := U1.cell 1; have u12 := U1.cell 2
        go_simp
        refine hK.out _ _ ⟨u00, u01, u10, u11, u12⟩ (fun hHeld3 => ?_)
        clear hK K
        refine takeH (i := 4) (some 30) (.agg #[.slice aC xs.length cC, .slice aK kss.length cK, .slice aO zs.length cO, .int .i64 n0, .int .i64 n1, .int .i64 n2, .int .i64 n3, .int .i64 n4, .int .i64 n5, .int .i64 n6, .int .i64 n7, .int .i64 n8, .int .i64 n9, .int .i64 n10, .int .i64 n11, .int .i64 n12, .int .i64 n13, .int .i64 n14, .int .i64 n15, .int .i64 n16, .int .i64 n17, .int .i64 n18, .int .i64 n19, .int .i64 n20]) rfl rfl (by kernel_rfl) (by kernel_rfl) (by kernel_rfl) (fun _ _ _ h => h) (Or.inl ⟨by rfl, fun w hSw => by (try dsimp only at hSw); go_simp⟩) (by assumption) ?_
        simp only [Act.put, List.setIfInBounds_toArray, List.set_cons_zero, List.set_cons_succ]
        have XP := XQ.on b2 XQ.lt
        have bP := hg2
        have P0 := U0; have P1 := U1; have P2 := U2
        obtain ⟨W4, hW4⟩ : ∃ W, W2 = W := ⟨_, rfl⟩
        rw [hW4] at XP bP P0 P1 P2 ⊢
        clear hW4
        have stP := run_storeAt_mid (P := Try.prog) W4 p 0 116 #[.slice aC xs.length cC, .slice aK kss.length cK, .slice aO zs.length cO, .int .i64 n0, .int .i64 n1, .int .i64 n2, .int .i64 n3, .int .i64 n4, .int .i64 n5, .int .i64 n6, .int .i64 n7, .int .i64 n8, .int .i64 n9, .int .i64 n10, .int .i64 n11, .int .i64 n12, .int .i64 n13, .int .i64 n14, .int .i64 n15, .int .i64 n16, .int .i64 n17, .int .i64 n18, .int .i64 n19, .int .i64 n20] (by have hth : W4.there p 0 24 := blk_there XP; exact hth) infoDoing (by simp [Value.oneCell'])
        have X5 := blk_all XP [.slice aC xs.length cC, .slice aK kss.length cK, .slice aO zs.length cO, .int .i64 n0, .int .i64 n1, .int .i64 n2, .int .i64 n3, .int .i64 n4, .int .i64 n5, .int .i64 n6, .int .i64 n7, .int .i64 n8, .int .i64 n9, .int .i64 n10, .int .i64 n11, .int .i64 n12, .int .i64 n13, .int .i64 n14, .int .i64 n15, .int .i64 n16, .int .i64 n17, .int .i64 n18, .int .i64 n19, .int .i64 n20] rfl
        have b5 : Below g w (W4.setCells p 0 [.slice aC xs.length cC, .slice aK kss.length cK, .slice aO zs.length cO, .int .i64 n0, .int .i64 n1, .int .i64 n2, .int .i64 n3, .int .i64 n4, .int .i64 n5, .int .i64 n6, .int .i64 n7, .int .i64 n8, .int .i64 n9, .int .i64 n10, .int .i64 n11, .int .i64 n12, .int .i64 n13, .int .i64 n14, .int .i64 n15, .int .i64 n16, .int .i64 n17, .int .i64 n18, .int .i64 n19, .int .i64 n20]) := bP.trans (setCells_below (show g ≤ p by omega) _ 0 W4)
        have P0 := (setCells_block (show g ≠ p by omega) [.slice aC xs.length cC, .slice aK kss.length cK, .slice aO zs.length cO, .int .i64 n0, .int .i64 n1, .int .i64 n2, .int .i64 n3, .int .i64 n4, .int .i64 n5, .int .i64 n6, .int .i64 n7, .int .i64 n8, .int .i64 n9, .int .i64 n10, .int .i64 n11, .int .i64 n12, .int .i64 n13, .int .i64 n14, .int .i64 n15, .int .i64 n16, .int .i64 n17, .int .i64 n18, .int .i64 n19, .int .i64 n20] 0 W4).trans P0
        have P1 := (setCells_block (show g + 1 ≠ p by omega) [.slice aC xs.length cC, .slice aK kss.length cK, .slice aO zs.length cO, .int .i64 n0, .int .i64 n1, .int .i64 n2, .int .i64 n3, .int .i64 n4, .int .i64 n5, .int .i64 n6, .int .i64 n7, .int .i64 n8, .int .i64 n9, .int .i64 n10, .int .i64 n11, .int .i64 n12, .int .i64 n13, .int .i64 n14, .int .i64 n15, .int .i64 n16, .int .i64 n17, .int .i64 n18, .int .i64 n19, .int .i64 n20] 0 W4).trans P1
        have P2 := (setCells_block (show g + 2 ≠ p by omega) [.slice aC xs.length cC, .slice aK kss.length cK, .slice aO zs.length cO, .int .i64 n0, .int .i64 n1, .int .i64 n2, .int .i64 n3, .int .i64 n4, .int .i64 n5, .int .i64 n6, .int .i64 n7, .int .i64 n8, .int .i64 n9, .int .i64 n10, .int .i64 n11, .int .i64 n12, .int .i64 n13, .int .i64 n14, .int .i64 n15, .int .i64 n16, .int .i64 n17, .int .i64 n18, .int .i64 n19, .int .i64 n20] 0 W4).trans P2
        have p00 := Blk.cell P0 0; have p01 := Blk.cell P0 1; have p10 := Blk.cell P1 0; have p11 := Blk.cell P1 1; have p12 := Blk.cell P1 2
        refine wpAnyH_ready (rs := [6]) (by kernel_rfl) (by simp) ?_
        refine AllReadyH.cons rfl (fun K hK => ?_) AllReadyH.nil
        refine step_st rfl 116 (.tmp 7) (.tmp 30) rfl (.pointer (some ⟨p, 0, none⟩)) (.agg #[.slice aC xs.length cC, .slice aK kss.length cK, .slice aO zs.length cO, .int .i64 n0, .int .i64 n1, .int .i64 n2, .int .i64 n3, .int .i64 n4, .int .i64 n5, .int .i64 n6, .int .i64 n7, .int .i64 n8, .int .i64 n9, .int .i64 n10, .int .i64 n11, .int .i64 n12, .int .i64 n13, .int .i64 n14, .int .i64 n15, .int .i64 n16, .int .i64 n17, .int .i64 n18, .int .i64 n19, .int .i64 n20]) rfl rfl stP ?_
        refine hK.out _ _ ⟨p00, p01, p10, p11, p12⟩ (fun hHeld6 => ?_)
        clear hK K stP
        try simp only [Act.put, List.setIfInBounds_toArray, List.set_cons_zero, List.set_cons_succ]
        obtain ⟨W5, hW5⟩ : ∃ W, W4.setCells p 0 [.slice aC xs.length cC, .slice aK kss.length cK, .slice aO zs.length cO, .int .i64 n0, .int .i64 n1, .int .i64 n2, .int .i64 n3, .int .i64 n4, .int .i64 n5, .int .i64 n6, .int .i64 n7, .int .i64 n8, .int .i64 n9, .int .i64 n10, .int .i64 n11, .int .i64 n12, .int .i64 n13, .int .i64 n14, .int .i64 n15, .int .i64 n16, .int .i64 n17, .int .i64 n18, .int .i64 n19, .int .i64 n20] = W := ⟨_, rfl⟩
        change Blk (W4.setCells p 0 [.slice aC xs.length cC, .slice aK kss.length cK, .slice aO zs.length cO, .int .i64 n0, .int .i64 n1, .int .i64 n2, .int .i64 n3, .int .i64 n4, .int .i64 n5, .int .i64 n6, .int .i64 n7, .int .i64 n8, .int .i64 n9, .int .i64 n10, .int .i64 n11, .int .i64 n12, .int .i64 n13, .int .i64 n14, .int .i64 n15, .int .i64 n16, .int .i64 n17, .int .i64 n18, .int .i64 n19, .int .i64 n20]) p #[.slice aC xs.length cC, .slice aK kss.length cK, .slice aO zs.length cO, .int .i64 n0, .int .i64 n1, .int .i64 n2, .int .i64 n3, .int .i64 n4, .int .i64 n5, .int .i64 n6, .int .i64 n7, .int .i64 n8, .int .i64 n9, .int .i64 n10, .int .i64 n11, .int .i64 n12, .int .i64 n13, .int .i64 n14, .int .i64 n15, .int .i64 n16, .int .i64 n17, .int .i64 n18, .int .i64 n19, .int .i64 n20] 116 at X5
        rw [hW5] at X5 b5 P2 ⊢
        clear hW5 P0 P1 p00 p01 p10 p11 p12 XP bP
        replace P2 : Blk W5 (g + 2) #[.int .i64 0, .slice none 0 0, .slice none 0 0, .slice none 0 0, .int .i64 0] 57 := P2
        have D5 : Dn W5 p (.slice aC xs.length cC) (.slice aK kss.length cK) (.slice aO zs.length cO) [n0, n1, n2, n3, n4, n5, n6, n7, n8, n9, n10, n11, n12, n13, n14, n15, n16, n17, n18, n19, n20] := X5
        rw [HH.out] at D5
        have hBp : B ≤ p := by omega
        have hB5 : B ≤ W5.heap.size := by have := D5.lt; omega
        have Dc5 : Dc B W5 p (.slice aC xs.length cC) (.slice aK kss.length cK) (.slice aO zs.length cO) xs (zeros 4) t := { d := D5, c := hP.c.on b5 hB, hB := hBp }
        have hnm := (ordOk_named HR.out).1
        have cO := outcomeOf B p (.slice aC xs.length cC) (.slice aK kss.length cK) (.slice aO zs.length cO) xs (forkF kss (fullOrder zs kss.length)) (Kq B (.slice aK kss.length cK) (.slice aO zs.length cO) kss zs) (Kq.stays hBp) hcode (fork_ok hkids hk3 (full_named hnm)) (forkC B p (.slice aC xs.length cC) (.slice aK kss.length cK) (.slice aO zs.length cO) xs kss zs hkids hk3 hnm hzl hBp) (zeros 4) t (by decide) HT.out W5 Dc5 ⟨hP.k.on b5 hB, hO.on b5 hB, hB5⟩
        clear X5 D5 Dc5 cS
        refine wpAnyH_done (by kernel_rfl) ?_ _
        go_wp2_with fail
        refine cO.mono ?_
        rintro e w6 ⟨q, rfl, hE, ho, hqr, hqt, d6, o6⟩
        obtain ⟨m1, m2, m3⟩ := ok_len hqr hqt
        have hgp : g + 2 ≠ p := by omega
        have Q2 : Blk w6 (g + 2) #[.int .i64 0, .slice none 0 0, .slice none 0 0, .slice none 0 0, .int .i64 0] 57 := (o6.block (g + 2) P2.lt hgp).trans P2
        have b6 : Below g w w6 := b5.trans (o6.below (by have := P2.lt; omega) (by omega))
        have HA : Hid (RunTold xs kss zs t q) := .inl ⟨HF.out, hE, ho, hqr, hqt⟩
        obtain ⟨qo, qr, qt⟩ := q
        simp only at HA m1 m2 m3 d6
        have cA := Ints.cloneC (.slice (some ⟨p, 3, none⟩) 4 4) qr w6.heap.size w6 (d6.d.seeRegs m1) (Nat.le_refl _) (by omega)
        obtain ⟨tm, htm⟩ : ∃ n, qt.n = n := ⟨_, rfl⟩
        have HTM := (show Hid _ from htm)
        clear htm
        have M1 := (show Hid _ from m1)
        have M2 := (show Hid _ from m2)
        have M3 := (show Hid _ from m3)
        clear cO hE ho hqr hqt o6 P2 m1 m2 m3
        go_wp2_with (first
          | (go_at_call 87; refine cA.mono ?_; rintro e w7 ⟨v7, rfl, O7, b7⟩; have d7 := d6.on b7 d6.d.lt; have cB := thingsC p _ _ _ qr qt M1.out M2.out M3.out w7 d7.d; rw [HTM.out] at cB; have Q7 := Q2.on b7 Q2.lt; obtain ⟨a7, c7, rfl⟩ := O7.form)
          | (go_at_call 88; refine cB.mono ?_; rintro e w8 ⟨vc8, vm8, rfl, O8, b8⟩; have Q8 := Q7.on b8 Q7.lt; obtain ⟨ac8, cc8, rfl⟩ := O8.c.form; obtain ⟨am8, cm8, rfl⟩ := O8.m.form; have st8 := run_store Q8 rfl qo tm a7 ac8 am8 qr.length c7 qt.c.length cc8 qt.m.length cm8; have R8 := blk_all Q8 [.int .i64 qo, .slice a7 qr.length c7, .slice ac8 qt.c.length cc8, .slice am8 qt.m.length cm8, .int .i64 tm] rfl; have r80 := R8.cell 0; have r81 := R8.cell 1; have r82 := R8.cell 2; have r83 := R8.cell 3; have r84 := R8.cell 4)
          | (refine wpList_st rfl 57 (.tmp 6) (.tmp 39) rfl (.pointer (some ⟨g + 2, 0, none⟩)) _ ?h5a ?h5b st8 ?h5c; (case h5a => rfl); (case h5b => rfl)))
        refine bodyPost_ret (v := .agg #[.int .i64 qo, .slice a7 qr.length c7, .slice ac8 qt.c.length cc8, .slice am8 qt.m.length cm8, .int .i64 tm]) (by simp [results, Try.results31, go_sem, r80, r81, r82, r83, r84]) rfl ?_
        have z6 : w.heap.size ≤ w6.heap.size := b6.size
        have z7 : w6.heap.size ≤ w7.heap.size := b7.size
        have hg6 : g ≤ w6.heap.size := by have := HG.out; omega
        have hgr : g + 2 < w6.heap.size := Q2.lt
        have b8g : Below g w w8 := (b6.trans (b7.mono hg6)).trans (b8.mono (by omega))
        have kp : ∀ (v : Value) (zs' : List Int), Ints.Owns w6.heap.size w8 v zs' → Ints.Owns w.heap.size (w8.setCells (g + 2) 0 [.int .i64 qo, .slice a7 qr.length c7, .slice ac8 qt.c.length cc8, .slice am8 qt.m.length cm8, .int .i64 tm]) v zs' := fun v zs' h =>
          (h.keep (fun k hk => setCells_block (by have := (h.at k hk).1; omega) _ 0 w8)).mono z6
        refine ⟨⟨qo, qr, qt⟩, _, _, _, by rw [← HTM.out], HA.out, kp _ _ (O7.on b8 (Nat.le_refl _)), ⟨kp _ _ (O8.c.mono z7), kp _ _ (O8.m.mono z7), O8.d⟩, dj_new (B' := 0) O7 O8.c, dj_new (B' := 0) O7 O8.m, by rw [HG.out]; exact b8g.trans (setCells_below (show g ≤ g + 2 by omega) _ 0 _)⟩
end Ops
end Go.Proofs.Ytajbmokidcdfnaa
/- Where the machine's registers, things and marks lie while the specification's l7Walk goes on. -/
set_option linter.unusedVariables false
set_option linter.unusedSimpArgs false
namespace Go.Proofs.Ytajbmokidcdfnaa
open Go.RowKit
namespace Ops
open Bas Flat

/-- a mark in memory: five cells -/
structure M5 where
  pc : Int
  r : S3
  c : S3
  m : S3
  n : Int
def mkEl : El M5 where
  sz := 5
  cells x := [.int .i64 x.pc, x.r.val, x.c.val, x.m.val, .int .i64 x.n]
  len _ := rfl
  one x v hv := by simp [S3.val] at hv; rcases hv with rfl | rfl | rfl | rfl | rfl <;> rfl
  pos := by decide
def zM : M5 := ⟨0, z3, z3, z3, 0⟩
theorem rowMk : Row Try.prog mkEl 152 154 (.agg #[.int .i64 0, .slice none 0 0, .slice none 0 0, .slice none 0 0, .int .i64 0]) zM 88 := ⟨Try.underlying152, by kernel_rfl, rfl, by decide⟩
abbrev OwnsM (B : Nat) (W : World) (v : Value) (ms : List M5) : Prop := Owns mkEl 154 B W v ms
/-- the rows of a mark, and what they hold -/
def rowsOf (x : M5) (y : Mk) : List (Value × List Int) := [(x.r.val, y.r), (x.c.val, y.t.c), (x.m.val, y.t.m)]
/-- a mark in memory says what the mark is -/
def MkIs (x : M5) (y : Mk) : Prop := x.pc = (y.pc : Int) ∧ x.n = y.t.n
/-- rows that nobody writes into while the machine writes into its registers, cells and map -/
structure RowsIm (B : Nat) (W : World) (vr vc vm : Value) (l : List (Value × List Int)) : Prop where
  o : ∀ p ∈ l, Ints.Owns B W p.1 p.2
  d : ∀ p ∈ l, Dj vr p.1 ∧ Dj vc p.1 ∧ Dj vm p.1
/-- the rows of all marks, the outermost first -/
def marksIm : List M5 → List Mk → List (Value × List Int)
  | x :: ms, y :: ks => rowsOf x y ++ marksIm ms ks
  | _, _ => []
def MarksIs : List M5 → List Mk → Prop
  | [], [] => True
  | x :: ms, y :: ks => MkIs x y ∧ MarksIs ms ks
  | _, _ => False
theorem marksIm_snoc : ∀ (ms : List M5) (ks : List Mk) (x : M5) (y : Mk), ms.length = ks.length → marksIm (ms ++ [x]) (ks ++ [y]) = marksIm ms ks ++ rowsOf x y
  | [], [], x, y, _ => by simp [marksIm]
  | a :: ms, b :: ks, x, y, h => by
    have := marksIm_snoc ms ks x y (by simpa using h)
    simp [marksIm, this]
  | [], _ :: _, _, _, h => by simp at h
  | _ :: _, [], _, _, h => by simp at h
theorem marksIs_snoc : ∀ (ms : List M5) (ks : List Mk) (x : M5) (y : Mk), MarksIs (ms ++ [x]) (ks ++ [y]) ↔ MarksIs ms ks ∧ MkIs x y
  | [], [], x, y => by simp [MarksIs]
  | a :: ms, b :: ks, x, y => by
    have := marksIs_snoc ms ks x y
    simp only [List.cons_append, MarksIs, this, and_assoc]
  | [], b :: ks, x, y => by
    cases ks <;> simp [MarksIs]
  | a :: ms, [], x, y => by
    cases ms <;> simp [MarksIs]
theorem marksIs_len : ∀ (ms : List M5) (ks : List Mk), MarksIs ms ks → ms.length = ks.length
  | [], [], _ => rfl
  | _ :: ms, _ :: ks, h => by have := marksIs_len ms ks h.2; simp [this]
  | [], _ :: _, h => by simp [MarksIs] at h
  | _ :: _, [], h => by simp [MarksIs] at h
section
variable {B : Nat} {W W' : World} {vr vc vm v : Value} {l l' : List (Value × List Int)}
theorem RowsIm.keep (h : RowsIm B W vr vc vm l) (hk : ∀ k, vr.ownBlock ≠ some k → vc.ownBlock ≠ some k → vm.ownBlock ≠ some k → k < W.heap.size → B ≤ k → W'.heap[k]? = W.heap[k]?) : RowsIm B W' vr vc vm l :=
  { o := fun p hp => (h.o p hp).keep fun k e => hk k (fun e' => (h.d p hp).1 k e' e) (fun e' => (h.d p hp).2.1 k e' e) (fun e' => (h.d p hp).2.2 k e' e) ((h.o p hp).at k e).2 ((h.o p hp).at k e).1
    d := h.d }
theorem RowsIm.on (h : RowsIm B W vr vc vm l) (hb : Below W.heap.size W W') : RowsIm B W' vr vc vm l := h.keep fun k _ _ _ hk _ => hb.block k hk
/-- registers of another block, made later -/
theorem RowsIm.regs (h : RowsIm B W vr vc vm l) (hn : ∀ k, v.ownBlock = some k → W.heap.size ≤ k) : RowsIm B W v vc vm l :=
  { o := h.o, d := fun p hp => ⟨fun k e e' => by have := hn k e; have := ((h.o p hp).at k e').2; omega, (h.d p hp).2⟩ }
theorem RowsIm.app (h : RowsIm B W vr vc vm l) (h' : RowsIm B W vr vc vm l') : RowsIm B W vr vc vm (l ++ l') :=
  { o := fun p hp => (List.mem_append.1 hp).elim (h.o p) (h'.o p), d := fun p hp => (List.mem_append.1 hp).elim (h.d p) (h'.d p) }
theorem RowsIm.sub (h : RowsIm B W vr vc vm l) (hs : ∀ p ∈ l', p ∈ l) : RowsIm B W vr vc vm l' := { o := fun p hp => h.o p (hs p hp), d := fun p hp => h.d p (hs p hp) }
end

theorem own_blk {α : Type} {E : El α} {e : TypeId} {B : Nat} {W : World} {v : Value} {xs : List α} (h : Owns E e B W v xs) : ∀ k, v.ownBlock = some k → ∃ cur, W.heap[k]? = some (.cells cur e (0, 0)) := by
  intro k hk
  obtain ⟨h1, h2⟩ := h
  rcases h2 with ⟨rfl, h0⟩ | ⟨g, cap, cur, rfl, hg, hh, r⟩
  · cases hk
  · cases hk; exact ⟨cur, hh⟩
/-- where all lies -/
structure WSt (w W : World) (pR pS pT : Nat) (vr vc vm vk vc0 vm0 : Value) (ms : List M5) (s : Cf) (t0 : Th) : Prop where
  R : Blk W pR #[.int .i64 0, .slice none 0 0, .slice none 0 0, .slice none 0 0, .int .i64 0] 57
  S : Blk W pS #[vc, vm, .int .i64 s.t.n] 49
  T : Blk W pT #[vc0, vm0, .int .i64 t0.n] 49
  r : Ints.Owns w.heap.size W vr s.r
  c : Ints.Owns w.heap.size W vc s.t.c
  m : Ints.Owns w.heap.size W vm s.t.m
  d : Dj vr vc ∧ Dj vr vm ∧ Dj vc vm
  d0 : Dj vc0 vm0
  im : RowsIm w.heap.size W vr vc vm ((vc0, t0.c) :: (vm0, t0.m) :: marksIm ms s.k.reverse)
  k : OwnsM w.heap.size W vk ms
  is : MarksIs ms s.k.reverse
  b : Below w.heap.size w W
  p : w.heap.size ≤ pR ∧ w.heap.size ≤ pS ∧ w.heap.size ≤ pT ∧ pS ≠ pT
section
variable {w W W' : World} {pR pS pT : Nat} {vr vc vm vk vc0 vm0 : Value} {ms : List M5} {s : Cf} {t0 : Th}
theorem WSt.on (h : WSt w W pR pS pT vr vc vm vk vc0 vm0 ms s t0) (hb : Below W.heap.size W W') : WSt w W' pR pS pT vr vc vm vk vc0 vm0 ms s t0 :=
  { R := h.R.on hb h.R.lt, S := h.S.on hb h.S.lt, T := h.T.on hb h.T.lt, r := h.r.on hb (Nat.le_refl _), c := h.c.on hb (Nat.le_refl _), m := h.m.on hb (Nat.le_refl _), d := h.d, im := h.im.on hb, k := h.k.on hb (Nat.le_refl _), is := h.is, d0 := h.d0, b := h.b.trans (hb.mono h.b.size), p := h.p }
theorem WSt.pc (h : WSt w W pR pS pT vr vc vm vk vc0 vm0 ms s t0) (q : Nat) : WSt w W pR pS pT vr vc vm vk vc0 vm0 ms { s with pc := q } t0 :=
  { R := h.R, S := h.S, T := h.T, r := h.r, c := h.c, m := h.m, d := h.d, im := h.im, k := h.k, is := h.is, d0 := h.d0, b := h.b, p := h.p }
/-- a row of numbers does not lie in a block of another type -/
theorem int_off {B p : Nat} {v : Value} {zs : List Int} {cs : Array Value} {t : TypeId} (h : Ints.Owns B W v zs) (hb : Blk W p cs t) (hne : 3 ≠ t) : ∀ k, v.ownBlock = some k → k ≠ p := Owns.off (Ints.owns_iff.2 h) hb hne
theorem blk_set {p q i : Nat} {cs : Array Value} {t : TypeId} (h : Blk W p cs t) (hne : p ≠ q) (u : Value) : Blk (W.setCell ⟨q, i, none⟩ u) p cs t := h.other hne i u
/-- a store into the registers -/
theorem WSt.setR {g n cap : Nat} (h : WSt w W pR pS pT (.slice (some ⟨g, 0, none⟩) n cap) vc vm vk vc0 vm0 ms s t0) (i : Nat) (x : Int) : WSt w (W.setCell ⟨g, i, none⟩ (.int .i64 x)) pR pS pT (.slice (some ⟨g, 0, none⟩) n cap) vc vm vk vc0 vm0 ms { s with r := s.r.set i x } t0 := by
  have hg := h.r.at g rfl
  have oR := int_off h.r h.R (by decide) g rfl
  have oS := int_off h.r h.S (by decide) g rfl
  have oT := int_off h.r h.T (by decide) g rfl
  have hk : ∀ k, k ≠ g → (W.setCell ⟨g, i, none⟩ (.int .i64 x)).heap[k]? = W.heap[k]? := fun k hk => Below.heap_setCell W ⟨g, i, none⟩ _ k hk
  exact
  { R := h.R.other (by omega) i _, S := h.S.other (by omega) i _, T := h.T.other (by omega) i _
    r := by
      have := h.r
      unfold Ints.Owns at this ⊢
      have hl : s.r.length = n := by obtain ⟨a', c', e⟩ := h.r.form; injection e with _ e _; exact e.symm
      rw [hl] at this
      have h2 := Ints.owns_set this i x
      show World.ownsRow _ _ _ _ _ (s.r.set i x).length (Ints.iv (s.r.set i x))
      rw [List.length_set, hl]
      exact h2
    c := h.c.keep fun k e => hk k (fun e' => h.d.1 g rfl (by rw [← e']; exact e))
    m := h.m.keep fun k e => hk k (fun e' => h.d.2.1 g rfl (by rw [← e']; exact e))
    d := h.d
    im := h.im.keep fun k e _ _ _ _ => hk k (fun e' => e (by rw [e']; rfl))
    k := h.k.keep fun k e => hk k (fun e' => by
      obtain ⟨cur, hc⟩ := own_blk h.k k e
      obtain ⟨cur', hc'⟩ := own_blk (Ints.owns_iff.2 h.r) g rfl
      rw [e', hc'] at hc
      simp only [Option.some.injEq, Obj.cells.injEq] at hc
      exact absurd hc.2.1 (by decide))
    is := h.is
    d0 := h.d0
    b := h.b.setCell (by show w.heap.size ≤ g; omega) _
    p := h.p }
/-- a store into the cells -/
theorem WSt.setC {g n cap : Nat} (h : WSt w W pR pS pT vr (.slice (some ⟨g, 0, none⟩) n cap) vm vk vc0 vm0 ms s t0) (i : Nat) (x : Int) : WSt w (W.setCell ⟨g, i, none⟩ (.int .i64 x)) pR pS pT vr (.slice (some ⟨g, 0, none⟩) n cap) vm vk vc0 vm0 ms { s with t := { s.t with c := s.t.c.set i x } } t0 := by
  have hg := h.c.at g rfl
  have oR := int_off h.c h.R (by decide) g rfl
  have oS := int_off h.c h.S (by decide) g rfl
  have oT := int_off h.c h.T (by decide) g rfl
  have hk : ∀ k, k ≠ g → (W.setCell ⟨g, i, none⟩ (.int .i64 x)).heap[k]? = W.heap[k]? := fun k hk => Below.heap_setCell W ⟨g, i, none⟩ _ k hk
  exact
  { R := h.R.other (by omega) i _, S := h.S.other (by omega) i _, T := h.T.other (by omega) i _
    c := by
      have := h.c
      unfold Ints.Owns at this ⊢
      have hl : s.t.c.length = n := by obtain ⟨a', c', e⟩ := h.c.form; injection e with _ e _; exact e.symm
      rw [hl] at this
      have h2 := Ints.owns_set this i x
      show World.ownsRow _ _ _ _ _ (s.t.c.set i x).length (Ints.iv (s.t.c.set i x))
      rw [List.length_set, hl]
      exact h2
    r := h.r.keep fun k e => hk k (fun e' => h.d.1 k e (by rw [e']; rfl))
    m := h.m.keep fun k e => hk k (fun e' => h.d.2.2 g rfl (by rw [← e']; exact e))
    d := h.d
    im := h.im.keep fun k e1 e2 e3 _ _ => hk k (fun e' => e2 (by rw [e']; rfl))
    k := h.k.keep fun k e => hk k (fun e' => by
      obtain ⟨cur, hc⟩ := own_blk h.k k e
      obtain ⟨cur', hc'⟩ := own_blk (Ints.owns_iff.2 h.c) g rfl
      rw [e', hc'] at hc
      simp only [Option.some.injEq, Obj.cells.injEq] at hc
      exact absurd hc.2.1 (by decide))
    is := h.is
    d0 := h.d0
    b := h.b.setCell (by show w.heap.size ≤ g; omega) _
    p := h.p }
/-- a store into the map -/
theorem WSt.setM {g n cap : Nat} (h : WSt w W pR pS pT vr vc (.slice (some ⟨g, 0, none⟩) n cap) vk vc0 vm0 ms s t0) (i : Nat) (x : Int) : WSt w (W.setCell ⟨g, i, none⟩ (.int .i64 x)) pR pS pT vr vc (.slice (some ⟨g, 0, none⟩) n cap) vk vc0 vm0 ms { s with t := { s.t with m := s.t.m.set i x } } t0 := by
  have hg := h.m.at g rfl
  have oR := int_off h.m h.R (by decide) g rfl
  have oS := int_off h.m h.S (by decide) g rfl
  have oT := int_off h.m h.T (by decide) g rfl
  have hk : ∀ k, k ≠ g → (W.setCell ⟨g, i, none⟩ (.int .i64 x)).heap[k]? = W.heap[k]? := fun k hk => Below.heap_setCell W ⟨g, i, none⟩ _ k hk
  exact
  { R := h.R.other (by omega) i _, S := h.S.other (by omega) i _, T := h.T.other (by omega) i _
    m := by
      have := h.m
      unfold Ints.Owns at this ⊢
      have hl : s.t.m.length = n := by obtain ⟨a', c', e⟩ := h.m.form; injection e with _ e _; exact e.symm
      rw [hl] at this
      have h2 := Ints.owns_set this i x
      show World.ownsRow _ _ _ _ _ (s.t.m.set i x).length (Ints.iv (s.t.m.set i x))
      rw [List.length_set, hl]
      exact h2
    r := h.r.keep fun k e => hk k (fun e' => h.d.2.1 k e (by rw [e']; rfl))
    c := h.c.keep fun k e => hk k (fun e' => h.d.2.2 k e (by rw [e']; rfl))
    d := h.d
    im := h.im.keep fun k e1 e2 e3 _ _ => hk k (fun e' => e3 (by rw [e']; rfl))
    k := h.k.keep fun k e => hk k (fun e' => by
      obtain ⟨cur, hc⟩ := own_blk h.k k e
      obtain ⟨cur', hc'⟩ := own_blk (Ints.owns_iff.2 h.m) g rfl
      rw [e', hc'] at hc
      simp only [Option.some.injEq, Obj.cells.injEq] at hc
      exact absurd hc.2.1 (by decide))
    is := h.is
    d0 := h.d0
    b := h.b.setCell (by show w.heap.size ≤ g; omega) _
    p := h.p }
/-- other registers, made behind what lies there -/
theorem WSt.newR (h : WSt w W pR pS pT vr vc vm vk vc0 vm0 ms s t0) (hb : Below W.heap.size W W') {v : Value} {r' : List Int} (hv : Ints.Owns W.heap.size W' v r') : WSt w W' pR pS pT v vc vm vk vc0 vm0 ms { s with r := r' } t0 := by
  have h' := h.on hb
  have hn := fun k e => (hv.at k e).1
  exact
  { R := h'.R, S := h'.S, T := h'.T, r := hv.mono h.b.size, c := h'.c, m := h'.m
    d := ⟨fun k e e' => by have := hn k e; have := (h.c.at k e').2; omega, fun k e e' => by have := hn k e; have := (h.m.at k e').2; omega, h.d.2.2⟩
    im := { o := h'.im.o, d := fun q hq => ⟨fun k e e' => by have := hn k e; have := ((h.im.o q hq).at k e').2; omega, (h.im.d q hq).2⟩ }
    k := h'.k, is := h.is, d0 := h.d0, b := h'.b, p := h.p }
/-- the counter -/
theorem WSt.setN (h : WSt w W pR pS pT vr vc vm vk vc0 vm0 ms s t0) (x : Int) : WSt w (W.setCell ⟨pS, 2, none⟩ (.int .i64 x)) pR pS pT vr vc vm vk vc0 vm0 ms { s with t := { s.t with n := x } } t0 := by
  have hk : ∀ k, k ≠ pS → (W.setCell ⟨pS, 2, none⟩ (.int .i64 x)).heap[k]? = W.heap[k]? := fun k hk => Below.heap_setCell W ⟨pS, 2, none⟩ _ k hk
  have hp := h.p
  have hRS : pR ≠ pS := by
    intro e
    have a := h.R
    have b := h.S
    unfold Blk at a b
    rw [e, b] at a
    simp only [Option.some.injEq, Obj.cells.injEq] at a
    exact absurd a.2.1 (by decide)
  exact
  { R := h.R.other hRS 2 _, S := h.S.set 2 _, T := h.T.other (by omega) 2 _
    r := h.r.keep fun k e => hk k (int_off h.r h.S (by decide) k e)
    c := h.c.keep fun k e => hk k (int_off h.c h.S (by decide) k e)
    m := h.m.keep fun k e => hk k (int_off h.m h.S (by decide) k e)
    d := h.d
    im := { o := fun q hq => (h.im.o q hq).keep fun k e => hk k (int_off (h.im.o q hq) h.S (by decide) k e), d := h.im.d }
    k := h.k.keep fun k e => hk k (h.k.off h.S (by decide) k e)
    is := h.is
    d0 := h.d0
    b := h.b.setCell (by show w.heap.size ≤ pS; omega) _
    p := h.p }
/-- other things, made behind what lies there, and stored -/
theorem WSt.newT (h : WSt w W pR pS pT vr vc vm vk vc0 vm0 ms s t0) (hb : Below W.heap.size W W') {vc' vm' : Value} {t' : Th} (ho : OwnT W.heap.size W' vc' vm' t') :
    WSt w (((W'.setCell ⟨pS, 0, none⟩ vc').setCell ⟨pS, 1, none⟩ vm').setCell ⟨pS, 2, none⟩ (.int .i64 t'.n)) pR pS pT vr vc' vm' vk vc0 vm0 ms { s with t := t' } t0 := by
  have h' := h.on hb
  have hc := fun k e => (ho.c.at k e).1
  have hm := fun k e => (ho.m.at k e).1
  have hp := h.p
  have hlt := h.S.lt
  have hRS : pR ≠ pS := by
    intro e
    have a := h.R
    have b := h.S
    unfold Blk at a b
    rw [e, b] at a
    simp only [Option.some.injEq, Obj.cells.injEq] at a
    exact absurd a.2.1 (by decide)
  have hk : ∀ k, k ≠ pS → (((W'.setCell ⟨pS, 0, none⟩ vc').setCell ⟨pS, 1, none⟩ vm').setCell ⟨pS, 2, none⟩ (.int .i64 t'.n)).heap[k]? = W'.heap[k]? := fun k hk => by
    rw [Below.heap_setCell _ ⟨pS, 2, none⟩ _ k hk, Below.heap_setCell _ ⟨pS, 1, none⟩ _ k hk, Below.heap_setCell _ ⟨pS, 0, none⟩ _ k hk]
  exact
  { R := ((h'.R.other hRS 0 _).other hRS 1 _).other hRS 2 _
    S := ((h'.S.set 0 _).set 1 _).set 2 _
    T := ((h'.T.other (by omega) 0 _).other (by omega) 1 _).other (by omega) 2 _
    r := h'.r.keep fun k e => hk k (int_off h'.r h'.S (by decide) k e)
    c := (ho.c.keep fun k e => hk k (by have := hc k e; omega)).mono h.b.size
    m := (ho.m.keep fun k e => hk k (by have := hm k e; omega)).mono h.b.size
    d := ⟨fun k e e' => by have := (h.r.at k e).2; have := hc k e'; omega, fun k e e' => by have := (h.r.at k e).2; have := hm k e'; omega, ho.d⟩
    im := { o := fun q hq => (h'.im.o q hq).keep fun k e => hk k (int_off (h'.im.o q hq) h'.S (by decide) k e)
            d := fun q hq => ⟨(h.im.d q hq).1, fun k e e' => by have := hc k e; have := ((h.im.o q hq).at k e').2; omega, fun k e e' => by have := hm k e; have := ((h.im.o q hq).at k e').2; omega⟩ }
    k := h'.k.keep fun k e => hk k (h'.k.off h'.S (by decide) k e)
    is := h.is
    d0 := h.d0
    b := ((h'.b.setCell (p := ⟨pS, 0, none⟩) (by show w.heap.size ≤ pS; omega) _).setCell (p := ⟨pS, 1, none⟩) (by show w.heap.size ≤ pS; omega) _).setCell (p := ⟨pS, 2, none⟩) (by show w.heap.size ≤ pS; omega) _
    p := h.p }
/-- the innermost mark is taken away -/
theorem popM {B g n cap : Nat} {W : World} {xs : List M5} {x : M5} (h : OwnsM B W (.slice (some ⟨g, 0, none⟩) (n + 1) cap) (xs ++ [x])) (hn : xs.length = n) : OwnsM B W (.slice (some ⟨g, 0, none⟩) n cap) xs := by
  obtain ⟨h1, h2⟩ := h
  rcases h2 with ⟨e, -⟩ | ⟨g', cap', cur, e, hg, hh, r1, r2, r3, r4⟩
  · cases e
  · injection e with e1 e2 e3
    injection e1 with e1
    injection e1 with e1 _ _
    subst e1
    subst e3
    refine ⟨by rw [fv_length], .inr ⟨g, cap, cur, by rw [hn], hg, hh, by rw [hn]; omega, r2, r3, ?_⟩⟩
    have h5 : cur.toList.take (xs.length * mkEl.sz) = (cur.toList.take ((xs ++ [x]).length * mkEl.sz)).take (xs.length * mkEl.sz) := by
      rw [List.take_take, Nat.min_eq_left (Nat.mul_le_mul_right _ (by simp))]
    rw [h5, r4, fv_append, List.take_left' (fv_length xs)]
theorem WSt.pop {g n cap : Nat} {x : M5} {y : Mk} {ks : List Mk} (h : WSt w W pR pS pT vr vc vm (.slice (some ⟨g, 0, none⟩) (n + 1) cap) vc0 vm0 (ms ++ [x]) s t0) (hn : ms.length = n) (hk : s.k = y :: ks) :
    WSt w W pR pS pT vr vc vm (.slice (some ⟨g, 0, none⟩) n cap) vc0 vm0 ms { s with k := ks } t0 ∧ MkIs x y ∧ RowsIm w.heap.size W vr vc vm (rowsOf x y) := by
  have hrev : s.k.reverse = ks.reverse ++ [y] := by rw [hk]; simp
  have his := h.is
  rw [hrev, marksIs_snoc] at his
  have hl := marksIs_len _ _ his.1
  have him := h.im
  rw [hrev, marksIm_snoc _ _ _ _ hl] at him
  refine ⟨{ R := h.R, S := h.S, T := h.T, r := h.r, c := h.c, m := h.m, d := h.d, im := him.sub (fun q hq => ?_), k := popM h.k hn, is := his.1, d0 := h.d0, b := h.b, p := h.p }, his.2, him.sub (fun q hq => ?_)⟩
  · simp only [List.mem_cons, List.mem_append] at hq ⊢
    rcases hq with hq | hq | hq
    · exact .inl hq
    · exact .inr (.inl hq)
    · exact .inr (.inr (.inl hq))
  · simp only [List.mem_cons, List.mem_append]
    exact .inr (.inr (.inr hq))
theorem seesOneM (W : World) (x : M5) (t : TypeId) : Sees mkEl (W.heap.size + 1) (W.alloc (.cells #[.int .i64 x.pc, x.r.val, x.c.val, x.m.val, .int .i64 x.n] t)) (.slice (some ⟨W.heap.size, 0, none⟩) 1 1) [x] :=
  ⟨_, 1, rfl, by simp, by unfold maxLen; omega, fun _ => ⟨W.heap.size, 0, rfl, by omega, fun j hj => by
    have hj0 : j = 0 := by simpa using hj
    subst hj0
    intro i u hu
    have hb : Blk (W.alloc (.cells #[.int .i64 x.pc, x.r.val, x.c.val, x.m.val, .int .i64 x.n] t)) W.heap.size #[.int .i64 x.pc, x.r.val, x.c.val, x.m.val, .int .i64 x.n] t := Blk.new W _ _
    simp only [Nat.zero_mul, Nat.zero_add]
    rw [hb.cell]
    change [Value.int .i64 x.pc, x.r.val, x.c.val, x.m.val, .int .i64 x.n][i]? = some u at hu
    simpa using hu⟩⟩
/-- append(marks, mark): the copies were made behind what lay there -/
theorem WSt.push (h : WSt w W pR pS pT vr vc vm vk vc0 vm0 ms s t0) (hb : Below W.heap.size W W') (hlen : ms.length ≤ 1000) (x : M5) (hx : x.pc = (s.pc : Int) ∧ x.n = s.t.n) (h1 : Ints.Owns W.heap.size W' x.r.val s.r) (h2 : Ints.Owns W.heap.size W' x.c.val s.t.c) (h3 : Ints.Owns W.heap.size W' x.m.val s.t.m) :
    ∃ v' W'', (Builtin.append_ #[152, 152] 152 #[vk, .slice (some ⟨W'.heap.size, 0, none⟩) 1 1]).run Try.prog (W'.alloc (.cells #[.int .i64 x.pc, x.r.val, x.c.val, x.m.val, .int .i64 x.n] 154)) = .ok v' W'' ∧ WSt w W'' pR pS pT vr vc vm v' vc0 vm0 (ms ++ [x]) { s with k := ⟨s.pc, s.r, s.t⟩ :: s.k } t0 := by
  have h' := h.on hb
  have bA := alloc_below W' (.cells #[.int .i64 x.pc, x.r.val, x.c.val, x.m.val, .int .i64 x.n] 154)
  have hA := h'.on bA
  have hs : w.heap.size ≤ (W'.alloc (.cells #[.int .i64 x.pc, x.r.val, x.c.val, x.m.val, .int .i64 x.n] 154)).heap.size := by have := hA.b.size; exact this
  obtain ⟨v', W'', hr, hO, hG, -⟩ := app rowMk vk _ 152 ms [x] _ w.heap.size _ hA.k hs (seesOneM W' x _) (by simp; omega)
  refine ⟨v', W'', hr, ?_⟩
  have hk : ∀ k, vk.ownBlock ≠ some k → k < (W'.alloc (.cells #[.int .i64 x.pc, x.r.val, x.c.val, x.m.val, .int .i64 x.n] 154)).heap.size → W''.heap[k]? = (W'.alloc (.cells #[.int .i64 x.pc, x.r.val, x.c.val, x.m.val, .int .i64 x.n] 154)).heap[k]? := fun k hne hlt => hG.block k hlt (fun e => hne e.symm)
  have ne : ∀ {v : Value} {zs : List Int} {B : Nat}, Ints.Owns B (W'.alloc (.cells #[.int .i64 x.pc, x.r.val, x.c.val, x.m.val, .int .i64 x.n] 154)) v zs → ∀ k, v.ownBlock = some k → vk.ownBlock ≠ some k := fun ho k e e' => by
    obtain ⟨cur, hc⟩ := own_blk hA.k k e'
    obtain ⟨cur', hc'⟩ := own_blk (Ints.owns_iff.2 ho) k e
    rw [hc'] at hc
    simp only [Option.some.injEq, Obj.cells.injEq] at hc
    exact absurd hc.2.1 (by decide)
  have own : ∀ {v : Value} {zs : List Int} {B : Nat}, Ints.Owns B (W'.alloc (.cells #[.int .i64 x.pc, x.r.val, x.c.val, x.m.val, .int .i64 x.n] 154)) v zs → Ints.Owns B W'' v zs := fun ho => ho.keep fun k e => hk k (ne ho k e) (ho.at k e).2
  have blk : ∀ {p : Nat} {cs : Array Value} {t : TypeId}, Blk (W'.alloc (.cells #[.int .i64 x.pc, x.r.val, x.c.val, x.m.val, .int .i64 x.n] 154)) p cs t → 154 ≠ t → Blk W'' p cs t := fun hB ht => hB.grown hG (fun e => hA.k.off hB ht _ e.symm rfl)
  have h1' := own (h1.on bA (Nat.le_refl _))
  have h2' := own (h2.on bA (Nat.le_refl _))
  have h3' := own (h3.on bA (Nat.le_refl _))
  have dj : ∀ {v u : Value} {zs ys : List Int}, Ints.Owns w.heap.size W v zs → Ints.Owns W.heap.size W'' u ys → Dj v u := fun a b k e e' => by
    have := (a.at k e).2
    have := (b.at k e').1
    omega
  have hrev : ({ s with k := ⟨s.pc, s.r, s.t⟩ :: s.k } : Cf).k.reverse = s.k.reverse ++ [⟨s.pc, s.r, s.t⟩] := by simp
  have hl := marksIs_len _ _ h.is
  exact
  { R := blk hA.R (by decide), S := blk hA.S (by decide), T := blk hA.T (by decide), r := own hA.r, c := own hA.c, m := own hA.m, d := h.d
    im := by
      rw [hrev, marksIm_snoc _ _ _ _ hl]
      have e : (vc0, t0.c) :: (vm0, t0.m) :: (marksIm ms s.k.reverse ++ rowsOf x ⟨s.pc, s.r, s.t⟩) = ((vc0, t0.c) :: (vm0, t0.m) :: marksIm ms s.k.reverse) ++ rowsOf x ⟨s.pc, s.r, s.t⟩ := rfl
      rw [e]
      refine RowsIm.app { o := fun q hq => own (hA.im.o q hq), d := h.im.d } { o := fun q hq => ?_, d := fun q hq => ?_ }
      · simp only [rowsOf, List.mem_cons, List.not_mem_nil, or_false] at hq
        rcases hq with rfl | rfl | rfl
        · exact h1'.mono h.b.size
        · exact h2'.mono h.b.size
        · exact h3'.mono h.b.size
      · simp only [rowsOf, List.mem_cons, List.not_mem_nil, or_false] at hq
        rcases hq with rfl | rfl | rfl
        · exact ⟨dj h.r h1', dj h.c h1', dj h.m h1'⟩
        · exact ⟨dj h.r h2', dj h.c h2', dj h.m h2'⟩
        · exact ⟨dj h.r h3', dj h.c h3', dj h.m h3'⟩
    k := hO
    is := by rw [hrev, marksIs_snoc]; exact ⟨h.is, hx⟩
    d0 := h.d0
    b := hA.b.grown hG hs (fun k hk => (hA.k.at k hk).1)
    p := h.p }
/-- where all lies at first: the copies of the registers and of the things, the latter stored -/
theorem WSt.start {pc : Nat} {r : List Int} {t : Th} {u0 u1 u2 : Value} (hR : Blk W pR #[.int .i64 0, .slice none 0 0, .slice none 0 0, .slice none 0 0, .int .i64 0] 57) (hS : Blk W pS #[u0, u1, u2] 49) (hT : Blk W pT #[vc0, vm0, .int .i64 t.n] 49)
    (hr : Ints.Owns w.heap.size W vr r) (h0 : OwnT w.heap.size W vc0 vm0 t) (h1 : OwnT w.heap.size W vc vm t) (hd : Dj vr vc ∧ Dj vr vm) (hd0 : Dj vr vc0 ∧ Dj vr vm0 ∧ Dj vc vc0 ∧ Dj vc vm0 ∧ Dj vm vc0 ∧ Dj vm vm0) (hb : Below w.heap.size w W) (hp : w.heap.size ≤ pR ∧ w.heap.size ≤ pS ∧ w.heap.size ≤ pT ∧ pS ≠ pT) :
    WSt w (((W.setCell ⟨pS, 0, none⟩ vc).setCell ⟨pS, 1, none⟩ vm).setCell ⟨pS, 2, none⟩ (.int .i64 t.n)) pR pS pT vr vc vm (.slice none 0 0) vc0 vm0 [] ⟨pc, r, t, []⟩ t := by
  have hRS : pR ≠ pS := by
    intro e
    have a := hR
    have b := hS
    unfold Blk at a b
    rw [e, b] at a
    simp only [Option.some.injEq, Obj.cells.injEq] at a
    exact absurd a.2.1 (by decide)
  have hk : ∀ k, k ≠ pS → (((W.setCell ⟨pS, 0, none⟩ vc).setCell ⟨pS, 1, none⟩ vm).setCell ⟨pS, 2, none⟩ (.int .i64 t.n)).heap[k]? = W.heap[k]? := fun k hk => by
    rw [Below.heap_setCell _ ⟨pS, 2, none⟩ _ k hk, Below.heap_setCell _ ⟨pS, 1, none⟩ _ k hk, Below.heap_setCell _ ⟨pS, 0, none⟩ _ k hk]
  have own : ∀ {v : Value} {zs : List Int} {B : Nat}, Ints.Owns B W v zs → Ints.Owns B (((W.setCell ⟨pS, 0, none⟩ vc).setCell ⟨pS, 1, none⟩ vm).setCell ⟨pS, 2, none⟩ (.int .i64 t.n)) v zs := fun ho => ho.keep fun k e => hk k (int_off ho hS (by decide) k e)
  exact
  { R := ((hR.other hRS 0 _).other hRS 1 _).other hRS 2 _
    S := ((hS.set 0 _).set 1 _).set 2 _
    T := ((hT.other (by omega) 0 _).other (by omega) 1 _).other (by omega) 2 _
    r := own hr, c := own h1.c, m := own h1.m, d := ⟨hd.1, hd.2, h1.d⟩
    im := { o := fun q hq => by
              simp only [marksIm, List.reverse_nil, List.mem_cons, List.not_mem_nil, or_false] at hq
              rcases hq with rfl | rfl
              · exact own h0.c
              · exact own h0.m
            d := fun q hq => by
              simp only [marksIm, List.reverse_nil, List.mem_cons, List.not_mem_nil, or_false] at hq
              rcases hq with rfl | rfl
              · exact ⟨hd0.1, hd0.2.2.1, hd0.2.2.2.2.1⟩
              · exact ⟨hd0.2.1, hd0.2.2.2.1, hd0.2.2.2.2.2⟩ }
    k := Owns.nil _ _ _ _
    is := trivial
    d0 := h0.d
    b := ((hb.setCell (p := ⟨pS, 0, none⟩) (by show w.heap.size ≤ pS; omega) _).setCell (p := ⟨pS, 1, none⟩) (by show w.heap.size ≤ pS; omega) _).setCell (p := ⟨pS, 2, none⟩) (by show w.heap.size ≤ pS; omega) _
    p := hp }
theorem WSt.marks0 (h : WSt w W pR pS pT vr vc vm vk vc0 vm0 [] s t0) : WSt w (W.alloc (.cells #[] 154)) pR pS pT vr vc vm (.slice (some ⟨W.heap.size, 0, none⟩) 0 0) vc0 vm0 [] s t0 :=
  { h.on (alloc_below W _) with k := World.ownsRow_lit W #[] 0 h.b.size (by simp [maxLen]) rfl }
/-- a number of a row that is owned: its cell, which may be written -/
theorem int_cell {B g n cap : Nat} {zs : List Int} (h : Ints.Owns B W (.slice (some ⟨g, 0, none⟩) n cap) zs) (j : Nat) (hj : j < zs.length) : W.cell? ⟨g, j, none⟩ = some (.int .i64 (rd zs (j : Int))) ∧ W.frozen? ⟨g, j, none⟩ = false := by
  have hl : zs.length = n := by obtain ⟨a', c', e⟩ := h.form; injection e with _ e _; exact e.symm
  have h' : W.ownsRow B 3 1 (.slice (some ⟨g, 0, none⟩) n cap) n (Ints.iv zs) := by unfold Ints.Owns at h; rw [hl] at h; exact h
  have e : rd zs (j : Int) = zs[j] := by unfold rd; rw [Int.toNat_natCast, List.getD_eq_getElem?_getD, List.getElem?_eq_getElem hj]; rfl
  rw [e]
  exact ⟨Ints.owns_at h' j hj, h'.frozenAt j⟩
theorem WSt.drew (h : WSt w W pR pS pT vr vc vm vk vc0 vm0 ms s t0) : WSt w W.drew pR pS pT vr vc vm vk vc0 vm0 ms s t0 := h.on ⟨rfl, rfl, rfl, Nat.le_refl _, fun _ _ => rfl⟩
/-- the innermost mark -/
theorem marks_last {ms : List M5} {y : Mk} {ks : List Mk} (h : MarksIs ms (y :: ks).reverse) : ∃ ms' x, ms = ms' ++ [x] ∧ ms'.length = ks.length := by
  have hl := marksIs_len _ _ h
  rcases List.eq_nil_or_concat ms with rfl | ⟨ms', x, rfl⟩
  · simp at hl
  · exact ⟨ms', x, by rw [List.concat_eq_append], by simp at hl; exact hl⟩
theorem mark_cells {B g n cap : Nat} {xs : List M5} {x : M5} (h : OwnsM B W (.slice (some ⟨g, 0, none⟩) (n + 1) cap) (xs ++ [x])) (hn : xs.length = n) :
    (W.cell? ⟨g, n * 5, none⟩ = some (.int .i64 x.pc) ∧ W.cell? ⟨g, n * 5 + 1, none⟩ = some x.r.val ∧ W.cell? ⟨g, n * 5 + 2, none⟩ = some x.c.val ∧ W.cell? ⟨g, n * 5 + 3, none⟩ = some x.m.val ∧ W.cell? ⟨g, n * 5 + 4, none⟩ = some (.int .i64 x.n)) ∧ n + 1 ≤ cap := by
  have h' : W.ownsRow B 154 mkEl.sz (.slice (some ⟨g, 0, none⟩) (n + 1) cap) (n + 1) (fv mkEl (xs ++ [x])) := by
    have : (xs ++ [x]).length = n + 1 := by simp [hn]
    have h2 : W.ownsRow B 154 mkEl.sz (.slice (some ⟨g, 0, none⟩) (n + 1) cap) (xs ++ [x]).length (fv mkEl (xs ++ [x])) := h
    rw [this] at h2; exact h2
  have ha := own_at h' n (by simp [hn])
  have e : (xs ++ [x])[n]'(by simp [hn]) = x := by
    subst hn
    rw [List.getElem_append_right (Nat.le_refl _)]; simp
  rw [e] at ha
  refine ⟨⟨ha 0 _ rfl, ha 1 _ rfl, ha 2 _ rfl, ha 3 _ rfl, ha 4 _ rfl⟩, ?_⟩
  rcases h'.2 with ⟨e, -⟩ | ⟨g', cap', cur, e, -, -, r1, -⟩
  · cases e
  · injection e with _ _ e; rw [e]; exact r1
end
end Ops
end Go.Proofs.Ytajbmokidcdfnaa
/- The loop of the specification's l7Walk: its body, what holds at each round, what falls. -/
set_option linter.unusedVariables false
set_option linter.unusedSimpArgs false
namespace Go.Proofs.Ytajbmokidcdfnaa
open Go.RowKit
namespace Ops
open Bas Flat

def firstLoop : Code → Option Code
  | .loop c => some c
  | .seq a b => match firstLoop a with
    | some c => some c
    | none => firstLoop b
  | .block _ c => firstLoop c
  | .scope c => firstLoop c
  | .cond _ a b => match firstLoop a with
    | some c => some c
    | none => firstLoop b
  | _ => none
def bodyOf (o : Option Code) : Code := (o.bind firstLoop).getD .skip
/-- what holds at each round -/
structure RelW (xs : List O4) (n : Nat) (F : List Int → Th → List Int × Th) (r : List Int) (t : Th) (w : World) (pR pS pT : Nat) (v0 v1 : Value) (rv kv pv : Value) (wr : World) (s : Cf) (ms : List M5) (gr cr gc cc gm cm : Nat) (ak : Option Addr) (mk ck : Nat) : Prop where
  rg : rv = .slice (some ⟨gr, 0, none⟩) 4 cr
  kg : kv = .slice ak mk ck
  p : pv = .int .i64 s.pc
  l : ms.length = mk
  ok : CfOk xs s
  led : Leads xs t F ⟨0, r, t, []⟩ s
  st : WSt w wr pR pS pT (.slice (some ⟨gr, 0, none⟩) 4 cr) (.slice (some ⟨gc, 0, none⟩) 8 cc) (.slice (some ⟨gm, 0, none⟩) 8 cm) (.slice ak mk ck) v0 v1 ms s t
def RelE (xs : List O4) (n : Nat) (F : List Int → Th → List Int × Th) (r : List Int) (t : Th) (w : World) (pR pS pT : Nat) (v0 v1 : Value) (rv kv pv : Value) (wr : World) : Prop := ∃ s ms gr cr gc cc gm cm ak mk ck, RelW xs n F r t w pR pS pT v0 v1 rv kv pv wr s ms gr cr gc cc gm cm ak mk ck
set_option maxRecDepth 1000000 in
def WI (xs : List O4) (n : Nat) (F : List Int → Th → List Int × Th) (r : List Int) (t : Th) (w : World) (pR pS pT : Nat) (v0 v1 : Value) (cx c1 c2 c4 c5 c6 c7 c8 c26 c27 c28 c29 c30 c31 c32 c33 c289 c290 c291 : Value) (a : Act) (w' : World) : Prop :=
  ∃ u3 u12 u13 u14 u15 u16 u17 u18 u19 u20 u21 u22 u23 u24 u25 u34 u35 u36 u37 u38 u39 u40 u41 u42 u43 u44 u45 u46 u47 u48 u49 u50 u51 u52 u53 u54 u55 u56 u57 u58 u59 u60 u61 u62 u63 u64 u65 u66 u67 u68 u69 u70 u71 u72 u73 u74 u75 u76 u77 u78 u79 u80 u81 u82 u83 u84 u85 u86 u87 u88 u89 u90 u91 u92 u93 u94 u95 u96 u97 u98 u99 u100 u101 u102 u103 u104 u105 u106 u107 u108 u109 u110 u111 u112 u113 u114 u115 u116 u117 u118 u119 u120 u121 u122 u123 u124 u125 u126 u127 u128 u129 u130 u131 u132 u133 u134 u135 u136 u137 u138 u139 u140 u141 u142 u143 u144 u145 u146 u147 u148 u149 u150 u151 u152 u153 u154 u155 u156 u157 u158 u159 u160 u161 u162 u163 u164 u165 u166 u167 u168 u169 u170 u171 u172 u173 u174 u175 u176 u177 u178 u179 u180 u181 u182 u183 u184 u185 u186 u187 u188 u189 u190 u191 u192 u193 u194 u195 u196 u197 u198 u199 u200 u201 u202 u203 u204 u205 u206 u207 u208 u209 u210 u211 u212 u213 u214 u215 u216 u217 u218 u219 u220 u221 u222 u223 u224 u225 u226 u227 u228 u229 u230 u231 u232 u233 u234 u235 u236 u237 u238 u239 u240 u241 u242 u243 u244 u245 u246 u247 u248 u249 u250 u251 u252 u253 u254 u255 u256 u257 u258 u259 u260 u261 u262 u263 u264 u265 u266 u267 u268 u269 u270 u271 u272 u273 u274 u275 u276 u277 u278 u279 u280 u281 u282 u283 u284 u285 u286 u287 u288 : Value, RelE xs n F r t w pR pS pT v0 v1 u3 u12 u13 w' ∧ a = ⟨#[cx, c1, c2, u3, c4, c5, c6, c7, c8, .pointer (some ⟨pS, 0, none⟩), .pointer (some ⟨pR, 0, none⟩), .pointer (some ⟨pT, 0, none⟩), u12, u13, u14, u15, u16, u17, u18, u19, u20, u21, u22, u23, u24, u25, c26, c27, c28, c29, c30, c31, c32, c33, u34, u35, u36, u37, u38, u39, u40, u41, u42, u43, u44, u45, u46, u47, u48, u49, u50, u51, u52, u53, u54, u55, u56, u57, u58, u59, u60, u61, u62, u63, u64, u65, u66, u67, u68, u69, u70, u71, u72, u73, u74, u75, u76, u77, u78, u79, u80, u81, u82, u83, u84, u85, u86, u87, u88, u89, u90, u91, u92, u93, u94, u95, u96, u97, u98, u99, u100, u101, u102, u103, u104, u105, u106, u107, u108, u109, u110, u111, u112, u113, u114, u115, u116, u117, u118, u119, u120, u121, u122, u123, u124, u125, u126, u127, u128, u129, u130, u131, u132, u133, u134, u135, u136, u137, u138, u139, u140, u141, u142, u143, u144, u145, u146, u147, u148, u149, u150, u151, u152, u153, u154, u155, u156, u157, u158, u159, u160, u161, u162, u163, u164, u165, u166, u167, u168, u169, u170, u171, u172, u173, u174, u175, u176, u177, u178, u179, u180, u181, u182, u183, u184, u185, u186, u187, u188, u189, u190, u191, u192, u193, u194, u195, u196, u197, u198, u199, u200, u201, u202, u203, u204, u205, u206, u207, u208, u209, u210, u211, u212, u213, u214, u215, u216, u217, u218, u219, u220, u221, u222, u223, u224, u225, u226, u227, u228, u229, u230, u231, u232, u233, u234, u235, u236, u237, u238, u239, u240, u241, u242, u243, u244, u245, u246, u247, u248, u249, u250, u251, u252, u253, u254, u255, u256, u257, u258, u259, u260, u261, u262, u263, u264, u265, u266, u267, u268, u269, u270, u271, u272, u273, u274, u275, u276, u277, u278, u279, u280, u281, u282, u283, u284, u285, u286, u287, u288, c289, c290, c291], []⟩
/-- how the walk returns: the result's place holds how it ended -/
def RetW (xs : List O4) (F : List Int → Th → List Int × Th) (r : List Int) (t : Th) (w : World) (pR : Nat) (a : Act) (w' : World) : Prop :=
  a.tmps.getD 10 undef = .pointer (some ⟨pR, 0, none⟩) ∧ a.defers = [] ∧ ∃ v' vc' vm' q, Blk w' pR #[.int .i64 q.out, v', vc', vm', .int .i64 q.t.n] 57 ∧ Ends xs t F ⟨0, r, t, []⟩ q ∧ Ints.Owns w.heap.size w' v' q.r ∧ OwnT w.heap.size w' vc' vm' q.t ∧ Dj v' vc' ∧ Dj v' vm' ∧ (q.out = 1 ∨ q.out = 2) ∧ regsOk q.r = true ∧ thOk q.t = true ∧ Below w.heap.size w w'
def WMu (n : Nat) (a : Act) (w : World) : Nat := n - (intOf (a.tmps.getD 13 undef)).toNat
end Ops
end Go.Proofs.Ytajbmokidcdfnaa
/- What the specification's functions of chapter 5 answer. -/
set_option linter.unusedVariables false
namespace Go.Proofs.Ytajbmokidcdfnaa
open Go.RowKit
namespace Ops
open Bas Flat

theorem ret_i {a b : Int} (h : a = b) : Ending.returned (.int .i64 a) = .returned (.int .i64 b) := by rw [h]
theorem ret_b {a b : Bool} (h : a = b) : Ending.returned (.bool a) = .returned (.bool b) := by rw [h]
/-- an op of a code, by its kind: it begins a block, ends one, or neither -/
theorem kind3 (x : O4) : (x.k = 8 ∧ delta x = 1) ∨ (x.k = 9 ∧ delta x = -1) ∨ ((x.k == 8) = false ∧ (x.k == 9) = false ∧ delta x = 0) := by
  unfold delta
  by_cases h8 : x.k = 8
  · exact .inl ⟨h8, if_pos h8⟩
  · by_cases h9 : x.k = 9
    · exact .inr (.inl ⟨h9, by rw [if_neg h8, if_pos h9]⟩)
    · exact .inr (.inr ⟨by simp [h8], by simp [h9], by rw [if_neg h8, if_neg h9]⟩)
/-- the cells of the op at place k -/
theorem see4 {B : Nat} {w : World} {b off : Nat} {xs : List O4} (hc : ∀ j (h : j < xs.length), At opEl w b (off + j * opEl.sz) xs[j]) (k : Nat) (hk : k < xs.length) :
    w.cell? ⟨b, off + k * 4, none⟩ = some (.int .i64 xs[k].k) ∧ w.cell? ⟨b, off + k * 4 + 1, none⟩ = some (.int .i64 xs[k].a) ∧ w.cell? ⟨b, off + k * 4 + 2, none⟩ = some (.int .i64 xs[k].b) ∧ w.cell? ⟨b, off + k * 4 + 3, none⟩ = some (.int .i64 xs[k].c) := at4 (hc k hk)

set_option maxRecDepth 100000 in
set_option maxHeartbeats 1600000 in
theorem forkSpec (v : Value) (xs : List O4) (B : Nat) (w : World) (hv : Sees4 B w v xs) (hlen : xs.length ≤ 1048576) :
    Calls Try.prog 122 #[v] w fun e w' => e = .returned (.bool (hasFork xs)) ∧ w = w' := by
  obtain ⟨a, cap, rfl⟩ := hv.form
  obtain ⟨n, hn⟩ : ∃ n, xs.length = n := ⟨_, rfl⟩
  rw [hn] at hv hlen ⊢
  go_enter Try.func122, Try.ntmps122
  go_wp2
  go_loop [3] (fun i' => ∃ k : Nat, k ≤ n ∧ i' = .int .i64 k ∧ ∀ j (h : j < xs.length), j < k → ¬ xs[j].k = 11) (fun i' => n - (intOf i').toNat)
  case atStart => exact ⟨0, Nat.zero_le _, rfl, fun j _ h => by omega⟩
  case round =>
    obtain ⟨k, hk, rfl, hall⟩ := hrel
    by_cases hlt : k < n
    · obtain ⟨b, off, rfl, hb, hc⟩ := hv.open (by omega)
      obtain ⟨a0, -, -, -⟩ := see4 (B := B) hc k (by omega)
      by_cases h11 : xs[k].k = 11
      · have HF : Hid (true = hasFork xs) := (hasFork_yes (by omega) h11).symm
        rw [h11] at a0
        clear hc hall h11
        go_wp2
        go_ret
        exact ⟨ret_b HF.out, rfl⟩
      · have HA : Hid (∀ j (h : j < xs.length), j < k + 1 → ¬ xs[j].k = 11) := fun j hj hjk => by
          rcases Nat.lt_succ_iff_lt_or_eq.1 hjk with h | h
          · exact hall j hj h
          · subst h; exact h11
        have d11 : (xs[k].k == 11) = false := by simp [h11]
        obtain ⟨q, hq⟩ : ∃ q, xs[k].k = q := ⟨_, rfl⟩
        rw [hq] at a0 d11
        clear hc hall h11 hq
        go_wp2
        go_round
        case rel => exact ⟨k + 1, by omega, by go_num, HA.out⟩
        case measure => simp [intOf]; omega
    · have HF : Hid (false = hasFork xs) := (hasFork_no fun j hj => hall j hj (by omega)).symm
      clear hall
      go_wp2
      go_ret
      exact ⟨ret_b HF.out, rfl⟩
end Ops
end Go.Proofs.Ytajbmokidcdfnaa
