/- What block does, if reaches does what it should on smaller pieces. -/
import Derived.Test.YtppkohkcffnghaaDoStep
import Derived.Test.YtppkohkcffnghaaEndImpl
set_option linter.unusedVariables false
set_option linter.unusedSimpArgs false
namespace Go.Proofs.Ytppkohkcffnghaa
open Go.RowKit
namespace Ops
open Bas Flat

theorem infoStock : (Try.prog.info? 90).map (·.size) = some 21 := by kernel_rfl
theorem rowStock : ∃ d, Try.prog.underlying 90 = some d ∧ d.isRow = true := ⟨_, Try.underlying90, rfl⟩
theorem zero21 : Ints.iv (List.replicate 21 0) = [.int .i64 0, .int .i64 0, .int .i64 0, .int .i64 0, .int .i64 0, .int .i64 0, .int .i64 0, .int .i64 0, .int .i64 0, .int .i64 0, .int .i64 0, .int .i64 0, .int .i64 0, .int .i64 0, .int .i64 0, .int .i64 0, .int .i64 0, .int .i64 0, .int .i64 0, .int .i64 0, .int .i64 0] := rfl
theorem over_all {H l : List Int} (h : l.length = H.length) : over H 0 l = l := by
  have := over_mid [] H [] l h
  simpa using this
/-- a load of many cells whose answer is known, at its operation in a plain region -/
theorem wpList_ld {P : Program} {ops : Array Oper} {rest : List Oper} {op : Oper} {a : Act} {w : World} {Q : Exit → Act → World → Prop} (hgd : op.guard = none) (ty : TypeId) (x : Operand) (ho : op.op = .load ty x)
    (ad : Value) (hx : a.eval x = ad) (v : Value) (hl : (Instr.loadAt ty ad).run P w = .ok v w) (h : wpList P ops Q rest (a.put op.dst v) w) : wpList P ops Q (op :: rest) a w := by
  refine wpList_plain hgd fun K hK => ?_
  unfold Oper.wp execOp
  simp only [ho, hx, hl, Sem.run_bind, Sem.run_pure, Result.andThen_ok]
  exact hK _ _ h
theorem wpList_st {P : Program} {ops : Array Oper} {rest : List Oper} {op : Oper} {a : Act} {w w' : World} {Q : Exit → Act → World → Prop} (hgd : op.guard = none) (ty : TypeId) (x y : Operand) (ho : op.op = .store ty x y)
    (ad v : Value) (hx : a.eval x = ad) (hy : a.eval y = v) (hs : (Instr.storeAt ty ad v).run P w = .ok () w') (h : wpList P ops Q rest (a.put op.dst undef) w') : wpList P ops Q (op :: rest) a w := by
  refine wpList_plain hgd fun K hK => ?_
  unfold Oper.wp execOp
  simp only [ho, hx, hy, hs, Sem.run_bind, Sem.run_pure, Result.andThen_ok]
  exact hK _ _ h
section
variable {W : World} {p : Nat} {vC vK vO : Value} {H : List Int}
/-- a doing's stock, whole -/
theorem Dn.load (h : Dn W p vC vK vO H) (hl : H.length = 21) : (Instr.loadAt 90 (.pointer (some ⟨p, 3, none⟩))).run Try.prog W = .ok (.agg (Ints.iv H).toArray) W := by
  obtain ⟨d, h1, h2⟩ := rowStock
  have := h.range 0 21
  rw [List.drop_zero, List.take_of_length_le (by omega)] at this
  exact run_loadAt_mid W p 3 _ (Ints.iv H) d this h1 h2 (by rw [Ints.iv_length, hl]; exact infoStock)
theorem Sk.load (h : Sk W p H) (hl : H.length = 21) : (Instr.loadAt 90 (.pointer (some ⟨p, 0, none⟩))).run Try.prog W = .ok (.agg (Ints.iv H).toArray) W := by
  obtain ⟨d, h1, h2⟩ := rowStock
  have := h.range 0 21
  rw [List.drop_zero, List.take_of_length_le (by omega)] at this
  exact run_loadAt_mid W p 0 _ (Ints.iv H) d this h1 h2 (by rw [Ints.iv_length, hl]; exact infoStock)
theorem Dn.store (h : Dn W p vC vK vO H) (hl : H.length = 21) (l : List Int) (hn : l.length = 21) : (Instr.storeAt 90 (.pointer (some ⟨p, 3, none⟩)) (.agg (Ints.iv l).toArray)).run Try.prog W = .ok () (W.setCells p 3 (Ints.iv l)) :=
  run_storeAt_mid W p 3 _ (Ints.iv l).toArray (by simp [Ints.iv_length, hn]; exact h.there (k := 0) (by omega)) (by rw [List.size_toArray, Ints.iv_length, hn]; exact infoStock) (all_oneCell_toArray (Ints.iv_one l))
theorem Sk.store (h : Sk W p H) (hl : H.length = 21) (l : List Int) (hn : l.length = 21) : (Instr.storeAt 90 (.pointer (some ⟨p, 0, none⟩)) (.agg (Ints.iv l).toArray)).run Try.prog W = .ok () (W.setCells p 0 (Ints.iv l)) :=
  run_storeAt_mid W p 0 _ (Ints.iv l).toArray (by simp [Ints.iv_length, hn]; exact h.there (k := 0) (by omega)) (by rw [List.size_toArray, Ints.iv_length, hn]; exact infoStock) (all_oneCell_toArray (Ints.iv_one l))
end
theorem Only.newMany {p : Nat} {W W' : World} (h : Only p W W') {q : Nat} (hq : W.heap.size ≤ q) (k : Nat) (l : List Value) : Only p W (W'.setCells q k l) := by
  have b := setCells_below (B := 0) (p := q) (Nat.zero_le _) l k W'
  exact ⟨b.os.trans h.os, b.tape.trans h.tape, b.output.trans h.output, Nat.le_trans h.size b.size, fun j hj hp => (setCells_block (show j ≠ q by omega) l k W').trans (h.block j hj hp)⟩
theorem Sk.new (W : World) : Sk (W.alloc (.cells #[.int .i64 0, .int .i64 0, .int .i64 0, .int .i64 0, .int .i64 0, .int .i64 0, .int .i64 0, .int .i64 0, .int .i64 0, .int .i64 0, .int .i64 0, .int .i64 0, .int .i64 0, .int .i64 0, .int .i64 0, .int .i64 0, .int .i64 0, .int .i64 0, .int .i64 0, .int .i64 0, .int .i64 0] 90)) W.heap.size (List.replicate 21 0) := Blk.new W _ _

set_option maxRecDepth 100000 in
set_option maxHeartbeats 3200000 in
theorem blockOf (B p : Nat) (vC vK vO : Value) (xs : List O4) (t0 : Th) (F : List Int → Th → List Int × Th) (Q : World → Prop) (hQ : Stays p Q) (hcode : codeOk xs = true) (s : Cf) (hs : CfOk xs s) (hp : s.pc < xs.length) (hk : xs[s.pc].k = 8)
    (e : Nat) (he : endOf xs (s.pc : Int) = (e : Int)) (h9 : ∃ h : e < xs.length, xs[e].k = 9) (hpe : s.pc < e)
    (hreach : ∀ W, Dc B W p vC vK vO xs s.r s.t → Q W → Calls Try.prog 95 #[.pointer (some ⟨p, 0, none⟩), .int .i64 ((s.pc + 1 : Nat) : Int), .int .i64 (e : Int)] W (ReachTo B p vC vK vO xs t0 F ⟨s.pc + 1, s.r, s.t, ⟨s.pc, s.r, s.t⟩ :: s.k⟩ e W))
    (W : World) (hd : Dc B W p vC vK vO xs s.r s.t) (hq : Q W) :
    Calls Try.prog 122 #[.pointer (some ⟨p, 0, none⟩), .int .i64 (s.pc : Int)] W (StepTo B p vC vK vO xs t0 F s W) := by
  obtain ⟨av, cv, rfl⟩ := hd.c.form
  have hlen := (code_four hcode).1
  have hee : e < xs.length := by obtain ⟨h, -⟩ := h9; exact h
  have hbl : B ≤ W.heap.size := by have := hd.hB; have := hd.d.lt; omega
  obtain ⟨b, off, rfl, hbB, hc⟩ := hd.c.open (by omega)
  clear hc
  have hok := code_at hcode hp
  obtain ⟨sp, hsp, g1, g2, g3⟩ := spans_ok hok
  rw [hk] at hsp
  obtain rfl : ((0, 3), (0, 0), (0, 0)) = sp := Option.some.inj hsp
  obtain ⟨na, hna0, hna⟩ := nat_of g1 (Int.le_refl _)
  simp only at hna
  obtain ⟨l1, l2, l3⟩ := ok_len hs.r hs.t
  have hH := nums_length l1 l2 l3
  obtain ⟨q, hqq⟩ : ∃ q, W.heap.size = q := ⟨_, rfl⟩
  have hpl := hd.d.lt
  have ld1 := hd.d.load hH
  have S1 := Sk.new W
  have b1 := alloc_below W (.cells #[.int .i64 0, .int .i64 0, .int .i64 0, .int .i64 0, .int .i64 0, .int .i64 0, .int .i64 0, .int .i64 0, .int .i64 0, .int .i64 0, .int .i64 0, .int .i64 0, .int .i64 0, .int .i64 0, .int .i64 0, .int .i64 0, .int .i64 0, .int .i64 0, .int .i64 0, .int .i64 0, .int .i64 0] 90)
  have d1 := hd.on b1 hpl
  have o1 : Only p W _ := Only.of b1
  rw [hqq] at S1 hpl
  obtain ⟨W1, hW1⟩ : ∃ W1, W.alloc (.cells #[.int .i64 0, .int .i64 0, .int .i64 0, .int .i64 0, .int .i64 0, .int .i64 0, .int .i64 0, .int .i64 0, .int .i64 0, .int .i64 0, .int .i64 0, .int .i64 0, .int .i64 0, .int .i64 0, .int .i64 0, .int .i64 0, .int .i64 0, .int .i64 0, .int .i64 0, .int .i64 0, .int .i64 0] 90) = W1 := ⟨_, rfl⟩
  rw [hW1] at S1 d1 o1
  have st1 := S1.store (by simp) (nums s.r s.t) hH
  have S2 := S1.setMany (nums s.r s.t) _ _ 0
  rw [over_all (by rw [hH]; simp)] at S2
  have o2 := o1.newMany (q := q) (by omega) 0 (Ints.iv (nums s.r s.t))
  have d2 : Dc B (W1.setCells q 0 (Ints.iv (nums s.r s.t))) p (.slice (some ⟨b, off, none⟩) xs.length cv) vK vO xs s.r s.t := d1.on (setCells_below (Nat.le_refl q) _ 0 W1) hpl
  have q2 := hQ _ _ hq o2
  obtain ⟨W2, hW2⟩ : ∃ W2, W1.setCells q 0 (Ints.iv (nums s.r s.t)) = W2 := ⟨_, rfl⟩
  rw [hW2] at S2 o2 d2 q2 st1
  have cE := endImpl (.slice (some ⟨b, off, none⟩) xs.length cv) xs (s.pc : Int) B W2 d2.c (by have := o2.size; omega) (by omega)
  rw [he] at cE
  have v2 := d2.d.code
  clear b1
  go_enter Try.func122, Try.ntmps122
  go_wp2_with (first
    | (refine wpList_ld rfl 90 (.tmp 10) rfl (.pointer (some ⟨p, 3, none⟩)) ?a3 _ ld1 ?a4; case a3 => rfl)
    | (refine wpList_st rfl 90 (.tmp 5) (.tmp 11) rfl (.pointer (some ⟨q, 0, none⟩)) _ ?b3 ?b5 st1 ?b4; (case b3 => rfl); (case b5 => rfl)))
  refine cE.mono ?_
  rintro ev W3 ⟨rfl, b3⟩
  have d3 := d2.on b3 d2.d.lt
  have o3 := o2.trans (Only.of b3)
  have q3 := hQ _ _ hq o3
  have S3 := S2.on b3 S2.lt
  have cR := hreach W3 d3 q3
  have eP : ((s.pc + 1 : Nat) : Int) = (s.pc : Int) + 1 := by omega
  rw [eP] at cR
  clear cE v2 ld1 st1 S2 S1 d1 o1 d2 o2 q2 hreach
  go_wp2_with fail
  refine cR.mono ?_
  rintro ev W4 ⟨bb, r4, t4, rfl, hE, d4, o4⟩
  have o5 := o3.trans o4
  have S4 := S3.only o4 (by omega)
  obtain ⟨hL, hO⟩ := block_over hcode hs hp hk he hE h9
  have HL := (show Hid _ from hL)
  have HO := (show Hid _ from hO)
  obtain ⟨r4ok, t4ok⟩ := hE.ok
  obtain ⟨m1, m2, m3⟩ := ok_len r4ok t4ok
  have hH4 := nums_length m1 m2 m3
  clear hL hO hE cR d3 o3 q3 S3 o4
  have op5 : ∀ {W5 : World} {r5 : List Int} {t5 : Th}, Dc B W5 p (.slice (some ⟨b, off, none⟩) xs.length cv) vK vO xs r5 t5 → W5.cell? ⟨b, off + s.pc * 4 + 1, none⟩ = some (.int .i64 (na : Int)) := by
    intro W5 r5 t5 h5
    obtain ⟨b', off', hab, -, hc⟩ := h5.c.open (by omega)
    simp only [Option.some.injEq, Addr.mk.injEq, and_true] at hab
    obtain ⟨rfl, rfl⟩ := hab
    have := (seeI hc s.pc hp).2.1
    rw [hna0] at this
    exact this
  have i1 : (s.pc : Int) < xs.length := by omega
  have i2 : (na : Int) < 4 := by omega
  rw [hna0] at HL HO
  cases bb with
  | true =>
    simp only [if_true] at HL HO
    have a1 := op5 d4
    have v4 := d4.d.code
    have e4 := d4.d.reg m1 (by omega : na < 4)
    have f4 := d4.d.froz (3 + na)
    have d6 := d4.d.setReg m1 (by omega : na < 4) 1
    have o6 := o5.set (3 + na) (.int .i64 1)
    go_wp2
    go_region
    go_wp2
    go_ret
    exact .inl ⟨e + 1, _, _, by go_num, Nat.lt_succ_of_lt hpe, HL.out, HO.out, { d := d6, c := d4.code ((Only.refl p W4).set (3 + na) (.int .i64 1)).drew, hB := d4.hB }, o6.drew⟩
  | false =>
    simp only [Bool.false_eq_true, if_false] at HL HO
    have ld4 := S4.load hH
    have st4 := d4.d.store hH4 (nums s.r s.t) hH
    have d5n := d4.d.setMany (nums s.r s.t) _ _ 0
    rw [over_all (by rw [hH, hH4])] at d5n
    have o6 := o5.setMany 3 (Ints.iv (nums s.r s.t))
    have d5 : Dc B (W4.setCells p 3 (Ints.iv (nums s.r s.t))) p (.slice (some ⟨b, off, none⟩) xs.length cv) vK vO xs s.r s.t := { d := d5n, c := d4.code ((Only.refl p W4).setMany 3 _), hB := d4.hB }
    obtain ⟨W5, hW5⟩ : ∃ W5, W4.setCells p 3 (Ints.iv (nums s.r s.t)) = W5 := ⟨_, rfl⟩
    rw [hW5] at st4 d5 o6
    clear d5n
    have a1 := op5 d5
    have v5 := d5.d.code
    have e5 := d5.d.reg l1 (by omega : na < 4)
    have f5 := d5.d.froz (3 + na)
    have d6 := d5.d.setReg l1 (by omega : na < 4) 0
    have o7 := o6.set (3 + na) (.int .i64 0)
    go_wp2_with (first
      | (refine wpList_ld rfl 90 (.tmp 5) rfl (.pointer (some ⟨q, 0, none⟩)) ?c3 _ ld4 ?c4; case c3 => rfl)
      | (refine wpList_st rfl 90 (.tmp 28) (.tmp 26) rfl (.pointer (some ⟨p, 3, none⟩)) _ ?e3 ?e5 st4 ?e4; (case e3 => rfl); (case e5 => rfl)))
    go_region
    go_wp2
    go_ret
    exact .inl ⟨e + 1, _, _, by go_num, Nat.lt_succ_of_lt hpe, HL.out, HO.out, { d := d6, c := d5.code ((Only.refl p W5).set (3 + na) (.int .i64 0)).drew, hB := d4.hB }, o7.drew⟩
end Ops
end Go.Proofs.Ytppkohkcffnghaa
