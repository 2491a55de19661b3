/- What reaches and outcome do, whatever the right code. -/
import Derived.Test.YtppkohkcffnghaaDoBlock
set_option linter.unusedVariables false
set_option linter.unusedSimpArgs false
namespace Go.Proofs.Ytppkohkcffnghaa
open Go.RowKit
namespace Ops
open Bas Flat

/-- what is asked of fork -/
def ForkDoes (B p : Nat) (vC vK vO : Value) (xs : List O4) (F : List Int → Th → List Int × Th) (Q : World → Prop) : Prop :=
  ∀ (s : Cf) (h : s.pc < xs.length) (W : World), xs[s.pc].k = 11 → CfOk xs s → Dc B W p vC vK vO xs s.r s.t → Q W →
    Calls Try.prog 123 #[.pointer (some ⟨p, 0, none⟩)] W fun e W' => e = .returned (.tuple #[]) ∧ Dc B W' p vC vK vO xs (F s.r s.t).1 (F s.r s.t).2 ∧ Only p W W'
theorem noForkDoes {B p : Nat} {vC vK vO : Value} {xs : List O4} {F : List Int → Th → List Int × Th} {Q : World → Prop} (h : hasFork xs = false) : ForkDoes B p vC vK vO xs F Q := fun s hp W h11 _ _ _ => by
  have := hasFork_yes hp h11
  rw [h] at this; cases this

theorem reachAll (B p : Nat) (vC vK vO : Value) (xs : List O4) (t0 : Th) (F : List Int → Th → List Int × Th) (Q : World → Prop) (hQ : Stays p Q) (hcode : codeOk xs = true) (hF : ForkOk F) (hfork : ForkDoes B p vC vK vO xs F Q) :
    ∀ (n fr to : Nat), to - fr ≤ n → Seg xs fr to → ∀ (s : Cf) (W : World), CfOk xs s → s.pc = fr → Dc B W p vC vK vO xs s.r s.t → Q W →
      Calls Try.prog 95 #[.pointer (some ⟨p, 0, none⟩), .int .i64 (fr : Int), .int .i64 (to : Int)] W (ReachTo B p vC vK vO xs t0 F s to W) := by
  intro n
  induction n with
  | zero =>
    intro fr to hn hseg s W hs hpc hd hq
    exact reachOf B p vC vK vO xs t0 F Q hQ fr to hseg (by have := (code_four hcode).1; omega) (fun s' W' h1 h2 => by omega) s hs hpc W hd hq
  | succ n ih =>
    intro fr to hn hseg s W hs hpc hd hq
    refine reachOf B p vC vK vO xs t0 F Q hQ fr to hseg (by have := (code_four hcode).1; omega) (fun s' W' h1 h2 ok hst hd' hq' => ?_) s hs hpc W hd hq
    have hp : s'.pc < xs.length := by have := hseg.len; omega
    have hok := code_at hcode hp
    by_cases h8 : xs[s'.pc].k = 8
    · obtain ⟨e, he, hsg, h9, hse⟩ := Seg.body hcode hp h8
      have hpe : s'.pc < e := by have := hsg.le; omega
      have hel : e + 1 ≤ to := hseg.cap (e + 1) (by obtain ⟨h, -⟩ := h9; omega) (hse.trans hst)
      refine stepK8 B p vC vK vO xs t0 F Q hQ hcode s' ok hp h8 (fun W1 d1 q1 => ?_) W' hd' hq'
      refine blockOf B p vC vK vO xs t0 F Q hQ hcode s' ok hp h8 e he h9 hpe (fun W2 d2 q2 => ?_) W1 d1 q1
      exact ih (s'.pc + 1) e (by omega) hsg ⟨s'.pc + 1, s'.r, s'.t, ⟨s'.pc, s'.r, s'.t⟩ :: s'.k⟩ W2 (step_begin (t0 := t0) (F := F) ok hp h8).2 rfl d2 q2
    · by_cases h10 : xs[s'.pc].k = 10
      · exact stepK10 B p vC vK vO xs t0 F Q hQ hcode s' ok hp h10 W' hd' hq'
      · by_cases h7 : xs[s'.pc].k = 7
        · by_cases hz : rd s'.r xs[s'.pc].a = 0
          · exact stepK7z B p vC vK vO xs t0 F Q hQ hcode s' ok hp h7 (fun x hx => by rw [← hx]; exact hz) W' hd' hq'
          · exact stepK7n B p vC vK vO xs t0 F Q hQ hcode s' ok hp h7 (fun x hx => by rw [← hx]; simpa using hz) W' hd' hq'
        · by_cases h11 : xs[s'.pc].k = 11
          · exact stepK11 B p vC vK vO xs t0 F Q hQ hcode s' ok hp h11 hF (fun W1 d1 q1 => hfork s' hp W1 h11 ok d1 q1) W' hd' hq'
          · have h9 := hseg.noEnd s'.pc hp h2 hst
            exact stepKp B p vC vK vO xs t0 F Q hQ hcode s' ok hp (by omega) W' hd' hq'

theorem info4 : (Try.prog.info? 87).map (·.size) = some 4 := by kernel_rfl
section
variable {W : World} {p : Nat} {vC vK vO : Value} {r : List Int} {t : Th}
theorem Dn.load4 (h : Dn W p vC vK vO (nums r t)) (hr : r.length = 4) : (Instr.loadAt 87 (.pointer (some ⟨p, 3, none⟩))).run Try.prog W = .ok (.agg (Ints.iv r).toArray) W := by
  have := h.range 0 4
  have e : ((nums r t).drop 0).take 4 = r := by unfold nums; rw [List.drop_zero, List.take_append_of_le_length (by omega), List.take_of_length_le (by omega)]
  rw [e] at this
  exact run_loadAt_mid W p 3 _ (Ints.iv r) _ this Try.underlying87 rfl (by rw [Ints.iv_length, hr]; exact info4)
theorem Sk.store4 {H : List Int} (h : Sk W p H) (hl : 4 ≤ H.length) (l : List Int) (hn : l.length = 4) : (Instr.storeAt 87 (.pointer (some ⟨p, 0, none⟩)) (.agg (Ints.iv l).toArray)).run Try.prog W = .ok () (W.setCells p 0 (Ints.iv l)) :=
  run_storeAt_mid W p 0 _ (Ints.iv l).toArray (by simp [Ints.iv_length, hn]; exact h.there (k := 0) (by omega)) (by rw [List.size_toArray, Ints.iv_length, hn]; exact info4) (all_oneCell_toArray (Ints.iv_one l))
end

set_option maxRecDepth 100000 in
set_option maxHeartbeats 3200000 in
theorem outcomeOf (B p : Nat) (vC vK vO : Value) (xs : List O4) (F : List Int → Th → List Int × Th) (Q : World → Prop) (hQ : Stays p Q) (hcode : codeOk xs = true) (hF : ForkOk F) (hfork : ForkDoes B p vC vK vO xs F Q)
    (r : List Int) (t : Th) (hr : regsOk r = true) (ht : thOk t = true) (W : World) (hd : Dc B W p vC vK vO xs r t) (hq : Q W) :
    Calls Try.prog 57 #[.pointer (some ⟨p, 0, none⟩)] W fun e W' =>
      ∃ q : Rn, e = .returned (.int .i64 q.out) ∧ Ends xs t F ⟨0, r, t, []⟩ q ∧ (q.out = 1 ∨ q.out = 2) ∧ regsOk q.r = true ∧ thOk q.t = true ∧ Dc B W' p vC vK vO xs q.r q.t ∧ Only p W W' := by
  obtain ⟨av, cv, rfl⟩ := hd.c.form
  have hlen := (code_four hcode).1
  have hbl : B ≤ W.heap.size := by have := hd.hB; have := hd.d.lt; omega
  obtain ⟨l1, l2, l3⟩ := ok_len hr ht
  have hH := nums_length l1 l2 l3
  obtain ⟨q, hqq⟩ : ∃ q, W.heap.size = q := ⟨_, rfl⟩
  have hpl := hd.d.lt
  have ld1 := hd.d.load hH
  have S1 := Sk.new W
  have b1 := alloc_below W (.cells #[.int .i64 0, .int .i64 0, .int .i64 0, .int .i64 0, .int .i64 0, .int .i64 0, .int .i64 0, .int .i64 0, .int .i64 0, .int .i64 0, .int .i64 0, .int .i64 0, .int .i64 0, .int .i64 0, .int .i64 0, .int .i64 0, .int .i64 0, .int .i64 0, .int .i64 0, .int .i64 0, .int .i64 0] 90)
  have d1 := hd.on b1 hpl
  have o1 : Only p W _ := Only.of b1
  rw [hqq] at S1 hpl
  obtain ⟨W1, hW1⟩ : ∃ W1, W.alloc (.cells #[.int .i64 0, .int .i64 0, .int .i64 0, .int .i64 0, .int .i64 0, .int .i64 0, .int .i64 0, .int .i64 0, .int .i64 0, .int .i64 0, .int .i64 0, .int .i64 0, .int .i64 0, .int .i64 0, .int .i64 0, .int .i64 0, .int .i64 0, .int .i64 0, .int .i64 0, .int .i64 0, .int .i64 0] 90) = W1 := ⟨_, rfl⟩
  rw [hW1] at S1 d1 o1
  have st1 := S1.store (by simp) (nums r t) hH
  have S2 := S1.setMany (nums r t) _ _ 0
  rw [over_all (by rw [hH]; simp)] at S2
  have o2 := o1.newMany (q := q) (by omega) 0 (Ints.iv (nums r t))
  have d2 : Dc B (W1.setCells q 0 (Ints.iv (nums r t))) p (.slice av xs.length cv) vK vO xs r t := d1.on (setCells_below (Nat.le_refl q) _ 0 W1) hpl
  have q2 := hQ _ _ hq o2
  obtain ⟨W2, hW2⟩ : ∃ W2, W1.setCells q 0 (Ints.iv (nums r t)) = W2 := ⟨_, rfl⟩
  rw [hW2] at S2 o2 d2 q2 st1
  have cR := reachAll B p (.slice av xs.length cv) vK vO xs t F Q hQ hcode hF hfork xs.length 0 xs.length (Nat.le_of_eq (Nat.sub_zero _)) (Seg.whole hcode) ⟨0, r, t, []⟩ W2 (CfOk.start hr ht) rfl d2 q2
  have e0 : ((0 : Nat) : Int) = 0 := rfl
  rw [e0] at cR
  have v2 := d2.d.code
  clear b1 hfork
  go_enter Try.func57, Try.ntmps57
  go_wp2_with (first
    | (refine wpList_ld rfl 90 (.tmp 6) rfl (.pointer (some ⟨p, 3, none⟩)) ?a3 _ ld1 ?a4; case a3 => rfl)
    | (refine wpList_st rfl 90 (.tmp 3) (.tmp 7) rfl (.pointer (some ⟨q, 0, none⟩)) _ ?b3 ?b5 st1 ?b4; (case b3 => rfl); (case b5 => rfl)))
  refine cR.mono ?_
  rintro ev W4 ⟨bb, r4, t4, rfl, hE, d4, o4⟩
  have o5 := o2.trans o4
  have S4 := S2.only o4 (by omega)
  have HE : Hid (Ends xs t F ⟨0, r, t, []⟩ _) := SegEnds.ends (s := ⟨0, r, t, []⟩) hE
  obtain ⟨r4ok, t4ok⟩ := hE.ok
  obtain ⟨m1, m2, m3⟩ := ok_len r4ok t4ok
  have hH4 := nums_length m1 m2 m3
  clear cR v2 ld1 st1 S2 S1 d1 o1 d2 o2 q2 hE o4
  cases bb with
  | true =>
    go_wp2
    go_ret
    exact ⟨⟨1, r4, t4⟩, rfl, HE.out, .inl rfl, r4ok, t4ok, d4, o5⟩
  | false =>
    have ld4 := d4.d.load4 m1
    have st4 := S4.store4 (by omega) r4 m1
    have S5 := S4.setMany r4 _ _ 0
    rw [over_regs (by rw [m1, l1])] at S5
    have b5 := setCells_below (Nat.le_refl q) (Ints.iv r4) 0 W4
    have d5 := d4.on b5 hpl
    have o6 := o5.newMany (q := q) (by omega) 0 (Ints.iv r4)
    obtain ⟨W5, hW5⟩ : ∃ W5, W4.setCells q 0 (Ints.iv r4) = W5 := ⟨_, rfl⟩
    rw [hW5] at st4 d5 o6 S5
    have hH5 := nums_length m1 l2 l3
    have ld5 := S5.load hH5
    have st5 := d5.d.store hH4 (nums r4 t) hH5
    have d6n := d5.d.setMany (nums r4 t) _ _ 0
    rw [over_all (by rw [hH5, hH4])] at d6n
    have o7 := o6.setMany 3 (Ints.iv (nums r4 t))
    have d6 : Dc B (W5.setCells p 3 (Ints.iv (nums r4 t))) p (.slice av xs.length cv) vK vO xs r4 t := { d := d6n, c := d5.code ((Only.refl p W5).setMany 3 _), hB := d5.hB }
    clear b5 d6n
    go_wp2_with (first
      | (refine wpList_ld rfl 87 (.tmp 19) rfl (.pointer (some ⟨p, 3, none⟩)) ?c3 _ ld4 ?c4; case c3 => rfl)
      | (refine wpList_st rfl 87 (.tmp 21) (.tmp 20) rfl (.pointer (some ⟨q, 0, none⟩)) _ ?e3 ?e5 st4 ?e4; (case e3 => rfl); (case e5 => rfl))
      | (refine wpList_ld rfl 90 (.tmp 3) rfl (.pointer (some ⟨q, 0, none⟩)) ?f3 _ ld5 ?f4; case f3 => rfl)
      | (refine wpList_st rfl 90 (.tmp 25) (.tmp 23) rfl (.pointer (some ⟨p, 3, none⟩)) _ ?g3 ?g5 st5 ?g4; (case g3 => rfl); (case g5 => rfl)))
    go_ret
    exact ⟨⟨2, r4, t⟩, rfl, HE.out, .inr rfl, r4ok, ht, d6, o7⟩
end Ops
end Go.Proofs.Ytppkohkcffnghaa
