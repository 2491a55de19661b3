/- Several texts of one proof, in build order: EndImpl, DoBlock, DoRun, CloneI, StockOf, HomesImpl, SkipsImpl, OpLaw, CodeImpl. -/
import Derived.WalkMore
import Derived.Lib.SliceRun
import Derived.Deep.QuietTactic
import Derived.BigQuiet
import Derived.Test.YtajbmokidcdfnaaSB3
import Derived.Test.YtajbmokidcdfnaaSB5
import Derived.Test.YtajbmokidcdfnaaSB6
/- What the program's EndOf answers. -/
set_option linter.unusedVariables false
set_option linter.unusedSimpArgs false
namespace Go.Proofs.Ytajbmokidcdfnaa
open Go.RowKit
namespace Ops
open Bas Flat

theorem getD_atI {xs : List O4} {j : Nat} (hj : j < xs.length) : xs.getD j z4 = xs[j] := by simp [List.getD, hj]
theorem end_noI {xs : List O4} {i : Int} (h : ¬ (0 ≤ i ∧ i < xs.length ∧ (xs.getD i.toNat z4).k = 8)) : endOf xs i = -1 := by unfold endOf; rw [if_neg h]

/-- the open blocks of a search that began at s -/
def StE (s k : Nat) (st : List Int) : Prop := (k = s ∧ st = [-1]) ∨ (s < k ∧ ∃ r, st = r ++ [(s : Int), -1] ∧ ∀ x ∈ r, (s : Int) < x)
theorem StE.push {s k : Nat} {st : List Int} (h : StE s k st) : StE s (k + 1) ((k : Int) :: st) := by
  rcases h with ⟨rfl, rfl⟩ | ⟨h1, r, rfl, h2⟩
  · exact .inr ⟨by omega, [], rfl, fun x hx => by simp at hx⟩
  · refine .inr ⟨by omega, (k : Int) :: r, rfl, fun x hx => ?_⟩
    rcases List.mem_cons.1 hx with rfl | hx
    · omega
    · exact h2 x hx
theorem StE.far {s k : Nat} {st : List Int} (h : StE s k st) (hk : s < k) : 2 ≤ st.length := by
  rcases h with ⟨rfl, -⟩ | ⟨-, r, rfl, -⟩
  · omega
  · simp
theorem StE.one {s k : Nat} {st : List Int} (h : StE s k st) : 1 ≤ st.length := by
  rcases h with ⟨rfl, rfl⟩ | ⟨-, r, rfl, -⟩ <;> simp
theorem StE.keep {s k : Nat} {st : List Int} (h : StE s k st) (hk : s < k) : StE s (k + 1) st := by
  rcases h with ⟨rfl, -⟩ | ⟨h1, r, rfl, h2⟩
  · omega
  · exact .inr ⟨by omega, r, rfl, h2⟩
theorem StE.top {s k : Nat} {st : List Int} (h : StE s k st) (hk : s < k) : (∃ r, st = (s : Int) :: r ∧ r.length = 1) ∨ ∃ y r, st = y :: r ∧ (s : Int) < y ∧ 2 ≤ r.length ∧ StE s (k + 1) r := by
  rcases h with ⟨rfl, -⟩ | ⟨h1, r, rfl, h2⟩
  · omega
  · cases r with
    | nil => exact .inl ⟨[-1], rfl, rfl⟩
    | cons y r => exact .inr ⟨y, r ++ [(s : Int), -1], rfl, h2 y (by simp), by simp, .inr ⟨by omega, r, rfl, fun x hx => h2 x (by simp [hx])⟩⟩

set_option maxRecDepth 100000 in
set_option maxHeartbeats 3200000 in
theorem endImpl (v : Value) (xs : List O4) (i : Int) (B : Nat) (w : World) (hv : Sees4 B w v xs) (hB : B ≤ w.heap.size) (hlen : xs.length ≤ 1048576) :
    Calls Try.prog 179 #[v, .int .i64 i] w fun e w' => e = .returned (.int .i64 (endOf xs i)) ∧ Below w.heap.size w w' := by
  obtain ⟨a, cap, rfl⟩ := hv.form
  obtain ⟨n, hn⟩ : ∃ n, xs.length = n := ⟨_, rfl⟩
  rw [hn] at hv hlen ⊢
  by_cases h0 : 0 ≤ i
  · obtain ⟨s, rfl⟩ := Int.eq_ofNat_of_zero_le h0
    by_cases h1 : s < n
    · obtain ⟨b, off, rfl, hb, hc⟩ := hv.open (by omega)
      obtain ⟨a0, -, -, -⟩ := seeI hc s (by omega)
      have hg := getD_atI (xs := xs) (j := s) (by omega)
      have i2 : (s : Int) < n := by omega
      by_cases h8 : xs[s].k = 8
      · have HE : Hid (endOf xs s = endGo (xs.drop s) 0 s) := by
          show _ = _
          unfold endOf
          rw [Int.toNat_natCast, if_pos ⟨by omega, by omega, by rw [hg]; exact h8⟩]
        have H8 : Hid (xs[s].k = 8) := h8
        rw [h8] at a0
        clear hg h8 hc
        obtain ⟨g, hgg⟩ : ∃ g, w.heap.size = g := ⟨_, rfl⟩
        have cN := noneC w
        rw [hgg] at hB cN ⊢
        go_enter Try.func179, Try.ntmps179
        go_wp2
        go_step3
        go_wp2_with (go_at_call 166; refine cN.mono ?_; rintro e w1 ⟨v1, rfl, O1, b1⟩)
        clear cN a0
        obtain ⟨av1, cv1, rfl⟩ := O1.form
        go_step3
        go_wp2
        go_loopw [5, 6, 7] (fun ev ov kv wr => ∃ (k : Nat) (st : List Int) (av : Option Addr) (cn cv : Nat), ov = .slice av cn cv ∧ s ≤ k ∧ k ≤ n ∧ kv = .int .i64 k ∧ ev = .int .i64 (-1) ∧ st.length ≤ k + 1 ∧ StE s k st ∧ OwnsB g wr (.slice av cn cv) (stk st) ∧ Below g w wr ∧ endOf xs s = endGo (xs.drop k) ((st.length : Int) - 1) k) (fun _ _ kv _ => n - (intOf kv).toNat)
        case atStart => exact ⟨s, [-1], _, _, _, rfl, Nat.le_refl _, by omega, rfl, rfl, by simp, .inl ⟨rfl, rfl⟩, O1, b1, HE.out⟩
        case round =>
          obtain ⟨k, st, av, cn, cv, rfl, hsk, hk, rfl, rfl, hsl, hS, hO, hbw, he⟩ := hrel
          clear HE O1 b1
          have hsz : g ≤ wr.heap.size := by have := hbw.size; omega
          have hs1 := hS.one
          by_cases hlt : k < n
          · obtain ⟨b', off', hab, -, hc⟩ := (hv.on hbw hB).open (by omega)
            simp only [Option.some.injEq, Addr.mk.injEq, and_true] at hab
            obtain ⟨rfl, rfl⟩ := hab
            obtain ⟨a0, -, -, -⟩ := seeI hc k (by omega)
            rw [endGo_step (by omega)] at he
            have i1 : (k : Int) < n := by omega
            have hks : ¬ xs[k].k = 8 → s < k := fun h => by
              rcases Nat.lt_or_eq_of_le hsk with h' | h'
              · exact h'
              · subst h'; exact absurd H8.out h
            obtain ⟨x, hx⟩ : ∃ x, xs[k] = x := ⟨_, rfl⟩
            rw [hx] at a0 he hks
            have HK := kindI x
            clear hx hc H8
            rcases HK with ⟨h8, hD⟩ | ⟨h9, hD⟩ | ⟨h8, h9, hD⟩
            · rw [h8] at a0
              rw [hD, if_neg (by omega)] at he
              have HF : Hid (endOf xs s = endGo (xs.drop (k + 1)) (((((k : Int) :: st).length : Nat) : Int) - 1) (k + 1)) := by
                show _ = _
                rw [he, List.length_cons]
                congr 1
                omega
              clear h8 hD he hks
              go_wp2_with fail
              refine (begunC _ st k g wr hO hsz (by omega)).mono ?_
              rintro e w2 ⟨v2, rfl, O2, G2, -⟩
              obtain ⟨a2, c2, rfl⟩ := O2.form
              have hb2 := hbw.grown G2 hsz (fun k hk => (hO.at k hk).1)
              go_wp2
              go_roundw
              case rel => exact ⟨k + 1, (k : Int) :: st, _, _, _, rfl, by omega, by omega, by go_num, rfl, by simp; omega, hS.push, O2, hb2, HF.out⟩
              case measure => simp [intOf]; omega
            · have hlk := hks (by omega)
              rw [h9] at a0
              rw [hD] at he
              clear h9 hD hks
              rcases hS.top hlk with ⟨r, rfl, hr⟩ | ⟨y, r, rfl, hy, hr, hS'⟩
              · have HF : Hid ((k : Int) = endOf xs s) := by
                  show _ = _
                  rw [he, List.length_cons, if_pos (by omega)]
                clear he
                go_wp2_with fail
                have hF := fun x y W => fieldB0 x y W
                refine (innerC _ s r _ wr hO.sees (Nat.le_refl _)).mono ?_
                rintro e w2 ⟨rfl, b2⟩
                go_wp2
                rw [Exit.noGoto_ret]
                go_ret
                exact ⟨retI HF.out, hbw.trans (b2.mono hsz)⟩
              · have HF : Hid (endOf xs s = endGo (xs.drop (k + 1)) ((r.length : Int) - 1) (k + 1)) := by
                  show _ = _
                  rw [he, List.length_cons, if_neg (by omega)]
                  congr 1
                  omega
                have dy : (y == (s : Int)) = false := by simp; omega
                clear he
                go_wp2_with fail
                have hF := fun x y W => fieldB0 x y W
                refine (innerC _ y r _ wr hO.sees (Nat.le_refl _)).mono ?_
                rintro e w2 ⟨rfl, b2⟩
                have O2 := hO.on b2 (Nat.le_refl _)
                have hb2 := hbw.trans (b2.mono hsz)
                go_wp2_with fail
                refine (endedC _ y r g w2 O2).mono ?_
                rintro e w3 ⟨v3, rfl, O3, -, rfl⟩
                obtain ⟨a3, c3, rfl⟩ := O3.form
                go_wp2
                go_roundw
                case rel => exact ⟨k + 1, r, _, _, _, rfl, by omega, by omega, by go_num, rfl, by simp at hsl; omega, hS', O3, hb2, HF.out⟩
                case measure => simp [intOf]; omega
            · have hlk := hks (by simpa using h8)
              have hs2 := hS.far hlk
              rw [hD, if_neg (by omega), Int.add_zero] at he
              have HF := (show Hid _ from he)
              clear he hD hks
              go_wp2
              go_roundw
              case rel => exact ⟨k + 1, st, _, _, _, rfl, by omega, by omega, by go_num, rfl, by omega, hS.keep hlk, hO, hbw, HF.out⟩
              case measure => simp [intOf]; omega
          · obtain rfl : k = n := by omega
            have HF : Hid (-1 = endOf xs s) := by
              show _ = _
              rw [he, List.drop_of_length_le (by omega)]; rfl
            clear he
            go_wp2
            rw [Exit.noGoto_ret]
            go_ret
            exact ⟨retI HF.out, hbw⟩
      · have HF : Hid (-1 = endOf xs s) := (end_noI (fun h => h8 (by have := h.2.2; rw [Int.toNat_natCast, hg] at this; exact this))).symm
        have d8 : (xs[s].k != 8) = true := by simp [h8]
        obtain ⟨q, hq⟩ : ∃ q, xs[s].k = q := ⟨_, rfl⟩
        rw [hq] at a0 d8
        clear hc h8 hq hg
        go_enter Try.func179, Try.ntmps179
        go_wp2
        go_step3
        go_wp2
        rw [Exit.noGoto_ret]
        go_ret
        exact ⟨retI HF.out, Below.refl _ _⟩
    · have HF : Hid (-1 = endOf xs s) := (end_noI (fun h => h1 (by have := h.2.1; omega))).symm
      have i2 : (n : Int) ≤ s := by omega
      go_enter Try.func179, Try.ntmps179
      go_wp2
      go_step3
      go_wp2
      rw [Exit.noGoto_ret]
      go_ret
      exact ⟨retI HF.out, Below.refl _ _⟩
  · have HF : Hid (-1 = endOf xs i) := (end_noI (fun h => h0 h.1)).symm
    have i2 : i < 0 := by omega
    go_enter Try.func179, Try.ntmps179
    go_wp2
    go_step3
    go_wp2
    rw [Exit.noGoto_ret]
    go_ret
    exact ⟨retI HF.out, Below.refl _ _⟩
end Ops
end Go.Proofs.Ytajbmokidcdfnaa
/- What block does, if reaches does what it should on smaller pieces. -/
set_option linter.unusedVariables false
set_option linter.unusedSimpArgs false
namespace Go.Proofs.Ytajbmokidcdfnaa
open Go.RowKit
namespace Ops
open Bas Flat

theorem infoStock : (Try.prog.info? 113).map (·.size) = some 21 := by kernel_rfl
theorem rowStock : ∃ d, Try.prog.underlying 113 = some d ∧ d.isRow = true := ⟨_, Try.underlying113, rfl⟩
theorem zero21 : Ints.iv (List.replicate 21 0) = [.int .i64 0, .int .i64 0, .int .i64 0, .int .i64 0, .int .i64 0, .int .i64 0, .int .i64 0, .int .i64 0, .int .i64 0, .int .i64 0, .int .i64 0, .int .i64 0, .int .i64 0, .int .i64 0, .int .i64 0, .int .i64 0, .int .i64 0, .int .i64 0, .int .i64 0, .int .i64 0, .int .i64 0] := rfl
theorem over_all {H l : List Int} (h : l.length = H.length) : over H 0 l = l := by
  have := over_mid [] H [] l h
  simpa using this
/-- a load of many cells whose answer is known, at its operation in a plain region -/
theorem wpList_ld {P : Program} {ops : Array Oper} {rest : List Oper} {op : Oper} {a : Act} {w : World} {Q : Exit → Act → World → Prop} (hgd : op.guard = none) (ty : TypeId) (x : Operand) (ho : op.op = .load ty x)
    (ad : Value) (hx : a.eval x = ad) (v : Value) (hl : (Instr.loadAt ty ad).run P w = .ok v w) (h : wpList P ops Q rest (a.put op.dst v) w) : wpList P ops Q (op :: rest) a w := by
  refine wpList_plain hgd fun K hK => ?_
  unfold Oper.wp execOp
  simp only [ho, hx, hl, Sem.run_bind, Sem.run_pure, Result.andThen_ok]
  exact hK _ _ h
theorem wpList_st {P : Program} {ops : Array Oper} {rest : List Oper} {op : Oper} {a : Act} {w w' : World} {Q : Exit → Act → World → Prop} (hgd : op.guard = none) (ty : TypeId) (x y : Operand) (ho : op.op = .store ty x y)
    (ad v : Value) (hx : a.eval x = ad) (hy : a.eval y = v) (hs : (Instr.storeAt ty ad v).run P w = .ok () w') (h : wpList P ops Q rest (a.put op.dst undef) w') : wpList P ops Q (op :: rest) a w := by
  refine wpList_plain hgd fun K hK => ?_
  unfold Oper.wp execOp
  simp only [ho, hx, hy, hs, Sem.run_bind, Sem.run_pure, Result.andThen_ok]
  exact hK _ _ h
section
variable {W : World} {p : Nat} {vC vK vO : Value} {H : List Int}
/-- a doing's stock, whole -/
theorem Dn.load (h : Dn W p vC vK vO H) (hl : H.length = 21) : (Instr.loadAt 113 (.pointer (some ⟨p, 3, none⟩))).run Try.prog W = .ok (.agg (Ints.iv H).toArray) W := by
  obtain ⟨d, h1, h2⟩ := rowStock
  have := h.range 0 21
  rw [List.drop_zero, List.take_of_length_le (by omega)] at this
  exact run_loadAt_mid W p 3 _ (Ints.iv H) d this h1 h2 (by rw [Ints.iv_length, hl]; exact infoStock)
theorem Sk.load (h : Sk W p H) (hl : H.length = 21) : (Instr.loadAt 113 (.pointer (some ⟨p, 0, none⟩))).run Try.prog W = .ok (.agg (Ints.iv H).toArray) W := by
  obtain ⟨d, h1, h2⟩ := rowStock
  have := h.range 0 21
  rw [List.drop_zero, List.take_of_length_le (by omega)] at this
  exact run_loadAt_mid W p 0 _ (Ints.iv H) d this h1 h2 (by rw [Ints.iv_length, hl]; exact infoStock)
theorem Dn.store (h : Dn W p vC vK vO H) (hl : H.length = 21) (l : List Int) (hn : l.length = 21) : (Instr.storeAt 113 (.pointer (some ⟨p, 3, none⟩)) (.agg (Ints.iv l).toArray)).run Try.prog W = .ok () (W.setCells p 3 (Ints.iv l)) :=
  run_storeAt_mid W p 3 _ (Ints.iv l).toArray (by simp [Ints.iv_length, hn]; exact h.there (k := 0) (by omega)) (by rw [List.size_toArray, Ints.iv_length, hn]; exact infoStock) (all_oneCell_toArray (Ints.iv_one l))
theorem Sk.store (h : Sk W p H) (hl : H.length = 21) (l : List Int) (hn : l.length = 21) : (Instr.storeAt 113 (.pointer (some ⟨p, 0, none⟩)) (.agg (Ints.iv l).toArray)).run Try.prog W = .ok () (W.setCells p 0 (Ints.iv l)) :=
  run_storeAt_mid W p 0 _ (Ints.iv l).toArray (by simp [Ints.iv_length, hn]; exact h.there (k := 0) (by omega)) (by rw [List.size_toArray, Ints.iv_length, hn]; exact infoStock) (all_oneCell_toArray (Ints.iv_one l))
end
theorem Only.newMany {p : Nat} {W W' : World} (h : Only p W W') {q : Nat} (hq : W.heap.size ≤ q) (k : Nat) (l : List Value) : Only p W (W'.setCells q k l) := by
  have b := setCells_below (B := 0) (p := q) (Nat.zero_le _) l k W'
  exact ⟨b.os.trans h.os, b.tape.trans h.tape, b.output.trans h.output, Nat.le_trans h.size b.size, fun j hj hp => (setCells_block (show j ≠ q by omega) l k W').trans (h.block j hj hp)⟩
theorem Sk.new (W : World) : Sk (W.alloc (.cells #[.int .i64 0, .int .i64 0, .int .i64 0, .int .i64 0, .int .i64 0, .int .i64 0, .int .i64 0, .int .i64 0, .int .i64 0, .int .i64 0, .int .i64 0, .int .i64 0, .int .i64 0, .int .i64 0, .int .i64 0, .int .i64 0, .int .i64 0, .int .i64 0, .int .i64 0, .int .i64 0, .int .i64 0] 113)) W.heap.size (List.replicate 21 0) := Blk.new W _ _

set_option maxRecDepth 100000 in
set_option maxHeartbeats 3200000 in
theorem blockOf (B p : Nat) (vC vK vO : Value) (xs : List O4) (t0 : Th) (F : List Int → Th → List Int × Th) (Q : World → Prop) (hQ : Stays p Q) (hcode : codeOk xs = true) (s : Cf) (hs : CfOk xs s) (hp : s.pc < xs.length) (hk : xs[s.pc].k = 8)
    (e : Nat) (he : endOf xs (s.pc : Int) = (e : Int)) (h9 : ∃ h : e < xs.length, xs[e].k = 9) (hpe : s.pc < e)
    (hreach : ∀ W, Dc B W p vC vK vO xs s.r s.t → Q W → Calls Try.prog 119 #[.pointer (some ⟨p, 0, none⟩), .int .i64 ((s.pc + 1 : Nat) : Int), .int .i64 (e : Int)] W (ReachTo B p vC vK vO xs t0 F ⟨s.pc + 1, s.r, s.t, ⟨s.pc, s.r, s.t⟩ :: s.k⟩ e W))
    (W : World) (hd : Dc B W p vC vK vO xs s.r s.t) (hq : Q W) :
    Calls Try.prog 170 #[.pointer (some ⟨p, 0, none⟩), .int .i64 (s.pc : Int)] W (StepTo B p vC vK vO xs t0 F s W) := by
  obtain ⟨av, cv, rfl⟩ := hd.c.form
  have hlen := (code_four hcode).1
  have hee : e < xs.length := by obtain ⟨h, -⟩ := h9; exact h
  have hbl : B ≤ W.heap.size := by have := hd.hB; have := hd.d.lt; omega
  obtain ⟨b, off, rfl, hbB, hc⟩ := hd.c.open (by omega)
  clear hc
  have hok := code_at hcode hp
  obtain ⟨sp, hsp, g1, g2, g3⟩ := spans_ok hok
  rw [hk] at hsp
  obtain rfl : ((0, 3), (0, 0), (0, 0)) = sp := Option.some.inj hsp
  obtain ⟨na, hna0, hna⟩ := nat_of g1 (Int.le_refl _)
  simp only at hna
  obtain ⟨l1, l2, l3⟩ := ok_len hs.r hs.t
  have hH := nums_length l1 l2 l3
  obtain ⟨q, hqq⟩ : ∃ q, W.heap.size = q := ⟨_, rfl⟩
  have hpl := hd.d.lt
  have ld1 := hd.d.load hH
  have S1 := Sk.new W
  have b1 := alloc_below W (.cells #[.int .i64 0, .int .i64 0, .int .i64 0, .int .i64 0, .int .i64 0, .int .i64 0, .int .i64 0, .int .i64 0, .int .i64 0, .int .i64 0, .int .i64 0, .int .i64 0, .int .i64 0, .int .i64 0, .int .i64 0, .int .i64 0, .int .i64 0, .int .i64 0, .int .i64 0, .int .i64 0, .int .i64 0] 113)
  have d1 := hd.on b1 hpl
  have o1 : Only p W _ := Only.of b1
  rw [hqq] at S1 hpl
  obtain ⟨W1, hW1⟩ : ∃ W1, W.alloc (.cells #[.int .i64 0, .int .i64 0, .int .i64 0, .int .i64 0, .int .i64 0, .int .i64 0, .int .i64 0, .int .i64 0, .int .i64 0, .int .i64 0, .int .i64 0, .int .i64 0, .int .i64 0, .int .i64 0, .int .i64 0, .int .i64 0, .int .i64 0, .int .i64 0, .int .i64 0, .int .i64 0, .int .i64 0] 113) = W1 := ⟨_, rfl⟩
  rw [hW1] at S1 d1 o1
  have st1 := S1.store (by simp) (nums s.r s.t) hH
  have S2 := S1.setMany (nums s.r s.t) _ _ 0
  rw [over_all (by rw [hH]; simp)] at S2
  have o2 := o1.newMany (q := q) (by omega) 0 (Ints.iv (nums s.r s.t))
  have d2 : Dc B (W1.setCells q 0 (Ints.iv (nums s.r s.t))) p (.slice (some ⟨b, off, none⟩) xs.length cv) vK vO xs s.r s.t := d1.on (setCells_below (Nat.le_refl q) _ 0 W1) hpl
  have q2 := hQ _ _ hq o2
  obtain ⟨W2, hW2⟩ : ∃ W2, W1.setCells q 0 (Ints.iv (nums s.r s.t)) = W2 := ⟨_, rfl⟩
  rw [hW2] at S2 o2 d2 q2 st1
  have cE := endImpl (.slice (some ⟨b, off, none⟩) xs.length cv) xs (s.pc : Int) B W2 d2.c (by have := o2.size; omega) (by omega)
  rw [he] at cE
  have v2 := d2.d.code
  clear b1
  go_enter Try.func170, Try.ntmps170
  go_wp2_with (first
    | (refine wpList_ld rfl 113 (.tmp 10) rfl (.pointer (some ⟨p, 3, none⟩)) ?a3 _ ld1 ?a4; case a3 => rfl)
    | (refine wpList_st rfl 113 (.tmp 5) (.tmp 11) rfl (.pointer (some ⟨q, 0, none⟩)) _ ?b3 ?b5 st1 ?b4; (case b3 => rfl); (case b5 => rfl)))
  refine cE.mono ?_
  rintro ev W3 ⟨rfl, b3⟩
  have d3 := d2.on b3 d2.d.lt
  have o3 := o2.trans (Only.of b3)
  have q3 := hQ _ _ hq o3
  have S3 := S2.on b3 S2.lt
  have cR := hreach W3 d3 q3
  have eP : ((s.pc + 1 : Nat) : Int) = (s.pc : Int) + 1 := by omega
  rw [eP] at cR
  clear cE v2 ld1 st1 S2 S1 d1 o1 d2 o2 q2 hreach
  go_wp2_with fail
  refine cR.mono ?_
  rintro ev W4 ⟨bb, r4, t4, rfl, hE, d4, o4⟩
  have o5 := o3.trans o4
  have S4 := S3.only o4 (by omega)
  obtain ⟨hL, hO⟩ := block_over hcode hs hp hk he hE h9
  have HL := (show Hid _ from hL)
  have HO := (show Hid _ from hO)
  obtain ⟨r4ok, t4ok⟩ := hE.ok
  obtain ⟨m1, m2, m3⟩ := ok_len r4ok t4ok
  have hH4 := nums_length m1 m2 m3
  clear hL hO hE cR d3 o3 q3 S3 o4
  have op5 : ∀ {W5 : World} {r5 : List Int} {t5 : Th}, Dc B W5 p (.slice (some ⟨b, off, none⟩) xs.length cv) vK vO xs r5 t5 → W5.cell? ⟨b, off + s.pc * 4 + 1, none⟩ = some (.int .i64 (na : Int)) := by
    intro W5 r5 t5 h5
    obtain ⟨b', off', hab, -, hc⟩ := h5.c.open (by omega)
    simp only [Option.some.injEq, Addr.mk.injEq, and_true] at hab
    obtain ⟨rfl, rfl⟩ := hab
    have := (seeI hc s.pc hp).2.1
    rw [hna0] at this
    exact this
  have i1 : (s.pc : Int) < xs.length := by omega
  have i2 : (na : Int) < 4 := by omega
  rw [hna0] at HL HO
  cases bb with
  | true =>
    simp only [if_true] at HL HO
    have a1 := op5 d4
    have v4 := d4.d.code
    have e4 := d4.d.reg m1 (by omega : na < 4)
    have f4 := d4.d.froz (3 + na)
    have d6 := d4.d.setReg m1 (by omega : na < 4) 1
    have o6 := o5.set (3 + na) (.int .i64 1)
    go_wp2
    go_region
    go_wp2
    go_ret
    exact .inl ⟨e + 1, _, _, by go_num, Nat.lt_succ_of_lt hpe, HL.out, HO.out, { d := d6, c := d4.code ((Only.refl p W4).set (3 + na) (.int .i64 1)).drew, hB := d4.hB }, o6.drew⟩
  | false =>
    simp only [Bool.false_eq_true, if_false] at HL HO
    have ld4 := S4.load hH
    have st4 := d4.d.store hH4 (nums s.r s.t) hH
    have d5n := d4.d.setMany (nums s.r s.t) _ _ 0
    rw [over_all (by rw [hH, hH4])] at d5n
    have o6 := o5.setMany 3 (Ints.iv (nums s.r s.t))
    have d5 : Dc B (W4.setCells p 3 (Ints.iv (nums s.r s.t))) p (.slice (some ⟨b, off, none⟩) xs.length cv) vK vO xs s.r s.t := { d := d5n, c := d4.code ((Only.refl p W4).setMany 3 _), hB := d4.hB }
    obtain ⟨W5, hW5⟩ : ∃ W5, W4.setCells p 3 (Ints.iv (nums s.r s.t)) = W5 := ⟨_, rfl⟩
    rw [hW5] at st4 d5 o6
    clear d5n
    have a1 := op5 d5
    have v5 := d5.d.code
    have e5 := d5.d.reg l1 (by omega : na < 4)
    have f5 := d5.d.froz (3 + na)
    have d6 := d5.d.setReg l1 (by omega : na < 4) 0
    have o7 := o6.set (3 + na) (.int .i64 0)
    go_wp2_with (first
      | (refine wpList_ld rfl 113 (.tmp 5) rfl (.pointer (some ⟨q, 0, none⟩)) ?c3 _ ld4 ?c4; case c3 => rfl)
      | (refine wpList_st rfl 113 (.tmp 28) (.tmp 26) rfl (.pointer (some ⟨p, 3, none⟩)) _ ?e3 ?e5 st4 ?e4; (case e3 => rfl); (case e5 => rfl)))
    go_region
    go_wp2
    go_ret
    exact .inl ⟨e + 1, _, _, by go_num, Nat.lt_succ_of_lt hpe, HL.out, HO.out, { d := d6, c := d5.code ((Only.refl p W5).set (3 + na) (.int .i64 0)).drew, hB := d4.hB }, o7.drew⟩
end Ops
end Go.Proofs.Ytajbmokidcdfnaa
/- What reaches and outcome do, whatever the right code. -/
set_option linter.unusedVariables false
set_option linter.unusedSimpArgs false
namespace Go.Proofs.Ytajbmokidcdfnaa
open Go.RowKit
namespace Ops
open Bas Flat

/-- what is asked of fork -/
def ForkDoes (B p : Nat) (vC vK vO : Value) (xs : List O4) (F : List Int → Th → List Int × Th) (Q : World → Prop) : Prop :=
  ∀ (s : Cf) (h : s.pc < xs.length) (W : World), xs[s.pc].k = 11 → CfOk xs s → Dc B W p vC vK vO xs s.r s.t → Q W →
    Calls Try.prog 171 #[.pointer (some ⟨p, 0, none⟩)] W fun e W' => e = .returned (.tuple #[]) ∧ Dc B W' p vC vK vO xs (F s.r s.t).1 (F s.r s.t).2 ∧ Only p W W'
theorem noForkDoes {B p : Nat} {vC vK vO : Value} {xs : List O4} {F : List Int → Th → List Int × Th} {Q : World → Prop} (h : hasFork xs = false) : ForkDoes B p vC vK vO xs F Q := fun s hp W h11 _ _ _ => by
  have := hasFork_yes hp h11
  rw [h] at this; cases this

theorem reachAll (B p : Nat) (vC vK vO : Value) (xs : List O4) (t0 : Th) (F : List Int → Th → List Int × Th) (Q : World → Prop) (hQ : Stays p Q) (hcode : codeOk xs = true) (hF : ForkOk F) (hfork : ForkDoes B p vC vK vO xs F Q) :
    ∀ (n fr to : Nat), to - fr ≤ n → Seg xs fr to → ∀ (s : Cf) (W : World), CfOk xs s → s.pc = fr → Dc B W p vC vK vO xs s.r s.t → Q W →
      Calls Try.prog 119 #[.pointer (some ⟨p, 0, none⟩), .int .i64 (fr : Int), .int .i64 (to : Int)] W (ReachTo B p vC vK vO xs t0 F s to W) := by
  intro n
  induction n with
  | zero =>
    intro fr to hn hseg s W hs hpc hd hq
    exact reachOf B p vC vK vO xs t0 F Q hQ fr to hseg (by have := (code_four hcode).1; omega) (fun s' W' h1 h2 => by omega) s hs hpc W hd hq
  | succ n ih =>
    intro fr to hn hseg s W hs hpc hd hq
    refine reachOf B p vC vK vO xs t0 F Q hQ fr to hseg (by have := (code_four hcode).1; omega) (fun s' W' h1 h2 ok hst hd' hq' => ?_) s hs hpc W hd hq
    have hp : s'.pc < xs.length := by have := hseg.len; omega
    have hok := code_at hcode hp
    by_cases h8 : xs[s'.pc].k = 8
    · obtain ⟨e, he, hsg, h9, hse⟩ := Seg.body hcode hp h8
      have hpe : s'.pc < e := by have := hsg.le; omega
      have hel : e + 1 ≤ to := hseg.cap (e + 1) (by obtain ⟨h, -⟩ := h9; omega) (hse.trans hst)
      refine stepK8 B p vC vK vO xs t0 F Q hQ hcode s' ok hp h8 (fun W1 d1 q1 => ?_) W' hd' hq'
      refine blockOf B p vC vK vO xs t0 F Q hQ hcode s' ok hp h8 e he h9 hpe (fun W2 d2 q2 => ?_) W1 d1 q1
      exact ih (s'.pc + 1) e (by omega) hsg ⟨s'.pc + 1, s'.r, s'.t, ⟨s'.pc, s'.r, s'.t⟩ :: s'.k⟩ W2 (step_begin (t0 := t0) (F := F) ok hp h8).2 rfl d2 q2
    · by_cases h10 : xs[s'.pc].k = 10
      · exact stepK10 B p vC vK vO xs t0 F Q hQ hcode s' ok hp h10 W' hd' hq'
      · by_cases h7 : xs[s'.pc].k = 7
        · by_cases hz : rd s'.r xs[s'.pc].a = 0
          · exact stepK7z B p vC vK vO xs t0 F Q hQ hcode s' ok hp h7 (fun x hx => by rw [← hx]; exact hz) W' hd' hq'
          · exact stepK7n B p vC vK vO xs t0 F Q hQ hcode s' ok hp h7 (fun x hx => by rw [← hx]; simpa using hz) W' hd' hq'
        · by_cases h11 : xs[s'.pc].k = 11
          · exact stepK11 B p vC vK vO xs t0 F Q hQ hcode s' ok hp h11 hF (fun W1 d1 q1 => hfork s' hp W1 h11 ok d1 q1) W' hd' hq'
          · have h9 := hseg.noEnd s'.pc hp h2 hst
            exact stepKp B p vC vK vO xs t0 F Q hQ hcode s' ok hp (by omega) W' hd' hq'

theorem info4 : (Try.prog.info? 110).map (·.size) = some 4 := by kernel_rfl
section
variable {W : World} {p : Nat} {vC vK vO : Value} {r : List Int} {t : Th}
theorem Dn.load4 (h : Dn W p vC vK vO (nums r t)) (hr : r.length = 4) : (Instr.loadAt 110 (.pointer (some ⟨p, 3, none⟩))).run Try.prog W = .ok (.agg (Ints.iv r).toArray) W := by
  have := h.range 0 4
  have e : ((nums r t).drop 0).take 4 = r := by unfold nums; rw [List.drop_zero, List.take_append_of_le_length (by omega), List.take_of_length_le (by omega)]
  rw [e] at this
  exact run_loadAt_mid W p 3 _ (Ints.iv r) _ this Try.underlying110 rfl (by rw [Ints.iv_length, hr]; exact info4)
theorem Sk.store4 {H : List Int} (h : Sk W p H) (hl : 4 ≤ H.length) (l : List Int) (hn : l.length = 4) : (Instr.storeAt 110 (.pointer (some ⟨p, 0, none⟩)) (.agg (Ints.iv l).toArray)).run Try.prog W = .ok () (W.setCells p 0 (Ints.iv l)) :=
  run_storeAt_mid W p 0 _ (Ints.iv l).toArray (by simp [Ints.iv_length, hn]; exact h.there (k := 0) (by omega)) (by rw [List.size_toArray, Ints.iv_length, hn]; exact info4) (all_oneCell_toArray (Ints.iv_one l))
end

set_option maxRecDepth 100000 in
set_option maxHeartbeats 3200000 in
theorem outcomeOf (B p : Nat) (vC vK vO : Value) (xs : List O4) (F : List Int → Th → List Int × Th) (Q : World → Prop) (hQ : Stays p Q) (hcode : codeOk xs = true) (hF : ForkOk F) (hfork : ForkDoes B p vC vK vO xs F Q)
    (r : List Int) (t : Th) (hr : regsOk r = true) (ht : thOk t = true) (W : World) (hd : Dc B W p vC vK vO xs r t) (hq : Q W) :
    Calls Try.prog 86 #[.pointer (some ⟨p, 0, none⟩)] W fun e W' =>
      ∃ q : Rn, e = .returned (.int .i64 q.out) ∧ Ends xs t F ⟨0, r, t, []⟩ q ∧ (q.out = 1 ∨ q.out = 2) ∧ regsOk q.r = true ∧ thOk q.t = true ∧ Dc B W' p vC vK vO xs q.r q.t ∧ Only p W W' := by
  obtain ⟨av, cv, rfl⟩ := hd.c.form
  have hlen := (code_four hcode).1
  have hbl : B ≤ W.heap.size := by have := hd.hB; have := hd.d.lt; omega
  obtain ⟨l1, l2, l3⟩ := ok_len hr ht
  have hH := nums_length l1 l2 l3
  obtain ⟨q, hqq⟩ : ∃ q, W.heap.size = q := ⟨_, rfl⟩
  have hpl := hd.d.lt
  have ld1 := hd.d.load hH
  have S1 := Sk.new W
  have b1 := alloc_below W (.cells #[.int .i64 0, .int .i64 0, .int .i64 0, .int .i64 0, .int .i64 0, .int .i64 0, .int .i64 0, .int .i64 0, .int .i64 0, .int .i64 0, .int .i64 0, .int .i64 0, .int .i64 0, .int .i64 0, .int .i64 0, .int .i64 0, .int .i64 0, .int .i64 0, .int .i64 0, .int .i64 0, .int .i64 0] 113)
  have d1 := hd.on b1 hpl
  have o1 : Only p W _ := Only.of b1
  rw [hqq] at S1 hpl
  obtain ⟨W1, hW1⟩ : ∃ W1, W.alloc (.cells #[.int .i64 0, .int .i64 0, .int .i64 0, .int .i64 0, .int .i64 0, .int .i64 0, .int .i64 0, .int .i64 0, .int .i64 0, .int .i64 0, .int .i64 0, .int .i64 0, .int .i64 0, .int .i64 0, .int .i64 0, .int .i64 0, .int .i64 0, .int .i64 0, .int .i64 0, .int .i64 0, .int .i64 0] 113) = W1 := ⟨_, rfl⟩
  rw [hW1] at S1 d1 o1
  have st1 := S1.store (by simp) (nums r t) hH
  have S2 := S1.setMany (nums r t) _ _ 0
  rw [over_all (by rw [hH]; simp)] at S2
  have o2 := o1.newMany (q := q) (by omega) 0 (Ints.iv (nums r t))
  have d2 : Dc B (W1.setCells q 0 (Ints.iv (nums r t))) p (.slice av xs.length cv) vK vO xs r t := d1.on (setCells_below (Nat.le_refl q) _ 0 W1) hpl
  have q2 := hQ _ _ hq o2
  obtain ⟨W2, hW2⟩ : ∃ W2, W1.setCells q 0 (Ints.iv (nums r t)) = W2 := ⟨_, rfl⟩
  rw [hW2] at S2 o2 d2 q2 st1
  have cR := reachAll B p (.slice av xs.length cv) vK vO xs t F Q hQ hcode hF hfork xs.length 0 xs.length (Nat.le_of_eq (Nat.sub_zero _)) (Seg.whole hcode) ⟨0, r, t, []⟩ W2 (CfOk.start hr ht) rfl d2 q2
  have e0 : ((0 : Nat) : Int) = 0 := rfl
  rw [e0] at cR
  have v2 := d2.d.code
  clear b1 hfork
  go_enter Try.func86, Try.ntmps86
  go_wp2_with (first
    | (refine wpList_ld rfl 113 (.tmp 6) rfl (.pointer (some ⟨p, 3, none⟩)) ?a3 _ ld1 ?a4; case a3 => rfl)
    | (refine wpList_st rfl 113 (.tmp 3) (.tmp 7) rfl (.pointer (some ⟨q, 0, none⟩)) _ ?b3 ?b5 st1 ?b4; (case b3 => rfl); (case b5 => rfl)))
  refine cR.mono ?_
  rintro ev W4 ⟨bb, r4, t4, rfl, hE, d4, o4⟩
  have o5 := o2.trans o4
  have S4 := S2.only o4 (by omega)
  have HE : Hid (Ends xs t F ⟨0, r, t, []⟩ _) := SegEnds.ends (s := ⟨0, r, t, []⟩) hE
  obtain ⟨r4ok, t4ok⟩ := hE.ok
  obtain ⟨m1, m2, m3⟩ := ok_len r4ok t4ok
  have hH4 := nums_length m1 m2 m3
  clear cR v2 ld1 st1 S2 S1 d1 o1 d2 o2 q2 hE o4
  cases bb with
  | true =>
    go_wp2
    go_ret
    exact ⟨⟨1, r4, t4⟩, rfl, HE.out, .inl rfl, r4ok, t4ok, d4, o5⟩
  | false =>
    have ld4 := d4.d.load4 m1
    have st4 := S4.store4 (by omega) r4 m1
    have S5 := S4.setMany r4 _ _ 0
    rw [over_regs (by rw [m1, l1])] at S5
    have b5 := setCells_below (Nat.le_refl q) (Ints.iv r4) 0 W4
    have d5 := d4.on b5 hpl
    have o6 := o5.newMany (q := q) (by omega) 0 (Ints.iv r4)
    obtain ⟨W5, hW5⟩ : ∃ W5, W4.setCells q 0 (Ints.iv r4) = W5 := ⟨_, rfl⟩
    rw [hW5] at st4 d5 o6 S5
    have hH5 := nums_length m1 l2 l3
    have ld5 := S5.load hH5
    have st5 := d5.d.store hH4 (nums r4 t) hH5
    have d6n := d5.d.setMany (nums r4 t) _ _ 0
    rw [over_all (by rw [hH5, hH4])] at d6n
    have o7 := o6.setMany 3 (Ints.iv (nums r4 t))
    have d6 : Dc B (W5.setCells p 3 (Ints.iv (nums r4 t))) p (.slice av xs.length cv) vK vO xs r4 t := { d := d6n, c := d5.code ((Only.refl p W5).setMany 3 _), hB := d5.hB }
    clear b5 d6n
    go_wp2_with (first
      | (refine wpList_ld rfl 110 (.tmp 19) rfl (.pointer (some ⟨p, 3, none⟩)) ?c3 _ ld4 ?c4; case c3 => rfl)
      | (refine wpList_st rfl 110 (.tmp 21) (.tmp 20) rfl (.pointer (some ⟨q, 0, none⟩)) _ ?e3 ?e5 st4 ?e4; (case e3 => rfl); (case e5 => rfl))
      | (refine wpList_ld rfl 113 (.tmp 3) rfl (.pointer (some ⟨q, 0, none⟩)) ?f3 _ ld5 ?f4; case f3 => rfl)
      | (refine wpList_st rfl 113 (.tmp 25) (.tmp 23) rfl (.pointer (some ⟨p, 3, none⟩)) _ ?g3 ?g5 st5 ?g4; (case g3 => rfl); (case g5 => rfl)))
    go_ret
    exact ⟨⟨2, r4, t⟩, rfl, HE.out, .inr rfl, r4ok, ht, d6, o7⟩
end Ops
end Go.Proofs.Ytajbmokidcdfnaa
/- slices.Clone of numbers. -/
set_option linter.unusedVariables false
namespace Go.Proofs.Ytajbmokidcdfnaa
open Go.RowKit
namespace Ints
open Bas

set_option maxRecDepth 100000 in
set_option maxHeartbeats 1600000 in
theorem cloneC (v : Value) (zs : List Int) (B : Nat) (w : World) (hv : Sees B w v zs) (hB : B ≤ w.heap.size) (hlen : zs.length ≤ 1048576) :
    Calls Try.prog 87 #[v] w fun e w' => ∃ v', e = .returned v' ∧ Owns w.heap.size w' v' zs ∧ Below w.heap.size w w' := by
  have qT : ∀ (w : World) (a : Option Addr) (n c n' c' : Nat), (binOp .eql 23 (.slice a n c) (.slice none n' c')).run Try.prog w = .ok (.bool a.isNone) w := fun w a n c n' c' => Lib.run_eql_slice_nil w _ _ a n c n' c' Try.underlying23
  obtain ⟨a, cap, rfl, h1, h2, h3⟩ := id hv
  cases a with
  | none =>
    have hz : zs = [] := by
      by_cases h : zs = []
      · exact h
      · obtain ⟨b, off, h, -⟩ := h3 h; cases h
    subst hz
    go_enter Try.func87, Try.ntmps87
    go_wp2
    go_ret
    exact ⟨_, rfl, ⟨by simp [iv], .inl ⟨rfl, rfl⟩⟩, Below.refl _ _⟩
  | some ad =>
    have u0 := owns_lit w (Nat.le_refl _)
    have b0 := alloc_below w (.cells #[] 3)
    have hv0 := hv.on b0 hB
    obtain ⟨q, hq⟩ : ∃ q, w.heap.size = q := ⟨_, rfl⟩
    have hq1 : (w.alloc (.cells #[] 3)).heap.size = q + 1 := by rw [← hq]; simp
    rw [hq] at u0 b0
    obtain ⟨n, hn⟩ : ∃ n, zs.length = n := ⟨_, rfl⟩
    rw [hn] at hv0 ⊢
    obtain ⟨w0, hw0⟩ : ∃ w0, w.alloc (.cells #[] 3) = w0 := ⟨_, rfl⟩
    rw [hw0] at u0 b0 hv0 hq1
    obtain ⟨v3, w4, hr3, O3, G3, L3⟩ := appJ (.slice (some ⟨q, 0, none⟩) 0 0) (.slice (some ad) n cap) 23 [] zs B q w0 u0 (by omega) hv0 (by simp; omega)
    rw [List.nil_append] at O3
    have bF : Below q w w4 := b0.grown G3 (by omega) (fun k hk => by cases hk; exact Nat.le_refl _)
    rw [hq]
    clear h3 hn h1 h2
    go_enter Try.func87, Try.ntmps87
    go_wp2_with (at_builtin; refine wpList_app _ rfl (.tmp 5) (.tmp 6) 23 rfl _ _ _ _ rfl rfl hr3 ?_)
    go_ret
    exact ⟨_, rfl, O3, bF⟩
end Ints
end Go.Proofs.Ytajbmokidcdfnaa
/- What stockOf makes. -/
set_option linter.unusedVariables false
set_option linter.unusedSimpArgs false
namespace Go.Proofs.Ytajbmokidcdfnaa
open Go.RowKit
namespace Ops
open Bas Flat

/-- noughts, and a counter -/
def noughts (n : Int) : List Int := List.replicate 20 0 ++ [n]
theorem noughts_iv (n : Int) : Ints.iv (noughts n) = [.int .i64 0, .int .i64 0, .int .i64 0, .int .i64 0, .int .i64 0, .int .i64 0, .int .i64 0, .int .i64 0, .int .i64 0, .int .i64 0, .int .i64 0, .int .i64 0, .int .i64 0, .int .i64 0, .int .i64 0, .int .i64 0, .int .i64 0, .int .i64 0, .int .i64 0, .int .i64 0, .int .i64 n] := rfl
/-- the stock of lists -/
def stockL (zs cs ms : List Int) (n : Int) : List Int := over (over (over (noughts n) 0 zs) 4 cs) 12 ms
theorem noughts_length (n : Int) : (noughts n).length = 21 := by simp [noughts]

set_option maxRecDepth 100000 in
set_option maxHeartbeats 3200000 in
theorem stockC (vr vc vm : Value) (zs cs ms : List Int) (n : Int) (B : Nat) (w : World) (hr : Ints.Sees B w vr zs) (hc : Ints.Sees B w vc cs) (hm : Ints.Sees B w vm ms) (hB : B ≤ w.heap.size) (h1 : zs.length ≤ 4) (h2 : cs.length ≤ 8) (h3 : ms.length ≤ 8) :
    Calls Try.prog 85 #[vr, .agg #[vc, vm, .int .i64 n]] w fun e w' => e = .returned (.agg (Ints.iv (stockL zs cs ms n)).toArray) ∧ Below w.heap.size w w' := by
  obtain ⟨q0, hq0⟩ : ∃ q, w.heap.size = q := ⟨_, rfl⟩
  have X0 := Blk.new w #[vc, vm, .int .i64 n] 49
  have b0 := alloc_below w (.cells #[vc, vm, .int .i64 n] 49)
  obtain ⟨W0, hW0⟩ : ∃ W, w.alloc (.cells #[vc, vm, .int .i64 n] 49) = W := ⟨_, rfl⟩
  have hz0 : W0.heap.size = q0 + 1 := by rw [← hW0, ← hq0]; simp
  rw [hW0] at X0 b0
  rw [hq0] at X0 b0 hB
  obtain ⟨q1, hq1⟩ : ∃ q, W0.heap.size = q := ⟨_, rfl⟩
  have l01 : q0 < q1 := by omega
  clear hz0
  have R1 := Sk.new W0
  have b1 := alloc_below W0 (.cells #[.int .i64 0, .int .i64 0, .int .i64 0, .int .i64 0, .int .i64 0, .int .i64 0, .int .i64 0, .int .i64 0, .int .i64 0, .int .i64 0, .int .i64 0, .int .i64 0, .int .i64 0, .int .i64 0, .int .i64 0, .int .i64 0, .int .i64 0, .int .i64 0, .int .i64 0, .int .i64 0, .int .i64 0] 113)
  obtain ⟨W1, hW1⟩ : ∃ W, W0.alloc (.cells #[.int .i64 0, .int .i64 0, .int .i64 0, .int .i64 0, .int .i64 0, .int .i64 0, .int .i64 0, .int .i64 0, .int .i64 0, .int .i64 0, .int .i64 0, .int .i64 0, .int .i64 0, .int .i64 0, .int .i64 0, .int .i64 0, .int .i64 0, .int .i64 0, .int .i64 0, .int .i64 0, .int .i64 0] 113) = W := ⟨_, rfl⟩
  have hz1 : W1.heap.size = q1 + 1 := by rw [← hW1, ← hq1]; simp
  rw [hW1] at R1 b1
  rw [hq1] at R1 b1
  obtain ⟨q2, hq2⟩ : ∃ q, W1.heap.size = q := ⟨_, rfl⟩
  have l12 : q1 < q2 := by omega
  clear hz1
  have H2 := Sk.new W1
  have b2 := alloc_below W1 (.cells #[.int .i64 0, .int .i64 0, .int .i64 0, .int .i64 0, .int .i64 0, .int .i64 0, .int .i64 0, .int .i64 0, .int .i64 0, .int .i64 0, .int .i64 0, .int .i64 0, .int .i64 0, .int .i64 0, .int .i64 0, .int .i64 0, .int .i64 0, .int .i64 0, .int .i64 0, .int .i64 0, .int .i64 0] 113)
  obtain ⟨W2, hW2⟩ : ∃ W, W1.alloc (.cells #[.int .i64 0, .int .i64 0, .int .i64 0, .int .i64 0, .int .i64 0, .int .i64 0, .int .i64 0, .int .i64 0, .int .i64 0, .int .i64 0, .int .i64 0, .int .i64 0, .int .i64 0, .int .i64 0, .int .i64 0, .int .i64 0, .int .i64 0, .int .i64 0, .int .i64 0, .int .i64 0, .int .i64 0] 113) = W := ⟨_, rfl⟩
  rw [hW2] at H2 b2
  rw [hq2] at H2 b2
  have bb : Below q0 w W2 := (b0.trans (b1.mono (by omega))).trans (b2.mono (by omega))
  have X2 := (X0.on b1 (by omega)).on b2 (by omega)
  have R2 := R1.on b2 (by omega)
  have nl := noughts_length n
  have st3 := H2.store (by simp) (noughts n) nl
  have H3 := H2.setMany (noughts n) _ _ 0
  rw [over_all (by rw [nl]; simp)] at H3
  have c3 := setCells_below (Nat.le_refl q2) (Ints.iv (noughts n)) 0 W2
  have X3 := X2.on c3 (by omega)
  have R3 := R2.on c3 (by omega)
  have b3 := bb.trans (c3.mono (by omega))
  obtain ⟨W3, hW3⟩ : ∃ W, W2.setCells q2 0 (Ints.iv (noughts n)) = W := ⟨_, rfl⟩
  rw [hW3] at st3 H3 X3 R3 b3
  rw [noughts_iv] at st3
  have hcp := copyOver W3 q2 0 4 4 vr zs B (hr.on b3 hB) (H3.there (k := 0) (n := zs.length) (by omega)) h1
  have H4 := H3.setMany zs _ _ 0
  have c4 := setCells_below (Nat.le_refl q2) (Ints.iv zs) 0 W3
  have X4 := X3.on c4 (by omega)
  have R4 := R3.on c4 (by omega)
  have b4 := b3.trans (c4.mono (by omega))
  obtain ⟨W4, hW4⟩ : ∃ W, W3.setCells q2 0 (Ints.iv zs) = W := ⟨_, rfl⟩
  rw [hW4] at hcp H4 X4 R4 b4
  have x2 : W1.cell? ⟨q0, 2, none⟩ = some (.int .i64 n) := (X0.on b1 (by omega)).cell 2
  have x4 := X4.cell 0
  clear X0 X2 X3 R1 R2 R3 b0 b1 b2 b3 bb c3 c4 hW4 hW3 H2
  go_enter Try.func85, Try.ntmps85
  go_wp2_with (refine wpList_st rfl 113 (.tmp 5) (.tmp 8) rfl (.pointer (some ⟨q2, 0, none⟩)) _ ?b3 ?b5 st3 ?b4; (case b3 => rfl); (case b5 => rfl))
  have l4 := over_length zs (noughts n) 0
  have hcp5 := copyOver W4.drew q2 4 8 8 vc cs B (hc.on (b4.drew) hB) (H4.drew.there (k := 4) (n := cs.length) (by omega)) h2
  have H5 := H4.drew.setMany cs _ _ 4
  have c5 := setCells_below (Nat.le_refl q2) (Ints.iv cs) 4 W4.drew
  have X5 := X4.drew.on c5 (by omega)
  have R5 := R4.drew.on c5 (by omega)
  have b5 := b4.drew.trans (c5.mono (by omega))
  obtain ⟨W5, hW5⟩ : ∃ W, W4.drew.setCells q2 4 (Ints.iv cs) = W := ⟨_, rfl⟩
  rw [hW5] at hcp5 H5 X5 R5 b5
  have x5 := X5.cell 1
  clear hW5 c5 hcp st3
  go_region
  go_wp2
  have l5 := over_length cs (over (noughts n) 0 zs) 4
  have hcp6 := copyOver W5.drew q2 12 8 8 vm ms B (hm.on (b5.drew) hB) (H5.drew.there (k := 12) (n := ms.length) (by omega)) h3
  have H6 := H5.drew.setMany ms _ _ 12
  have c6 := setCells_below (Nat.le_refl q2) (Ints.iv ms) 12 W5.drew
  have R6 := R5.drew.on c6 (by omega)
  have b6 := b5.drew.trans (c6.mono (by omega))
  obtain ⟨W6, hW6⟩ : ∃ W, W5.drew.setCells q2 12 (Ints.iv ms) = W := ⟨_, rfl⟩
  rw [hW6] at hcp6 H6 R6 b6
  clear hW6 c6 hcp5 x4
  go_region
  have l6 := over_length ms (over (over (noughts n) 0 zs) 4 cs) 12
  have hH : (stockL zs cs ms n).length = 21 := by unfold stockL; omega
  have ld7 := H6.load (by omega)
  have st7 := R6.store (by simp) (stockL zs cs ms n) hH
  have R7 := R6.setMany (stockL zs cs ms n) _ _ 0
  rw [over_all (by rw [hH]; simp)] at R7
  have b7 := b6.trans (setCells_below (show q0 ≤ q1 by omega) (Ints.iv (stockL zs cs ms n)) 0 W6)
  obtain ⟨W7, hW7⟩ : ∃ W, W6.setCells q1 0 (Ints.iv (stockL zs cs ms n)) = W := ⟨_, rfl⟩
  rw [hW7] at st7 R7 b7
  have e7 : over (over (over (noughts n) 0 zs) 4 cs) 12 ms = stockL zs cs ms n := rfl
  rw [e7] at ld7
  have ldR := R7.load hH
  go_wp2_with (first
    | (refine wpList_ld rfl 113 (.tmp 5) rfl (.pointer (some ⟨q2, 0, none⟩)) ?f3 _ ld7 ?f4; case f3 => rfl)
    | (refine wpList_st rfl 113 (.tmp 4) (.tmp 23) rfl (.pointer (some ⟨q1, 0, none⟩)) _ ?g3 ?g5 st7 ?g4; (case g3 => rfl); (case g5 => rfl)))
  refine bodyPost_ret (v := .agg (Ints.iv (stockL zs cs ms n)).toArray) ?_ rfl ?_
  · obtain ⟨dd, hd1, hd2⟩ := rowStock
    exact results_cell_row (fn := Try.f85) rfl _ W7 q1 113 (Ints.iv (stockL zs cs ms n)).toArray (0, 0) dd rfl R7 hd1 (by cases dd <;> simp_all) (by rw [List.size_toArray, Ints.iv_length, hH]; exact infoStock)
  · exact ⟨rfl, by rw [hq0]; exact b7⟩
end Ops
end Go.Proofs.Ytajbmokidcdfnaa
/- What the program's homesOf answers. -/
set_option linter.unusedVariables false
set_option linter.unusedSimpArgs false
namespace Go.Proofs.Ytajbmokidcdfnaa
open Go.RowKit
namespace Ops
open Bas Flat

theorem st_len (xs : List O4) : ∀ k, (stAt xs k).length ≤ k + 1 := by
  intro k
  induction k with
  | zero => simp [stAt]
  | succ k ih =>
    show (stepS (stAt xs k) k (xs.getD k z4)).length ≤ k + 1 + 1
    obtain ⟨o, ho⟩ : ∃ o, xs.getD k z4 = o := ⟨_, rfl⟩
    rw [ho]
    by_cases h8 : o.k = 8
    · rw [step8 h8]; simp; omega
    · by_cases h9 : o.k = 9
      · rw [step9 h9, List.length_tail]; omega
      · rw [step0 h8 h9]; omega
theorem topB_cons (x : Int) (r : List Int) : topB (x :: r) = ⟨x, r.length⟩ := by unfold topB; simp

/-- open blocks and homes, each in a block of its own -/
structure HSt (g : Nat) (w W : World) (vo vh : Value) (st : List Int) (hs : List B2) : Prop where
  O : OwnsB g W vo (stk st)
  H : OwnsB g W vh hs
  sep : ∀ q, vo.ownBlock = some q → vh.ownBlock ≠ some q
  low : g ≤ W.heap.size
  below : Below g w W
section
variable {g : Nat} {w W W' : World} {vo vh v' : Value} {st r : List Int} {hs : List B2}
theorem HSt.on (h : HSt g w W vo vh st hs) (b : Below W.heap.size W W') : HSt g w W' vo vh st hs :=
  { O := h.O.on b (Nat.le_refl _), H := h.H.on b (Nat.le_refl _), sep := h.sep, low := Nat.le_trans h.low b.size, below := h.below.trans (b.mono h.low) }
theorem HSt.begun (h : HSt g w W vo vh st hs) (st' : List Int) (O : OwnsB g W' v' (stk st')) (G : W.grownBy W' vo.ownBlock) (L : ∀ k, v'.ownBlock = some k → vo.ownBlock = some k ∨ W.heap.size ≤ k) : HSt g w W' v' vh st' hs :=
  { O := O
    H := h.H.grown G (fun k hk e => h.sep k e.symm hk)
    sep := fun q hq e => by
      rcases L q hq with h' | h'
      · exact h.sep q h' e
      · have := h.H.at q e; omega
    low := Nat.le_trans h.low G.size
    below := h.below.grown G h.low (fun k hk => (h.O.at k hk).1) }
theorem HSt.ended (h : HSt g w W vo vh st hs) (st' : List Int) (O : OwnsB g W v' (stk st')) (e : v'.ownBlock = vo.ownBlock) : HSt g w W v' vh st' hs :=
  { O := O, H := h.H, sep := fun q hq => h.sep q (e ▸ hq), low := h.low, below := h.below }
/-- append(homes, x) -/
theorem HSt.home (h : HSt g w W vo vh st hs) (x : B2) (hlen : hs.length ≤ 1000000) :
    ∃ v' W', (Builtin.append_ #[169, 169] 169 #[vh, .slice (some ⟨W.heap.size, 0, none⟩) 1 1]).run Try.prog (W.alloc (.cells #[.int .i64 x.b, .int .i64 x.d] 200)) = .ok v' W' ∧ HSt g w W' vo v' st (hs ++ [x]) ∧ W.grownBy W' vh.ownBlock := by
  obtain ⟨v', W', hr, hO, hG, hl⟩ := pushB rowB vh hs g W h.H h.low (by omega) x
  refine ⟨v', W', hr, { O := h.O.grown hG (fun k hk e => h.sep k hk e.symm), H := hO, sep := fun q hq e => ?_, low := Nat.le_trans h.low hG.size, below := h.below.grown hG h.low (fun k hk => (h.H.at k hk).1) }, hG⟩
  rcases hl q e with h' | h'
  · exact h.sep q hq h'
  · have := h.O.at q hq; omega
end

set_option maxRecDepth 100000 in
set_option maxHeartbeats 6400000 in
theorem homesC (v : Value) (xs : List O4) (B : Nat) (w : World) (hv : Sees4 B w v xs) (hB : B ≤ w.heap.size) (hlen : xs.length ≤ 1000) :
    Calls Try.prog 138 #[v] w fun e w' => ∃ v', e = .returned (.tuple #[v', .bool (closedGo xs 0)]) ∧ (closedGo xs 0 = true → OwnsB w.heap.size w' v' (homes xs (xs.length + 1))) ∧ Below w.heap.size w w' := by
  obtain ⟨a, cap, rfl⟩ := hv.form
  obtain ⟨n, hn⟩ : ∃ n, xs.length = n := ⟨_, rfl⟩
  rw [hn] at hv hlen ⊢
  obtain ⟨g, hg⟩ : ∃ g, w.heap.size = g := ⟨_, rfl⟩
  have cN := noneC w
  rw [hg] at hB cN ⊢
  have HE : Hid (closedGo xs 0 = closedGo (xs.drop 0) (((stAt xs 0).length : Int) - 1)) := rfl
  go_enter Try.func138, Try.ntmps138
  go_wp2_with fail
  refine cN.mono ?_
  rintro e w1 ⟨v1, rfl, O1, b1⟩
  clear cN
  obtain ⟨a1, c1, rfl⟩ := O1.form
  have hs1 : g ≤ w1.heap.size := by have := b1.size; omega
  obtain ⟨w2, b2, hs2, hmk, H2⟩ := makeRoom rowB (n + 1) (by omega) w1 w1.heap.size (Nat.le_refl _)
  rw [show ((n + 1 : Nat) : Int) = (n : Int) + 1 by omega] at hmk
  have P0 : HSt g w w2 (.slice a1 (stk [-1]).length c1) (.slice (some ⟨w1.heap.size, 0, none⟩) 0 (n + 1)) (stAt xs 0) (homes xs 0) :=
    { O := O1.on b2 (Nat.le_refl _), H := H2.mono hs1, sep := fun q hq e => by cases e; exact Nat.lt_irrefl _ (O1.at _ hq).2, low := by omega, below := b1.trans (b2.mono hs1) }
  clear O1 b1 b2 H2 hs2
  go_wp2
  go_loopw [4, 5, 15] (fun ov hv' iv wr => ∃ (k : Nat) (ao : Option Addr) (no co : Nat) (ah : Option Addr) (nh ch : Nat), ov = .slice ao no co ∧ hv' = .slice ah nh ch ∧ iv = .int .i64 k ∧ k ≤ n ∧ 1 ≤ (stAt xs k).length ∧ HSt g w wr (.slice ao no co) (.slice ah nh ch) (stAt xs k) (homes xs k) ∧ closedGo xs 0 = closedGo (xs.drop k) (((stAt xs k).length : Int) - 1)) (fun _ _ iv _ => n - (intOf iv).toNat)
  case atStart => exact ⟨0, _, _, _, _, _, _, rfl, rfl, rfl, Nat.zero_le _, by simp [stAt], P0, HE.out⟩
  case round =>
    obtain ⟨k, ao, no, co, ah, nh, ch, rfl, rfl, rfl, hk, hst, P, he⟩ := hrel
    clear P0 HE hmk
    have hsl := st_len xs k
    have hsz := P.low
    obtain ⟨x, r, hxr⟩ : ∃ x r, stAt xs k = x :: r := by
      match h : stAt xs k, hst with
      | x :: r, _ => exact ⟨x, r, rfl⟩
    have HH : Hid (homes xs (k + 1) = homes xs k ++ [⟨x, r.length⟩]) := by
      show _ = _
      rw [homes_succ, hxr, topB_cons]
    have HX : Hid (stAt xs k = x :: r) := hxr
    have hl := homes_length xs k
    rw [hxr] at P he hsl
    clear hst hxr
    by_cases hlt : k < n
    · obtain ⟨b, off, rfl, hbB, hc⟩ := (hv.on P.below hB).open (by omega)
      obtain ⟨e0, e1, e2, e3⟩ := seeI hc k (by omega)
      have i1 : (k : Int) < n := by omega
      have HN : Hid (stAt xs (k + 1) = stepS (stAt xs k) k xs[k]) := stAt_succ (by omega)
      rw [closedGo_step (by omega)] at he
      obtain ⟨o, ho⟩ : ∃ o, xs[k] = o := ⟨_, rfl⟩
      rw [ho] at e0 e1 e2 e3 he HN
      have HC := (show Hid _ from he)
      clear hc ho he
      have X0 := Blk.new wr #[.int .i64 o.k, .int .i64 o.a, .int .i64 o.b, .int .i64 o.c] 140
      have P1 := P.on (alloc_below wr (.cells #[.int .i64 o.k, .int .i64 o.a, .int .i64 o.b, .int .i64 o.c] 140))
      go_wp2_with fail
      refine (innerC _ x r _ _ P1.O.sees (Nat.le_refl _)).mono ?_
      rintro e w2 ⟨rfl, b2⟩
      have P2 := P1.on b2
      have X2 := X0.on b2 X0.lt
      obtain ⟨v3, w3, hr3, P3, G3⟩ := P2.home ⟨x, r.length⟩ (by omega)
      rw [← HH.out] at P3
      have X3 := X2.grown G3 (fun e => by have := P.H.at _ e.symm; omega)
      have hf1 := fun x y W => fieldB1 x y W
      obtain ⟨a3, c3, rfl⟩ := P3.H.form
      have x3 := X3.cell 0
      clear X0 P1 P2 X2 e0 e1 e2 e3 P
      rcases kindI o with ⟨h8, hD⟩ | ⟨h9, hD⟩ | ⟨h8, h9, hD⟩
      · rw [h8] at x3
        have HF : Hid (closedGo xs 0 = closedGo (xs.drop (k + 1)) (((stAt xs (k + 1)).length : Int) - 1)) := by
          show _ = _
          rw [HC.out, HN.out, step8 h8, HX.out, hD, decide_eq_true (by simp; omega), Bool.true_and]
          congr 1
          simp
        have HS : Hid (stAt xs (k + 1) = (k : Int) :: x :: r) := by show _ = _; rw [HN.out, step8 h8, HX.out]
        clear hD
        go_wp2_with (at_builtin; refine wpList_app _ rfl _ _ 169 rfl _ _ _ _ rfl rfl hr3 ?_)
        clear hr3
        refine (begunC _ (x :: r) k g w3 P3.O P3.low (by omega)).mono ?_
        rintro e w4 ⟨v4, rfl, O4', G4, L4⟩
        have P4 := P3.begun ((k : Int) :: x :: r) O4' G4 L4
        obtain ⟨a4, c4, rfl⟩ := O4'.form
        go_wp2
        go_roundw
        case rel => exact ⟨k + 1, _, _, _, _, _, _, rfl, rfl, by go_num, by omega, by rw [HS.out]; simp, by rw [HS.out]; exact P4, HF.out⟩
        case measure => simp [intOf]; omega
      · rw [h9] at x3
        have HS : Hid (stAt xs (k + 1) = r) := by show _ = _; rw [HN.out, step9 h9, HX.out]; rfl
        cases r with
        | nil =>
          have HF : Hid (false = closedGo xs 0) := by
            show _ = _
            rw [HC.out, hD]; rfl
          clear hD
          go_wp2_with (at_builtin; refine wpList_app _ rfl _ _ 169 rfl _ _ _ _ rfl rfl hr3 ?_)
          clear hr3
          refine (innerC _ x [] _ w3 P3.O.sees (Nat.le_refl _)).mono ?_
          rintro e w4 ⟨rfl, b4⟩
          have P4 := P3.on b4
          go_wp2
          go_ret2
          exact ⟨.slice none 0 0, (by show Ending.returned (.tuple #[.slice none 0 0, .bool false]) = _; rw [← HF.out]), (fun h => by rw [← HF.out] at h; cases h), P4.below⟩
        | cons y r =>
          have HF : Hid (closedGo xs 0 = closedGo (xs.drop (k + 1)) (((stAt xs (k + 1)).length : Int) - 1)) := by
            show _ = _
            rw [HC.out, HS.out, hD, decide_eq_true (by simp; omega), Bool.true_and]
            congr 1
            simp; omega
          have dn : (((y :: r).length : Int) == 0) = false := by simp; omega
          clear hD
          go_wp2_with (at_builtin; refine wpList_app _ rfl _ _ 169 rfl _ _ _ _ rfl rfl hr3 ?_)
          clear hr3
          refine (innerC _ x (y :: r) _ w3 P3.O.sees (Nat.le_refl _)).mono ?_
          rintro e w4 ⟨rfl, b4⟩
          have P4 := P3.on b4
          go_wp2_with fail
          refine (endedC _ x (y :: r) g w4 P4.O).mono ?_
          rintro e w5 ⟨v5, rfl, O5, e5, rfl⟩
          have P5 := P4.ended (y :: r) O5 e5
          obtain ⟨a5, c5, rfl⟩ := O5.form
          go_wp2
          go_roundw
          case rel => exact ⟨k + 1, _, _, _, _, _, _, rfl, rfl, by go_num, by omega, by rw [HS.out]; simp, by rw [HS.out]; exact P5, HF.out⟩
          case measure => simp [intOf]; omega
      · have HS : Hid (stAt xs (k + 1) = x :: r) := by show _ = _; rw [HN.out, step0 (by simpa using h8) (by simpa using h9), HX.out]
        have HF : Hid (closedGo xs 0 = closedGo (xs.drop (k + 1)) (((stAt xs (k + 1)).length : Int) - 1)) := by
          show _ = _
          rw [HC.out, HS.out, hD, decide_eq_true (by simp only [List.length_cons]; omega), Bool.true_and, Int.add_zero]
        clear hD
        go_wp2_with (at_builtin; refine wpList_app _ rfl _ _ 169 rfl _ _ _ _ rfl rfl hr3 ?_)
        clear hr3
        go_roundw
        case rel => exact ⟨k + 1, _, _, _, _, _, _, rfl, rfl, by go_num, by omega, by rw [HS.out]; simp, by rw [HS.out]; exact P3, HF.out⟩
        case measure => simp [intOf]; omega
    · obtain rfl : k = n := by omega
      have i1 : ¬ (k : Int) < k := by omega
      have HF : Hid (((r.length : Int) == 0) = closedGo xs 0) := by
        show _ = _
        rw [he, List.drop_of_length_le (by omega)]
        show _ = (((((x :: r).length : Nat) : Int) - 1) == 0)
        congr 1
        simp
      clear he i1
      go_wp2_with fail
      refine (innerC _ x r _ _ P.O.sees (Nat.le_refl _)).mono ?_
      rintro e w2 ⟨rfl, b2⟩
      have P2 := P.on b2
      obtain ⟨v3, w3, hr3, P3, G3⟩ := P2.home ⟨x, r.length⟩ (by omega)
      rw [← HH.out] at P3
      have hf1 := fun x y W => fieldB1 x y W
      go_wp2_with (at_builtin; refine wpList_app _ rfl _ _ 169 rfl _ _ _ _ rfl rfl hr3 ?_)
      clear hr3
      refine (innerC _ x r _ w3 P3.O.sees (Nat.le_refl _)).mono ?_
      rintro e w4 ⟨rfl, b4⟩
      have P4 := P3.on b4
      go_wp2
      go_ret2
      exact ⟨v3, (by show Ending.returned (.tuple #[v3, .bool ((r.length : Int) == 0)]) = _; rw [← HF.out]), (fun _ => P4.H), P4.below⟩
end Ops
end Go.Proofs.Ytajbmokidcdfnaa
/- What the program's skipsStayHome and forksOnceOutside answer. -/
set_option linter.unusedVariables false
set_option linter.unusedSimpArgs false
namespace Go.Proofs.Ytajbmokidcdfnaa
open Go.RowKit
namespace Ops
open Bas Flat

set_option maxRecDepth 100000 in
theorem eqB2 (x y : B2) (W : World) : (Op.equalIn 10000 200 (.agg #[.int .i64 x.b, .int .i64 x.d]) (.agg #[.int .i64 y.b, .int .i64 y.d])).run Try.prog W = .ok (sameB x y) W := by
  have hu : Try.prog.underlying 200 = some (.struct (Try.prog.fieldsOf 200)) := by kernel_rfl
  have hp : Try.prog.stoodInHeld 200 = false := by kernel_rfl
  rw [run_equalIn_agg (d := 9999) (ht := hu) (hp := hp)]
  have h1 := hu.symm.trans Try.underlying200
  simp only [Option.some.injEq, TypeDesc.struct.injEq] at h1
  rw [h1]
  obtain ⟨x0, x1⟩ := x
  obtain ⟨y0, y1⟩ := y
  unfold sameB
  by_cases h0 : x0 = y0 <;> by_cases h1 : x1 = y1 <;> simp [Op.eqFields, go_sem, h0, h1]

theorem bdrewN {B : Nat} {a w : World} (h : Below B a w) (n : Nat) : Below B a (w.drewN n) := h.trans ⟨rfl, rfl, rfl, Nat.le_refl _, fun _ _ => rfl⟩
theorem ok_skipI {x : O4} (h : okOp x = true) (h7 : x.k = 7) : 1 ≤ x.b ∧ x.b ≤ 20 := by
  unfold okOp at h
  rw [h7] at h
  have h' : (inn 0 3 x.a && inn 1 20 x.b && inn 0 0 x.c) = true := h
  rw [Bool.and_eq_true, Bool.and_eq_true] at h'
  have := h'.1.2
  unfold inn at this
  simpa using this
theorem skip_noI {xs : List O4} {i t : Nat} (hi : i < xs.length) (ht : xs[i].b = (t : Int)) (h : ¬ i + 1 + t ≤ xs.length) : skipOk xs i = false := by
  unfold skipOk
  have hg : xs.getD i z4 = xs[i] := by simp [List.getD, hi]
  rw [hg, ht, decide_eq_false (by omega), Bool.false_and]

set_option maxRecDepth 100000 in
set_option maxHeartbeats 6400000 in
theorem skipsC (v vh : Value) (xs : List O4) (B : Nat) (w : World) (hv : Sees4 B w v xs) (hh : Sees bEl B w vh (homes xs (xs.length + 1))) (hB : B ≤ w.heap.size) (hlen : xs.length ≤ 1000) (hc : closedGo xs 0 = true) (hok : ∀ j (h : j < xs.length), okOp xs[j] = true) :
    Calls Try.prog 139 #[v, vh] w fun e w' => e = .returned (.bool (skipsGo xs xs 0)) ∧ Below w.heap.size w w' := by
  obtain ⟨a, cap, rfl⟩ := hv.form
  obtain ⟨ah, ch, rfl⟩ := hh.form
  obtain ⟨n, hn⟩ : ∃ n, xs.length = n := ⟨_, rfl⟩
  rw [homes_length] at hh ⊢
  rw [hn] at hv hh hlen ⊢
  obtain ⟨n1, hn1⟩ : ∃ n1, n + 1 = n1 := ⟨_, rfl⟩
  rw [hn1] at hh ⊢
  obtain ⟨g, hg⟩ : ∃ g, w.heap.size = g := ⟨_, rfl⟩
  rw [hg] at hB ⊢
  have hb0 : Below g w w := Below.refl _ _
  have HC : Hid (closedGo xs 0 = true) := hc
  have HO := (show Hid _ from hok)
  have HE : Hid (skipsGo xs xs 0 = skipsGo xs (xs.drop 0) 0) := rfl
  clear hc hok
  go_enter Try.func139, Try.ntmps139
  go_wp2
  go_loopw [10] (fun iv wr => ∃ k : Nat, k ≤ n ∧ iv = .int .i64 k ∧ skipsGo xs xs 0 = skipsGo xs (xs.drop k) k ∧ Below g w wr) (fun iv _ => n - (intOf iv).toNat)
  case atStart => exact ⟨0, Nat.zero_le _, rfl, HE.out, hb0⟩
  case round =>
    obtain ⟨k, hk, rfl, he, hb⟩ := hrel
    clear HE hb0
    have hsz : g ≤ wr.heap.size := by have := hb.size; omega
    by_cases hlt : k < n
    · obtain ⟨b, off, rfl, hbB, hc⟩ := (hv.on hb hB).open (by omega)
      obtain ⟨b', off', rfl, hbB', hc'⟩ := (hh.on hb hB).open (by rw [homes_length]; omega)
      obtain ⟨e0, e1, e2, e3⟩ := seeI hc k (by omega)
      have i1 : (k : Int) < n := by omega
      rw [skipsGo_step (by omega)] at he
      have hx7 := HO.out k (by omega)
      have HS := (show Hid _ from (fun (h7 : xs[k].k = 7) (t : Nat) (ht : xs[k].b = (t : Int)) (hto : k + 1 + t ≤ xs.length) => skip_home HC.out (by omega) h7 ht hto))
      have HN := (show Hid _ from (fun (t : Nat) (ht : xs[k].b = (t : Int)) (hto : ¬ k + 1 + t ≤ xs.length) => skip_noI (xs := xs) (i := k) (by omega) ht hto))
      obtain ⟨o, ho⟩ : ∃ o, xs[k] = o := ⟨_, rfl⟩
      rw [ho] at e0 e1 e2 e3 he hx7 HS HN
      clear ho hc
      have X0 := Blk.new wr #[.int .i64 o.k, .int .i64 o.a, .int .i64 o.b, .int .i64 o.c] 140
      by_cases h7 : o.k = 7
      · obtain ⟨b1, b2⟩ := ok_skipI hx7 h7
        obtain ⟨t, ht⟩ := Int.eq_ofNat_of_zero_le (show 0 ≤ o.b by omega)
        have d7 : (!(o.k == 7) || skipOk xs k) = skipOk xs k := by simp [h7]
        rw [d7] at he
        obtain ⟨m, hm⟩ : ∃ m, k + 1 + t = m := ⟨_, rfl⟩
        have hmI : (k : Int) + 1 + t = m := by omega
        have hmU : (m : Int) ≤ 2000 := by omega
        by_cases hto : m ≤ n
        · have HK : Hid (skipOk xs k = sameB (topB (stAt xs m)) (topB (stAt xs k))) := by rw [← hm]; exact HS.out h7 t ht (by omega)
          have s1 := hc' m (by rw [homes_length]; omega)
          have s2 := hc' k (by rw [homes_length]; omega)
          rw [homes_at] at s1 s2
          obtain ⟨f0, f1⟩ := atB s1
          obtain ⟨g0, g1⟩ := atB s2
          change wr.cell? ⟨b', off' + m * 2, none⟩ = _ at f0
          change wr.cell? ⟨b', off' + m * 2 + 1, none⟩ = _ at f1
          change wr.cell? ⟨b', off' + k * 2, none⟩ = _ at g0
          change wr.cell? ⟨b', off' + k * 2 + 1, none⟩ = _ at g1
          obtain ⟨p, hp⟩ : ∃ p, topB (stAt xs m) = p := ⟨_, rfl⟩
          obtain ⟨q, hq⟩ : ∃ q, topB (stAt xs k) = q := ⟨_, rfl⟩
          rw [hp] at f0 f1 HK
          rw [hq] at g0 g1 HK
          have hE := fun W => eqB2 p q W
          rw [h7, ht] at X0
          rw [h7] at e0
          rw [ht] at e2
          have bA := alloc_below wr (.cells #[.int .i64 7, .int .i64 o.a, .int .i64 t, .int .i64 o.c] 140)
          obtain ⟨hcl, -⟩ := bcell bA
          have f0 := (hcl b' (off' + m * 2) (by omega)).trans f0
          have f1 := (hcl b' (off' + m * 2 + 1) (by omega)).trans f1
          have g0 := (hcl b' (off' + k * 2) (by omega)).trans g0
          have g1 := (hcl b' (off' + k * 2 + 1) (by omega)).trans g1
          have x0 := X0.cell 0
          have x2 := X0.cell 2
          obtain ⟨s, hs⟩ : ∃ s, sameB p q = s := ⟨_, rfl⟩
          rw [hs] at hE HK
          rw [HK.out] at he
          have HF := (show Hid _ from he)
          have i3 : (m : Int) < n1 := by omega
          have i4 : (k : Int) < n1 := by omega
          have i5 : (0 : Int) ≤ m := by omega
          have i6 : (0 : Int) ≤ k := by omega
          have d1 : decide (n < m) = false := decide_eq_false (by omega)
          clear he hp hq hs s1 s2 hc' HS HN d7 hcl hm HK h7 ht b1 b2 hto hx7 HO HC
          cases s
          · go_wp2_with fail
            go_quiet (fail)
            go_wp2
            go_ret
            exact ⟨retB (by rw [HF.out, Bool.false_and]), bdrewN (hb.trans (bA.mono hsz)) _⟩
          · go_wp2_with fail
            go_quiet (fail)
            go_wp2
            go_roundw
            case rel => exact ⟨k + 1, by omega, by go_num, by rw [HF.out, Bool.true_and], bdrewN (hb.trans (bA.mono hsz)) _⟩
            case measure => simp [intOf]; omega
        · have HF : Hid (false = skipsGo xs xs 0) := by
            show _ = _
            rw [he, HN.out t ht (by omega), Bool.false_and]
          have d1 : decide (n < m) = true := decide_eq_true (by omega)
          rw [h7, ht] at X0
          rw [h7] at e0
          rw [ht] at e2
          have x0 := X0.cell 0
          have x2 := X0.cell 2
          clear he hc' HS HN d7 hm h7 ht b1 b2 hto hx7 HO HC
          go_wp2_with fail
          go_quiet (fail)
          go_wp2
          go_ret
          exact ⟨retB HF.out, bdrewN (hb.trans ((alloc_below wr _).mono hsz)) _⟩
      · have HF : Hid (skipsGo xs xs 0 = skipsGo xs (xs.drop (k + 1)) (k + 1)) := by
          show _ = _
          rw [he]; simp [h7]
        have d7 : (o.k == 7) = false := by simp [h7]
        clear he h7 HS HN hc' hx7
        go_wp2
        go_roundw
        case rel => exact ⟨k + 1, by omega, by go_num, HF.out, hb.alloc hsz _⟩
        case measure => simp [intOf]; omega
    · obtain rfl : k = n := by omega
      have HF : Hid (true = skipsGo xs xs 0) := by
        show _ = _
        rw [he, List.drop_of_length_le (by omega)]; rfl
      have i1 : ¬ (k : Int) < k := by omega
      clear he
      go_wp2
      go_ret
      exact ⟨retB HF.out, hb⟩

set_option maxRecDepth 100000 in
set_option maxHeartbeats 6400000 in
theorem forksC (v vh : Value) (xs : List O4) (B : Nat) (w : World) (hv : Sees4 B w v xs) (hh : Sees bEl B w vh (homes xs (xs.length + 1))) (hB : B ≤ w.heap.size) (hlen : xs.length ≤ 1000) (hc : closedGo xs 0 = true) :
    Calls Try.prog 140 #[v, vh] w fun e w' => e = .returned (.bool (forksGo xs 0 0)) ∧ Below w.heap.size w w' := by
  obtain ⟨a, cap, rfl⟩ := hv.form
  obtain ⟨ah, ch, rfl⟩ := hh.form
  obtain ⟨n, hn⟩ : ∃ n, xs.length = n := ⟨_, rfl⟩
  rw [homes_length] at hh ⊢
  rw [hn] at hv hh hlen ⊢
  obtain ⟨n1, hn1⟩ : ∃ n1, n + 1 = n1 := ⟨_, rfl⟩
  rw [hn1] at hh ⊢
  obtain ⟨g, hg⟩ : ∃ g, w.heap.size = g := ⟨_, rfl⟩
  rw [hg] at hB ⊢
  have hb0 : Below g w w := Below.refl _ _
  have HC := (show Hid _ from (fun k (h : k ≤ xs.length) => (closed_at hc k h).1))
  have HE : Hid (forksGo xs 0 0 = forksGo (xs.drop 0) (((stAt xs 0).length : Int) - 1) 0) := rfl
  clear hc
  go_enter Try.func140, Try.ntmps140
  go_wp2
  go_loopw [5, 10] (fun fv' iv wr => ∃ k f : Nat, k ≤ n ∧ f ≤ k ∧ fv' = .int .i64 f ∧ iv = .int .i64 k ∧ forksGo xs 0 0 = forksGo (xs.drop k) (((stAt xs k).length : Int) - 1) f ∧ Below g w wr) (fun _ iv _ => n - (intOf iv).toNat)
  case atStart => exact ⟨0, 0, Nat.zero_le _, Nat.le_refl _, rfl, rfl, HE.out, hb0⟩
  case round =>
    obtain ⟨k, f, hk, hf, rfl, rfl, he, hb⟩ := hrel
    clear HE hb0
    have hsz : g ≤ wr.heap.size := by have := hb.size; omega
    by_cases hlt : k < n
    · obtain ⟨b, off, rfl, hbB, hc⟩ := (hv.on hb hB).open (by omega)
      obtain ⟨b', off', rfl, hbB', hc'⟩ := (hh.on hb hB).open (by rw [homes_length]; omega)
      obtain ⟨e0, e1, e2, e3⟩ := seeI hc k (by omega)
      have i1 : (k : Int) < n := by omega
      rw [forksGo_step (by omega)] at he
      have h1 := HC.out k (by omega)
      have hnx : (((stAt xs (k + 1)).length : Int) - 1) = (((stAt xs k).length : Int) - 1) + delta xs[k] := by
        rw [stAt_succ (by omega), step_len h1]; omega
      rw [← hnx] at he
      have s2 := hc' k (by rw [homes_length]; omega)
      rw [homes_at] at s2
      obtain ⟨-, g1⟩ := atB s2
      change wr.cell? ⟨b', off' + k * 2 + 1, none⟩ = some (.int .i64 (((stAt xs k).length : Int) - 1)) at g1
      obtain ⟨d, hd⟩ : ∃ d, (((stAt xs k).length : Int) - 1) = d := ⟨_, rfl⟩
      have hd0 : 0 ≤ d := by omega
      rw [hd] at g1 he
      obtain ⟨o, ho⟩ : ∃ o, xs[k] = o := ⟨_, rfl⟩
      rw [ho] at e0 e1 e2 e3 he
      clear ho hc hc' hnx hd s2 h1
      by_cases h11 : o.k = 11
      · rw [h11] at e0
        have X0 := Blk.new wr #[.int .i64 11, .int .i64 o.a, .int .i64 o.b, .int .i64 o.c] 140
        have bA := alloc_below wr (.cells #[.int .i64 11, .int .i64 o.a, .int .i64 o.b, .int .i64 o.c] 140)
        have x0 := X0.cell 0
        obtain ⟨hcl, -⟩ := bcell bA
        have g1 := (hcl b' (off' + k * 2 + 1) (by omega)).trans g1
        have i4 : (k : Int) < n1 := by omega
        have i6 : (0 : Int) ≤ k := by omega
        have he' : forksGo xs 0 0 = ((decide (d ≤ 0) && decide (f = 0)) && forksGo (xs.drop (k + 1)) (((stAt xs (k + 1)).length : Int) - 1) (f + 1)) := by
          rw [he]; simp [h11]
        clear he hcl h11
        by_cases hf0 : f = 0
        · subst hf0
          by_cases hd1 : d = 0
          · subst hd1
            have HF : Hid (forksGo xs 0 0 = forksGo (xs.drop (k + 1)) (((stAt xs (k + 1)).length : Int) - 1) 1) := by
              show _ = _
              rw [he']; simp
            clear he'
            go_wp2
            go_roundw
            case rel => exact ⟨k + 1, 1, by omega, by omega, rfl, by go_num, HF.out, hb.trans (bA.mono hsz)⟩
            case measure => simp [intOf]; omega
          · have HF : Hid (false = forksGo xs 0 0) := by
              show _ = _
              rw [he', decide_eq_false (by omega)]; simp
            have dd : (d != 0) = true := by simp [hd1]
            clear he' hd1
            go_wp2
            go_ret
            exact ⟨retB HF.out, hb.trans (bA.mono hsz)⟩
        · have HF : Hid (false = forksGo xs 0 0) := by
            show _ = _
            rw [he', decide_eq_false hf0]; simp
          have hf1 : (1 : Int) < (f : Int) + 1 := by omega
          clear he'
          go_wp2
          go_ret
          exact ⟨retB HF.out, hb.trans (bA.mono hsz)⟩
      · have HF : Hid (forksGo xs 0 0 = forksGo (xs.drop (k + 1)) (((stAt xs (k + 1)).length : Int) - 1) f) := by
          show _ = _
          rw [he]; simp [h11]
        have d11 : (o.k == 11) = false := by simp [h11]
        clear he h11
        go_wp2
        go_roundw
        case rel => exact ⟨k + 1, f, by omega, by omega, rfl, by go_num, HF.out, hb.alloc hsz _⟩
        case measure => simp [intOf]; omega
    · obtain rfl : k = n := by omega
      have HF : Hid (true = forksGo xs 0 0) := by
        show _ = _
        rw [he, List.drop_of_length_le (by omega)]; rfl
      have i1 : ¬ (k : Int) < k := by omega
      clear he
      go_wp2
      go_ret
      exact ⟨retB HF.out, hb⟩
end Ops
end Go.Proofs.Ytajbmokidcdfnaa
/- The laws of OpOk and Touches. -/
namespace Go.Proofs.Ytajbmokidcdfnaa
open Go.RowKit
namespace Ops
open Bas

set_option maxRecDepth 100000 in
set_option maxHeartbeats 800000 in
theorem toOpC (k a b c : Int) (w : World) : Calls Try.prog 126 #[opV k a b c] w fun e w' => e = .returned (opV k a b c) ∧ Below w.heap.size w w' := by
  show Calls _ _ #[.agg #[.int .i64 k, .int .i64 a, .int .i64 b, .int .i64 c]] _ (fun e w' => e = .returned (.agg #[.int .i64 k, .int .i64 a, .int .i64 b, .int .i64 c]) ∧ _)
  go_enter Try.func126, Try.ntmps126
  go_wp2
  refine bodyPost_ret (v := .agg #[.int .i64 k, .int .i64 a, .int .i64 b, .int .i64 c]) (by simp [results, Try.results126, go_sem]) rfl ⟨rfl, ?_⟩
  exact (((Below.refl _ _).alloc (Nat.le_refl _) _).alloc (by simp) _).alloc (by simp; omega) _

/-- what Touches says -/
def touches (k a b c : Int) : Int := if opOk k a b c = true then (if k = 5 ∨ k = 6 then 1 else if k = 12 ∨ k = 13 ∨ k = 14 ∨ k = 15 ∨ k = 16 then 2 else 0) else 0

set_option maxRecDepth 100000 in
set_option maxHeartbeats 1600000 in
theorem touchImpl (k a b c : Int) (w : World) : Calls Try.prog 141 #[opV k a b c] w fun e w' => e = .returned (.int .i64 (touches k a b c)) ∧ Below w.heap.size w w' := by
  have c0 := implC k a b c (w.alloc (.cells #[.int .i64 k, .int .i64 a, .int .i64 b, .int .i64 c] 140))
  have b0 := alloc_below w (.cells #[.int .i64 k, .int .i64 a, .int .i64 b, .int .i64 c] 140)
  have O0 := Blk.new w #[.int .i64 k, .int .i64 a, .int .i64 b, .int .i64 c] 140
  unfold touches
  obtain ⟨p, hp⟩ : ∃ p, opOk k a b c = p := ⟨_, rfl⟩
  rw [hp] at c0 ⊢
  clear hp
  unfold opV at c0 ⊢
  cases p
  · go_enter Try.func141, Try.ntmps141
    go_wp2_with fail
    refine c0.mono ?_
    rintro e w1 ⟨rfl, b1⟩
    go_wp2
    go_ret
    exact ⟨rfl, b0.trans (b1.mono b0.size)⟩
  · by_cases hk : k = 5 ∨ k = 6 ∨ k = 12 ∨ k = 13 ∨ k = 14 ∨ k = 15 ∨ k = 16
    · rcases hk with rfl | rfl | rfl | rfl | rfl | rfl | rfl
      all_goals
        go_enter Try.func141, Try.ntmps141
        go_wp2_with fail
        refine c0.mono ?_
        rintro e w1 ⟨rfl, b1⟩
        have k0 := (O0.on b1 O0.lt).cell 0
        go_wp2
        go_ret
        exact ⟨rfl, b0.trans (b1.mono b0.size)⟩
    · have e0 : (if (k = 5 ∨ k = 6) then (1 : Int) else if (k = 12 ∨ k = 13 ∨ k = 14 ∨ k = 15 ∨ k = 16) then 2 else 0) = 0 := by rw [if_neg (by omega), if_neg (by omega)]
      rw [e0]
      have d5 : (k == 5) = false := by simp; omega
      have d6 : (k == 6) = false := by simp; omega
      have d12 : (k == 12) = false := by simp; omega
      have d13 : (k == 13) = false := by simp; omega
      have d14 : (k == 14) = false := by simp; omega
      have d15 : (k == 15) = false := by simp; omega
      have d16 : (k == 16) = false := by simp; omega
      clear hk e0
      go_enter Try.func141, Try.ntmps141
      go_wp2_with fail
      refine c0.mono ?_
      rintro e w1 ⟨rfl, b1⟩
      have k0 := (O0.on b1 O0.lt).cell 0
      go_wp2
      go_ret
      exact ⟨rfl, b0.trans (b1.mono b0.size)⟩

set_option maxRecDepth 100000 in
set_option maxHeartbeats 1600000 in
theorem touchSpec (k a b c : Int) (w : World) : Calls Try.prog 147 #[opV k a b c] w fun e w' => e = .returned (.int .i64 (touches k a b c)) ∧ Below w.heap.size w w' := by
  have c0 := specC k a b c (w.alloc (.cells #[.int .i64 k, .int .i64 a, .int .i64 b, .int .i64 c] 140))
  have b0 := alloc_below w (.cells #[.int .i64 k, .int .i64 a, .int .i64 b, .int .i64 c] 140)
  have O0 := Blk.new w #[.int .i64 k, .int .i64 a, .int .i64 b, .int .i64 c] 140
  unfold touches
  obtain ⟨p, hp⟩ : ∃ p, opOk k a b c = p := ⟨_, rfl⟩
  rw [hp] at c0 ⊢
  clear hp
  unfold opV at c0 ⊢
  cases p
  · go_enter Try.func147, Try.ntmps147
    go_wp2_with fail
    refine c0.mono ?_
    rintro e w1 ⟨rfl, b1⟩
    go_wp2
    go_ret
    exact ⟨rfl, b0.trans (b1.mono b0.size)⟩
  · by_cases hk : k = 5 ∨ k = 6 ∨ k = 12 ∨ k = 13 ∨ k = 14 ∨ k = 15 ∨ k = 16
    · rcases hk with rfl | rfl | rfl | rfl | rfl | rfl | rfl
      all_goals
        go_enter Try.func147, Try.ntmps147
        go_wp2_with fail
        refine c0.mono ?_
        rintro e w1 ⟨rfl, b1⟩
        have k0 := (O0.on b1 O0.lt).cell 0
        go_wp2
        go_ret
        exact ⟨rfl, b0.trans (b1.mono b0.size)⟩
    · have e0 : (if (k = 5 ∨ k = 6) then (1 : Int) else if (k = 12 ∨ k = 13 ∨ k = 14 ∨ k = 15 ∨ k = 16) then 2 else 0) = 0 := by rw [if_neg (by omega), if_neg (by omega)]
      rw [e0]
      have d5 : (k == 5) = false := by simp; omega
      have d6 : (k == 6) = false := by simp; omega
      have d12 : (k == 12) = false := by simp; omega
      have d13 : (k == 13) = false := by simp; omega
      have d14 : (k == 14) = false := by simp; omega
      have d15 : (k == 15) = false := by simp; omega
      have d16 : (k == 16) = false := by simp; omega
      clear hk e0
      go_enter Try.func147, Try.ntmps147
      go_wp2_with fail
      refine c0.mono ?_
      rintro e w1 ⟨rfl, b1⟩
      have k0 := (O0.on b1 O0.lt).cell 0
      go_wp2
      go_ret
      exact ⟨rfl, b0.trans (b1.mono b0.size)⟩

end Ops
end Go.Proofs.Ytajbmokidcdfnaa
/- What the program's CodeOk and KidOk answer. -/
set_option linter.unusedVariables false
set_option linter.unusedSimpArgs false
namespace Go.Proofs.Ytajbmokidcdfnaa
open Go.RowKit
namespace Ops
open Bas Flat

set_option maxRecDepth 100000 in
set_option maxHeartbeats 6400000 in
theorem codeImpl (v : Value) (xs : List O4) (B : Nat) (w : World) (hv : Sees4 B w v xs) (hB : B ≤ w.heap.size) (hlen : xs.length ≤ 1048576) :
    Calls Try.prog 115 #[v] w fun e w' => e = .returned (.bool (codeOk xs)) ∧ Below w.heap.size w w' := by
  obtain ⟨a, cap, rfl⟩ := hv.form
  obtain ⟨n, hn⟩ : ∃ n, xs.length = n := ⟨_, rfl⟩
  rw [hn] at hv hlen ⊢
  by_cases h24 : n ≤ 24
  · have h24' : ¬ (24 : Int) < n := by omega
    obtain ⟨g, hg⟩ : ∃ g, w.heap.size = g := ⟨_, rfl⟩
    rw [hg] at hB ⊢
    have hb0 : Below g w w := Below.refl _ _
    go_enter Try.func115, Try.ntmps115
    go_wp2
    go_loopw [12] (fun i' wr => ∃ k : Nat, k ≤ n ∧ i' = .int .i64 k ∧ (∀ j (h : j < xs.length), j < k → okOp xs[j] = true) ∧ Below g w wr) (fun i' _ => n - (intOf i').toNat)
    case atStart => exact ⟨0, Nat.zero_le _, rfl, fun j _ h => by omega, hb0⟩
    case round =>
      obtain ⟨k, hk, rfl, hall, hb⟩ := hrel
      clear hb0
      have hsz : g ≤ wr.heap.size := by have := hb.size; omega
      have HA := (show Hid _ from hall)
      clear hall
      by_cases hlt : k < n
      · obtain ⟨b, off, rfl, hbB, hc⟩ := (hv.on hb hB).open (by omega)
        obtain ⟨a0, a1, a2, a3⟩ := seeI hc k (by omega)
        have i1 : (k : Int) < n := by omega
        have hkx : k < xs.length := by omega
        obtain ⟨p, hp⟩ : ∃ p, okOp xs[k] = p := ⟨_, rfl⟩
        have HP : Hid (okOp xs[k] = p) := hp
        obtain ⟨x, hx⟩ : ∃ x, xs[k] = x := ⟨_, rfl⟩
        rw [hx] at a0 a1 a2 a3 hp
        have bA := alloc_below wr (.cells #[.int .i64 x.k, .int .i64 x.a, .int .i64 x.b, .int .i64 x.c] 140)
        have cO := implC x.k x.a x.b x.c (wr.alloc (.cells #[.int .i64 x.k, .int .i64 x.a, .int .i64 x.b, .int .i64 x.c] 140))
        have eV : opV x.k x.a x.b x.c = .agg #[.int .i64 x.k, .int .i64 x.a, .int .i64 x.b, .int .i64 x.c] := rfl
        have eO : opOk x.k x.a x.b x.c = okOp x := rfl
        rw [eV, eO, hp] at cO
        clear hp hx eV eO hc
        cases p
        · have HF : Hid (false = codeOk xs) := by
            show _ = _
            exact (code_bad1 (all_no hkx HP.out)).symm
          go_wp2_with fail
          refine cO.mono ?_
          rintro e w2 ⟨rfl, hb2⟩
          clear cO
          go_wp2
          go_ret
          exact ⟨retB HF.out, hb.trans ((bA.trans (hb2.mono bA.size)).mono hsz)⟩
        · have HF : Hid (∀ j (h : j < xs.length), j < k + 1 → okOp xs[j] = true) := fun j hj hjk => by
            rcases Nat.lt_succ_iff_lt_or_eq.1 hjk with h | h
            · exact HA.out j hj h
            · subst h; exact HP.out
          go_wp2_with fail
          refine cO.mono ?_
          rintro e w2 ⟨rfl, hb2⟩
          clear cO
          go_wp2
          go_roundw
          case rel => exact ⟨k + 1, by omega, by go_num, HF.out, hb.trans ((bA.trans (hb2.mono bA.size)).mono hsz)⟩
          case measure => simp [intOf]; omega
      · obtain rfl : k = n := by omega
        have i1 : ¬ (k : Int) < k := by omega
        have HO : Hid (∀ j (h : j < xs.length), okOp xs[j] = true) := fun j hj => HA.out j hj (by omega)
        have cH := homesC _ xs B wr (hv.on hb hB) (by omega) (by omega)
        obtain ⟨p, hp⟩ : ∃ p, closedGo xs 0 = p := ⟨_, rfl⟩
        have HP : Hid (closedGo xs 0 = p) := hp
        rw [hp, hn] at cH
        clear hp HA
        cases p
        · have HF : Hid (false = codeOk xs) := (code_bad2 HP.out).symm
          go_wp2_with fail
          refine cH.mono ?_
          rintro e w2 ⟨v2, rfl, -, b2⟩
          clear cH
          go_wp2
          go_ret
          exact ⟨retB HF.out, hb.trans (b2.mono hsz)⟩
        · go_wp2_with fail
          refine cH.mono ?_
          rintro e w2 ⟨v2, rfl, O2, b2⟩
          clear cH
          have O2 := O2 (by first | trivial | rfl)
          have bb2 := hb.trans (b2.mono hsz)
          have hz2 : g ≤ w2.heap.size := by have := bb2.size; omega
          have hv2 := (hv.on bb2 hB).up (show B ≤ w2.heap.size by omega)
          have s2 := O2.sees
          rw [← hn] at s2
          have cS := skipsC _ v2 xs w2.heap.size w2 hv2 s2 (Nat.le_refl _) (by omega) HP.out HO.out
          obtain ⟨p, hp⟩ : ∃ p, skipsGo xs xs 0 = p := ⟨_, rfl⟩
          have HS : Hid (skipsGo xs xs 0 = p) := hp
          rw [hp] at cS
          clear hp
          go_wp2_with fail
          refine cS.mono ?_
          rintro e w3 ⟨rfl, b3⟩
          clear cS
          have bb3 := bb2.trans (b3.mono hz2)
          cases p
          · have HF : Hid (false = codeOk xs) := (code_bad3 HS.out).symm
            go_wp2
            go_ret
            exact ⟨retB HF.out, bb3⟩
          · have hz3 : g ≤ w3.heap.size := by have := bb3.size; omega
            have hv3 := (hv.on bb3 hB).up (show B ≤ w3.heap.size by omega)
            have s3 := (O2.on b3 (Nat.le_refl _)).sees
            rw [← hn] at s3
            have cF := forksC _ v2 xs w3.heap.size w3 hv3 s3 (Nat.le_refl _) (by omega) HP.out
            have HF : Hid (forksGo xs 0 0 = codeOk xs) := (code_all (by omega) (all_yes HO.out) HP.out HS.out).symm
            go_wp2_with fail
            refine cF.mono ?_
            rintro e w4 ⟨rfl, b4⟩
            clear cF
            go_wp2
            go_ret
            exact ⟨retB HF.out, bb3.trans (b4.mono hz3)⟩
  · have HF : Hid (false = codeOk xs) := by
      show _ = _
      unfold codeOk
      rw [decide_eq_false (show ¬ xs.length ≤ 24 by omega), Bool.false_and]
    have h24' : (24 : Int) < n := by omega
    go_enter Try.func115, Try.ntmps115
    go_wp2
    go_ret
    exact ⟨retB HF.out, Below.refl _ _⟩

theorem kid_no1I {xs : List O4} (h : codeOk xs = false) : kidOk xs = false := by unfold kidOk; rw [h]; rfl
theorem kid_no2I {xs : List O4} (h : hasFork xs = true) : kidOk xs = false := by unfold kidOk; rw [h]; simp
theorem kid_allI {xs : List O4} (h1 : codeOk xs = true) (h2 : hasFork xs = false) : kidOk xs = xs.all fun o => !(touch o == 2) := by unfold kidOk; rw [h1, h2]; simp

set_option maxRecDepth 100000 in
set_option maxHeartbeats 3200000 in
theorem kidImpl (v : Value) (xs : List O4) (B : Nat) (w : World) (hv : Sees4 B w v xs) (hB : B ≤ w.heap.size) (hlen : xs.length ≤ 1048576) :
    Calls Try.prog 117 #[v] w fun e w' => e = .returned (.bool (kidOk xs)) ∧ Below w.heap.size w w' := by
  have c0 := codeImpl v xs B w hv hB hlen
  obtain ⟨a, cap, rfl⟩ := hv.form
  obtain ⟨n, hn⟩ : ∃ n, xs.length = n := ⟨_, rfl⟩
  rw [hn] at hv hlen c0 ⊢
  obtain ⟨p, hp⟩ : ∃ p, codeOk xs = p := ⟨_, rfl⟩
  rw [hp] at c0
  obtain ⟨g, hg⟩ : ∃ g, w.heap.size = g := ⟨_, rfl⟩
  rw [hg] at hB c0 ⊢
  cases p
  · have HF : Hid (false = kidOk xs) := (kid_no1I hp).symm
    clear hp
    go_enter Try.func117, Try.ntmps117
    go_wp2_with fail
    refine c0.mono ?_
    rintro e w1 ⟨rfl, b1⟩
    go_wp2
    go_ret
    exact ⟨retB HF.out, b1⟩
  have HP : Hid (codeOk xs = true) := hp
  clear hp
  go_enter Try.func117, Try.ntmps117
  go_wp2_with fail
  refine c0.mono ?_
  rintro e w1 ⟨rfl, b1⟩
  clear c0
  have hz1 : g ≤ w1.heap.size := by have := b1.size; omega
  have c1 := forkImpl _ xs B w1 (hv.on b1 hB) (by omega) (by omega)
  obtain ⟨q, hq⟩ : ∃ q, hasFork xs = q := ⟨_, rfl⟩
  rw [hq] at c1
  cases q
  · have HE : Hid (kidOk xs = xs.all fun o => !(touch o == 2)) := kid_allI HP.out hq
    clear hq
    go_wp2_with fail
    refine c1.mono ?_
    rintro e w2 ⟨rfl, b2⟩
    clear c1
    have bb2 := b1.trans (b2.mono hz1)
    go_wp2
    go_loopw [14] (fun i' wr => ∃ k : Nat, k ≤ n ∧ i' = .int .i64 k ∧ (∀ j (h : j < xs.length), j < k → (!(touch xs[j] == 2)) = true) ∧ Below g w wr) (fun i' _ => n - (intOf i').toNat)
    case atStart => exact ⟨0, Nat.zero_le _, rfl, fun j _ h => by omega, bb2⟩
    case round =>
      obtain ⟨k, hk, rfl, hall, hb⟩ := hrel
      clear b1 b2 bb2
      have hsz : g ≤ wr.heap.size := by have := hb.size; omega
      have HA := (show Hid _ from hall)
      clear hall
      by_cases hlt : k < n
      · obtain ⟨b, off, rfl, hbB, hc⟩ := (hv.on hb hB).open (by omega)
        obtain ⟨a0, a1, a2, a3⟩ := seeI hc k (by omega)
        have i1 : (k : Int) < n := by omega
        have hkx : k < xs.length := by omega
        obtain ⟨t, ht⟩ : ∃ t, touch xs[k] = t := ⟨_, rfl⟩
        have HT : Hid (touch xs[k] = t) := ht
        obtain ⟨x, hx⟩ : ∃ x, xs[k] = x := ⟨_, rfl⟩
        rw [hx] at a0 a1 a2 a3 ht
        have bA := alloc_below wr (.cells #[.int .i64 x.k, .int .i64 x.a, .int .i64 x.b, .int .i64 x.c] 140)
        have cT := touchImpl x.k x.a x.b x.c (wr.alloc (.cells #[.int .i64 x.k, .int .i64 x.a, .int .i64 x.b, .int .i64 x.c] 140))
        have eV : opV x.k x.a x.b x.c = .agg #[.int .i64 x.k, .int .i64 x.a, .int .i64 x.b, .int .i64 x.c] := rfl
        have eT : touches x.k x.a x.b x.c = touch x := rfl
        rw [eV, eT, ht] at cT
        clear ht hx eV eT hc
        by_cases h2 : t = 2
        · have HF : Hid (false = kidOk xs) := by
            show _ = _
            rw [HE.out]
            exact (all_no (k := k) hkx (by rw [HT.out, h2]; rfl)).symm
          rw [h2] at cT
          clear h2
          go_wp2_with fail
          refine cT.mono ?_
          rintro e w2 ⟨rfl, hb2⟩
          clear cT
          go_wp2
          go_ret
          exact ⟨retB HF.out, hb.trans ((bA.trans (hb2.mono bA.size)).mono hsz)⟩
        · have HF : Hid (∀ j (h : j < xs.length), j < k + 1 → (!(touch xs[j] == 2)) = true) := fun j hj hjk => by
            rcases Nat.lt_succ_iff_lt_or_eq.1 hjk with h | h
            · exact HA.out j hj h
            · subst h; rw [HT.out]; simp [h2]
          have e2 : (t == 2) = false := by simp [h2]
          clear h2
          go_wp2_with fail
          refine cT.mono ?_
          rintro e w2 ⟨rfl, hb2⟩
          clear cT
          go_wp2
          go_roundw
          case rel => exact ⟨k + 1, by omega, by go_num, HF.out, hb.trans ((bA.trans (hb2.mono bA.size)).mono hsz)⟩
          case measure => simp [intOf]; omega
      · have HF : Hid (true = kidOk xs) := by
          show _ = _
          rw [HE.out]
          exact (all_yes fun j hj => HA.out j hj (by omega)).symm
        have i1 : ¬ (k : Int) < n := by omega
        go_wp2
        go_ret
        exact ⟨retB HF.out, hb⟩
  · have HF : Hid (false = kidOk xs) := (kid_no2I hq).symm
    clear hq
    go_wp2_with fail
    refine c1.mono ?_
    rintro e w2 ⟨rfl, b2⟩
    clear c1
    go_wp2
    go_ret
    exact ⟨retB HF.out, b1.trans (b2.mono hz1)⟩
end Ops
end Go.Proofs.Ytajbmokidcdfnaa
