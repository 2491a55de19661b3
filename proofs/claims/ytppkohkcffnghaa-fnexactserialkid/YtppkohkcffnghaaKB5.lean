/- Several texts of one proof, in build order: HomesImpl, SkipsImpl, OpLaw, CodeImpl, Take, ThRow, KidImpl. -/
import Derived.Deep.QuietTactic
import Derived.BigQuiet
import Derived.Deep.RegionHeld3
import Derived.Deep.WholeRow
import Derived.Test.YtppkohkcffnghaaKB1
import Derived.Test.YtppkohkcffnghaaKB2
import Derived.Test.YtppkohkcffnghaaKB3
import Derived.Test.YtppkohkcffnghaaKB4
/- What the program's homesOf answers. -/
set_option linter.unusedVariables false
set_option linter.unusedSimpArgs false
namespace Go.Proofs.Ytppkohkcffnghaa
open Go.RowKit
namespace Ops
open Bas Flat

theorem st_len (xs : List O4) : ∀ k, (stAt xs k).length ≤ k + 1 := by
  intro k
  induction k with
  | zero => simp [stAt]
  | succ k ih =>
    show (stepS (stAt xs k) k (xs.getD k z4)).length ≤ k + 1 + 1
    obtain ⟨o, ho⟩ : ∃ o, xs.getD k z4 = o := ⟨_, rfl⟩
    rw [ho]
    by_cases h8 : o.k = 8
    · rw [step8 h8]; simp; omega
    · by_cases h9 : o.k = 9
      · rw [step9 h9, List.length_tail]; omega
      · rw [step0 h8 h9]; omega
theorem topB_cons (x : Int) (r : List Int) : topB (x :: r) = ⟨x, r.length⟩ := by unfold topB; simp

/-- open blocks and homes, each in a block of its own -/
structure HSt (g : Nat) (w W : World) (vo vh : Value) (st : List Int) (hs : List B2) : Prop where
  O : OwnsB g W vo (stk st)
  H : OwnsB g W vh hs
  sep : ∀ q, vo.ownBlock = some q → vh.ownBlock ≠ some q
  low : g ≤ W.heap.size
  below : Below g w W
section
variable {g : Nat} {w W W' : World} {vo vh v' : Value} {st r : List Int} {hs : List B2}
theorem HSt.on (h : HSt g w W vo vh st hs) (b : Below W.heap.size W W') : HSt g w W' vo vh st hs :=
  { O := h.O.on b (Nat.le_refl _), H := h.H.on b (Nat.le_refl _), sep := h.sep, low := Nat.le_trans h.low b.size, below := h.below.trans (b.mono h.low) }
theorem HSt.begun (h : HSt g w W vo vh st hs) (st' : List Int) (O : OwnsB g W' v' (stk st')) (G : W.grownBy W' vo.ownBlock) (L : ∀ k, v'.ownBlock = some k → vo.ownBlock = some k ∨ W.heap.size ≤ k) : HSt g w W' v' vh st' hs :=
  { O := O
    H := h.H.grown G (fun k hk e => h.sep k e.symm hk)
    sep := fun q hq e => by
      rcases L q hq with h' | h'
      · exact h.sep q h' e
      · have := h.H.at q e; omega
    low := Nat.le_trans h.low G.size
    below := h.below.grown G h.low (fun k hk => (h.O.at k hk).1) }
theorem HSt.ended (h : HSt g w W vo vh st hs) (st' : List Int) (O : OwnsB g W v' (stk st')) (e : v'.ownBlock = vo.ownBlock) : HSt g w W v' vh st' hs :=
  { O := O, H := h.H, sep := fun q hq => h.sep q (e ▸ hq), low := h.low, below := h.below }
/-- append(homes, x) -/
theorem HSt.home (h : HSt g w W vo vh st hs) (x : B2) (hlen : hs.length ≤ 1000000) :
    ∃ v' W', (Builtin.append_ #[139, 139] 139 #[vh, .slice (some ⟨W.heap.size, 0, none⟩) 1 1]).run Try.prog (W.alloc (.cells #[.int .i64 x.b, .int .i64 x.d] 156)) = .ok v' W' ∧ HSt g w W' vo v' st (hs ++ [x]) ∧ W.grownBy W' vh.ownBlock := by
  obtain ⟨v', W', hr, hO, hG, hl⟩ := pushB rowB vh hs g W h.H h.low (by omega) x
  refine ⟨v', W', hr, { O := h.O.grown hG (fun k hk e => h.sep k hk e.symm), H := hO, sep := fun q hq e => ?_, low := Nat.le_trans h.low hG.size, below := h.below.grown hG h.low (fun k hk => (h.H.at k hk).1) }, hG⟩
  rcases hl q e with h' | h'
  · exact h.sep q hq h'
  · have := h.O.at q hq; omega
end

set_option maxRecDepth 100000 in
set_option maxHeartbeats 6400000 in
theorem homesC (v : Value) (xs : List O4) (B : Nat) (w : World) (hv : Sees4 B w v xs) (hB : B ≤ w.heap.size) (hlen : xs.length ≤ 1000) :
    Calls Try.prog 110 #[v] w fun e w' => ∃ v', e = .returned (.tuple #[v', .bool (closedGo xs 0)]) ∧ (closedGo xs 0 = true → OwnsB w.heap.size w' v' (homes xs (xs.length + 1))) ∧ Below w.heap.size w w' := by
  obtain ⟨a, cap, rfl⟩ := hv.form
  obtain ⟨n, hn⟩ : ∃ n, xs.length = n := ⟨_, rfl⟩
  rw [hn] at hv hlen ⊢
  obtain ⟨g, hg⟩ : ∃ g, w.heap.size = g := ⟨_, rfl⟩
  have cN := noneC w
  rw [hg] at hB cN ⊢
  have HE : Hid (closedGo xs 0 = closedGo (xs.drop 0) (((stAt xs 0).length : Int) - 1)) := rfl
  go_enter Try.func110, Try.ntmps110
  go_wp2_with fail
  refine cN.mono ?_
  rintro e w1 ⟨v1, rfl, O1, b1⟩
  clear cN
  obtain ⟨a1, c1, rfl⟩ := O1.form
  have hs1 : g ≤ w1.heap.size := by have := b1.size; omega
  obtain ⟨w2, b2, hs2, hmk, H2⟩ := makeRoom rowB (n + 1) (by omega) w1 w1.heap.size (Nat.le_refl _)
  rw [show ((n + 1 : Nat) : Int) = (n : Int) + 1 by omega] at hmk
  have P0 : HSt g w w2 (.slice a1 (stk [-1]).length c1) (.slice (some ⟨w1.heap.size, 0, none⟩) 0 (n + 1)) (stAt xs 0) (homes xs 0) :=
    { O := O1.on b2 (Nat.le_refl _), H := H2.mono hs1, sep := fun q hq e => by cases e; exact Nat.lt_irrefl _ (O1.at _ hq).2, low := by omega, below := b1.trans (b2.mono hs1) }
  clear O1 b1 b2 H2 hs2
  go_wp2
  go_loopw [4, 5, 15] (fun ov hv' iv wr => ∃ (k : Nat) (ao : Option Addr) (no co : Nat) (ah : Option Addr) (nh ch : Nat), ov = .slice ao no co ∧ hv' = .slice ah nh ch ∧ iv = .int .i64 k ∧ k ≤ n ∧ 1 ≤ (stAt xs k).length ∧ HSt g w wr (.slice ao no co) (.slice ah nh ch) (stAt xs k) (homes xs k) ∧ closedGo xs 0 = closedGo (xs.drop k) (((stAt xs k).length : Int) - 1)) (fun _ _ iv _ => n - (intOf iv).toNat)
  case atStart => exact ⟨0, _, _, _, _, _, _, rfl, rfl, rfl, Nat.zero_le _, by simp [stAt], P0, HE.out⟩
  case round =>
    obtain ⟨k, ao, no, co, ah, nh, ch, rfl, rfl, rfl, hk, hst, P, he⟩ := hrel
    clear P0 HE hmk
    have hsl := st_len xs k
    have hsz := P.low
    obtain ⟨x, r, hxr⟩ : ∃ x r, stAt xs k = x :: r := by
      match h : stAt xs k, hst with
      | x :: r, _ => exact ⟨x, r, rfl⟩
    have HH : Hid (homes xs (k + 1) = homes xs k ++ [⟨x, r.length⟩]) := by
      show _ = _
      rw [homes_succ, hxr, topB_cons]
    have HX : Hid (stAt xs k = x :: r) := hxr
    have hl := homes_length xs k
    rw [hxr] at P he hsl
    clear hst hxr
    by_cases hlt : k < n
    · obtain ⟨b, off, rfl, hbB, hc⟩ := (hv.on P.below hB).open (by omega)
      obtain ⟨e0, e1, e2, e3⟩ := seeI hc k (by omega)
      have i1 : (k : Int) < n := by omega
      have HN : Hid (stAt xs (k + 1) = stepS (stAt xs k) k xs[k]) := stAt_succ (by omega)
      rw [closedGo_step (by omega)] at he
      obtain ⟨o, ho⟩ : ∃ o, xs[k] = o := ⟨_, rfl⟩
      rw [ho] at e0 e1 e2 e3 he HN
      have HC := (show Hid _ from he)
      clear hc ho he
      have X0 := Blk.new wr #[.int .i64 o.k, .int .i64 o.a, .int .i64 o.b, .int .i64 o.c] 30
      have P1 := P.on (alloc_below wr (.cells #[.int .i64 o.k, .int .i64 o.a, .int .i64 o.b, .int .i64 o.c] 30))
      go_wp2_with fail
      refine (innerC _ x r _ _ P1.O.sees (Nat.le_refl _)).mono ?_
      rintro e w2 ⟨rfl, b2⟩
      have P2 := P1.on b2
      have X2 := X0.on b2 X0.lt
      obtain ⟨v3, w3, hr3, P3, G3⟩ := P2.home ⟨x, r.length⟩ (by omega)
      rw [← HH.out] at P3
      have X3 := X2.grown G3 (fun e => by have := P.H.at _ e.symm; omega)
      have hf1 := fun x y W => fieldB1 x y W
      obtain ⟨a3, c3, rfl⟩ := P3.H.form
      have x3 := X3.cell 0
      clear X0 P1 P2 X2 e0 e1 e2 e3 P
      rcases kindI o with ⟨h8, hD⟩ | ⟨h9, hD⟩ | ⟨h8, h9, hD⟩
      · rw [h8] at x3
        have HF : Hid (closedGo xs 0 = closedGo (xs.drop (k + 1)) (((stAt xs (k + 1)).length : Int) - 1)) := by
          show _ = _
          rw [HC.out, HN.out, step8 h8, HX.out, hD, decide_eq_true (by simp; omega), Bool.true_and]
          congr 1
          simp
        have HS : Hid (stAt xs (k + 1) = (k : Int) :: x :: r) := by show _ = _; rw [HN.out, step8 h8, HX.out]
        clear hD
        go_wp2_with (at_builtin; refine wpList_app _ rfl _ _ 139 rfl _ _ _ _ rfl rfl hr3 ?_)
        clear hr3
        refine (begunC _ (x :: r) k g w3 P3.O P3.low (by omega)).mono ?_
        rintro e w4 ⟨v4, rfl, O4', G4, L4⟩
        have P4 := P3.begun ((k : Int) :: x :: r) O4' G4 L4
        obtain ⟨a4, c4, rfl⟩ := O4'.form
        go_wp2
        go_roundw
        case rel => exact ⟨k + 1, _, _, _, _, _, _, rfl, rfl, by go_num, by omega, by rw [HS.out]; simp, by rw [HS.out]; exact P4, HF.out⟩
        case measure => simp [intOf]; omega
      · rw [h9] at x3
        have HS : Hid (stAt xs (k + 1) = r) := by show _ = _; rw [HN.out, step9 h9, HX.out]; rfl
        cases r with
        | nil =>
          have HF : Hid (false = closedGo xs 0) := by
            show _ = _
            rw [HC.out, hD]; rfl
          clear hD
          go_wp2_with (at_builtin; refine wpList_app _ rfl _ _ 139 rfl _ _ _ _ rfl rfl hr3 ?_)
          clear hr3
          refine (innerC _ x [] _ w3 P3.O.sees (Nat.le_refl _)).mono ?_
          rintro e w4 ⟨rfl, b4⟩
          have P4 := P3.on b4
          go_wp2
          go_ret2
          exact ⟨.slice none 0 0, (by show Ending.returned (.tuple #[.slice none 0 0, .bool false]) = _; rw [← HF.out]), (fun h => by rw [← HF.out] at h; cases h), P4.below⟩
        | cons y r =>
          have HF : Hid (closedGo xs 0 = closedGo (xs.drop (k + 1)) (((stAt xs (k + 1)).length : Int) - 1)) := by
            show _ = _
            rw [HC.out, HS.out, hD, decide_eq_true (by simp; omega), Bool.true_and]
            congr 1
            simp; omega
          have dn : (((y :: r).length : Int) == 0) = false := by simp; omega
          clear hD
          go_wp2_with (at_builtin; refine wpList_app _ rfl _ _ 139 rfl _ _ _ _ rfl rfl hr3 ?_)
          clear hr3
          refine (innerC _ x (y :: r) _ w3 P3.O.sees (Nat.le_refl _)).mono ?_
          rintro e w4 ⟨rfl, b4⟩
          have P4 := P3.on b4
          go_wp2_with fail
          refine (endedC _ x (y :: r) g w4 P4.O).mono ?_
          rintro e w5 ⟨v5, rfl, O5, e5, rfl⟩
          have P5 := P4.ended (y :: r) O5 e5
          obtain ⟨a5, c5, rfl⟩ := O5.form
          go_wp2
          go_roundw
          case rel => exact ⟨k + 1, _, _, _, _, _, _, rfl, rfl, by go_num, by omega, by rw [HS.out]; simp, by rw [HS.out]; exact P5, HF.out⟩
          case measure => simp [intOf]; omega
      · have HS : Hid (stAt xs (k + 1) = x :: r) := by show _ = _; rw [HN.out, step0 (by simpa using h8) (by simpa using h9), HX.out]
        have HF : Hid (closedGo xs 0 = closedGo (xs.drop (k + 1)) (((stAt xs (k + 1)).length : Int) - 1)) := by
          show _ = _
          rw [HC.out, HS.out, hD, decide_eq_true (by simp only [List.length_cons]; omega), Bool.true_and, Int.add_zero]
        clear hD
        go_wp2_with (at_builtin; refine wpList_app _ rfl _ _ 139 rfl _ _ _ _ rfl rfl hr3 ?_)
        clear hr3
        go_roundw
        case rel => exact ⟨k + 1, _, _, _, _, _, _, rfl, rfl, by go_num, by omega, by rw [HS.out]; simp, by rw [HS.out]; exact P3, HF.out⟩
        case measure => simp [intOf]; omega
    · obtain rfl : k = n := by omega
      have i1 : ¬ (k : Int) < k := by omega
      have HF : Hid (((r.length : Int) == 0) = closedGo xs 0) := by
        show _ = _
        rw [he, List.drop_of_length_le (by omega)]
        show _ = (((((x :: r).length : Nat) : Int) - 1) == 0)
        congr 1
        simp
      clear he i1
      go_wp2_with fail
      refine (innerC _ x r _ _ P.O.sees (Nat.le_refl _)).mono ?_
      rintro e w2 ⟨rfl, b2⟩
      have P2 := P.on b2
      obtain ⟨v3, w3, hr3, P3, G3⟩ := P2.home ⟨x, r.length⟩ (by omega)
      rw [← HH.out] at P3
      have hf1 := fun x y W => fieldB1 x y W
      go_wp2_with (at_builtin; refine wpList_app _ rfl _ _ 139 rfl _ _ _ _ rfl rfl hr3 ?_)
      clear hr3
      refine (innerC _ x r _ w3 P3.O.sees (Nat.le_refl _)).mono ?_
      rintro e w4 ⟨rfl, b4⟩
      have P4 := P3.on b4
      go_wp2
      go_ret2
      exact ⟨v3, (by show Ending.returned (.tuple #[v3, .bool ((r.length : Int) == 0)]) = _; rw [← HF.out]), (fun _ => P4.H), P4.below⟩
end Ops
end Go.Proofs.Ytppkohkcffnghaa
/- What the program's skipsStayHome and forksOnceOutside answer. -/
set_option linter.unusedVariables false
set_option linter.unusedSimpArgs false
namespace Go.Proofs.Ytppkohkcffnghaa
open Go.RowKit
namespace Ops
open Bas Flat

set_option maxRecDepth 100000 in
theorem eqB2 (x y : B2) (W : World) : (Op.equalIn 10000 156 (.agg #[.int .i64 x.b, .int .i64 x.d]) (.agg #[.int .i64 y.b, .int .i64 y.d])).run Try.prog W = .ok (sameB x y) W := by
  have hu : Try.prog.underlying 156 = some (.struct (Try.prog.fieldsOf 156)) := by kernel_rfl
  have hp : Try.prog.stoodInHeld 156 = false := by kernel_rfl
  rw [run_equalIn_agg (d := 9999) (ht := hu) (hp := hp)]
  have h1 := hu.symm.trans Try.underlying156
  simp only [Option.some.injEq, TypeDesc.struct.injEq] at h1
  rw [h1]
  obtain ⟨x0, x1⟩ := x
  obtain ⟨y0, y1⟩ := y
  unfold sameB
  by_cases h0 : x0 = y0 <;> by_cases h1 : x1 = y1 <;> simp [Op.eqFields, go_sem, h0, h1]

theorem bdrewN {B : Nat} {a w : World} (h : Below B a w) (n : Nat) : Below B a (w.drewN n) := h.trans ⟨rfl, rfl, rfl, Nat.le_refl _, fun _ _ => rfl⟩
theorem ok_skipI {x : O4} (h : okOp x = true) (h7 : x.k = 7) : 1 ≤ x.b ∧ x.b ≤ 20 := by
  unfold okOp at h
  rw [h7] at h
  have h' : (inn 0 3 x.a && inn 1 20 x.b && inn 0 0 x.c) = true := h
  rw [Bool.and_eq_true, Bool.and_eq_true] at h'
  have := h'.1.2
  unfold inn at this
  simpa using this
theorem skip_noI {xs : List O4} {i t : Nat} (hi : i < xs.length) (ht : xs[i].b = (t : Int)) (h : ¬ i + 1 + t ≤ xs.length) : skipOk xs i = false := by
  unfold skipOk
  have hg : xs.getD i z4 = xs[i] := by simp [List.getD, hi]
  rw [hg, ht, decide_eq_false (by omega), Bool.false_and]

set_option maxRecDepth 100000 in
set_option maxHeartbeats 6400000 in
theorem skipsC (v vh : Value) (xs : List O4) (B : Nat) (w : World) (hv : Sees4 B w v xs) (hh : Sees bEl B w vh (homes xs (xs.length + 1))) (hB : B ≤ w.heap.size) (hlen : xs.length ≤ 1000) (hc : closedGo xs 0 = true) (hok : ∀ j (h : j < xs.length), okOp xs[j] = true) :
    Calls Try.prog 111 #[v, vh] w fun e w' => e = .returned (.bool (skipsGo xs xs 0)) ∧ Below w.heap.size w w' := by
  obtain ⟨a, cap, rfl⟩ := hv.form
  obtain ⟨ah, ch, rfl⟩ := hh.form
  obtain ⟨n, hn⟩ : ∃ n, xs.length = n := ⟨_, rfl⟩
  rw [homes_length] at hh ⊢
  rw [hn] at hv hh hlen ⊢
  obtain ⟨n1, hn1⟩ : ∃ n1, n + 1 = n1 := ⟨_, rfl⟩
  rw [hn1] at hh ⊢
  obtain ⟨g, hg⟩ : ∃ g, w.heap.size = g := ⟨_, rfl⟩
  rw [hg] at hB ⊢
  have hb0 : Below g w w := Below.refl _ _
  have HC : Hid (closedGo xs 0 = true) := hc
  have HO := (show Hid _ from hok)
  have HE : Hid (skipsGo xs xs 0 = skipsGo xs (xs.drop 0) 0) := rfl
  clear hc hok
  go_enter Try.func111, Try.ntmps111
  go_wp2
  go_loopw [10] (fun iv wr => ∃ k : Nat, k ≤ n ∧ iv = .int .i64 k ∧ skipsGo xs xs 0 = skipsGo xs (xs.drop k) k ∧ Below g w wr) (fun iv _ => n - (intOf iv).toNat)
  case atStart => exact ⟨0, Nat.zero_le _, rfl, HE.out, hb0⟩
  case round =>
    obtain ⟨k, hk, rfl, he, hb⟩ := hrel
    clear HE hb0
    have hsz : g ≤ wr.heap.size := by have := hb.size; omega
    by_cases hlt : k < n
    · obtain ⟨b, off, rfl, hbB, hc⟩ := (hv.on hb hB).open (by omega)
      obtain ⟨b', off', rfl, hbB', hc'⟩ := (hh.on hb hB).open (by rw [homes_length]; omega)
      obtain ⟨e0, e1, e2, e3⟩ := seeI hc k (by omega)
      have i1 : (k : Int) < n := by omega
      rw [skipsGo_step (by omega)] at he
      have hx7 := HO.out k (by omega)
      have HS := (show Hid _ from (fun (h7 : xs[k].k = 7) (t : Nat) (ht : xs[k].b = (t : Int)) (hto : k + 1 + t ≤ xs.length) => skip_home HC.out (by omega) h7 ht hto))
      have HN := (show Hid _ from (fun (t : Nat) (ht : xs[k].b = (t : Int)) (hto : ¬ k + 1 + t ≤ xs.length) => skip_noI (xs := xs) (i := k) (by omega) ht hto))
      obtain ⟨o, ho⟩ : ∃ o, xs[k] = o := ⟨_, rfl⟩
      rw [ho] at e0 e1 e2 e3 he hx7 HS HN
      clear ho hc
      have X0 := Blk.new wr #[.int .i64 o.k, .int .i64 o.a, .int .i64 o.b, .int .i64 o.c] 30
      by_cases h7 : o.k = 7
      · obtain ⟨b1, b2⟩ := ok_skipI hx7 h7
        obtain ⟨t, ht⟩ := Int.eq_ofNat_of_zero_le (show 0 ≤ o.b by omega)
        have d7 : (!(o.k == 7) || skipOk xs k) = skipOk xs k := by simp [h7]
        rw [d7] at he
        obtain ⟨m, hm⟩ : ∃ m, k + 1 + t = m := ⟨_, rfl⟩
        have hmI : (k : Int) + 1 + t = m := by omega
        have hmU : (m : Int) ≤ 2000 := by omega
        by_cases hto : m ≤ n
        · have HK : Hid (skipOk xs k = sameB (topB (stAt xs m)) (topB (stAt xs k))) := by rw [← hm]; exact HS.out h7 t ht (by omega)
          have s1 := hc' m (by rw [homes_length]; omega)
          have s2 := hc' k (by rw [homes_length]; omega)
          rw [homes_at] at s1 s2
          obtain ⟨f0, f1⟩ := atB s1
          obtain ⟨g0, g1⟩ := atB s2
          change wr.cell? ⟨b', off' + m * 2, none⟩ = _ at f0
          change wr.cell? ⟨b', off' + m * 2 + 1, none⟩ = _ at f1
          change wr.cell? ⟨b', off' + k * 2, none⟩ = _ at g0
          change wr.cell? ⟨b', off' + k * 2 + 1, none⟩ = _ at g1
          obtain ⟨p, hp⟩ : ∃ p, topB (stAt xs m) = p := ⟨_, rfl⟩
          obtain ⟨q, hq⟩ : ∃ q, topB (stAt xs k) = q := ⟨_, rfl⟩
          rw [hp] at f0 f1 HK
          rw [hq] at g0 g1 HK
          have hE := fun W => eqB2 p q W
          rw [h7, ht] at X0
          rw [h7] at e0
          rw [ht] at e2
          have bA := alloc_below wr (.cells #[.int .i64 7, .int .i64 o.a, .int .i64 t, .int .i64 o.c] 30)
          obtain ⟨hcl, -⟩ := bcell bA
          have f0 := (hcl b' (off' + m * 2) (by omega)).trans f0
          have f1 := (hcl b' (off' + m * 2 + 1) (by omega)).trans f1
          have g0 := (hcl b' (off' + k * 2) (by omega)).trans g0
          have g1 := (hcl b' (off' + k * 2 + 1) (by omega)).trans g1
          have x0 := X0.cell 0
          have x2 := X0.cell 2
          obtain ⟨s, hs⟩ : ∃ s, sameB p q = s := ⟨_, rfl⟩
          rw [hs] at hE HK
          rw [HK.out] at he
          have HF := (show Hid _ from he)
          have i3 : (m : Int) < n1 := by omega
          have i4 : (k : Int) < n1 := by omega
          have i5 : (0 : Int) ≤ m := by omega
          have i6 : (0 : Int) ≤ k := by omega
          have d1 : decide (n < m) = false := decide_eq_false (by omega)
          clear he hp hq hs s1 s2 hc' HS HN d7 hcl hm HK h7 ht b1 b2 hto hx7 HO HC
          cases s
          · go_wp2_with fail
            go_quiet (fail)
            go_wp2
            go_ret
            exact ⟨retB (by rw [HF.out, Bool.false_and]), bdrewN (hb.trans (bA.mono hsz)) _⟩
          · go_wp2_with fail
            go_quiet (fail)
            go_wp2
            go_roundw
            case rel => exact ⟨k + 1, by omega, by go_num, by rw [HF.out, Bool.true_and], bdrewN (hb.trans (bA.mono hsz)) _⟩
            case measure => simp [intOf]; omega
        · have HF : Hid (false = skipsGo xs xs 0) := by
            show _ = _
            rw [he, HN.out t ht (by omega), Bool.false_and]
          have d1 : decide (n < m) = true := decide_eq_true (by omega)
          rw [h7, ht] at X0
          rw [h7] at e0
          rw [ht] at e2
          have x0 := X0.cell 0
          have x2 := X0.cell 2
          clear he hc' HS HN d7 hm h7 ht b1 b2 hto hx7 HO HC
          go_wp2_with fail
          go_quiet (fail)
          go_wp2
          go_ret
          exact ⟨retB HF.out, bdrewN (hb.trans ((alloc_below wr _).mono hsz)) _⟩
      · have HF : Hid (skipsGo xs xs 0 = skipsGo xs (xs.drop (k + 1)) (k + 1)) := by
          show _ = _
          rw [he]; simp [h7]
        have d7 : (o.k == 7) = false := by simp [h7]
        clear he h7 HS HN hc' hx7
        go_wp2
        go_roundw
        case rel => exact ⟨k + 1, by omega, by go_num, HF.out, hb.alloc hsz _⟩
        case measure => simp [intOf]; omega
    · obtain rfl : k = n := by omega
      have HF : Hid (true = skipsGo xs xs 0) := by
        show _ = _
        rw [he, List.drop_of_length_le (by omega)]; rfl
      have i1 : ¬ (k : Int) < k := by omega
      clear he
      go_wp2
      go_ret
      exact ⟨retB HF.out, hb⟩

set_option maxRecDepth 100000 in
set_option maxHeartbeats 6400000 in
theorem forksC (v vh : Value) (xs : List O4) (B : Nat) (w : World) (hv : Sees4 B w v xs) (hh : Sees bEl B w vh (homes xs (xs.length + 1))) (hB : B ≤ w.heap.size) (hlen : xs.length ≤ 1000) (hc : closedGo xs 0 = true) :
    Calls Try.prog 112 #[v, vh] w fun e w' => e = .returned (.bool (forksGo xs 0 0)) ∧ Below w.heap.size w w' := by
  obtain ⟨a, cap, rfl⟩ := hv.form
  obtain ⟨ah, ch, rfl⟩ := hh.form
  obtain ⟨n, hn⟩ : ∃ n, xs.length = n := ⟨_, rfl⟩
  rw [homes_length] at hh ⊢
  rw [hn] at hv hh hlen ⊢
  obtain ⟨n1, hn1⟩ : ∃ n1, n + 1 = n1 := ⟨_, rfl⟩
  rw [hn1] at hh ⊢
  obtain ⟨g, hg⟩ : ∃ g, w.heap.size = g := ⟨_, rfl⟩
  rw [hg] at hB ⊢
  have hb0 : Below g w w := Below.refl _ _
  have HC := (show Hid _ from (fun k (h : k ≤ xs.length) => (closed_at hc k h).1))
  have HE : Hid (forksGo xs 0 0 = forksGo (xs.drop 0) (((stAt xs 0).length : Int) - 1) 0) := rfl
  clear hc
  go_enter Try.func112, Try.ntmps112
  go_wp2
  go_loopw [5, 10] (fun fv' iv wr => ∃ k f : Nat, k ≤ n ∧ f ≤ k ∧ fv' = .int .i64 f ∧ iv = .int .i64 k ∧ forksGo xs 0 0 = forksGo (xs.drop k) (((stAt xs k).length : Int) - 1) f ∧ Below g w wr) (fun _ iv _ => n - (intOf iv).toNat)
  case atStart => exact ⟨0, 0, Nat.zero_le _, Nat.le_refl _, rfl, rfl, HE.out, hb0⟩
  case round =>
    obtain ⟨k, f, hk, hf, rfl, rfl, he, hb⟩ := hrel
    clear HE hb0
    have hsz : g ≤ wr.heap.size := by have := hb.size; omega
    by_cases hlt : k < n
    · obtain ⟨b, off, rfl, hbB, hc⟩ := (hv.on hb hB).open (by omega)
      obtain ⟨b', off', rfl, hbB', hc'⟩ := (hh.on hb hB).open (by rw [homes_length]; omega)
      obtain ⟨e0, e1, e2, e3⟩ := seeI hc k (by omega)
      have i1 : (k : Int) < n := by omega
      rw [forksGo_step (by omega)] at he
      have h1 := HC.out k (by omega)
      have hnx : (((stAt xs (k + 1)).length : Int) - 1) = (((stAt xs k).length : Int) - 1) + delta xs[k] := by
        rw [stAt_succ (by omega), step_len h1]; omega
      rw [← hnx] at he
      have s2 := hc' k (by rw [homes_length]; omega)
      rw [homes_at] at s2
      obtain ⟨-, g1⟩ := atB s2
      change wr.cell? ⟨b', off' + k * 2 + 1, none⟩ = some (.int .i64 (((stAt xs k).length : Int) - 1)) at g1
      obtain ⟨d, hd⟩ : ∃ d, (((stAt xs k).length : Int) - 1) = d := ⟨_, rfl⟩
      have hd0 : 0 ≤ d := by omega
      rw [hd] at g1 he
      obtain ⟨o, ho⟩ : ∃ o, xs[k] = o := ⟨_, rfl⟩
      rw [ho] at e0 e1 e2 e3 he
      clear ho hc hc' hnx hd s2 h1
      by_cases h11 : o.k = 11
      · rw [h11] at e0
        have X0 := Blk.new wr #[.int .i64 11, .int .i64 o.a, .int .i64 o.b, .int .i64 o.c] 30
        have bA := alloc_below wr (.cells #[.int .i64 11, .int .i64 o.a, .int .i64 o.b, .int .i64 o.c] 30)
        have x0 := X0.cell 0
        obtain ⟨hcl, -⟩ := bcell bA
        have g1 := (hcl b' (off' + k * 2 + 1) (by omega)).trans g1
        have i4 : (k : Int) < n1 := by omega
        have i6 : (0 : Int) ≤ k := by omega
        have he' : forksGo xs 0 0 = ((decide (d ≤ 0) && decide (f = 0)) && forksGo (xs.drop (k + 1)) (((stAt xs (k + 1)).length : Int) - 1) (f + 1)) := by
          rw [he]; simp [h11]
        clear he hcl h11
        by_cases hf0 : f = 0
        · subst hf0
          by_cases hd1 : d = 0
          · subst hd1
            have HF : Hid (forksGo xs 0 0 = forksGo (xs.drop (k + 1)) (((stAt xs (k + 1)).length : Int) - 1) 1) := by
              show _ = _
              rw [he']; simp
            clear he'
            go_wp2
            go_roundw
            case rel => exact ⟨k + 1, 1, by omega, by omega, rfl, by go_num, HF.out, hb.trans (bA.mono hsz)⟩
            case measure => simp [intOf]; omega
          · have HF : Hid (false = forksGo xs 0 0) := by
              show _ = _
              rw [he', decide_eq_false (by omega)]; simp
            have dd : (d != 0) = true := by simp [hd1]
            clear he' hd1
            go_wp2
            go_ret
            exact ⟨retB HF.out, hb.trans (bA.mono hsz)⟩
        · have HF : Hid (false = forksGo xs 0 0) := by
            show _ = _
            rw [he', decide_eq_false hf0]; simp
          have hf1 : (1 : Int) < (f : Int) + 1 := by omega
          clear he'
          go_wp2
          go_ret
          exact ⟨retB HF.out, hb.trans (bA.mono hsz)⟩
      · have HF : Hid (forksGo xs 0 0 = forksGo (xs.drop (k + 1)) (((stAt xs (k + 1)).length : Int) - 1) f) := by
          show _ = _
          rw [he]; simp [h11]
        have d11 : (o.k == 11) = false := by simp [h11]
        clear he h11
        go_wp2
        go_roundw
        case rel => exact ⟨k + 1, f, by omega, by omega, rfl, by go_num, HF.out, hb.alloc hsz _⟩
        case measure => simp [intOf]; omega
    · obtain rfl : k = n := by omega
      have HF : Hid (true = forksGo xs 0 0) := by
        show _ = _
        rw [he, List.drop_of_length_le (by omega)]; rfl
      have i1 : ¬ (k : Int) < k := by omega
      clear he
      go_wp2
      go_ret
      exact ⟨retB HF.out, hb⟩
end Ops
end Go.Proofs.Ytppkohkcffnghaa
/- The laws of OpOk and Touches. -/
namespace Go.Proofs.Ytppkohkcffnghaa
open Go.RowKit
namespace Ops
open Bas

set_option maxRecDepth 100000 in
set_option maxHeartbeats 800000 in
theorem toOpC (k a b c : Int) (w : World) : Calls Try.prog 84 #[opV k a b c] w fun e w' => e = .returned (opV k a b c) ∧ Below w.heap.size w w' := by
  show Calls _ _ #[.agg #[.int .i64 k, .int .i64 a, .int .i64 b, .int .i64 c]] _ (fun e w' => e = .returned (.agg #[.int .i64 k, .int .i64 a, .int .i64 b, .int .i64 c]) ∧ _)
  go_enter Try.func84, Try.ntmps84
  go_wp2
  refine bodyPost_ret (v := .agg #[.int .i64 k, .int .i64 a, .int .i64 b, .int .i64 c]) (by simp [results, Try.results84, go_sem]) rfl ⟨rfl, ?_⟩
  exact (((Below.refl _ _).alloc (Nat.le_refl _) _).alloc (by simp) _).alloc (by simp; omega) _

/-- what Touches says -/
def touches (k a b c : Int) : Int := if opOk k a b c = true then (if k = 5 ∨ k = 6 then 1 else if k = 12 ∨ k = 13 ∨ k = 14 ∨ k = 15 ∨ k = 16 then 2 else 0) else 0

set_option maxRecDepth 100000 in
set_option maxHeartbeats 1600000 in
theorem touchImpl (k a b c : Int) (w : World) : Calls Try.prog 94 #[opV k a b c] w fun e w' => e = .returned (.int .i64 (touches k a b c)) ∧ Below w.heap.size w w' := by
  have c0 := implC k a b c (w.alloc (.cells #[.int .i64 k, .int .i64 a, .int .i64 b, .int .i64 c] 30))
  have b0 := alloc_below w (.cells #[.int .i64 k, .int .i64 a, .int .i64 b, .int .i64 c] 30)
  have O0 := Blk.new w #[.int .i64 k, .int .i64 a, .int .i64 b, .int .i64 c] 30
  unfold touches
  obtain ⟨p, hp⟩ : ∃ p, opOk k a b c = p := ⟨_, rfl⟩
  rw [hp] at c0 ⊢
  clear hp
  unfold opV at c0 ⊢
  cases p
  · go_enter Try.func94, Try.ntmps94
    go_wp2_with fail
    refine c0.mono ?_
    rintro e w1 ⟨rfl, b1⟩
    go_wp2
    go_ret
    exact ⟨rfl, b0.trans (b1.mono b0.size)⟩
  · by_cases hk : k = 5 ∨ k = 6 ∨ k = 12 ∨ k = 13 ∨ k = 14 ∨ k = 15 ∨ k = 16
    · rcases hk with rfl | rfl | rfl | rfl | rfl | rfl | rfl
      all_goals
        go_enter Try.func94, Try.ntmps94
        go_wp2_with fail
        refine c0.mono ?_
        rintro e w1 ⟨rfl, b1⟩
        have k0 := (O0.on b1 O0.lt).cell 0
        go_wp2
        go_ret
        exact ⟨rfl, b0.trans (b1.mono b0.size)⟩
    · have e0 : (if (k = 5 ∨ k = 6) then (1 : Int) else if (k = 12 ∨ k = 13 ∨ k = 14 ∨ k = 15 ∨ k = 16) then 2 else 0) = 0 := by rw [if_neg (by omega), if_neg (by omega)]
      rw [e0]
      have d5 : (k == 5) = false := by simp; omega
      have d6 : (k == 6) = false := by simp; omega
      have d12 : (k == 12) = false := by simp; omega
      have d13 : (k == 13) = false := by simp; omega
      have d14 : (k == 14) = false := by simp; omega
      have d15 : (k == 15) = false := by simp; omega
      have d16 : (k == 16) = false := by simp; omega
      clear hk e0
      go_enter Try.func94, Try.ntmps94
      go_wp2_with fail
      refine c0.mono ?_
      rintro e w1 ⟨rfl, b1⟩
      have k0 := (O0.on b1 O0.lt).cell 0
      go_wp2
      go_ret
      exact ⟨rfl, b0.trans (b1.mono b0.size)⟩

set_option maxRecDepth 100000 in
set_option maxHeartbeats 1600000 in
theorem touchSpec (k a b c : Int) (w : World) : Calls Try.prog 52 #[opV k a b c] w fun e w' => e = .returned (.int .i64 (touches k a b c)) ∧ Below w.heap.size w w' := by
  have c0 := specC k a b c (w.alloc (.cells #[.int .i64 k, .int .i64 a, .int .i64 b, .int .i64 c] 30))
  have b0 := alloc_below w (.cells #[.int .i64 k, .int .i64 a, .int .i64 b, .int .i64 c] 30)
  have O0 := Blk.new w #[.int .i64 k, .int .i64 a, .int .i64 b, .int .i64 c] 30
  unfold touches
  obtain ⟨p, hp⟩ : ∃ p, opOk k a b c = p := ⟨_, rfl⟩
  rw [hp] at c0 ⊢
  clear hp
  unfold opV at c0 ⊢
  cases p
  · go_enter Try.func52, Try.ntmps52
    go_wp2_with fail
    refine c0.mono ?_
    rintro e w1 ⟨rfl, b1⟩
    go_wp2
    go_ret
    exact ⟨rfl, b0.trans (b1.mono b0.size)⟩
  · by_cases hk : k = 5 ∨ k = 6 ∨ k = 12 ∨ k = 13 ∨ k = 14 ∨ k = 15 ∨ k = 16
    · rcases hk with rfl | rfl | rfl | rfl | rfl | rfl | rfl
      all_goals
        go_enter Try.func52, Try.ntmps52
        go_wp2_with fail
        refine c0.mono ?_
        rintro e w1 ⟨rfl, b1⟩
        have k0 := (O0.on b1 O0.lt).cell 0
        go_wp2
        go_ret
        exact ⟨rfl, b0.trans (b1.mono b0.size)⟩
    · have e0 : (if (k = 5 ∨ k = 6) then (1 : Int) else if (k = 12 ∨ k = 13 ∨ k = 14 ∨ k = 15 ∨ k = 16) then 2 else 0) = 0 := by rw [if_neg (by omega), if_neg (by omega)]
      rw [e0]
      have d5 : (k == 5) = false := by simp; omega
      have d6 : (k == 6) = false := by simp; omega
      have d12 : (k == 12) = false := by simp; omega
      have d13 : (k == 13) = false := by simp; omega
      have d14 : (k == 14) = false := by simp; omega
      have d15 : (k == 15) = false := by simp; omega
      have d16 : (k == 16) = false := by simp; omega
      clear hk e0
      go_enter Try.func52, Try.ntmps52
      go_wp2_with fail
      refine c0.mono ?_
      rintro e w1 ⟨rfl, b1⟩
      have k0 := (O0.on b1 O0.lt).cell 0
      go_wp2
      go_ret
      exact ⟨rfl, b0.trans (b1.mono b0.size)⟩

end Ops
end Go.Proofs.Ytppkohkcffnghaa
/- What the program's CodeOk and KidOk answer. -/
set_option linter.unusedVariables false
set_option linter.unusedSimpArgs false
namespace Go.Proofs.Ytppkohkcffnghaa
open Go.RowKit
namespace Ops
open Bas Flat

set_option maxRecDepth 100000 in
set_option maxHeartbeats 6400000 in
theorem codeImpl (v : Value) (xs : List O4) (B : Nat) (w : World) (hv : Sees4 B w v xs) (hB : B ≤ w.heap.size) (hlen : xs.length ≤ 1048576) :
    Calls Try.prog 92 #[v] w fun e w' => e = .returned (.bool (codeOk xs)) ∧ Below w.heap.size w w' := by
  obtain ⟨a, cap, rfl⟩ := hv.form
  obtain ⟨n, hn⟩ : ∃ n, xs.length = n := ⟨_, rfl⟩
  rw [hn] at hv hlen ⊢
  by_cases h24 : n ≤ 24
  · have h24' : ¬ (24 : Int) < n := by omega
    obtain ⟨g, hg⟩ : ∃ g, w.heap.size = g := ⟨_, rfl⟩
    rw [hg] at hB ⊢
    have hb0 : Below g w w := Below.refl _ _
    go_enter Try.func92, Try.ntmps92
    go_wp2
    go_loopw [12] (fun i' wr => ∃ k : Nat, k ≤ n ∧ i' = .int .i64 k ∧ (∀ j (h : j < xs.length), j < k → okOp xs[j] = true) ∧ Below g w wr) (fun i' _ => n - (intOf i').toNat)
    case atStart => exact ⟨0, Nat.zero_le _, rfl, fun j _ h => by omega, hb0⟩
    case round =>
      obtain ⟨k, hk, rfl, hall, hb⟩ := hrel
      clear hb0
      have hsz : g ≤ wr.heap.size := by have := hb.size; omega
      have HA := (show Hid _ from hall)
      clear hall
      by_cases hlt : k < n
      · obtain ⟨b, off, rfl, hbB, hc⟩ := (hv.on hb hB).open (by omega)
        obtain ⟨a0, a1, a2, a3⟩ := seeI hc k (by omega)
        have i1 : (k : Int) < n := by omega
        have hkx : k < xs.length := by omega
        obtain ⟨p, hp⟩ : ∃ p, okOp xs[k] = p := ⟨_, rfl⟩
        have HP : Hid (okOp xs[k] = p) := hp
        obtain ⟨x, hx⟩ : ∃ x, xs[k] = x := ⟨_, rfl⟩
        rw [hx] at a0 a1 a2 a3 hp
        have bA := alloc_below wr (.cells #[.int .i64 x.k, .int .i64 x.a, .int .i64 x.b, .int .i64 x.c] 30)
        have cO := implC x.k x.a x.b x.c (wr.alloc (.cells #[.int .i64 x.k, .int .i64 x.a, .int .i64 x.b, .int .i64 x.c] 30))
        have eV : opV x.k x.a x.b x.c = .agg #[.int .i64 x.k, .int .i64 x.a, .int .i64 x.b, .int .i64 x.c] := rfl
        have eO : opOk x.k x.a x.b x.c = okOp x := rfl
        rw [eV, eO, hp] at cO
        clear hp hx eV eO hc
        cases p
        · have HF : Hid (false = codeOk xs) := by
            show _ = _
            exact (code_bad1 (all_no hkx HP.out)).symm
          go_wp2_with fail
          refine cO.mono ?_
          rintro e w2 ⟨rfl, hb2⟩
          clear cO
          go_wp2
          go_ret
          exact ⟨retB HF.out, hb.trans ((bA.trans (hb2.mono bA.size)).mono hsz)⟩
        · have HF : Hid (∀ j (h : j < xs.length), j < k + 1 → okOp xs[j] = true) := fun j hj hjk => by
            rcases Nat.lt_succ_iff_lt_or_eq.1 hjk with h | h
            · exact HA.out j hj h
            · subst h; exact HP.out
          go_wp2_with fail
          refine cO.mono ?_
          rintro e w2 ⟨rfl, hb2⟩
          clear cO
          go_wp2
          go_roundw
          case rel => exact ⟨k + 1, by omega, by go_num, HF.out, hb.trans ((bA.trans (hb2.mono bA.size)).mono hsz)⟩
          case measure => simp [intOf]; omega
      · obtain rfl : k = n := by omega
        have i1 : ¬ (k : Int) < k := by omega
        have HO : Hid (∀ j (h : j < xs.length), okOp xs[j] = true) := fun j hj => HA.out j hj (by omega)
        have cH := homesC _ xs B wr (hv.on hb hB) (by omega) (by omega)
        obtain ⟨p, hp⟩ : ∃ p, closedGo xs 0 = p := ⟨_, rfl⟩
        have HP : Hid (closedGo xs 0 = p) := hp
        rw [hp, hn] at cH
        clear hp HA
        cases p
        · have HF : Hid (false = codeOk xs) := (code_bad2 HP.out).symm
          go_wp2_with fail
          refine cH.mono ?_
          rintro e w2 ⟨v2, rfl, -, b2⟩
          clear cH
          go_wp2
          go_ret
          exact ⟨retB HF.out, hb.trans (b2.mono hsz)⟩
        · go_wp2_with fail
          refine cH.mono ?_
          rintro e w2 ⟨v2, rfl, O2, b2⟩
          clear cH
          have O2 := O2 (by first | trivial | rfl)
          have bb2 := hb.trans (b2.mono hsz)
          have hz2 : g ≤ w2.heap.size := by have := bb2.size; omega
          have hv2 := (hv.on bb2 hB).up (show B ≤ w2.heap.size by omega)
          have s2 := O2.sees
          rw [← hn] at s2
          have cS := skipsC _ v2 xs w2.heap.size w2 hv2 s2 (Nat.le_refl _) (by omega) HP.out HO.out
          obtain ⟨p, hp⟩ : ∃ p, skipsGo xs xs 0 = p := ⟨_, rfl⟩
          have HS : Hid (skipsGo xs xs 0 = p) := hp
          rw [hp] at cS
          clear hp
          go_wp2_with fail
          refine cS.mono ?_
          rintro e w3 ⟨rfl, b3⟩
          clear cS
          have bb3 := bb2.trans (b3.mono hz2)
          cases p
          · have HF : Hid (false = codeOk xs) := (code_bad3 HS.out).symm
            go_wp2
            go_ret
            exact ⟨retB HF.out, bb3⟩
          · have hz3 : g ≤ w3.heap.size := by have := bb3.size; omega
            have hv3 := (hv.on bb3 hB).up (show B ≤ w3.heap.size by omega)
            have s3 := (O2.on b3 (Nat.le_refl _)).sees
            rw [← hn] at s3
            have cF := forksC _ v2 xs w3.heap.size w3 hv3 s3 (Nat.le_refl _) (by omega) HP.out
            have HF : Hid (forksGo xs 0 0 = codeOk xs) := (code_all (by omega) (all_yes HO.out) HP.out HS.out).symm
            go_wp2_with fail
            refine cF.mono ?_
            rintro e w4 ⟨rfl, b4⟩
            clear cF
            go_wp2
            go_ret
            exact ⟨retB HF.out, bb3.trans (b4.mono hz3)⟩
  · have HF : Hid (false = codeOk xs) := by
      show _ = _
      unfold codeOk
      rw [decide_eq_false (show ¬ xs.length ≤ 24 by omega), Bool.false_and]
    have h24' : (24 : Int) < n := by omega
    go_enter Try.func92, Try.ntmps92
    go_wp2
    go_ret
    exact ⟨retB HF.out, Below.refl _ _⟩

theorem kid_no1I {xs : List O4} (h : codeOk xs = false) : kidOk xs = false := by unfold kidOk; rw [h]; rfl
theorem kid_no2I {xs : List O4} (h : hasFork xs = true) : kidOk xs = false := by unfold kidOk; rw [h]; simp
theorem kid_allI {xs : List O4} (h1 : codeOk xs = true) (h2 : hasFork xs = false) : kidOk xs = xs.all fun o => !(touch o == 2) := by unfold kidOk; rw [h1, h2]; simp

set_option maxRecDepth 100000 in
set_option maxHeartbeats 3200000 in
theorem kidImpl (v : Value) (xs : List O4) (B : Nat) (w : World) (hv : Sees4 B w v xs) (hB : B ≤ w.heap.size) (hlen : xs.length ≤ 1048576) :
    Calls Try.prog 53 #[v] w fun e w' => e = .returned (.bool (kidOk xs)) ∧ Below w.heap.size w w' := by
  have c0 := codeImpl v xs B w hv hB hlen
  obtain ⟨a, cap, rfl⟩ := hv.form
  obtain ⟨n, hn⟩ : ∃ n, xs.length = n := ⟨_, rfl⟩
  rw [hn] at hv hlen c0 ⊢
  obtain ⟨p, hp⟩ : ∃ p, codeOk xs = p := ⟨_, rfl⟩
  rw [hp] at c0
  obtain ⟨g, hg⟩ : ∃ g, w.heap.size = g := ⟨_, rfl⟩
  rw [hg] at hB c0 ⊢
  cases p
  · have HF : Hid (false = kidOk xs) := (kid_no1I hp).symm
    clear hp
    go_enter Try.func53, Try.ntmps53
    go_wp2_with fail
    refine c0.mono ?_
    rintro e w1 ⟨rfl, b1⟩
    go_wp2
    go_ret
    exact ⟨retB HF.out, b1⟩
  have HP : Hid (codeOk xs = true) := hp
  clear hp
  go_enter Try.func53, Try.ntmps53
  go_wp2_with fail
  refine c0.mono ?_
  rintro e w1 ⟨rfl, b1⟩
  clear c0
  have hz1 : g ≤ w1.heap.size := by have := b1.size; omega
  have c1 := forkImpl _ xs B w1 (hv.on b1 hB) (by omega) (by omega)
  obtain ⟨q, hq⟩ : ∃ q, hasFork xs = q := ⟨_, rfl⟩
  rw [hq] at c1
  cases q
  · have HE : Hid (kidOk xs = xs.all fun o => !(touch o == 2)) := kid_allI HP.out hq
    clear hq
    go_wp2_with fail
    refine c1.mono ?_
    rintro e w2 ⟨rfl, b2⟩
    clear c1
    have bb2 := b1.trans (b2.mono hz1)
    go_wp2
    go_loopw [14] (fun i' wr => ∃ k : Nat, k ≤ n ∧ i' = .int .i64 k ∧ (∀ j (h : j < xs.length), j < k → (!(touch xs[j] == 2)) = true) ∧ Below g w wr) (fun i' _ => n - (intOf i').toNat)
    case atStart => exact ⟨0, Nat.zero_le _, rfl, fun j _ h => by omega, bb2⟩
    case round =>
      obtain ⟨k, hk, rfl, hall, hb⟩ := hrel
      clear b1 b2 bb2
      have hsz : g ≤ wr.heap.size := by have := hb.size; omega
      have HA := (show Hid _ from hall)
      clear hall
      by_cases hlt : k < n
      · obtain ⟨b, off, rfl, hbB, hc⟩ := (hv.on hb hB).open (by omega)
        obtain ⟨a0, a1, a2, a3⟩ := seeI hc k (by omega)
        have i1 : (k : Int) < n := by omega
        have hkx : k < xs.length := by omega
        obtain ⟨t, ht⟩ : ∃ t, touch xs[k] = t := ⟨_, rfl⟩
        have HT : Hid (touch xs[k] = t) := ht
        obtain ⟨x, hx⟩ : ∃ x, xs[k] = x := ⟨_, rfl⟩
        rw [hx] at a0 a1 a2 a3 ht
        have bA := alloc_below wr (.cells #[.int .i64 x.k, .int .i64 x.a, .int .i64 x.b, .int .i64 x.c] 30)
        have cT := touchImpl x.k x.a x.b x.c (wr.alloc (.cells #[.int .i64 x.k, .int .i64 x.a, .int .i64 x.b, .int .i64 x.c] 30))
        have eV : opV x.k x.a x.b x.c = .agg #[.int .i64 x.k, .int .i64 x.a, .int .i64 x.b, .int .i64 x.c] := rfl
        have eT : touches x.k x.a x.b x.c = touch x := rfl
        rw [eV, eT, ht] at cT
        clear ht hx eV eT hc
        by_cases h2 : t = 2
        · have HF : Hid (false = kidOk xs) := by
            show _ = _
            rw [HE.out]
            exact (all_no (k := k) hkx (by rw [HT.out, h2]; rfl)).symm
          rw [h2] at cT
          clear h2
          go_wp2_with fail
          refine cT.mono ?_
          rintro e w2 ⟨rfl, hb2⟩
          clear cT
          go_wp2
          go_ret
          exact ⟨retB HF.out, hb.trans ((bA.trans (hb2.mono bA.size)).mono hsz)⟩
        · have HF : Hid (∀ j (h : j < xs.length), j < k + 1 → (!(touch xs[j] == 2)) = true) := fun j hj hjk => by
            rcases Nat.lt_succ_iff_lt_or_eq.1 hjk with h | h
            · exact HA.out j hj h
            · subst h; rw [HT.out]; simp [h2]
          have e2 : (t == 2) = false := by simp [h2]
          clear h2
          go_wp2_with fail
          refine cT.mono ?_
          rintro e w2 ⟨rfl, hb2⟩
          clear cT
          go_wp2
          go_roundw
          case rel => exact ⟨k + 1, by omega, by go_num, HF.out, hb.trans ((bA.trans (hb2.mono bA.size)).mono hsz)⟩
          case measure => simp [intOf]; omega
      · have HF : Hid (true = kidOk xs) := by
          show _ = _
          rw [HE.out]
          exact (all_yes fun j hj => HA.out j hj (by omega)).symm
        have i1 : ¬ (k : Int) < n := by omega
        go_wp2
        go_ret
        exact ⟨retB HF.out, hb⟩
  · have HF : Hid (false = kidOk xs) := (kid_no2I hq).symm
    clear hq
    go_wp2_with fail
    refine c1.mono ?_
    rintro e w2 ⟨rfl, b2⟩
    clear c1
    go_wp2
    go_ret
    exact ⟨retB HF.out, b1.trans (b2.mono hz1)⟩
end Ops
end Go.Proofs.Ytppkohkcffnghaa
/- An operation of a region that draws its order, taken first, its slot written out. -/
namespace Go.Proofs.Ytppkohkcffnghaa
namespace Bas
section
variable {P : Program} {ops : Array Oper} {Q : Exit → Act → World → Prop} {md : Region.Mode} {S : World → Prop}
theorem takeH {i : Nat} (d : Option Tmp) (v : Value) {oi : Oper} {fuel : Nat} {listed : Array Bool} {a : Act} {w : World} (hi : ops[i]? = some oi) (hd : oi.dst = d)
    (hs : Region.noSelect ops = true) (hf : Region.free md ops listed i = true) (hr : (Region.ready md ops listed).contains i = true)
    (hQ : ∀ c a w, Q (.panic c) (a.put d v) w → Q (.panic c) a w) (hy : YieldsIf P ops S oi v a) (hS : S w)
    (h : wpAnyH P md ops Q S fuel (listed.setIfInBounds i true) (a.put d v) w) : wpAnyH P md ops Q S (fuel + 1) listed a w := by
  subst hd; exact wpAnyH_take hi hs hf hr hQ hy hS h
theorem undrewB {w w' : World} (h : RowKit.Below w.drew.heap.size w.drew w') : RowKit.Below w.heap.size w w' := ⟨h.os, h.tape, h.output, h.size, h.block⟩
end
end Bas
end Go.Proofs.Ytppkohkcffnghaa
/- Things in memory: two rows of numbers and a number; what the specification's l7Copy answers. -/
set_option linter.unusedVariables false
set_option linter.unusedSimpArgs false
namespace Go.Proofs.Ytppkohkcffnghaa
open Go.RowKit
namespace Ops
open Bas

/-- two slices lie in different blocks -/
def Dj (a b : Value) : Prop := ∀ k, a.ownBlock = some k → b.ownBlock ≠ some k
theorem Dj.symm {a b : Value} (h : Dj a b) : Dj b a := fun k hb ha => h k ha hb
/-- things that are read -/
structure SeeT (B : Nat) (W : World) (vc vm : Value) (t : Th) : Prop where
  c : Ints.Sees B W vc t.c
  m : Ints.Sees B W vm t.m
/-- things that the call owns -/
structure OwnT (B : Nat) (W : World) (vc vm : Value) (t : Th) : Prop where
  c : Ints.Owns B W vc t.c
  m : Ints.Owns B W vm t.m
  d : Dj vc vm
section
variable {B B' : Nat} {W W' : World} {vc vm : Value} {t : Th}
theorem SeeT.on (h : SeeT B W vc vm t) (hb : Below B' W W') (hB : B ≤ B') : SeeT B W' vc vm t := ⟨h.c.on hb hB, h.m.on hb hB⟩
theorem SeeT.up (h : SeeT B W vc vm t) (hB : B ≤ B') : SeeT B' W vc vm t := ⟨h.c.up hB, h.m.up hB⟩
theorem OwnT.on (h : OwnT B W vc vm t) (hb : Below W.heap.size W W') : OwnT B W' vc vm t := ⟨h.c.on hb (Nat.le_refl _), h.m.on hb (Nat.le_refl _), h.d⟩
theorem OwnT.mono (h : OwnT B W vc vm t) (hB : B' ≤ B) : OwnT B' W vc vm t := ⟨h.c.mono hB, h.m.mono hB, h.d⟩
theorem OwnT.sees (h : OwnT B W vc vm t) : SeeT W.heap.size W vc vm t := ⟨h.c.sees, h.m.sees⟩
end
/-- rows that were made one behind the other lie apart -/
theorem dj_new {B B' : Nat} {W W' : World} {a b : Value} {zs ys : List Int} (ha : Ints.Owns B W a zs) (hb : Ints.Owns W.heap.size W' b ys) : Dj a b := fun k h h' => by
  have := (ha.at k h).2
  have := (hb.at k h').1
  omega

theorem ob_eq {p k n c : Nat} (h : (Value.slice (some ⟨p, 0, none⟩) n c).ownBlock = some k) : k = p := by cases h; rfl
/-- while things are copied: the boxed things, the result's place, what is copied -/
structure CSt (B P : Nat) (w W : World) (q : Nat) (vc vm : Value) (t : Th) : Prop where
  X : Blk W w.heap.size #[vc, vm, .int .i64 t.n] 37
  R : Blk W q #[.slice none 0 0, .slice none 0 0, .int .i64 0] 37
  v : SeeT B W vc vm t
  b : Below w.heap.size w W
  hq : w.heap.size < q ∧ q < P ∧ B ≤ w.heap.size ∧ P ≤ W.heap.size
theorem CSt.low {B P q : Nat} {w W W' : World} {vc vm : Value} {t : Th} (h : CSt B P w W q vc vm t) (hb : Below P W W') : CSt B P w W' q vc vm t :=
  have h1 := h.hq
  { X := h.X.on hb (by omega), R := h.R.on hb (by omega), v := h.v.on hb (by omega), b := h.b.trans (hb.mono (by omega)), hq := ⟨h1.1, h1.2.1, h1.2.2.1, Nat.le_trans h1.2.2.2 hb.size⟩ }
theorem CSt.grown {B P q : Nat} {w W W' : World} {vc vm : Value} {t : Th} (h : CSt B P w W q vc vm t) {p : Nat} (hg : W.grownBy W' (some p)) (hp : P ≤ p) : CSt B P w W' q vc vm t :=
  h.low ((Below.refl P W).grown hg h.hq.2.2.2 (fun k hk => by injection hk with e; omega))
theorem CSt.drew {B P q : Nat} {w W : World} {vc vm : Value} {t : Th} (h : CSt B P w W q vc vm t) : CSt B P w W.drew q vc vm t := { X := h.X, R := h.R, v := ⟨h.v.c, h.v.m⟩, b := ⟨h.b.os, h.b.tape, h.b.output, h.b.size, h.b.block⟩, hq := h.hq }
theorem own_other {B : Nat} {W : World} {v : Value} {zs : List Int} (h : Ints.Owns B W v zs) {q : Nat} (hq : q < B) (i : Nat) (u : Value) : Ints.Owns B (W.setCell ⟨q, i, none⟩ u) v zs :=
  h.keep fun k hk => Below.heap_setCell W ⟨q, i, none⟩ u k (by have := (h.at k hk).1; show k ≠ q; omega)
set_option maxRecDepth 100000 in
set_option maxHeartbeats 6400000 in
theorem copyC (vc vm : Value) (t : Th) (B : Nat) (w : World) (hv : SeeT B w vc vm t) (hB : B ≤ w.heap.size) (h1 : t.c.length ≤ 1048576) (h2 : t.m.length ≤ 1048576) :
    Calls Try.prog 64 #[.agg #[vc, vm, .int .i64 t.n]] w fun e w' => ∃ vc' vm', e = .returned (.agg #[vc', vm', .int .i64 t.n]) ∧ OwnT w.heap.size w' vc' vm' t ∧ Below w.heap.size w w' := by
  obtain ⟨ac, cc, rfl⟩ := hv.c.form
  obtain ⟨am, cm, rfl⟩ := hv.m.form
  obtain ⟨nc, hnc⟩ : ∃ n, t.c.length = n := ⟨_, rfl⟩
  obtain ⟨nm, hnm⟩ : ∃ n, t.m.length = n := ⟨_, rfl⟩
  rw [hnc] at hv ⊢
  rw [hnm] at hv ⊢
  obtain ⟨tn, htn⟩ : ∃ n, t.n = n := ⟨_, rfl⟩
  have HTN := (show Hid _ from htn)
  rw [htn]
  clear htn
  have X0 := Blk.new w #[.slice ac nc cc, .slice am nm cm, .int .i64 tn] 37
  have b0 := alloc_below w (.cells #[.slice ac nc cc, .slice am nm cm, .int .i64 tn] 37)
  obtain ⟨w0, hw0⟩ : ∃ w0, w.alloc (.cells #[.slice ac nc cc, .slice am nm cm, .int .i64 tn] 37) = w0 := ⟨_, rfl⟩
  have HW0 : Hid (w.alloc (.cells #[.slice ac nc cc, .slice am nm cm, .int .i64 tn] 37) = w0) := hw0
  have hz0 : w0.heap.size = w.heap.size + 1 := by rw [← hw0]; simp
  rw [hw0] at X0 b0
  clear hw0
  have R1 := Blk.new w0 #[.slice none 0 0, .slice none 0 0, .int .i64 0] 37
  have bR := alloc_below w0 (.cells #[.slice none 0 0, .slice none 0 0, .int .i64 0] 37)
  have X1 := X0.on bR X0.lt
  have bb := b0.trans (bR.mono b0.size)
  obtain ⟨w1, hw1⟩ : ∃ w1, w0.alloc (.cells #[.slice none 0 0, .slice none 0 0, .int .i64 0] 37) = w1 := ⟨_, rfl⟩
  have HW1 : Hid (w0.alloc (.cells #[.slice none 0 0, .slice none 0 0, .int .i64 0] 37) = w1) := hw1
  have hz1 : w1.heap.size = w.heap.size + 2 := by rw [← hw1]; simp [hz0]
  rw [hw1] at R1 X1 bb
  rw [hz0] at R1
  clear hw1 X0 b0 bR
  have hz1' : w.heap.size + 1 < w1.heap.size := by omega
  clear hz0 hz1
  have hv1 : SeeT B w1 (.slice ac nc cc) (.slice am nm cm) t := hv.on bb hB
  obtain ⟨P, hP⟩ : ∃ P, w1.heap.size = P := ⟨_, rfl⟩
  have HPw : Hid (w1.heap.size = P) := hP
  have x0 := X1.cell 0; have x1 := X1.cell 1; have x2 := X1.cell 2
  go_enter Try.func64, Try.ntmps64
  go_wp2_with fail
  rw [HW0.out, HW1.out]
  obtain ⟨q, hq⟩ : ∃ q, w.heap.size + 1 = q := ⟨_, rfl⟩
  have hqw : w.heap.size < q := by omega
  have hqP : q < P := by omega
  rw [hq] at R1 ⊢
  clear hq
  have S1 : CSt B P w w1 q (.slice ac nc cc) (.slice am nm cm) t := { X := by rw [HTN.out]; exact X1, R := R1, v := hv1, b := bb, hq := ⟨hqw, hqP, hB, by rw [HPw.out]; exact Nat.le_refl _⟩ }
  clear X1 R1 hv1 bb hv HW0 HW1 hP hz1'
  refine wp_region_held_drew (S := fun W => W.cell? ⟨w.heap.size, 0, none⟩ = some (.slice ac nc cc) ∧ W.cell? ⟨w.heap.size, 1, none⟩ = some (.slice am nm cm) ∧ W.cell? ⟨w.heap.size, 2, none⟩ = some (.int .i64 tn)) (by kernel_rfl) ⟨x0, x1, x2⟩ (fun hHeld => ?_)
  refine takeH (i := 1) (some 4) (.pointer (some ⟨w.heap.size, 0, none⟩)) rfl rfl (by kernel_rfl) (by kernel_rfl) (by kernel_rfl) (fun _ _ _ h => h) (Or.inl ⟨by rfl, fun W hSw => by obtain ⟨y0, y1, y2⟩ := hSw; go_simp⟩) (by assumption) ?_
  try simp only [Act.put, List.setIfInBounds_toArray, List.set_cons_zero, List.set_cons_succ]
  refine takeH (i := 2) (some 5) (.slice ac nc cc) rfl rfl (by kernel_rfl) (by kernel_rfl) (by kernel_rfl) (fun _ _ _ h => h) (Or.inl ⟨by rfl, fun W hSw => by obtain ⟨y0, y1, y2⟩ := hSw; go_simp⟩) (by assumption) ?_
  try simp only [Act.put, List.setIfInBounds_toArray, List.set_cons_zero, List.set_cons_succ]
  refine takeH (i := 5) (some 8) (.pointer (some ⟨w.heap.size, 1, none⟩)) rfl rfl (by kernel_rfl) (by kernel_rfl) (by kernel_rfl) (fun _ _ _ h => h) (Or.inl ⟨by rfl, fun W hSw => by obtain ⟨y0, y1, y2⟩ := hSw; go_simp⟩) (by assumption) ?_
  try simp only [Act.put, List.setIfInBounds_toArray, List.set_cons_zero, List.set_cons_succ]
  refine takeH (i := 6) (some 9) (.slice am nm cm) rfl rfl (by kernel_rfl) (by kernel_rfl) (by kernel_rfl) (fun _ _ _ h => h) (Or.inl ⟨by rfl, fun W hSw => by obtain ⟨y0, y1, y2⟩ := hSw; go_simp⟩) (by assumption) ?_
  try simp only [Act.put, List.setIfInBounds_toArray, List.set_cons_zero, List.set_cons_succ]
  refine takeH (i := 8) (some 11) (.pointer (some ⟨w.heap.size, 2, none⟩)) rfl rfl (by kernel_rfl) (by kernel_rfl) (by kernel_rfl) (fun _ _ _ h => h) (Or.inl ⟨by rfl, fun W hSw => by obtain ⟨y0, y1, y2⟩ := hSw; go_simp⟩) (by assumption) ?_
  try simp only [Act.put, List.setIfInBounds_toArray, List.set_cons_zero, List.set_cons_succ]
  refine takeH (i := 9) (some 12) (.int .i64 tn) rfl rfl (by kernel_rfl) (by kernel_rfl) (by kernel_rfl) (fun _ _ _ h => h) (Or.inl ⟨by rfl, fun W hSw => by obtain ⟨y0, y1, y2⟩ := hSw; go_simp⟩) (by assumption) ?_
  try simp only [Act.put, List.setIfInBounds_toArray, List.set_cons_zero, List.set_cons_succ]
  refine wpAnyH_ready (rs := [0, 4]) (by kernel_rfl) (by simp) ?_
  refine AllReadyH.cons rfl (fun K hK => ?_) (AllReadyH.cons rfl (fun K hK => ?_) AllReadyH.nil)
  · go_simp
    have A2 := alloc_below w1 (.cells #[] 3)
    have u0 : Ints.Owns w1.heap.size (w1.alloc (.cells #[] 3)).drew (.slice (some ⟨w1.heap.size, 0, none⟩) 0 0) [] := Ints.owns_lit w1 (Nat.le_refl _)
    have S2 : CSt B P w (w1.alloc (.cells #[] 3)).drew q (.slice ac nc cc) (.slice am nm cm) t := (CSt.drew (S1.low (A2.mono S1.hq.2.2.2)))
    have z2 : w1.heap.size < (w1.alloc (.cells #[] 3)).drew.heap.size := by show w1.heap.size < (w1.alloc (.cells #[] 3)).heap.size; simp
    have hP0 : P ≤ w1.heap.size := S1.hq.2.2.2
    obtain ⟨w2, hw2⟩ : ∃ W, (w1.alloc (.cells #[] 3)).drew = W := ⟨_, rfl⟩
    rw [hw2] at u0 S2 z2  ⊢
    obtain ⟨p0, hp0⟩ : ∃ p, w1.heap.size = p := ⟨_, rfl⟩
    rw [hp0] at u0 z2 hP0 ⊢
    clear hw2 A2
    refine hK.out _ _ ⟨by have := S2.X.cell 0; simpa using this, by have := S2.X.cell 1; simpa using this, by have := S2.X.cell 2; rw [HTN.out] at this; simpa using this⟩ (fun hH2 => ?_)
    clear hK K
    try simp only [Act.put, List.setIfInBounds_toArray, List.set_cons_zero, List.set_cons_succ]
    refine wpAnyH_ready (rs := [3, 4]) (by kernel_rfl) (by simp) ?_
    refine AllReadyH.cons rfl (fun K hK => ?_) (AllReadyH.cons rfl (fun K hK => ?_) AllReadyH.nil)
    · obtain ⟨v3, w3, hr3, O3, G3, L3⟩ := Ints.appJ (.slice (some ⟨p0, 0, none⟩) 0 0) (.slice ac nc cc) 25 [] t.c B p0 w2 u0 (by omega) S2.v.c (by simp; omega)
      have S3_ := S2.grown G3 hP0
      have L3 : ∀ k, v3.ownBlock = some k → k = p0 ∨ w2.heap.size ≤ k := fun k hk => (L3 k hk).imp ob_eq id
      have h3 : ∀ k, v3.ownBlock = some k → p0 ≤ k ∧ k < w3.heap.size := fun k hk => O3.at k hk
      rw [List.nil_append] at O3
      refine step_app rfl (.tmp 3) (.tmp 5) 25 rfl _ _ v3 w3 rfl rfl hr3 ?_
      have S3 := S3_
      have z3 : w2.heap.size ≤ w3.heap.size := G3.size
      clear hr3 G3 S3_
      refine hK.out _ _ ⟨by have := S3.X.cell 0; simpa using this, by have := S3.X.cell 1; simpa using this, by have := S3.X.cell 2; rw [HTN.out] at this; simpa using this⟩ (fun hH3 => ?_)
      clear hK K
      try simp only [Act.put, List.setIfInBounds_toArray, List.set_cons_zero, List.set_cons_succ]
      refine wpAnyH_ready (rs := [4]) (by kernel_rfl) (by simp) ?_
      refine AllReadyH.cons rfl (fun K hK => ?_) AllReadyH.nil
      go_simp
      have A4 := alloc_below w3 (.cells #[] 3)
      have u4 : Ints.Owns w3.heap.size (w3.alloc (.cells #[] 3)) (.slice (some ⟨w3.heap.size, 0, none⟩) 0 0) [] := Ints.owns_lit w3 (Nat.le_refl _)
      have S4 : CSt B P w (w3.alloc (.cells #[] 3)) q (.slice ac nc cc) (.slice am nm cm) t := ((S3.low (A4.mono S3.hq.2.2.2)))
      have O3 : Ints.Owns _ (w3.alloc (.cells #[] 3)) _ _ := O3.on A4 (Nat.le_refl _)
      have z4 : w3.heap.size < (w3.alloc (.cells #[] 3)).heap.size := by show w3.heap.size < (w3.alloc (.cells #[] 3)).heap.size; simp
      have hP4 : P ≤ w3.heap.size := S3.hq.2.2.2
      obtain ⟨w4, hw4⟩ : ∃ W, (w3.alloc (.cells #[] 3)) = W := ⟨_, rfl⟩
      rw [hw4] at u4 S4 z4 O3 ⊢
      obtain ⟨p4, hp4⟩ : ∃ p, w3.heap.size = p := ⟨_, rfl⟩
      rw [hp4] at u4 z4 hP4 ⊢
      clear hw4 A4
      refine hK.out _ _ ⟨by have := S4.X.cell 0; simpa using this, by have := S4.X.cell 1; simpa using this, by have := S4.X.cell 2; rw [HTN.out] at this; simpa using this⟩ (fun hH4 => ?_)
      clear hK K
      try simp only [Act.put, List.setIfInBounds_toArray, List.set_cons_zero, List.set_cons_succ]
      refine wpAnyH_ready (rs := [7]) (by kernel_rfl) (by simp) ?_
      refine AllReadyH.cons rfl (fun K hK => ?_) AllReadyH.nil
      obtain ⟨v7, w5, hr7, O7, G7, L7⟩ := Ints.appJ (.slice (some ⟨p4, 0, none⟩) 0 0) (.slice am nm cm) 25 [] t.m B p4 w4 u4 (by omega) S4.v.m (by simp; omega)
      have S5_ := S4.grown G7 hP4
      have L7 : ∀ k, v7.ownBlock = some k → k = p4 ∨ w4.heap.size ≤ k := fun k hk => (L7 k hk).imp ob_eq id
      have h7 : ∀ k, v7.ownBlock = some k → p4 ≤ k ∧ k < w5.heap.size := fun k hk => O7.at k hk
      have O3 := O3.grown G7 (fun k hk e => by have e := ob_eq e.symm; have a3 := L3 k hk; have b3 := h3 k hk; omega)
      rw [List.nil_append] at O7
      refine step_app rfl (.tmp 7) (.tmp 9) 25 rfl _ _ v7 w5 rfl rfl hr7 ?_
      have S5 := S5_
      have z5 : w4.heap.size ≤ w5.heap.size := G7.size
      clear hr7 G7 S5_
      refine hK.out _ _ ⟨by have := S5.X.cell 0; simpa using this, by have := S5.X.cell 1; simpa using this, by have := S5.X.cell 2; rw [HTN.out] at this; simpa using this⟩ (fun hH5 => ?_)
      clear hK K
      try simp only [Act.put, List.setIfInBounds_toArray, List.set_cons_zero, List.set_cons_succ]
      have hd : Dj v3 v7 := fun k x3 x7 => by
        have a3 := L3 k x3; have b3 := h3 k x3; have a7 := L7 k x7; have b7 := h7 k x7
        omega
      obtain ⟨aa, ca, rfl⟩ := O3.form
      obtain ⟨ab, cb, rfl⟩ := O7.form
      rw [hnc, hnm]
      rw [hnc] at O3 hd
      rw [hnm] at O7 hd
      refine takeH (i := 10) (some 13) (.agg #[.slice aa nc ca, .slice ab nm cb, .int .i64 tn]) rfl rfl (by kernel_rfl) (by kernel_rfl) (by kernel_rfl) (fun _ _ _ h => h) (Or.inl ⟨by rfl, fun W hSw => by go_simp⟩) (by assumption) ?_
      try simp only [Act.put, List.setIfInBounds_toArray, List.set_cons_zero, List.set_cons_succ]
      refine wpAnyH_ready (rs := [11]) (by kernel_rfl) (by simp) ?_
      refine AllReadyH.cons rfl (fun K hK => ?_) AllReadyH.nil
      have r0 := S5.R.cell 0; have r1 := S5.R.cell 1; have r2 := S5.R.cell 2
      have f0 := S5.R.froz 0; have f1 := S5.R.froz 1; have f2 := S5.R.froz 2
      have hqs := S5.hq
      have X9 := ((S5.X.other (q := q) (by omega) 0 (.slice aa nc ca)).other (q := q) (by omega) 1 (.slice ab nm cb)).other (q := q) (by omega) 2 (.int .i64 tn)
      have b9 := ((S5.b.setCell (p := ⟨q, 0, none⟩) (by show w.heap.size ≤ q; omega) (.slice aa nc ca)).setCell (p := ⟨q, 1, none⟩) (by show w.heap.size ≤ q; omega) (.slice ab nm cb)).setCell (p := ⟨q, 2, none⟩) (by show w.heap.size ≤ q; omega) (.int .i64 tn)
      have Oa := (own_other (own_other (own_other O3 (q := q) (by omega) 0 (.slice aa nc ca)) (q := q) (by omega) 1 (.slice ab nm cb)) (q := q) (by omega) 2 (.int .i64 tn)).mono (show w.heap.size ≤ p0 by omega)
      have Ob := (own_other (own_other (own_other O7 (q := q) (by omega) 0 (.slice aa nc ca)) (q := q) (by omega) 1 (.slice ab nm cb)) (q := q) (by omega) 2 (.int .i64 tn)).mono (show w.heap.size ≤ p4 by omega)
      go_simp
      refine hK.out _ _ ⟨by have := X9.cell 0; simpa using this, by have := X9.cell 1; simpa using this, by have := X9.cell 2; rw [HTN.out] at this; simpa using this⟩ (fun hH9 => ?_)
      clear hK K
      try simp only [Act.put, List.setIfInBounds_toArray, List.set_cons_zero, List.set_cons_succ]
      refine wpAnyH_done (by kernel_rfl) ?_ _
      go_wp2
      refine bodyPost_ret (v := .agg #[.slice aa nc ca, .slice ab nm cb, .int .i64 tn]) (by simp [results, Try.results64, go_sem, r0, r1, r2, f0, f1, f2]) rfl ?_
      exact ⟨_, _, rfl, ⟨Oa, Ob, hd⟩, b9⟩
    · go_simp
      have A3 := alloc_below w2 (.cells #[] 3)
      have u4 : Ints.Owns w2.heap.size (w2.alloc (.cells #[] 3)) (.slice (some ⟨w2.heap.size, 0, none⟩) 0 0) [] := Ints.owns_lit w2 (Nat.le_refl _)
      have S3 : CSt B P w (w2.alloc (.cells #[] 3)) q (.slice ac nc cc) (.slice am nm cm) t := ((S2.low (A3.mono S2.hq.2.2.2)))
      have u0 : Ints.Owns _ (w2.alloc (.cells #[] 3)) _ _ := u0.on A3 (Nat.le_refl _)
      have z3 : w2.heap.size < (w2.alloc (.cells #[] 3)).heap.size := by show w2.heap.size < (w2.alloc (.cells #[] 3)).heap.size; simp
      have hP4 : P ≤ w2.heap.size := S2.hq.2.2.2
      obtain ⟨w3, hw3⟩ : ∃ W, (w2.alloc (.cells #[] 3)) = W := ⟨_, rfl⟩
      rw [hw3] at u4 S3 z3 u0 ⊢
      obtain ⟨p4, hp4⟩ : ∃ p, w2.heap.size = p := ⟨_, rfl⟩
      rw [hp4] at u4 z3 hP4 ⊢
      clear hw3 A3
      refine hK.out _ _ ⟨by have := S3.X.cell 0; simpa using this, by have := S3.X.cell 1; simpa using this, by have := S3.X.cell 2; rw [HTN.out] at this; simpa using this⟩ (fun hH3 => ?_)
      clear hK K
      try simp only [Act.put, List.setIfInBounds_toArray, List.set_cons_zero, List.set_cons_succ]
      refine wpAnyH_ready (rs := [3]) (by kernel_rfl) (by simp) ?_
      refine AllReadyH.cons rfl (fun K hK => ?_) AllReadyH.nil
      obtain ⟨v3, w4, hr3, O3, G3, L3⟩ := Ints.appJ (.slice (some ⟨p0, 0, none⟩) 0 0) (.slice ac nc cc) 25 [] t.c B p0 w3 u0 (by omega) S3.v.c (by simp; omega)
      have S4_ := S3.grown G3 hP0
      have L3 : ∀ k, v3.ownBlock = some k → k = p0 ∨ w3.heap.size ≤ k := fun k hk => (L3 k hk).imp ob_eq id
      have h3 : ∀ k, v3.ownBlock = some k → p0 ≤ k ∧ k < w4.heap.size := fun k hk => O3.at k hk
      have u4 := u4.grown G3 (fun k hk e => by have e := ob_eq e.symm; have hk := ob_eq hk; omega)
      rw [List.nil_append] at O3
      refine step_app rfl (.tmp 3) (.tmp 5) 25 rfl _ _ v3 w4 rfl rfl hr3 ?_
      have S4 := S4_
      have z4 : w3.heap.size ≤ w4.heap.size := G3.size
      clear hr3 G3 S4_
      refine hK.out _ _ ⟨by have := S4.X.cell 0; simpa using this, by have := S4.X.cell 1; simpa using this, by have := S4.X.cell 2; rw [HTN.out] at this; simpa using this⟩ (fun hH4 => ?_)
      clear hK K
      try simp only [Act.put, List.setIfInBounds_toArray, List.set_cons_zero, List.set_cons_succ]
      refine wpAnyH_ready (rs := [7]) (by kernel_rfl) (by simp) ?_
      refine AllReadyH.cons rfl (fun K hK => ?_) AllReadyH.nil
      obtain ⟨v7, w5, hr7, O7, G7, L7⟩ := Ints.appJ (.slice (some ⟨p4, 0, none⟩) 0 0) (.slice am nm cm) 25 [] t.m B p4 w4 u4 (by omega) S4.v.m (by simp; omega)
      have S5_ := S4.grown G7 hP4
      have L7 : ∀ k, v7.ownBlock = some k → k = p4 ∨ w4.heap.size ≤ k := fun k hk => (L7 k hk).imp ob_eq id
      have h7 : ∀ k, v7.ownBlock = some k → p4 ≤ k ∧ k < w5.heap.size := fun k hk => O7.at k hk
      have O3 := O3.grown G7 (fun k hk e => by have e := ob_eq e.symm; have a3 := L3 k hk; have b3 := h3 k hk; omega)
      rw [List.nil_append] at O7
      refine step_app rfl (.tmp 7) (.tmp 9) 25 rfl _ _ v7 w5 rfl rfl hr7 ?_
      have S5 := S5_
      have z5 : w4.heap.size ≤ w5.heap.size := G7.size
      clear hr7 G7 S5_
      refine hK.out _ _ ⟨by have := S5.X.cell 0; simpa using this, by have := S5.X.cell 1; simpa using this, by have := S5.X.cell 2; rw [HTN.out] at this; simpa using this⟩ (fun hH5 => ?_)
      clear hK K
      try simp only [Act.put, List.setIfInBounds_toArray, List.set_cons_zero, List.set_cons_succ]
      have hd : Dj v3 v7 := fun k x3 x7 => by
        have a3 := L3 k x3; have b3 := h3 k x3; have a7 := L7 k x7; have b7 := h7 k x7
        omega
      obtain ⟨aa, ca, rfl⟩ := O3.form
      obtain ⟨ab, cb, rfl⟩ := O7.form
      rw [hnc, hnm]
      rw [hnc] at O3 hd
      rw [hnm] at O7 hd
      refine takeH (i := 10) (some 13) (.agg #[.slice aa nc ca, .slice ab nm cb, .int .i64 tn]) rfl rfl (by kernel_rfl) (by kernel_rfl) (by kernel_rfl) (fun _ _ _ h => h) (Or.inl ⟨by rfl, fun W hSw => by go_simp⟩) (by assumption) ?_
      try simp only [Act.put, List.setIfInBounds_toArray, List.set_cons_zero, List.set_cons_succ]
      refine wpAnyH_ready (rs := [11]) (by kernel_rfl) (by simp) ?_
      refine AllReadyH.cons rfl (fun K hK => ?_) AllReadyH.nil
      have r0 := S5.R.cell 0; have r1 := S5.R.cell 1; have r2 := S5.R.cell 2
      have f0 := S5.R.froz 0; have f1 := S5.R.froz 1; have f2 := S5.R.froz 2
      have hqs := S5.hq
      have X9 := ((S5.X.other (q := q) (by omega) 0 (.slice aa nc ca)).other (q := q) (by omega) 1 (.slice ab nm cb)).other (q := q) (by omega) 2 (.int .i64 tn)
      have b9 := ((S5.b.setCell (p := ⟨q, 0, none⟩) (by show w.heap.size ≤ q; omega) (.slice aa nc ca)).setCell (p := ⟨q, 1, none⟩) (by show w.heap.size ≤ q; omega) (.slice ab nm cb)).setCell (p := ⟨q, 2, none⟩) (by show w.heap.size ≤ q; omega) (.int .i64 tn)
      have Oa := (own_other (own_other (own_other O3 (q := q) (by omega) 0 (.slice aa nc ca)) (q := q) (by omega) 1 (.slice ab nm cb)) (q := q) (by omega) 2 (.int .i64 tn)).mono (show w.heap.size ≤ p0 by omega)
      have Ob := (own_other (own_other (own_other O7 (q := q) (by omega) 0 (.slice aa nc ca)) (q := q) (by omega) 1 (.slice ab nm cb)) (q := q) (by omega) 2 (.int .i64 tn)).mono (show w.heap.size ≤ p4 by omega)
      go_simp
      refine hK.out _ _ ⟨by have := X9.cell 0; simpa using this, by have := X9.cell 1; simpa using this, by have := X9.cell 2; rw [HTN.out] at this; simpa using this⟩ (fun hH9 => ?_)
      clear hK K
      try simp only [Act.put, List.setIfInBounds_toArray, List.set_cons_zero, List.set_cons_succ]
      refine wpAnyH_done (by kernel_rfl) ?_ _
      go_wp2
      refine bodyPost_ret (v := .agg #[.slice aa nc ca, .slice ab nm cb, .int .i64 tn]) (by simp [results, Try.results64, go_sem, r0, r1, r2, f0, f1, f2]) rfl ?_
      exact ⟨_, _, rfl, ⟨Oa, Ob, hd⟩, b9⟩
  · go_simp
    have A2 := alloc_below w1 (.cells #[] 3)
    have u4 : Ints.Owns w1.heap.size (w1.alloc (.cells #[] 3)).drew (.slice (some ⟨w1.heap.size, 0, none⟩) 0 0) [] := Ints.owns_lit w1 (Nat.le_refl _)
    have S2 : CSt B P w (w1.alloc (.cells #[] 3)).drew q (.slice ac nc cc) (.slice am nm cm) t := (CSt.drew (S1.low (A2.mono S1.hq.2.2.2)))
    have z2 : w1.heap.size < (w1.alloc (.cells #[] 3)).drew.heap.size := by show w1.heap.size < (w1.alloc (.cells #[] 3)).heap.size; simp
    have hP4 : P ≤ w1.heap.size := S1.hq.2.2.2
    obtain ⟨w2, hw2⟩ : ∃ W, (w1.alloc (.cells #[] 3)).drew = W := ⟨_, rfl⟩
    rw [hw2] at u4 S2 z2  ⊢
    obtain ⟨p4, hp4⟩ : ∃ p, w1.heap.size = p := ⟨_, rfl⟩
    rw [hp4] at u4 z2 hP4 ⊢
    clear hw2 A2
    refine hK.out _ _ ⟨by have := S2.X.cell 0; simpa using this, by have := S2.X.cell 1; simpa using this, by have := S2.X.cell 2; rw [HTN.out] at this; simpa using this⟩ (fun hH2 => ?_)
    clear hK K
    try simp only [Act.put, List.setIfInBounds_toArray, List.set_cons_zero, List.set_cons_succ]
    refine wpAnyH_ready (rs := [0]) (by kernel_rfl) (by simp) ?_
    refine AllReadyH.cons rfl (fun K hK => ?_) AllReadyH.nil
    go_simp
    have A3 := alloc_below w2 (.cells #[] 3)
    have u0 : Ints.Owns w2.heap.size (w2.alloc (.cells #[] 3)) (.slice (some ⟨w2.heap.size, 0, none⟩) 0 0) [] := Ints.owns_lit w2 (Nat.le_refl _)
    have S3 : CSt B P w (w2.alloc (.cells #[] 3)) q (.slice ac nc cc) (.slice am nm cm) t := ((S2.low (A3.mono S2.hq.2.2.2)))
    have u4 : Ints.Owns _ (w2.alloc (.cells #[] 3)) _ _ := u4.on A3 (Nat.le_refl _)
    have z3 : w2.heap.size < (w2.alloc (.cells #[] 3)).heap.size := by show w2.heap.size < (w2.alloc (.cells #[] 3)).heap.size; simp
    have hP0 : P ≤ w2.heap.size := S2.hq.2.2.2
    obtain ⟨w3, hw3⟩ : ∃ W, (w2.alloc (.cells #[] 3)) = W := ⟨_, rfl⟩
    rw [hw3] at u0 S3 z3 u4 ⊢
    obtain ⟨p0, hp0⟩ : ∃ p, w2.heap.size = p := ⟨_, rfl⟩
    rw [hp0] at u0 z3 hP0 ⊢
    clear hw3 A3
    refine hK.out _ _ ⟨by have := S3.X.cell 0; simpa using this, by have := S3.X.cell 1; simpa using this, by have := S3.X.cell 2; rw [HTN.out] at this; simpa using this⟩ (fun hH3 => ?_)
    clear hK K
    try simp only [Act.put, List.setIfInBounds_toArray, List.set_cons_zero, List.set_cons_succ]
    refine wpAnyH_ready (rs := [3]) (by kernel_rfl) (by simp) ?_
    refine AllReadyH.cons rfl (fun K hK => ?_) AllReadyH.nil
    obtain ⟨v3, w4, hr3, O3, G3, L3⟩ := Ints.appJ (.slice (some ⟨p0, 0, none⟩) 0 0) (.slice ac nc cc) 25 [] t.c B p0 w3 u0 (by omega) S3.v.c (by simp; omega)
    have S4_ := S3.grown G3 hP0
    have L3 : ∀ k, v3.ownBlock = some k → k = p0 ∨ w3.heap.size ≤ k := fun k hk => (L3 k hk).imp ob_eq id
    have h3 : ∀ k, v3.ownBlock = some k → p0 ≤ k ∧ k < w4.heap.size := fun k hk => O3.at k hk
    have u4 := u4.grown G3 (fun k hk e => by have e := ob_eq e.symm; have hk := ob_eq hk; omega)
    rw [List.nil_append] at O3
    refine step_app rfl (.tmp 3) (.tmp 5) 25 rfl _ _ v3 w4 rfl rfl hr3 ?_
    have S4 := S4_
    have z4 : w3.heap.size ≤ w4.heap.size := G3.size
    clear hr3 G3 S4_
    refine hK.out _ _ ⟨by have := S4.X.cell 0; simpa using this, by have := S4.X.cell 1; simpa using this, by have := S4.X.cell 2; rw [HTN.out] at this; simpa using this⟩ (fun hH4 => ?_)
    clear hK K
    try simp only [Act.put, List.setIfInBounds_toArray, List.set_cons_zero, List.set_cons_succ]
    refine wpAnyH_ready (rs := [7]) (by kernel_rfl) (by simp) ?_
    refine AllReadyH.cons rfl (fun K hK => ?_) AllReadyH.nil
    obtain ⟨v7, w5, hr7, O7, G7, L7⟩ := Ints.appJ (.slice (some ⟨p4, 0, none⟩) 0 0) (.slice am nm cm) 25 [] t.m B p4 w4 u4 (by omega) S4.v.m (by simp; omega)
    have S5_ := S4.grown G7 hP4
    have L7 : ∀ k, v7.ownBlock = some k → k = p4 ∨ w4.heap.size ≤ k := fun k hk => (L7 k hk).imp ob_eq id
    have h7 : ∀ k, v7.ownBlock = some k → p4 ≤ k ∧ k < w5.heap.size := fun k hk => O7.at k hk
    have O3 := O3.grown G7 (fun k hk e => by have e := ob_eq e.symm; have a3 := L3 k hk; have b3 := h3 k hk; omega)
    rw [List.nil_append] at O7
    refine step_app rfl (.tmp 7) (.tmp 9) 25 rfl _ _ v7 w5 rfl rfl hr7 ?_
    have S5 := S5_
    have z5 : w4.heap.size ≤ w5.heap.size := G7.size
    clear hr7 G7 S5_
    refine hK.out _ _ ⟨by have := S5.X.cell 0; simpa using this, by have := S5.X.cell 1; simpa using this, by have := S5.X.cell 2; rw [HTN.out] at this; simpa using this⟩ (fun hH5 => ?_)
    clear hK K
    try simp only [Act.put, List.setIfInBounds_toArray, List.set_cons_zero, List.set_cons_succ]
    have hd : Dj v3 v7 := fun k x3 x7 => by
      have a3 := L3 k x3; have b3 := h3 k x3; have a7 := L7 k x7; have b7 := h7 k x7
      omega
    obtain ⟨aa, ca, rfl⟩ := O3.form
    obtain ⟨ab, cb, rfl⟩ := O7.form
    rw [hnc, hnm]
    rw [hnc] at O3 hd
    rw [hnm] at O7 hd
    refine takeH (i := 10) (some 13) (.agg #[.slice aa nc ca, .slice ab nm cb, .int .i64 tn]) rfl rfl (by kernel_rfl) (by kernel_rfl) (by kernel_rfl) (fun _ _ _ h => h) (Or.inl ⟨by rfl, fun W hSw => by go_simp⟩) (by assumption) ?_
    try simp only [Act.put, List.setIfInBounds_toArray, List.set_cons_zero, List.set_cons_succ]
    refine wpAnyH_ready (rs := [11]) (by kernel_rfl) (by simp) ?_
    refine AllReadyH.cons rfl (fun K hK => ?_) AllReadyH.nil
    have r0 := S5.R.cell 0; have r1 := S5.R.cell 1; have r2 := S5.R.cell 2
    have f0 := S5.R.froz 0; have f1 := S5.R.froz 1; have f2 := S5.R.froz 2
    have hqs := S5.hq
    have X9 := ((S5.X.other (q := q) (by omega) 0 (.slice aa nc ca)).other (q := q) (by omega) 1 (.slice ab nm cb)).other (q := q) (by omega) 2 (.int .i64 tn)
    have b9 := ((S5.b.setCell (p := ⟨q, 0, none⟩) (by show w.heap.size ≤ q; omega) (.slice aa nc ca)).setCell (p := ⟨q, 1, none⟩) (by show w.heap.size ≤ q; omega) (.slice ab nm cb)).setCell (p := ⟨q, 2, none⟩) (by show w.heap.size ≤ q; omega) (.int .i64 tn)
    have Oa := (own_other (own_other (own_other O3 (q := q) (by omega) 0 (.slice aa nc ca)) (q := q) (by omega) 1 (.slice ab nm cb)) (q := q) (by omega) 2 (.int .i64 tn)).mono (show w.heap.size ≤ p0 by omega)
    have Ob := (own_other (own_other (own_other O7 (q := q) (by omega) 0 (.slice aa nc ca)) (q := q) (by omega) 1 (.slice ab nm cb)) (q := q) (by omega) 2 (.int .i64 tn)).mono (show w.heap.size ≤ p4 by omega)
    go_simp
    refine hK.out _ _ ⟨by have := X9.cell 0; simpa using this, by have := X9.cell 1; simpa using this, by have := X9.cell 2; rw [HTN.out] at this; simpa using this⟩ (fun hH9 => ?_)
    clear hK K
    try simp only [Act.put, List.setIfInBounds_toArray, List.set_cons_zero, List.set_cons_succ]
    refine wpAnyH_done (by kernel_rfl) ?_ _
    go_wp2
    refine bodyPost_ret (v := .agg #[.slice aa nc ca, .slice ab nm cb, .int .i64 tn]) (by simp [results, Try.results64, go_sem, r0, r1, r2, f0, f1, f2]) rfl ?_
    exact ⟨_, _, rfl, ⟨Oa, Ob, hd⟩, b9⟩
end Ops
end Go.Proofs.Ytppkohkcffnghaa
/- What the program's SerialKid answers. -/
set_option linter.unusedVariables false
set_option linter.unusedSimpArgs false
namespace Go.Proofs.Ytppkohkcffnghaa
open Go.RowKit
namespace Ops
open Bas Flat

def zeros (n : Nat) : List Int := List.replicate n 0
theorem over_map {r l : List Int} {t : Th} (hr : r.length = 4) (hc : t.c.length = 8) (h : l.length = t.m.length) : over (nums r t) 12 l = nums r { t with m := l } := by
  have := over_mid (r ++ t.c) t.m [t.n] l h
  have e : (r ++ t.c).length = 12 := by simp; omega
  rw [e, List.append_assoc, List.append_assoc] at this
  exact this
theorem stock_nums {zs cs ms : List Int} {n : Int} (hz : zs.length = 4 ∨ zs = []) (hc : cs.length = 8) (hm : ms.length = 8 ∨ ms = []) :
    stockL zs cs ms n = nums (if zs = [] then zeros 4 else zs) ⟨cs, if ms = [] then zeros 8 else ms, n⟩ := by
  have e0 : noughts n = nums (zeros 4) ⟨zeros 8, zeros 8, n⟩ := rfl
  have e1 : over (noughts n) 0 zs = nums (if zs = [] then zeros 4 else zs) ⟨zeros 8, zeros 8, n⟩ := by
    rcases hz with h | rfl
    · have hne : zs ≠ [] := fun h' => by rw [h'] at h; simp at h
      rw [if_neg hne, e0, over_regs (by rw [h]; rfl)]
    · rw [if_pos rfl, e0]; rfl
  have hl : (if zs = [] then zeros 4 else zs).length = 4 := by
    rcases hz with h | rfl
    · have hne : zs ≠ [] := fun h' => by rw [h'] at h; simp at h
      rw [if_neg hne]; exact h
    · rfl
  unfold stockL
  rw [e1]
  obtain ⟨r, hr⟩ : ∃ r, (if zs = [] then zeros 4 else zs) = r := ⟨_, rfl⟩
  rw [hr] at hl ⊢
  rw [over_cells hl (by rw [hc]; rfl)]
  rcases hm with h | rfl
  · have hne : ms ≠ [] := fun h' => by rw [h'] at h; simp at h
    rw [if_neg hne, over_map hl hc (by rw [h]; rfl)]
  · rw [if_pos rfl]; rfl

/-- what is told of a kid -/
def KidTold (xs : List O4) (zs cs : List Int) (out : Int) (r c : List Int) : Prop :=
  ((kidOk xs && regsOk zs && cellsOk cs) = true ∧ (∃ q, Ends xs ⟨cs, zeros 8, 0⟩ noF ⟨0, zs, ⟨cs, zeros 8, 0⟩, []⟩ q ∧ out = q.out ∧ r = q.r ∧ c = q.t.c ∧ thOk q.t = true) ∧ (out = 1 ∨ out = 2) ∧ regsOk r = true) ∨
  ((kidOk xs && regsOk zs && cellsOk cs) = false ∧ out = 0 ∧ r = [] ∧ c = [])
theorem KidTold.unique {xs : List O4} {zs cs r r' c c' : List Int} {out out' : Int} (h : KidTold xs zs cs out r c) (h' : KidTold xs zs cs out' r' c') : out = out' ∧ r = r' ∧ c = c' := by
  rcases h with ⟨h1, ⟨q, h2, rfl, rfl, rfl, -⟩, -⟩ | ⟨h1, rfl, rfl, rfl⟩ <;> rcases h' with ⟨h1', ⟨q', h2', rfl, rfl, rfl, -⟩, -⟩ | ⟨h1', rfl, rfl, rfl⟩
  · rw [h2.unique h2']; exact ⟨rfl, rfl, rfl⟩
  · rw [h1] at h1'; cases h1'
  · rw [h1] at h1'; cases h1'
  · exact ⟨rfl, rfl, rfl⟩
theorem zeros_ok {cs : List Int} (h : cellsOk cs = true) : thOk ⟨cs, zeros 8, 0⟩ = true := th_mk h (show mapOk (zeros 8) = true by decide) (show (0 : Int) ≤ 0 ∧ (0 : Int) ≤ 65535 by omega)
/-- what the call answers -/
def KidAns (xs : List O4) (zs cs : List Int) (w : World) (e : Ending) (w' : World) : Prop :=
  ∃ (out : Int) (r c : List Int) (vr vc : Value), e = .returned (.tuple #[.int .i64 out, vr, vc]) ∧ KidTold xs zs cs out r c ∧ Ints.Owns w.heap.size w' vr r ∧ Ints.Owns w.heap.size w' vc c ∧ Dj vr vc ∧ Below w.heap.size w w'
theorem kid_bad {xs : List O4} {zs cs : List Int} {w w' : World} (h : (kidOk xs && regsOk zs && cellsOk cs) = false) (hb : Below w.heap.size w w') : KidAns xs zs cs w (.returned (.tuple #[.int .i64 0, .slice none 0 0, .slice none 0 0])) w' :=
  ⟨0, [], [], _, _, rfl, .inr ⟨h, rfl, rfl, rfl⟩, ⟨by simp [Ints.iv], .inl ⟨rfl, rfl⟩⟩, ⟨by simp [Ints.iv], .inl ⟨rfl, rfl⟩⟩, (fun k h => by cases h), hb⟩
theorem infoDoing : (Try.prog.info? 93).map (·.size) = some 24 := by kernel_rfl

set_option maxRecDepth 100000 in
set_option maxHeartbeats 3200000 in
theorem kidImplC (vC vr vc : Value) (xs : List O4) (zs cs : List Int) (B : Nat) (w : World) (hx : Sees4 B w vC xs) (hr : Ints.Sees B w vr zs) (hc : Ints.Sees B w vc cs) (hB : B ≤ w.heap.size) (hlen : xs.length ≤ 1048576) :
    Calls Try.prog 12 #[vC, vr, vc] w (KidAns xs zs cs w) := by
  have cK := kidImpl vC xs B w hx hB hlen
  obtain ⟨bK, hbK⟩ : ∃ b, kidOk xs = b := ⟨_, rfl⟩
  rw [hbK] at cK
  cases bK with
  | false =>
    have HF : Hid ((kidOk xs && regsOk zs && cellsOk cs) = false) := by show _ = _; rw [hbK]; rfl
    go_enter Try.func12, Try.ntmps12
    go_wp2_with (go_at_call 53; refine cK.mono ?_; rintro e w1 ⟨rfl, b1⟩)
    go_ret3
    exact kid_bad HF.out b1
  | true =>
    obtain ⟨bR, hbR⟩ : ∃ b, regsOk zs = b := ⟨_, rfl⟩
    obtain ⟨bC, hbC⟩ : ∃ b, cellsOk cs = b := ⟨_, rfl⟩
    have cR : ∀ w1, Below w.heap.size w w1 → Calls Try.prog 54 #[vr] w1 fun e w' => e = .returned (.bool bR) ∧ w1 = w' := fun w1 b1 => by
      have := regsImpl vr zs B w1 (hr.on b1 hB)
      rw [hbR] at this; exact this
    have cV : ∀ w1, Below w.heap.size w w1 → Calls Try.prog 55 #[vc] w1 fun e w' => e = .returned (.bool bC) ∧ w1 = w' := fun w1 b1 => by
      have := Ths.implCells vc cs B w1 (hc.on b1 hB)
      rw [hbC] at this; exact this
    cases bR with
    | false =>
      have HF : Hid ((kidOk xs && regsOk zs && cellsOk cs) = false) := by show _ = _; rw [hbK, hbR]; rfl
      go_enter Try.func12, Try.ntmps12
      go_wp2_with (first | (go_at_call 53; refine cK.mono ?_; rintro e w1 ⟨rfl, b1⟩) | (go_at_call 54; refine (cR _ b1).mono ?_; rintro e w2 ⟨rfl, rfl⟩))
      go_ret3
      exact kid_bad HF.out b1
    | true =>
      cases bC with
      | false =>
        have HF : Hid ((kidOk xs && regsOk zs && cellsOk cs) = false) := by show _ = _; rw [hbK, hbR, hbC]; rfl
        go_enter Try.func12, Try.ntmps12
        go_wp2_with (first | (go_at_call 53; refine cK.mono ?_; rintro e w1 ⟨rfl, b1⟩) | (go_at_call 54; refine (cR _ b1).mono ?_; rintro e w2 ⟨rfl, rfl⟩) | (go_at_call 55; refine (cV _ b1).mono ?_; rintro e w2 ⟨rfl, rfl⟩))
        go_ret3
        exact kid_bad HF.out b1
      | true =>
        have HF : Hid ((kidOk xs && regsOk zs && cellsOk cs) = true) := by show _ = _; rw [hbK, hbR, hbC]; rfl
        have HK : Hid (kidOk xs = true) := hbK
        have HR : Hid (regsOk zs = true) := hbR
        have HC : Hid (cellsOk cs = true) := hbC
        have lz := (regsOk_out hbR).1
        have lc := (cellsOk_out hbC).1
        obtain ⟨H, hH⟩ : ∃ H, stockL zs cs [] 0 = H := ⟨_, rfl⟩
        have HH : Hid (H = nums zs ⟨cs, zeros 8, 0⟩) := by
          show H = _
          rw [← hH, stock_nums (.inl lz) lc (.inr rfl), if_neg (fun h => by rw [h] at lz; simp at lz), if_pos rfl]
        have hHl : H.length = 21 := by rw [HH.out]; exact nums_length lz lc rfl
        obtain ⟨n0, n1, n2, n3, n4, n5, n6, n7, n8, n9, n10, n11, n12, n13, n14, n15, n16, n17, n18, n19, n20, rfl⟩ : ∃ n0 n1 n2 n3 n4 n5 n6 n7 n8 n9 n10 n11 n12 n13 n14 n15 n16 n17 n18 n19 n20, H = [n0, n1, n2, n3, n4, n5, n6, n7, n8, n9, n10, n11, n12, n13, n14, n15, n16, n17, n18, n19, n20] := by
          match H, hHl with
          | [n0, n1, n2, n3, n4, n5, n6, n7, n8, n9, n10, n11, n12, n13, n14, n15, n16, n17, n18, n19, n20], _ => exact ⟨_, _, _, _, _, _, _, _, _, _, _, _, _, _, _, _, _, _, _, _, _, rfl⟩
        obtain ⟨aC, cC, rfl⟩ := hx.form
        obtain ⟨ar, cr, rfl⟩ := hr.form
        obtain ⟨ac, cc, rfl⟩ := hc.form
        have cS : ∀ w1, Below w.heap.size w w1 → Calls Try.prog 56 #[.slice ar zs.length cr, .agg #[.slice ac cs.length cc, .slice none 0 0, .int .i64 0]] w1 fun e w' => e = .returned (.agg #[.int .i64 n0, .int .i64 n1, .int .i64 n2, .int .i64 n3, .int .i64 n4, .int .i64 n5, .int .i64 n6, .int .i64 n7, .int .i64 n8, .int .i64 n9, .int .i64 n10, .int .i64 n11, .int .i64 n12, .int .i64 n13, .int .i64 n14, .int .i64 n15, .int .i64 n16, .int .i64 n17, .int .i64 n18, .int .i64 n19, .int .i64 n20]) ∧ Below w1.heap.size w1 w' := fun w1 b1 => by
          have := stockC (.slice ar zs.length cr) (.slice ac cs.length cc) (.slice none 0 0) zs cs [] 0 B w1 (hr.on b1 hB) (hc.on b1 hB) ⟨none, 0, rfl, Nat.le_refl _, by simp, fun h => absurd rfl h⟩ (Nat.le_trans hB b1.size) (by omega) (by omega) (by simp)
          rw [hH] at this; exact this
        have LZ : Hid (zs.length = 4) := lz
        have LC : Hid (cs.length = 8) := lc
        clear hH hHl hbK hbR hbC lz lc
        go_enter Try.func12, Try.ntmps12
        go_wp2_with (first | (go_at_call 53; refine cK.mono ?_; rintro e w1 ⟨rfl, b1⟩) | (go_at_call 54; refine (cR _ b1).mono ?_; rintro e w2 ⟨rfl, rfl⟩) | (go_at_call 55; refine (cV _ b1).mono ?_; rintro e w2 ⟨rfl, rfl⟩))
        refine (cS _ b1).mono ?_
        rintro e w3 ⟨rfl, b3⟩
        have b13 := b1.trans (b3.mono b1.size)
        obtain ⟨p, hp⟩ : ∃ p, w3.heap.size = p := ⟨_, rfl⟩
        have hwp : w.heap.size ≤ p := by have := b13.size; omega
        have st4 := run_storeAt_new (P := Try.prog) w3 93 #[.slice none 0 0, .slice none 0 0, .slice none 0 0, .int .i64 0, .int .i64 0, .int .i64 0, .int .i64 0, .int .i64 0, .int .i64 0, .int .i64 0, .int .i64 0, .int .i64 0, .int .i64 0, .int .i64 0, .int .i64 0, .int .i64 0, .int .i64 0, .int .i64 0, .int .i64 0, .int .i64 0, .int .i64 0, .int .i64 0, .int .i64 0, .int .i64 0] #[.slice aC xs.length cC, .slice none 0 0, .slice none 0 0, .int .i64 n0, .int .i64 n1, .int .i64 n2, .int .i64 n3, .int .i64 n4, .int .i64 n5, .int .i64 n6, .int .i64 n7, .int .i64 n8, .int .i64 n9, .int .i64 n10, .int .i64 n11, .int .i64 n12, .int .i64 n13, .int .i64 n14, .int .i64 n15, .int .i64 n16, .int .i64 n17, .int .i64 n18, .int .i64 n19, .int .i64 n20] infoDoing rfl (by simp; refine ⟨rfl, rfl, rfl, rfl, rfl, rfl, rfl, rfl, rfl, rfl, rfl, rfl, rfl, rfl, rfl, rfl, rfl, rfl, rfl, rfl, rfl, rfl, rfl⟩)
        rw [hp] at st4
        have X5 := Blk.new w3 #[.slice aC xs.length cC, .slice none 0 0, .slice none 0 0, .int .i64 n0, .int .i64 n1, .int .i64 n2, .int .i64 n3, .int .i64 n4, .int .i64 n5, .int .i64 n6, .int .i64 n7, .int .i64 n8, .int .i64 n9, .int .i64 n10, .int .i64 n11, .int .i64 n12, .int .i64 n13, .int .i64 n14, .int .i64 n15, .int .i64 n16, .int .i64 n17, .int .i64 n18, .int .i64 n19, .int .i64 n20] 93
        have b5 := alloc_below w3 (.cells #[.slice aC xs.length cC, .slice none 0 0, .slice none 0 0, .int .i64 n0, .int .i64 n1, .int .i64 n2, .int .i64 n3, .int .i64 n4, .int .i64 n5, .int .i64 n6, .int .i64 n7, .int .i64 n8, .int .i64 n9, .int .i64 n10, .int .i64 n11, .int .i64 n12, .int .i64 n13, .int .i64 n14, .int .i64 n15, .int .i64 n16, .int .i64 n17, .int .i64 n18, .int .i64 n19, .int .i64 n20] 93)
        obtain ⟨w4, hw4⟩ : ∃ W, w3.alloc (.cells #[.slice none 0 0, .slice none 0 0, .slice none 0 0, .int .i64 0, .int .i64 0, .int .i64 0, .int .i64 0, .int .i64 0, .int .i64 0, .int .i64 0, .int .i64 0, .int .i64 0, .int .i64 0, .int .i64 0, .int .i64 0, .int .i64 0, .int .i64 0, .int .i64 0, .int .i64 0, .int .i64 0, .int .i64 0, .int .i64 0, .int .i64 0, .int .i64 0] 93) = W := ⟨_, rfl⟩
        rw [hw4] at st4
        obtain ⟨w5, hw5⟩ : ∃ W, w3.alloc (.cells #[.slice aC xs.length cC, .slice none 0 0, .slice none 0 0, .int .i64 n0, .int .i64 n1, .int .i64 n2, .int .i64 n3, .int .i64 n4, .int .i64 n5, .int .i64 n6, .int .i64 n7, .int .i64 n8, .int .i64 n9, .int .i64 n10, .int .i64 n11, .int .i64 n12, .int .i64 n13, .int .i64 n14, .int .i64 n15, .int .i64 n16, .int .i64 n17, .int .i64 n18, .int .i64 n19, .int .i64 n20] 93) = W := ⟨_, rfl⟩
        rw [hw5] at st4 X5 b5
        rw [hp] at X5 b5
        clear hw5
        have D5 : Dn w5 p (.slice aC xs.length cC) (.slice none 0 0) (.slice none 0 0) [n0, n1, n2, n3, n4, n5, n6, n7, n8, n9, n10, n11, n12, n13, n14, n15, n16, n17, n18, n19, n20] := X5
        rw [HH.out] at D5
        have b15 := b13.trans (b5.mono hwp)
        have Dc5 : Dc B w5 p (.slice aC xs.length cC) (.slice none 0 0) (.slice none 0 0) xs zs ⟨cs, zeros 8, 0⟩ := { d := D5, c := hx.on b15 hB, hB := by omega }
        obtain ⟨kc, kf, kd⟩ := kid_dry HK.out
        have cO := outcomeOf B p (.slice aC xs.length cC) (.slice none 0 0) (.slice none 0 0) xs noF (fun _ => True) (fun _ _ _ _ => trivial) kc (fun r t a b => ⟨a, b⟩) (noForkDoes kf) zs ⟨cs, zeros 8, 0⟩ HR.out (zeros_ok HC.out) w5 Dc5 trivial
        clear cK cR cV cS X5
        go_wp2_with (first
          | (refine wpList_st rfl 93 (.tmp 9) (.tmp 30) rfl (.pointer (some ⟨p, 0, none⟩)) _ ?b3 ?b5 st4 ?b4; (case b3 => rfl); (case b5 => rfl))
          | (go_at_call 57; refine cO.mono ?_; rintro e w6 ⟨q, rfl, hE, ho, hqr, hqt, d6, o6⟩))
        obtain ⟨m1, m2, m3⟩ := ok_len hqr hqt
        have b16 : Below w.heap.size w w6 := b15.trans (o6.below (Nat.le_trans b15.size (Nat.le_refl _)) hwp)
        have cA := Ints.cloneC (.slice (some ⟨p, 3, none⟩) 4 4) q.r w6.drew.heap.size w6.drew (d6.d.drew.seeRegs m1) (Nat.le_refl _) (by omega)
        have cB : ∀ w7, Below w6.drew.heap.size w6.drew w7 → Calls Try.prog 58 #[.slice (some ⟨p, 7, none⟩) 8 8] w7 fun e w' => ∃ v', e = .returned v' ∧ Ints.Owns w7.heap.size w' v' q.t.c ∧ Below w7.heap.size w7 w' := fun w7 b7 =>
          Ints.cloneC (.slice (some ⟨p, 7, none⟩) 8 8) q.t.c w7.heap.size w7 ((d6.d.drew.on b7 d6.d.lt).seeCells m1 m2) (Nat.le_refl _) (by omega)
        have HA : Hid (KidTold xs zs cs q.out q.r q.t.c) := .inl ⟨HF.out, ⟨q, hE, rfl, rfl, rfl, hqt⟩, ho, hqr⟩
        obtain ⟨qo, qr, qt⟩ := q
        simp only at cA cB HA ho
        clear hE ho cO D5 Dc5 st4
        go_region_with (first
          | (go_at_call_of 58 (Value.slice (some ⟨p, 3, none⟩) 4 4); refine cA.mono ?_; rintro e w7 ⟨v7, rfl, O7, b7⟩)
          | (go_at_call_of 58 (Value.slice (some ⟨p, 7, none⟩) 8 8); refine (cB _ b7).mono ?_; rintro e w8 ⟨v8, rfl, O8, b8⟩))
        all_goals
          go_wp2
          go_ret3
          have z6 : w.heap.size ≤ w6.drew.heap.size := b16.size
          have z7 := b7.size
          exact ⟨qo, qr, qt.c, v7, v8, rfl, HA.out, (O7.on b8 (Nat.le_refl _)).mono z6, O8.mono (Nat.le_trans z6 z7), dj_new (B' := 0) O7 O8, (b16.drew.trans (b7.mono z6)).trans (b8.mono (Nat.le_trans z6 z7))⟩
end Ops
end Go.Proofs.Ytppkohkcffnghaa
