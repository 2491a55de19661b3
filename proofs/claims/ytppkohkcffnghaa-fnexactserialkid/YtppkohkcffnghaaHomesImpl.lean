/- What the program's homesOf answers. -/
import Derived.Test.YtppkohkcffnghaaShapeImpl
import Derived.Test.YtppkohkcffnghaaStkRow
set_option linter.unusedVariables false
set_option linter.unusedSimpArgs false
namespace Go.Proofs.Ytppkohkcffnghaa
open Go.RowKit
namespace Ops
open Bas Flat

theorem st_len (xs : List O4) : ∀ k, (stAt xs k).length ≤ k + 1 := by
  intro k
  induction k with
  | zero => simp [stAt]
  | succ k ih =>
    show (stepS (stAt xs k) k (xs.getD k z4)).length ≤ k + 1 + 1
    obtain ⟨o, ho⟩ : ∃ o, xs.getD k z4 = o := ⟨_, rfl⟩
    rw [ho]
    by_cases h8 : o.k = 8
    · rw [step8 h8]; simp; omega
    · by_cases h9 : o.k = 9
      · rw [step9 h9, List.length_tail]; omega
      · rw [step0 h8 h9]; omega
theorem topB_cons (x : Int) (r : List Int) : topB (x :: r) = ⟨x, r.length⟩ := by unfold topB; simp

/-- open blocks and homes, each in a block of its own -/
structure HSt (g : Nat) (w W : World) (vo vh : Value) (st : List Int) (hs : List B2) : Prop where
  O : OwnsB g W vo (stk st)
  H : OwnsB g W vh hs
  sep : ∀ q, vo.ownBlock = some q → vh.ownBlock ≠ some q
  low : g ≤ W.heap.size
  below : Below g w W
section
variable {g : Nat} {w W W' : World} {vo vh v' : Value} {st r : List Int} {hs : List B2}
theorem HSt.on (h : HSt g w W vo vh st hs) (b : Below W.heap.size W W') : HSt g w W' vo vh st hs :=
  { O := h.O.on b (Nat.le_refl _), H := h.H.on b (Nat.le_refl _), sep := h.sep, low := Nat.le_trans h.low b.size, below := h.below.trans (b.mono h.low) }
theorem HSt.begun (h : HSt g w W vo vh st hs) (st' : List Int) (O : OwnsB g W' v' (stk st')) (G : W.grownBy W' vo.ownBlock) (L : ∀ k, v'.ownBlock = some k → vo.ownBlock = some k ∨ W.heap.size ≤ k) : HSt g w W' v' vh st' hs :=
  { O := O
    H := h.H.grown G (fun k hk e => h.sep k e.symm hk)
    sep := fun q hq e => by
      rcases L q hq with h' | h'
      · exact h.sep q h' e
      · have := h.H.at q e; omega
    low := Nat.le_trans h.low G.size
    below := h.below.grown G h.low (fun k hk => (h.O.at k hk).1) }
theorem HSt.ended (h : HSt g w W vo vh st hs) (st' : List Int) (O : OwnsB g W v' (stk st')) (e : v'.ownBlock = vo.ownBlock) : HSt g w W v' vh st' hs :=
  { O := O, H := h.H, sep := fun q hq => h.sep q (e ▸ hq), low := h.low, below := h.below }
/-- append(homes, x) -/
theorem HSt.home (h : HSt g w W vo vh st hs) (x : B2) (hlen : hs.length ≤ 1000000) :
    ∃ v' W', (Builtin.append_ #[139, 139] 139 #[vh, .slice (some ⟨W.heap.size, 0, none⟩) 1 1]).run Try.prog (W.alloc (.cells #[.int .i64 x.b, .int .i64 x.d] 156)) = .ok v' W' ∧ HSt g w W' vo v' st (hs ++ [x]) ∧ W.grownBy W' vh.ownBlock := by
  obtain ⟨v', W', hr, hO, hG, hl⟩ := pushB rowB vh hs g W h.H h.low (by omega) x
  refine ⟨v', W', hr, { O := h.O.grown hG (fun k hk e => h.sep k hk e.symm), H := hO, sep := fun q hq e => ?_, low := Nat.le_trans h.low hG.size, below := h.below.grown hG h.low (fun k hk => (h.H.at k hk).1) }, hG⟩
  rcases hl q e with h' | h'
  · exact h.sep q hq h'
  · have := h.O.at q hq; omega
end

set_option maxRecDepth 100000 in
set_option maxHeartbeats 6400000 in
theorem homesC (v : Value) (xs : List O4) (B : Nat) (w : World) (hv : Sees4 B w v xs) (hB : B ≤ w.heap.size) (hlen : xs.length ≤ 1000) :
    Calls Try.prog 110 #[v] w fun e w' => ∃ v', e = .returned (.tuple #[v', .bool (closedGo xs 0)]) ∧ (closedGo xs 0 = true → OwnsB w.heap.size w' v' (homes xs (xs.length + 1))) ∧ Below w.heap.size w w' := by
  obtain ⟨a, cap, rfl⟩ := hv.form
  obtain ⟨n, hn⟩ : ∃ n, xs.length = n := ⟨_, rfl⟩
  rw [hn] at hv hlen ⊢
  obtain ⟨g, hg⟩ : ∃ g, w.heap.size = g := ⟨_, rfl⟩
  have cN := noneC w
  rw [hg] at hB cN ⊢
  have HE : Hid (closedGo xs 0 = closedGo (xs.drop 0) (((stAt xs 0).length : Int) - 1)) := rfl
  go_enter Try.func110, Try.ntmps110
  go_wp2_with fail
  refine cN.mono ?_
  rintro e w1 ⟨v1, rfl, O1, b1⟩
  clear cN
  obtain ⟨a1, c1, rfl⟩ := O1.form
  have hs1 : g ≤ w1.heap.size := by have := b1.size; omega
  obtain ⟨w2, b2, hs2, hmk, H2⟩ := makeRoom rowB (n + 1) (by omega) w1 w1.heap.size (Nat.le_refl _)
  rw [show ((n + 1 : Nat) : Int) = (n : Int) + 1 by omega] at hmk
  have P0 : HSt g w w2 (.slice a1 (stk [-1]).length c1) (.slice (some ⟨w1.heap.size, 0, none⟩) 0 (n + 1)) (stAt xs 0) (homes xs 0) :=
    { O := O1.on b2 (Nat.le_refl _), H := H2.mono hs1, sep := fun q hq e => by cases e; exact Nat.lt_irrefl _ (O1.at _ hq).2, low := by omega, below := b1.trans (b2.mono hs1) }
  clear O1 b1 b2 H2 hs2
  go_wp2
  go_loopw [4, 5, 15] (fun ov hv' iv wr => ∃ (k : Nat) (ao : Option Addr) (no co : Nat) (ah : Option Addr) (nh ch : Nat), ov = .slice ao no co ∧ hv' = .slice ah nh ch ∧ iv = .int .i64 k ∧ k ≤ n ∧ 1 ≤ (stAt xs k).length ∧ HSt g w wr (.slice ao no co) (.slice ah nh ch) (stAt xs k) (homes xs k) ∧ closedGo xs 0 = closedGo (xs.drop k) (((stAt xs k).length : Int) - 1)) (fun _ _ iv _ => n - (intOf iv).toNat)
  case atStart => exact ⟨0, _, _, _, _, _, _, rfl, rfl, rfl, Nat.zero_le _, by simp [stAt], P0, HE.out⟩
  case round =>
    obtain ⟨k, ao, no, co, ah, nh, ch, rfl, rfl, rfl, hk, hst, P, he⟩ := hrel
    clear P0 HE hmk
    have hsl := st_len xs k
    have hsz := P.low
    obtain ⟨x, r, hxr⟩ : ∃ x r, stAt xs k = x :: r := by
      match h : stAt xs k, hst with
      | x :: r, _ => exact ⟨x, r, rfl⟩
    have HH : Hid (homes xs (k + 1) = homes xs k ++ [⟨x, r.length⟩]) := by
      show _ = _
      rw [homes_succ, hxr, topB_cons]
    have HX : Hid (stAt xs k = x :: r) := hxr
    have hl := homes_length xs k
    rw [hxr] at P he hsl
    clear hst hxr
    by_cases hlt : k < n
    · obtain ⟨b, off, rfl, hbB, hc⟩ := (hv.on P.below hB).open (by omega)
      obtain ⟨e0, e1, e2, e3⟩ := seeI hc k (by omega)
      have i1 : (k : Int) < n := by omega
      have HN : Hid (stAt xs (k + 1) = stepS (stAt xs k) k xs[k]) := stAt_succ (by omega)
      rw [closedGo_step (by omega)] at he
      obtain ⟨o, ho⟩ : ∃ o, xs[k] = o := ⟨_, rfl⟩
      rw [ho] at e0 e1 e2 e3 he HN
      have HC := (show Hid _ from he)
      clear hc ho he
      have X0 := Blk.new wr #[.int .i64 o.k, .int .i64 o.a, .int .i64 o.b, .int .i64 o.c] 30
      have P1 := P.on (alloc_below wr (.cells #[.int .i64 o.k, .int .i64 o.a, .int .i64 o.b, .int .i64 o.c] 30))
      go_wp2_with fail
      refine (innerC _ x r _ _ P1.O.sees (Nat.le_refl _)).mono ?_
      rintro e w2 ⟨rfl, b2⟩
      have P2 := P1.on b2
      have X2 := X0.on b2 X0.lt
      obtain ⟨v3, w3, hr3, P3, G3⟩ := P2.home ⟨x, r.length⟩ (by omega)
      rw [← HH.out] at P3
      have X3 := X2.grown G3 (fun e => by have := P.H.at _ e.symm; omega)
      have hf1 := fun x y W => fieldB1 x y W
      obtain ⟨a3, c3, rfl⟩ := P3.H.form
      have x3 := X3.cell 0
      clear X0 P1 P2 X2 e0 e1 e2 e3 P
      rcases kindI o with ⟨h8, hD⟩ | ⟨h9, hD⟩ | ⟨h8, h9, hD⟩
      · rw [h8] at x3
        have HF : Hid (closedGo xs 0 = closedGo (xs.drop (k + 1)) (((stAt xs (k + 1)).length : Int) - 1)) := by
          show _ = _
          rw [HC.out, HN.out, step8 h8, HX.out, hD, decide_eq_true (by simp; omega), Bool.true_and]
          congr 1
          simp
        have HS : Hid (stAt xs (k + 1) = (k : Int) :: x :: r) := by show _ = _; rw [HN.out, step8 h8, HX.out]
        clear hD
        go_wp2_with (at_builtin; refine wpList_app _ rfl _ _ 139 rfl _ _ _ _ rfl rfl hr3 ?_)
        clear hr3
        refine (begunC _ (x :: r) k g w3 P3.O P3.low (by omega)).mono ?_
        rintro e w4 ⟨v4, rfl, O4', G4, L4⟩
        have P4 := P3.begun ((k : Int) :: x :: r) O4' G4 L4
        obtain ⟨a4, c4, rfl⟩ := O4'.form
        go_wp2
        go_roundw
        case rel => exact ⟨k + 1, _, _, _, _, _, _, rfl, rfl, by go_num, by omega, by rw [HS.out]; simp, by rw [HS.out]; exact P4, HF.out⟩
        case measure => simp [intOf]; omega
      · rw [h9] at x3
        have HS : Hid (stAt xs (k + 1) = r) := by show _ = _; rw [HN.out, step9 h9, HX.out]; rfl
        cases r with
        | nil =>
          have HF : Hid (false = closedGo xs 0) := by
            show _ = _
            rw [HC.out, hD]; rfl
          clear hD
          go_wp2_with (at_builtin; refine wpList_app _ rfl _ _ 139 rfl _ _ _ _ rfl rfl hr3 ?_)
          clear hr3
          refine (innerC _ x [] _ w3 P3.O.sees (Nat.le_refl _)).mono ?_
          rintro e w4 ⟨rfl, b4⟩
          have P4 := P3.on b4
          go_wp2
          go_ret2
          exact ⟨.slice none 0 0, (by show Ending.returned (.tuple #[.slice none 0 0, .bool false]) = _; rw [← HF.out]), (fun h => by rw [← HF.out] at h; cases h), P4.below⟩
        | cons y r =>
          have HF : Hid (closedGo xs 0 = closedGo (xs.drop (k + 1)) (((stAt xs (k + 1)).length : Int) - 1)) := by
            show _ = _
            rw [HC.out, HS.out, hD, decide_eq_true (by simp; omega), Bool.true_and]
            congr 1
            simp; omega
          have dn : (((y :: r).length : Int) == 0) = false := by simp; omega
          clear hD
          go_wp2_with (at_builtin; refine wpList_app _ rfl _ _ 139 rfl _ _ _ _ rfl rfl hr3 ?_)
          clear hr3
          refine (innerC _ x (y :: r) _ w3 P3.O.sees (Nat.le_refl _)).mono ?_
          rintro e w4 ⟨rfl, b4⟩
          have P4 := P3.on b4
          go_wp2_with fail
          refine (endedC _ x (y :: r) g w4 P4.O).mono ?_
          rintro e w5 ⟨v5, rfl, O5, e5, rfl⟩
          have P5 := P4.ended (y :: r) O5 e5
          obtain ⟨a5, c5, rfl⟩ := O5.form
          go_wp2
          go_roundw
          case rel => exact ⟨k + 1, _, _, _, _, _, _, rfl, rfl, by go_num, by omega, by rw [HS.out]; simp, by rw [HS.out]; exact P5, HF.out⟩
          case measure => simp [intOf]; omega
      · have HS : Hid (stAt xs (k + 1) = x :: r) := by show _ = _; rw [HN.out, step0 (by simpa using h8) (by simpa using h9), HX.out]
        have HF : Hid (closedGo xs 0 = closedGo (xs.drop (k + 1)) (((stAt xs (k + 1)).length : Int) - 1)) := by
          show _ = _
          rw [HC.out, HS.out, hD, decide_eq_true (by simp only [List.length_cons]; omega), Bool.true_and, Int.add_zero]
        clear hD
        go_wp2_with (at_builtin; refine wpList_app _ rfl _ _ 139 rfl _ _ _ _ rfl rfl hr3 ?_)
        clear hr3
        go_roundw
        case rel => exact ⟨k + 1, _, _, _, _, _, _, rfl, rfl, by go_num, by omega, by rw [HS.out]; simp, by rw [HS.out]; exact P3, HF.out⟩
        case measure => simp [intOf]; omega
    · obtain rfl : k = n := by omega
      have i1 : ¬ (k : Int) < k := by omega
      have HF : Hid (((r.length : Int) == 0) = closedGo xs 0) := by
        show _ = _
        rw [he, List.drop_of_length_le (by omega)]
        show _ = (((((x :: r).length : Nat) : Int) - 1) == 0)
        congr 1
        simp
      clear he i1
      go_wp2_with fail
      refine (innerC _ x r _ _ P.O.sees (Nat.le_refl _)).mono ?_
      rintro e w2 ⟨rfl, b2⟩
      have P2 := P.on b2
      obtain ⟨v3, w3, hr3, P3, G3⟩ := P2.home ⟨x, r.length⟩ (by omega)
      rw [← HH.out] at P3
      have hf1 := fun x y W => fieldB1 x y W
      go_wp2_with (at_builtin; refine wpList_app _ rfl _ _ 139 rfl _ _ _ _ rfl rfl hr3 ?_)
      clear hr3
      refine (innerC _ x r _ w3 P3.O.sees (Nat.le_refl _)).mono ?_
      rintro e w4 ⟨rfl, b4⟩
      have P4 := P3.on b4
      go_wp2
      go_ret2
      exact ⟨v3, (by show Ending.returned (.tuple #[v3, .bool ((r.length : Int) == 0)]) = _; rw [← HF.out]), (fun _ => P4.H), P4.below⟩
end Ops
end Go.Proofs.Ytppkohkcffnghaa
