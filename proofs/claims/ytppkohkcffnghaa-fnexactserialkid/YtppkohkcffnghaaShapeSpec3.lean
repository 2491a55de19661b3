/- What the specification's CodeOk and KidOk answer. -/
import Derived.Test.YtppkohkcffnghaaShapeSpec2
set_option linter.unusedVariables false
namespace Go.Proofs.Ytppkohkcffnghaa
open Go.RowKit
namespace Ops
open Bas Flat

/-- one op more of a code, by its kind -/
theorem go_bad {xs : List O4} {k : Nat} (h : k < xs.length) {d : Int} {f : Nat} (ho : okOp xs[k] = false) : codeGo xs (xs.drop k) k d f = false := by
  rw [codeGo_step h, ho]; simp
theorem go_begin {xs : List O4} {k : Nat} (h : k < xs.length) {d : Int} {f : Nat} (ho : okOp xs[k] = true) (hd : 0 ≤ d) (h8 : xs[k].k = 8) : codeGo xs (xs.drop k) k d f = codeGo xs (xs.drop (k + 1)) (k + 1) (d + 1) f := by
  have e : delta xs[k] = 1 := by unfold delta; rw [if_pos h8]
  rw [codeGo_step h, ho, e, h8, decide_eq_true (show 0 ≤ d + 1 by omega)]; simp
theorem go_end {xs : List O4} {k : Nat} (h : k < xs.length) {d : Int} {f : Nat} (ho : okOp xs[k] = true) (h9 : xs[k].k = 9) : codeGo xs (xs.drop k) k d f = (decide (0 ≤ d - 1) && codeGo xs (xs.drop (k + 1)) (k + 1) (d - 1) f) := by
  have e : delta xs[k] = -1 := by unfold delta; rw [if_neg (by omega), if_pos h9]
  rw [codeGo_step h, ho, e, h9, Int.add_neg_one]; simp
theorem go_skip {xs : List O4} {k : Nat} (h : k < xs.length) {d : Int} {f : Nat} (ho : okOp xs[k] = true) (hd : 0 ≤ d) (h7 : xs[k].k = 7) : codeGo xs (xs.drop k) k d f = (skipOk xs k && codeGo xs (xs.drop (k + 1)) (k + 1) d f) := by
  have e : delta xs[k] = 0 := by unfold delta; rw [if_neg (by omega), if_neg (by omega)]
  rw [codeGo_step h, ho, e, h7, Int.add_zero, decide_eq_true hd]; simp
theorem go_fork {xs : List O4} {k : Nat} (h : k < xs.length) {d : Int} {f : Nat} (ho : okOp xs[k] = true) (hd : 0 ≤ d) (h11 : xs[k].k = 11) : codeGo xs (xs.drop k) k d f = (decide (d ≤ 0) && decide (f = 0) && codeGo xs (xs.drop (k + 1)) (k + 1) d (f + 1)) := by
  have e : delta xs[k] = 0 := by unfold delta; rw [if_neg (by omega), if_neg (by omega)]
  rw [codeGo_step h, ho, e, h11, Int.add_zero, decide_eq_true hd]; simp
theorem go_else {xs : List O4} {k : Nat} (h : k < xs.length) {d : Int} {f : Nat} (ho : okOp xs[k] = true) (hd : 0 ≤ d) (h8 : ¬ xs[k].k = 8) (h9 : ¬ xs[k].k = 9) (h7 : ¬ xs[k].k = 7) (h11 : ¬ xs[k].k = 11) : codeGo xs (xs.drop k) k d f = codeGo xs (xs.drop (k + 1)) (k + 1) d f := by
  have e : delta xs[k] = 0 := by unfold delta; rw [if_neg h8, if_neg h9]
  rw [codeGo_step h, ho, e, Int.add_zero, decide_eq_true hd]; simp [h7, h11]
theorem ok_skip {x : O4} (h : okOp x = true) (h7 : x.k = 7) : 1 ≤ x.b ∧ x.b ≤ 20 := by
  unfold okOp at h
  rw [h7] at h
  have h' : (inn 0 3 x.a && inn 1 20 x.b && inn 0 0 x.c) = true := h
  rw [Bool.and_eq_true, Bool.and_eq_true] at h'
  have := h'.1.2
  unfold inn at this
  simpa using this

set_option maxRecDepth 100000 in
set_option maxHeartbeats 6400000 in
theorem codeSpec (v : Value) (xs : List O4) (B : Nat) (w : World) (hv : Sees4 B w v xs) (hB : B ≤ w.heap.size) (hlen : xs.length ≤ 1048576) :
    Calls Try.prog 50 #[v] w fun e w' => e = .returned (.bool (codeOk xs)) ∧ Below w.heap.size w w' := by
  obtain ⟨a, cap, rfl⟩ := hv.form
  obtain ⟨n, hn⟩ : ∃ n, xs.length = n := ⟨_, rfl⟩
  rw [hn] at hv hlen ⊢
  by_cases h24 : n ≤ 24
  · have HE : Hid (codeOk xs = codeGo xs (xs.drop 0) 0 0 0) := by
      show _ = _
      unfold codeOk
      rw [decide_eq_true (show xs.length ≤ 24 by omega), Bool.true_and]; rfl
    have h24' : ¬ (24 : Int) < n := by omega
    obtain ⟨g, hg⟩ : ∃ g, w.heap.size = g := ⟨_, rfl⟩
    rw [hg] at hB ⊢
    have hb0 : Below g w w := Below.refl _ _
    go_enter Try.func50, Try.ntmps50
    go_wp2
    go_loopw [3, 4, 5] (fun d ff i' wr => ∃ (k f : Nat) (q : Int), k ≤ n ∧ f ≤ k ∧ 0 ≤ q ∧ q ≤ k ∧ i' = .int .i64 k ∧ d = .int .i64 q ∧ ff = .int .i64 f ∧ codeOk xs = codeGo xs (xs.drop k) k q f ∧ Below g w wr) (fun _ _ i' _ => n - (intOf i').toNat)
    case atStart => exact ⟨0, 0, 0, Nat.zero_le _, Nat.le_refl _, by omega, by omega, rfl, rfl, rfl, HE.out, hb0⟩
    case round =>
      obtain ⟨k, f, q, hk, hf, hq1, hq2, rfl, rfl, rfl, he, hb⟩ := hrel
      clear HE hb0
      have hsz : g ≤ wr.heap.size := by have := hb.size; omega
      by_cases hlt : k < n
      · have hvr := hv.on hb hB
        obtain ⟨b, off, rfl, hbB, hc⟩ := hvr.open (by omega)
        obtain ⟨a0, a1, a2, a3⟩ := see4 (B := B) hc k (by omega)
        have HN := (show Hid _ from he)
        have i1 : (k : Int) < n := by omega
        have hkx : k < xs.length := by omega
        have cO := specC xs[k].k xs[k].a xs[k].b xs[k].c wr
        have eV : opV xs[k].k xs[k].a xs[k].b xs[k].c = .agg #[.int .i64 xs[k].k, .int .i64 xs[k].a, .int .i64 xs[k].b, .int .i64 xs[k].c] := rfl
        rw [eV] at cO
        have eO : opOk xs[k].k xs[k].a xs[k].b xs[k].c = okOp xs[k] := rfl
        rw [eO] at cO
        obtain ⟨p, hp⟩ : ∃ p, okOp xs[k] = p := ⟨_, rfl⟩
        have HP : Hid (okOp xs[k] = p) := hp
        rw [hp] at cO
        obtain ⟨x, hx⟩ : ∃ x, xs[k] = x := ⟨_, rfl⟩
        have HX : Hid (xs[k] = x) := hx
        rw [hx] at a0 a1 a2 a3 cO
        clear he hp hx eV eO
        cases p
        · have HF : Hid (false = codeOk xs) := by show _ = _; rw [HN.out, go_bad hkx HP.out]
          clear HN hc
          go_wp2_with fail
          refine cO.mono ?_
          rintro e w2 ⟨rfl, hb2⟩
          clear cO
          go_wp2
          go_ret
          exact ⟨ret_b HF.out, hb.trans (hb2.mono hsz)⟩
        go_wp2_with fail
        refine cO.mono ?_
        rintro e w2 ⟨rfl, hb2⟩
        have hbb := hb.trans (hb2.mono hsz)
        have hv2 := hvr.on hb2 (by omega)
        have a0 := (hb2.cell (p := ⟨b, off + k * 4, none⟩) (by show b < wr.heap.size; omega)).trans a0
        clear cO a1 a2 a3 hc
        have hok := HP.out
        by_cases h8 : x.k = 8
        · have HF : Hid (codeOk xs = codeGo xs (xs.drop (k + 1)) (k + 1) (q + 1) f) := by show _ = _; rw [HN.out, go_begin hkx hok hq1 (by rw [HX.out]; exact h8)]
          rw [h8] at a0
          clear h8 HN hok
          go_wp2
          go_roundw
          case rel => exact ⟨k + 1, f, q + 1, by omega, by omega, by omega, by omega, by go_num, rfl, rfl, HF.out, hbb⟩
          case measure => simp [intOf]; omega
        by_cases h9 : x.k = 9
        · have he := go_end hkx (d := q) (f := f) hok (by rw [HX.out]; exact h9)
          rw [h9] at a0
          clear h8 h9
          by_cases hz : 0 ≤ q - 1
          · have HF : Hid (codeOk xs = codeGo xs (xs.drop (k + 1)) (k + 1) (q - 1) f) := by show _ = _; rw [HN.out, he, decide_eq_true hz, Bool.true_and]
            have hz' : ¬ q - 1 < 0 := by omega
            clear he HN hok hz
            go_wp2
            go_roundw
            case rel => exact ⟨k + 1, f, q - 1, by omega, by omega, by omega, by omega, by go_num, rfl, rfl, HF.out, hbb⟩
            case measure => simp [intOf]; omega
          · have HF : Hid (false = codeOk xs) := by show _ = _; rw [HN.out, he, decide_eq_false hz, Bool.false_and]
            obtain rfl : q = 0 := by omega
            clear he HN hok hz
            go_wp2
            go_ret
            exact ⟨ret_b HF.out, hbb⟩
        have e8 : (x.k == 8) = false := by simp [h8]
        have e9 : (x.k == 9) = false := by simp [h9]
        by_cases h7 : x.k = 7
        · have he := go_skip hkx (d := q) (f := f) hok hq1 (by rw [HX.out]; exact h7)
          obtain ⟨s1, s2⟩ := ok_skip (by rw [← HX.out]; exact hok) h7
          have hgx : xs.getD k z4 = x := by rw [getD_at4 hkx]; exact HX.out
          have cK := skipSpec _ xs k B w2 hv2 (by omega) hkx (by rw [hgx]; omega) (by rw [hgx]; omega)
          rw [h7] at a0
          obtain ⟨p, hp⟩ : ∃ p, skipOk xs k = p := ⟨_, rfl⟩
          rw [hp] at cK he
          clear h8 h9 h7 e8 e9 hgx hp
          cases p
          · have HF : Hid (false = codeOk xs) := by show _ = _; rw [HN.out, he, Bool.false_and]
            clear he HN hok
            go_wp2_with fail
            refine cK.mono ?_
            rintro e w3 ⟨rfl, rfl⟩
            clear cK
            go_wp2
            go_ret
            exact ⟨ret_b HF.out, hbb⟩
          · have HF : Hid (codeOk xs = codeGo xs (xs.drop (k + 1)) (k + 1) q f) := by show _ = _; rw [HN.out, he, Bool.true_and]
            have hq' : ¬ q < 0 := by omega
            clear he HN hok
            go_wp2_with fail
            refine cK.mono ?_
            rintro e w3 ⟨rfl, rfl⟩
            clear cK
            go_wp2
            go_roundw
            case rel => exact ⟨k + 1, f, q, by omega, by omega, by omega, by omega, by go_num, rfl, rfl, HF.out, hbb⟩
            case measure => simp [intOf]; omega
        have e7 : (x.k == 7) = false := by simp [h7]
        by_cases h11 : x.k = 11
        · have he := go_fork hkx (d := q) (f := f) hok hq1 (by rw [HX.out]; exact h11)
          rw [h11] at a0
          clear h8 h9 h7 e8 e9 e7 h11
          by_cases hq0 : q ≤ 0
          · obtain rfl : q = 0 := by omega
            by_cases hf0 : f = 0
            · subst hf0
              have HF : Hid (codeOk xs = codeGo xs (xs.drop (k + 1)) (k + 1) 0 1) := by show _ = _; rw [HN.out, he]; simp
              clear he HN hok hq0
              go_wp2
              go_roundw
              case rel => exact ⟨k + 1, 1, 0, by omega, by omega, by omega, by omega, by go_num, rfl, rfl, HF.out, hbb⟩
              case measure => simp [intOf]; omega
            · have HF : Hid (false = codeOk xs) := by show _ = _; rw [HN.out, he, decide_eq_false hf0]; simp
              have hf1 : (1 : Int) < (f : Int) + 1 := by omega
              clear he HN hok hq0
              go_wp2
              go_ret
              exact ⟨ret_b HF.out, hbb⟩
          · have HF : Hid (false = codeOk xs) := by show _ = _; rw [HN.out, he, decide_eq_false hq0]; simp
            have hq' : 0 < q := by omega
            clear he HN hok hq0
            go_wp2
            go_ret
            exact ⟨ret_b HF.out, hbb⟩
        have e11 : (x.k == 11) = false := by simp [h11]
        have HF : Hid (codeOk xs = codeGo xs (xs.drop (k + 1)) (k + 1) q f) := by show _ = _; rw [HN.out, go_else hkx hok hq1 (by rw [HX.out]; exact h8) (by rw [HX.out]; exact h9) (by rw [HX.out]; exact h7) (by rw [HX.out]; exact h11)]
        have hq' : ¬ q < 0 := by omega
        clear HN hok h8 h9 h7 h11
        go_wp2
        go_roundw
        case rel => exact ⟨k + 1, f, q, by omega, by omega, by omega, by omega, by go_num, rfl, rfl, HF.out, hbb⟩
        case measure => simp [intOf]; omega
      · obtain rfl : k = n := by omega
        have HF : Hid ((q == 0) = codeOk xs) := by
          show _ = _
          rw [he, List.drop_of_length_le (by omega)]; rfl
        clear he
        go_wp2
        go_ret
        exact ⟨ret_b HF.out, hb⟩
  · have HF : Hid (false = codeOk xs) := by
      show _ = _
      unfold codeOk
      rw [decide_eq_false (show ¬ xs.length ≤ 24 by omega), Bool.false_and]
    have h24' : (24 : Int) < n := by omega
    go_enter Try.func50, Try.ntmps50
    go_wp2
    go_ret
    exact ⟨ret_b HF.out, Below.refl _ _⟩
end Ops
end Go.Proofs.Ytppkohkcffnghaa
