/- What ThingsOk answers, the program's and the specification's. -/
import Derived.Test.YtppkohkcffnghaaThVals
import Derived.Test.YtppkohkcffnghaaThRow
set_option linter.unusedVariables false
set_option linter.unusedSimpArgs false
namespace Go.Proofs.Ytppkohkcffnghaa
open Go.RowKit
namespace Ops
open Bas

theorem th_no1 {t : Th} (h : cellsOk t.c = false) : thOk t = false := by unfold thOk; rw [h]; rfl
theorem th_no2 {t : Th} (h : ¬ t.m.length = 8) : thOk t = false := by unfold thOk mapOk; rw [decide_eq_false h]; simp
theorem th_no3 {t : Th} (h : inn 0 65535 t.n = false) : thOk t = false := by unfold thOk; rw [h]; simp
theorem th_no4 {t : Th} {j : Nat} (hj : j < t.m.length) (h : ¬ (0 ≤ t.m[j] ∧ t.m[j] ≤ 65536)) : thOk t = false := by
  unfold thOk
  have : mapOk t.m = false := by
    unfold mapOk
    rw [Bool.and_eq_false_iff]
    refine .inr (List.all_eq_false.2 ⟨t.m[j], List.getElem_mem hj, ?_⟩)
    unfold inn
    simp
    omega
  rw [this]; simp
theorem th_yes {t : Th} (h1 : cellsOk t.c = true) (h2 : t.m.length = 8) (h3 : inn 0 65535 t.n = true) (h4 : ∀ j (h : j < t.m.length), 0 ≤ t.m[j] ∧ t.m[j] ≤ 65536) : thOk t = true := by
  unfold thOk mapOk
  rw [h1, h3, decide_eq_true h2]
  have : t.m.all (inn 0 65536) = true := List.all_eq_true.2 fun x hx => by
    obtain ⟨j, hj, rfl⟩ := List.mem_iff_getElem.1 hx
    have := h4 j hj
    unfold inn
    simp
    omega
  rw [this]; rfl
theorem ret_th {t : Th} {b : Bool} (h : thOk t = b) : Ending.returned (.bool b) = .returned (.bool (thOk t)) := by rw [h]

set_option maxRecDepth 100000 in
set_option maxHeartbeats 1600000 in
theorem implThOk (vc vm : Value) (t : Th) (B : Nat) (w : World) (hv : SeeT B w vc vm t) (hB : B ≤ w.heap.size) :
    Calls Try.prog 22 #[.agg #[vc, vm, .int .i64 t.n]] w fun e w' => e = .returned (.bool (thOk t)) ∧ Below w.heap.size w w' := by
  have b0 := alloc_below w (.cells #[vc, vm, .int .i64 t.n] 37)
  have X0 := Blk.new w #[vc, vm, .int .i64 t.n] 37
  have hv0 := hv.on b0 hB
  obtain ⟨q, hq⟩ : ∃ q, w.heap.size = q := ⟨_, rfl⟩
  rw [hq] at X0 b0 ⊢
  obtain ⟨w0, hw0⟩ : ∃ w0, w.alloc (.cells #[vc, vm, .int .i64 t.n] 37) = w0 := ⟨_, rfl⟩
  rw [hw0] at X0 b0 hv0
  have x0 := X0.cell 0; have x1 := X0.cell 1; have x2 := X0.cell 2
  have cC := Ths.implCells vc t.c B w0 hv0.c
  obtain ⟨bC, hbC⟩ : ∃ b, cellsOk t.c = b := ⟨_, rfl⟩
  rw [hbC] at cC
  have HC := (show Hid _ from hbC)
  obtain ⟨ac, cc, rfl⟩ := hv0.c.form
  obtain ⟨am, cm, rfl⟩ := hv0.m.form
  have hm0 := hv0.m
  clear hbC hv hv0
  cases bC with
  | false =>
    have HF : Hid (thOk t = false) := th_no1 HC.out
    go_enter Try.func22, Try.ntmps22
    go_wp2_with (go_at_call 55; refine cC.mono ?_; rintro e w1 ⟨rfl, rfl⟩)
    go_ret
    exact ⟨ret_th HF.out, b0⟩
  | true =>
    obtain ⟨am', capm, hsl, h1, h2, h3⟩ := hm0
    simp only [Value.slice.injEq, true_and] at hsl
    obtain ⟨rfl, rfl⟩ := hsl
    have hmx : (t.m.length : Int) ≤ 9223372036854775807 := by unfold maxLen at h2; omega
    by_cases h8 : t.m.length = 8
    · have H8 : Hid (t.m.length = 8) := h8
      rw [h8] at x1 hw0 ⊢
      obtain ⟨bN, hN⟩ : ∃ b, inn 0 65535 t.n = b := ⟨_, rfl⟩
      have HN := (show Hid _ from hN)
      cases bN with
      | false =>
        have HF : Hid (thOk t = false) := th_no3 HN.out
        clear h1 h2 h3 hmx h8
        go_enter Try.func22, Try.ntmps22
        go_wp2_with (first | (go_at_call 55; refine cC.mono ?_; rintro e w1 ⟨rfl, rfl⟩) | (go_at_call 73; refine (isValueC _ _).mono ?_; rintro e w1 ⟨rfl, rfl⟩; rw [hN]))
        go_ret
        exact ⟨ret_th HF.out, b0⟩
      | true =>
        obtain ⟨b, off, hab, -, hc⟩ := h3 (fun h => by rw [h] at h8; simp at h8)
        subst hab
        clear h1 h2 h3 hmx h8
        go_enter Try.func22, Try.ntmps22
        go_wp2_with (first | (go_at_call 55; refine cC.mono ?_; rintro e w1 ⟨rfl, rfl⟩) | (go_at_call 73; refine (isValueC _ _).mono ?_; rintro e w1 ⟨rfl, rfl⟩; rw [hN]))
        clear hN
        go_loop [24] (fun i => ∃ k : Nat, k ≤ 8 ∧ i = .int .i64 k ∧ (∀ j (h : j < t.m.length), j < k → 0 ≤ t.m[j] ∧ t.m[j] ≤ 65536)) (fun i => 8 - (intOf i).toNat)
        case atStart => exact ⟨0, by omega, rfl, fun j _ h => by omega⟩
        case round =>
          obtain ⟨k, hk, rfl, hall⟩ := hrel
          by_cases hlt : k < 8
          · have a0 := hc k (by rw [H8.out]; exact hlt)
            obtain ⟨x, hx⟩ : ∃ x, t.m[k]'(by rw [H8.out]; exact hlt) = x := ⟨_, rfl⟩
            rw [hx] at a0
            have HX : Hid (t.m[k]'(by rw [H8.out]; exact hlt) = x) := hx
            have HA : Hid (∀ j (h : j < t.m.length), j < k → 0 ≤ t.m[j] ∧ t.m[j] ≤ 65536) := hall
            have i1 : (k : Int) < 8 := by omega
            clear hx hc hall
            by_cases q0 : 0 ≤ x
            · by_cases q1 : x ≤ 65536
              · have q2 : decide (x ≤ 65536) = true := decide_eq_true q1
                go_wp2
                go_round
                case rel => exact ⟨k + 1, by omega, by go_num, fun j hj hjk => by
                  rcases Nat.lt_succ_iff_lt_or_eq.1 hjk with h | h
                  · exact HA.out j hj h
                  · subst h; rw [HX.out]; exact ⟨q0, q1⟩⟩
                case measure => simp [intOf]; omega
              · have HF : Hid (thOk t = false) := th_no4 (j := k) (by rw [H8.out]; exact hlt) (fun h => q1 (by have := h.2; rw [HX.out] at this; exact this))
                have q2 : decide (x ≤ 65536) = false := decide_eq_false q1
                have q3 : 65536 < x := by omega
                go_wp2
                go_ret
                exact ⟨ret_th HF.out, b0⟩
            · have HF : Hid (thOk t = false) := th_no4 (j := k) (by rw [H8.out]; exact hlt) (fun h => q0 (by have := h.1; rw [HX.out] at this; exact this))
              have q2 : decide (0 ≤ x) = false := decide_eq_false q0
              have q3 : x < 0 := by omega
              go_wp2
              go_ret
              exact ⟨ret_th HF.out, b0⟩
          · obtain rfl : k = 8 := by omega
            have HT : Hid (thOk t = true) := th_yes HC.out H8.out HN.out fun j hj => hall j hj (by have := H8.out; omega)
            clear hall hc
            go_wp2
            go_ret
            exact ⟨ret_th HT.out, b0⟩
    · have HF : Hid (thOk t = false) := th_no2 h8
      obtain ⟨n, hn⟩ : ∃ n, t.m.length = n := ⟨_, rfl⟩
      rw [hn] at hmx h8 x1 hw0 ⊢
      have h8' : ((n : Int) != 8) = true := by simp; omega
      clear h3 hn h1 h2 h8
      go_enter Try.func22, Try.ntmps22
      go_wp2_with (go_at_call 55; refine cC.mono ?_; rintro e w1 ⟨rfl, rfl⟩)
      go_ret
      exact ⟨ret_th HF.out, b0⟩

set_option maxRecDepth 100000 in
set_option maxHeartbeats 1600000 in
theorem specThOk (vc vm : Value) (t : Th) (B : Nat) (w : World) (hv : SeeT B w vc vm t) (hB : B ≤ w.heap.size) :
    Calls Try.prog 19 #[.agg #[vc, vm, .int .i64 t.n]] w fun e w' => e = .returned (.bool (thOk t)) ∧ Below w.heap.size w w' := by
  have b0 := alloc_below w (.cells #[vc, vm, .int .i64 t.n] 37)
  have X0 := Blk.new w #[vc, vm, .int .i64 t.n] 37
  have hv0 := hv.on b0 hB
  obtain ⟨q, hq⟩ : ∃ q, w.heap.size = q := ⟨_, rfl⟩
  rw [hq] at X0 b0 ⊢
  obtain ⟨w0, hw0⟩ : ∃ w0, w.alloc (.cells #[vc, vm, .int .i64 t.n] 37) = w0 := ⟨_, rfl⟩
  rw [hw0] at X0 b0 hv0
  have x0 := X0.cell 0; have x1 := X0.cell 1; have x2 := X0.cell 2
  have cC := Ths.specCells vc t.c B w0 hv0.c
  obtain ⟨bC, hbC⟩ : ∃ b, cellsOk t.c = b := ⟨_, rfl⟩
  rw [hbC] at cC
  have HC := (show Hid _ from hbC)
  obtain ⟨ac, cc, rfl⟩ := hv0.c.form
  obtain ⟨am, cm, rfl⟩ := hv0.m.form
  have hm0 := hv0.m
  clear hbC hv hv0
  cases bC with
  | false =>
    have HF : Hid (thOk t = false) := th_no1 HC.out
    go_enter Try.func19, Try.ntmps19
    go_wp2_with (go_at_call 69; refine cC.mono ?_; rintro e w1 ⟨rfl, rfl⟩)
    go_ret
    exact ⟨ret_th HF.out, b0⟩
  | true =>
    obtain ⟨am', capm, hsl, h1, h2, h3⟩ := hm0
    simp only [Value.slice.injEq, true_and] at hsl
    obtain ⟨rfl, rfl⟩ := hsl
    have hmx : (t.m.length : Int) ≤ 9223372036854775807 := by unfold maxLen at h2; omega
    by_cases h8 : t.m.length = 8
    · have H8 : Hid (t.m.length = 8) := h8
      rw [h8] at x1 hw0 ⊢
      obtain ⟨bN, hN⟩ : ∃ b, inn 0 65535 t.n = b := ⟨_, rfl⟩
      have HN := (show Hid _ from hN)
      cases bN with
      | false =>
        have HF : Hid (thOk t = false) := th_no3 HN.out
        clear h1 h2 h3 hmx h8
        go_enter Try.func19, Try.ntmps19
        go_wp2_with (first | (go_at_call 69; refine cC.mono ?_; rintro e w1 ⟨rfl, rfl⟩) | (go_at_call 70; refine (valC _ _).mono ?_; rintro e w1 ⟨rfl, rfl⟩; rw [hN]))
        go_ret
        exact ⟨ret_th HF.out, b0⟩
      | true =>
        obtain ⟨b, off, hab, -, hc⟩ := h3 (fun h => by rw [h] at h8; simp at h8)
        subst hab
        clear h1 h2 h3 hmx h8
        go_enter Try.func19, Try.ntmps19
        go_wp2_with (first | (go_at_call 69; refine cC.mono ?_; rintro e w1 ⟨rfl, rfl⟩) | (go_at_call 70; refine (valC _ _).mono ?_; rintro e w1 ⟨rfl, rfl⟩; rw [hN]))
        clear hN
        go_loop [3] (fun i => ∃ k : Nat, k ≤ 8 ∧ i = .int .i64 k ∧ (∀ j (h : j < t.m.length), j < k → 0 ≤ t.m[j] ∧ t.m[j] ≤ 65536)) (fun i => 8 - (intOf i).toNat)
        case atStart => exact ⟨0, by omega, rfl, fun j _ h => by omega⟩
        case round =>
          obtain ⟨k, hk, rfl, hall⟩ := hrel
          by_cases hlt : k < 8
          · have a0 := hc k (by rw [H8.out]; exact hlt)
            obtain ⟨x, hx⟩ : ∃ x, t.m[k]'(by rw [H8.out]; exact hlt) = x := ⟨_, rfl⟩
            rw [hx] at a0
            have HX : Hid (t.m[k]'(by rw [H8.out]; exact hlt) = x) := hx
            have HA : Hid (∀ j (h : j < t.m.length), j < k → 0 ≤ t.m[j] ∧ t.m[j] ≤ 65536) := hall
            have i1 : (k : Int) < 8 := by omega
            clear hx hc hall
            by_cases q0 : 0 ≤ x
            · by_cases q1 : x ≤ 65536
              · have q2 : decide (x ≤ 65536) = true := decide_eq_true q1
                go_wp2
                go_round
                case rel => exact ⟨k + 1, by omega, by go_num, fun j hj hjk => by
                  rcases Nat.lt_succ_iff_lt_or_eq.1 hjk with h | h
                  · exact HA.out j hj h
                  · subst h; rw [HX.out]; exact ⟨q0, q1⟩⟩
                case measure => simp [intOf]; omega
              · have HF : Hid (thOk t = false) := th_no4 (j := k) (by rw [H8.out]; exact hlt) (fun h => q1 (by have := h.2; rw [HX.out] at this; exact this))
                have q2 : decide (x ≤ 65536) = false := decide_eq_false q1
                have q3 : 65536 < x := by omega
                go_wp2
                go_ret
                exact ⟨ret_th HF.out, b0⟩
            · have HF : Hid (thOk t = false) := th_no4 (j := k) (by rw [H8.out]; exact hlt) (fun h => q0 (by have := h.1; rw [HX.out] at this; exact this))
              have q2 : decide (0 ≤ x) = false := decide_eq_false q0
              have q3 : x < 0 := by omega
              go_wp2
              go_ret
              exact ⟨ret_th HF.out, b0⟩
          · obtain rfl : k = 8 := by omega
            have HT : Hid (thOk t = true) := th_yes HC.out H8.out HN.out fun j hj => hall j hj (by have := H8.out; omega)
            clear hall hc
            go_wp2
            go_ret
            exact ⟨ret_th HT.out, b0⟩
    · have HF : Hid (thOk t = false) := th_no2 h8
      obtain ⟨n, hn⟩ : ∃ n, t.m.length = n := ⟨_, rfl⟩
      rw [hn] at hmx h8 x1 hw0 ⊢
      have h8' : ((n : Int) != 8) = true := by simp; omega
      clear h3 hn h1 h2 h8
      go_enter Try.func19, Try.ntmps19
      go_wp2_with (go_at_call 69; refine cC.mono ?_; rintro e w1 ⟨rfl, rfl⟩)
      go_ret
      exact ⟨ret_th HF.out, b0⟩
end Ops
end Go.Proofs.Ytppkohkcffnghaa
