/- What the specification's SameProg answers. -/
import Derived.Test.YtkeamnokkbfcaaaShapeSpec4
import Derived.Laws.StructEq
set_option linter.unusedVariables false
set_option linter.unusedSimpArgs false
namespace Go.Proofs.Ytkeamnokkbfcaaa
open Go.RowKit
namespace Ops
open Bas Flat

theorem same4_yes {x y : O4} (h : same4 x y = true) : x = y := by
  unfold same4 at h
  obtain ⟨h1, h2, h3, h4⟩ := of_decide_eq_true h
  cases x; cases y; simp_all
set_option maxRecDepth 100000 in
theorem eqOp4 (x y : O4) (W : World) : (Op.equalIn 10000 44 x.val y.val).run Try.prog W = .ok (same4 x y) W := by
  have hu : Try.prog.underlying 44 = some (.struct (Try.prog.fieldsOf 44)) := by kernel_rfl
  have hp : Try.prog.stoodInHeld 44 = false := by kernel_rfl
  show (Op.equalIn 10000 44 (.agg #[.int .i64 x.k, .int .i64 x.a, .int .i64 x.b, .int .i64 x.c]) (.agg #[.int .i64 y.k, .int .i64 y.a, .int .i64 y.b, .int .i64 y.c])).run Try.prog W = .ok (same4 x y) W
  rw [run_equalIn_agg (d := 9999) (ht := hu) (hp := hp)]
  have h1 := hu.symm.trans Try.underlying44
  simp only [Option.some.injEq, TypeDesc.struct.injEq] at h1
  rw [h1]
  obtain ⟨x0, x1, x2, x3⟩ := x
  obtain ⟨y0, y1, y2, y3⟩ := y
  unfold same4
  by_cases h0 : x0 = y0 <;> by_cases h1 : x1 = y1 <;> by_cases h2 : x2 = y2 <;> by_cases h3 : x3 = y3 <;> simp [Op.eqFields, go_sem, h0, h1, h2, h3]

theorem sameGo_len {xs ys : List O4} (h : ¬ xs.length = ys.length) : sameGo xs ys = false := by
  induction xs generalizing ys with
  | nil => cases ys with
    | nil => simp at h
    | cons y t => rfl
  | cons x r ih => cases ys with
    | nil => rfl
    | cons y t =>
      show (same4 x y && sameGo r t) = false
      rw [ih (by simpa using h), Bool.and_false]
theorem sameGo_step {xs ys : List O4} {k : Nat} (h : k < xs.length) (h' : k < ys.length) : sameGo (xs.drop k) (ys.drop k) = (same4 xs[k] ys[k] && sameGo (xs.drop (k + 1)) (ys.drop (k + 1))) := by
  rw [List.drop_eq_getElem_cons h, List.drop_eq_getElem_cons h']; rfl

set_option maxRecDepth 100000 in
set_option maxHeartbeats 1600000 in
theorem sameSpec (v u : Value) (xs ys : List O4) (B : Nat) (w : World) (hv : Sees4 B w v xs) (hu : Sees4 B w u ys) (hB : B ≤ w.heap.size) :
    Calls Try.prog 47 #[v, u] w fun e w' => e = .returned (.bool (sameGo xs ys)) ∧ Below w.heap.size w w' := by
  have r1 := hv.room; have r2 := hu.room
  obtain ⟨a, cap, rfl⟩ := hv.form
  obtain ⟨a', cap', rfl⟩ := hu.form
  obtain ⟨n, hn⟩ : ∃ n, xs.length = n := ⟨_, rfl⟩
  obtain ⟨n', hn'⟩ : ∃ n, ys.length = n := ⟨_, rfl⟩
  rw [hn] at hv r1 ⊢
  rw [hn'] at hu r2 ⊢
  have q1 : (n : Int) ≤ 9223372036854775807 := by unfold maxLen at r1; omega
  have q2 : (n' : Int) ≤ 9223372036854775807 := by unfold maxLen at r2; omega
  clear r1 r2
  by_cases hnn : n = n'
  · subst hnn
    have HE : Hid (sameGo xs ys = sameGo (xs.drop 0) (ys.drop 0)) := rfl
    obtain ⟨g, hg⟩ : ∃ g, w.heap.size = g := ⟨_, rfl⟩
    rw [hg] at hB ⊢
    have hb0 : Below g w w := Below.refl _ _
    go_enter Try.func47, Try.ntmps47
    go_wp2
    go_loopw [5] (fun i' wr => ∃ k : Nat, k ≤ n ∧ i' = .int .i64 k ∧ sameGo xs ys = sameGo (xs.drop k) (ys.drop k) ∧ Below g w wr) (fun i' _ => n - (intOf i').toNat)
    case atStart => exact ⟨0, Nat.zero_le _, rfl, HE.out, hb0⟩
    case round =>
      obtain ⟨k, hk, rfl, he, hb⟩ := hrel
      clear hb0 HE
      by_cases hlt : k < n
      · obtain ⟨b, off, rfl, hbB, hc⟩ := (hv.on hb hB).open (by omega)
        obtain ⟨b', off', rfl, hbB', hc'⟩ := (hu.on hb hB).open (by omega)
        obtain ⟨a0, a1, a2, a3⟩ := see4 (B := B) hc k (by omega)
        obtain ⟨d0, d1, d2, d3⟩ := see4 (B := B) hc' k (by omega)
        rw [sameGo_step (by omega) (by omega)] at he
        obtain ⟨x, hx⟩ : ∃ x, xs[k] = x := ⟨_, rfl⟩
        obtain ⟨y, hy⟩ : ∃ y, ys[k] = y := ⟨_, rfl⟩
        rw [hx, hy] at he
        rw [hx] at a0 a1 a2 a3
        rw [hy] at d0 d1 d2 d3
        have i1 : (k : Int) < n := by omega
        have i2 : (0 : Int) ≤ k := by omega
        have hq := fun W => eqOp4 x y W
        have eX : x.val = .agg #[.int .i64 x.k, .int .i64 x.a, .int .i64 x.b, .int .i64 x.c] := rfl
        have eY : y.val = .agg #[.int .i64 y.k, .int .i64 y.a, .int .i64 y.b, .int .i64 y.c] := rfl
        rw [eX, eY] at hq
        clear hx hy hc hc' eX eY
        obtain ⟨p, hp⟩ : ∃ p, same4 x y = p := ⟨_, rfl⟩
        rw [hp] at he hq
        clear hp
        cases p
        · have HF : Hid (false = sameGo xs ys) := by show _ = _; rw [he, Bool.false_and]
          clear he
          go_wp2_with fail
          go_region
          all_goals
            go_wp2
            go_ret
            exact ⟨ret_b HF.out, by first | exact hb.drew | exact hb.drew.drew | exact hb⟩
        · have HF := (show Hid _ from he)
          clear he
          go_wp2_with fail
          go_region
          all_goals
            go_wp2
            go_roundw
            case rel => exact ⟨k + 1, by omega, by go_num, by rw [HF.out, Bool.true_and], by first | exact hb.drew | exact hb.drew.drew | exact hb⟩
            case measure => simp [intOf]; omega
      · obtain rfl : k = n := by omega
        have HF : Hid (true = sameGo xs ys) := by
          show _ = _
          rw [he, List.drop_of_length_le (by omega), List.drop_of_length_le (by omega)]; rfl
        clear he
        go_wp2
        go_ret
        exact ⟨ret_b HF.out, hb⟩
  · have HF : Hid (false = sameGo xs ys) := (sameGo_len (by omega)).symm
    have dn : ((n : Int) != n') = true := by simp; omega
    clear hnn
    go_enter Try.func47, Try.ntmps47
    go_wp2
    go_ret
    exact ⟨ret_b HF.out, Below.refl _ _⟩
end Ops
end Go.Proofs.Ytkeamnokkbfcaaa
