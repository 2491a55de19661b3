/- What FnCalc asks of numbers. -/
import Derived.Test.YtbkhghndlcmfiaaCalcSpec
import Derived.Test.YtbkhghndlcmfiaaOpLaw
set_option linter.unusedVariables false
namespace Go.Proofs.Ytbkhghndlcmfiaa
open Go.RowKit
namespace Ops

theorem may_out {k a b c : Int} {zs : List Int} (h : calcMay k a b c zs = true) : opOk k a b c = true ∧ regsOk zs = true ∧ k ≤ 4 := by
  unfold calcMay at h
  rw [Bool.and_eq_true, Bool.and_eq_true] at h
  exact ⟨h.1.1, h.1.2, of_decide_eq_true h.2⟩
theorem reck_range {k a b c : Int} {zs : List Int} (h : calcMay k a b c zs = true) : 0 ≤ reck k b c zs ∧ reck k b c zs ≤ 65535 := by
  obtain ⟨h1, h2, h3⟩ := may_out h
  unfold reck
  rcases may_kind h1 h3 with rfl | rfl | rfl | rfl
  · have := (ok_set h1).2.1
    rw [if_pos rfl]; exact this
  · rw [if_neg (by decide), if_pos rfl]; omega
  · rw [if_neg (by decide), if_neg (by decide), if_pos rfl]; omega
  · rw [if_neg (by decide), if_neg (by decide), if_neg (by decide)]; split <;> omega
theorem may_reg {k a b c : Int} {zs : List Int} (h : calcMay k a b c zs = true) : 0 ≤ a ∧ a ≤ 3 := by
  obtain ⟨h1, h2, h3⟩ := may_out h
  rcases may_kind h1 h3 with rfl | hk
  · exact (ok_set h1).1
  · exact (ok_regs hk h1).1
theorem touches_no {k a b c : Int} {zs : List Int} (h : calcMay k a b c zs = true) : touches k a b c = 0 := by
  obtain ⟨h1, h2, h3⟩ := may_out h
  unfold touches
  rw [if_pos h1, if_neg (by omega), if_neg (by omega)]

theorem regs_list {zs : List Int} (h : regsOk zs = true) : ∃ x y z u, zs = [x, y, z, u] ∧ (0 ≤ x ∧ x ≤ 65535) ∧ (0 ≤ y ∧ y ≤ 65535) ∧ (0 ≤ z ∧ z ≤ 65535) ∧ (0 ≤ u ∧ u ≤ 65535) := by
  obtain ⟨h4, ha⟩ := regsOk_out h
  match zs, h4, ha with
  | [x, y, z, u], _, ha => exact ⟨x, y, z, u, rfl, ha 0 (by simp), ha 1 (by simp), ha 2 (by simp), ha 3 (by simp)⟩
theorem ok4 {x y z u : Int} (hx : 0 ≤ x ∧ x ≤ 65535) (hy : 0 ≤ y ∧ y ≤ 65535) (hz : 0 ≤ z ∧ z ≤ 65535) (hu : 0 ≤ u ∧ u ≤ 65535) : regsOk [x, y, z, u] = true := by
  refine regsOk_mk rfl fun j hj => ?_
  have e : ∀ t : Int, 0 ≤ t ∧ t ≤ 65535 → inn 0 65535 t = true := fun t ht => by unfold inn; simp [ht.1, ht.2]
  match j, hj with
  | 0, _ => exact e x hx
  | 1, _ => exact e y hy
  | 2, _ => exact e z hz
  | 3, _ => exact e u hu
/-- to add and to take away again changes nothing -/
theorem back {zs : List Int} (h : regsOk zs = true) : calcTo 3 0 0 1 (calcTo 2 0 0 1 zs) = zs := by
  obtain ⟨x, y, z, u, rfl, hx, hy, hz, hu⟩ := regs_list h
  have m1 : calcMay 2 0 0 1 [x, y, z, u] = true := may_ttt rfl h (by decide)
  have e1 : calcTo 2 0 0 1 [x, y, z, u] = [(x + y) % 65536, y, z, u] := by rw [calcTo_yes m1]; rfl
  rw [e1]
  have m2 : calcMay 3 0 0 1 [(x + y) % 65536, y, z, u] = true := may_ttt rfl (ok4 (by omega) hy hz hu) (by decide)
  rw [calcTo_yes m2]
  have e2 : reck 3 0 1 [(x + y) % 65536, y, z, u] = x := by
    show ((x + y) % 65536 - y + 65536) % 65536 = x
    omega
  rw [e2]; rfl
/-- at a register: what was, or what is reckoned -/
theorem at_reg {k a b c : Int} {zs : List Int} (h : calcMay k a b c zs = true) (j : Nat) (hj : j < 4) (h1 : j < (calcTo k a b c zs).length) (h2 : j < zs.length) :
    (((j : Int) = a) ∨ (calcTo k a b c zs)[j] = zs[j]) ∧ 0 ≤ (calcTo k a b c zs)[j] ∧ (calcTo k a b c zs)[j] ≤ 65535 := by
  obtain ⟨m1, m2, m3⟩ := may_out h
  have hr := reck_range h
  have ha := may_reg h
  have hz := (regsOk_out m2).2 j h2
  have e : (calcTo k a b c zs)[j] = if a.toNat = j then reck k b c zs else zs[j] := by
    simp only [calcTo_yes h, List.getElem_set]
  rw [e]
  by_cases hj : a.toNat = j
  · rw [if_pos hj]; exact ⟨.inl (by omega), hr⟩
  · rw [if_neg hj]; exact ⟨.inr rfl, hz⟩
end Ops
end Go.Proofs.Ytbkhghndlcmfiaa
