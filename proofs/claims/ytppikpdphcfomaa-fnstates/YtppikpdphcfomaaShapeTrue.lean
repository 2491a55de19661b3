/- In right code each block that begins has an end, at which as many are open as ahead of it. -/
import Derived.Test.YtppikpdphcfomaaShapeStk
set_option linter.unusedVariables false
namespace Go.Proofs.Ytppikpdphcfomaa
namespace Ops

theorem closed_dsum (ys : List O4) : ∀ d : Int, 0 ≤ d → closedGo ys d = true → (∀ k, 0 ≤ d + dsum (ys.take k)) ∧ d + dsum ys = 0 := by
  induction ys with
  | nil => intro d hd h; exact ⟨fun k => by simp [dsum]; exact hd, by simpa [closedGo, dsum] using h⟩
  | cons o r ih =>
    intro d hd h
    have h' : (decide (0 ≤ d + delta o) && closedGo r (d + delta o)) = true := h
    rw [Bool.and_eq_true] at h'
    have h0 := of_decide_eq_true h'.1
    obtain ⟨a, b⟩ := ih _ h0 h'.2
    have e : ∀ l, dsum (o :: l) = delta o + dsum l := fun l => by simp [dsum]
    refine ⟨fun k => ?_, by rw [e]; omega⟩
    cases k with
    | zero => simp [dsum]; exact hd
    | succ k => rw [List.take_succ_cons, e]; have := a k; omega
theorem code_closed {xs : List O4} (h : codeOk xs = true) : closedGo xs 0 = true := by
  rw [codeOk_split] at h
  simp only [Bool.and_eq_true] at h
  exact h.2.2.1
theorem delta_end {o : O4} (h : delta o < 0) : o.k = 9 := by
  unfold delta at h
  by_cases h8 : o.k = 8
  · rw [if_pos h8] at h; omega
  · rw [if_neg h8] at h
    by_cases h9 : o.k = 9
    · exact h9
    · rw [if_neg h9] at h; omega
/-- the search comes to an end -/
theorem end_found {xs : List O4} {D : Int} (hD : 0 ≤ D) (hlen : dsum xs = 0) : ∀ (n k : Nat) (q : Int), k + n = xs.length → q = dsum (xs.take k) - D → 1 ≤ q →
    ∃ e : Nat, endGo (xs.drop k) q k = (e : Int) ∧ k ≤ e ∧ e < xs.length ∧ (∀ h : e < xs.length, xs[e].k = 9) ∧ dsum (xs.take e) = D + 1 ∧ dsum (xs.take (e + 1)) = D := by
  intro n
  induction n with
  | zero =>
    intro k q hk hq h1
    rw [List.take_of_length_le (by omega), hlen] at hq
    omega
  | succ n ih =>
    intro k q hk hq h1
    have hlt : k < xs.length := by omega
    have hs := dsum_take hlt
    have hr := delta_range xs[k]
    rw [endGo_step hlt]
    by_cases hz : q + delta xs[k] = 0
    · rw [if_pos hz]
      exact ⟨k, rfl, Nat.le_refl _, hlt, fun _ => delta_end (by omega), by omega, by omega⟩
    · rw [if_neg hz]
      obtain ⟨e, a1, a2, a3⟩ := ih (k + 1) (q + delta xs[k]) (by omega) (by omega) (by omega)
      exact ⟨e, a1, by omega, a3⟩
/-- what EndOf and DepthAt say of a right code -/
theorem shapes8 {xs : List O4} (h : codeOk xs = true) {i : Nat} (hi : i < xs.length) (h8 : xs[i].k = 8) :
    ∃ e : Nat, endOf xs i = (e : Int) ∧ i < e ∧ e < xs.length ∧ (∀ h : e < xs.length, xs[e].k = 9) ∧ depthAt xs ((e : Int) + 1) = depthAt xs i ∧ depthAt xs e = depthAt xs i + 1 := by
  obtain ⟨p, z⟩ := closed_dsum xs 0 (Int.le_refl _) (code_closed h)
  have hD := p i
  have hg : xs.getD i z4 = xs[i] := by simp [List.getD, hi]
  have he : endOf xs i = endGo (xs.drop i) 0 i := by
    unfold endOf
    rw [Int.toNat_natCast, if_pos ⟨by omega, by omega, by rw [hg]; exact h8⟩]
  have hs := dsum_take hi
  rw [delta8 h8] at hs
  have hd8 := delta8 h8
  rw [endGo_step hi, hd8, if_neg (by omega)] at he
  obtain ⟨e, a1, a2, a3, a4, a5, a6⟩ := end_found (xs := xs) (D := dsum (xs.take i)) (by omega) (by omega) (xs.length - (i + 1)) (i + 1) (0 + 1) (by omega) (by omega) (by omega)
  refine ⟨e, he.trans a1, by omega, a3, a4, ?_, ?_⟩
  · show dsum (xs.take ((e : Int) + 1).toNat) = dsum (xs.take (i : Int).toNat)
    rw [show ((e : Int) + 1).toNat = e + 1 by omega, Int.toNat_natCast]; exact a6
  · show dsum (xs.take (e : Int).toNat) = dsum (xs.take (i : Int).toNat) + 1
    rw [Int.toNat_natCast, Int.toNat_natCast]; exact a5
theorem shapes0 {xs : List O4} {i : Nat} (hi : i < xs.length) (h8 : ¬ xs[i].k = 8) : endOf xs i = -1 := by
  have hg : xs.getD i z4 = xs[i] := by simp [List.getD, hi]
  unfold endOf
  rw [if_neg]
  rintro ⟨-, -, h⟩
  rw [Int.toNat_natCast, hg] at h
  exact h8 h
theorem shapesEnd {xs : List O4} (h : codeOk xs = true) : depthAt xs xs.length = 0 := by
  obtain ⟨p, z⟩ := closed_dsum xs 0 (Int.le_refl _) (code_closed h)
  show dsum (xs.take (xs.length : Int).toNat) = 0
  rw [Int.toNat_natCast, List.take_of_length_le (Nat.le_refl _)]; omega
theorem sameGo_self (xs : List O4) : sameGo xs xs = true := by
  induction xs with
  | nil => rfl
  | cons x r ih =>
    show (same4 x x && sameGo r r) = true
    rw [ih]; simp [same4]
theorem sameProg_self (xs : List O4) : sameProg xs [] xs [] = true := by unfold sameProg; rw [sameGo_self]; rfl
end Ops
end Go.Proofs.Ytppikpdphcfomaa
