/- Pieces of right code: from one place to another in one block; how a block's body leads to its end or to a place that gives up. -/
import Derived.Test.YtppkohkcffnghaaSerialInv
set_option linter.unusedVariables false
set_option linter.unusedSimpArgs false
namespace Go.Proofs.Ytppkohkcffnghaa
namespace Ops

/-- between the beginning of a block and its end the block stays open -/
theorem inside {xs : List O4} {r : List Int} : ∀ (n k : Nat) (ex : List Int) (d : Int) (e : Nat), k + n = xs.length → stAt xs k = ex ++ r → (ex.length : Int) = d → 1 ≤ d → endGo (xs.drop k) d k = (e : Int) → ∀ j, k ≤ j → j ≤ e → ∃ ex', ex' ≠ [] ∧ stAt xs j = ex' ++ r
  | 0, k, ex, d, e, hk, hs, hd, h1, he => by
    rw [List.drop_of_length_le (by omega)] at he
    simp [endGo] at he
  | n + 1, k, ex, d, e, hk, hs, hd, h1, he => by
    intro j hkj hje
    have hlt : k < xs.length := by omega
    have hst := stAt_succ hlt
    have hex : ex ≠ [] := fun h => by rw [h] at hd; simp at hd; omega
    rcases Nat.eq_or_lt_of_le hkj with rfl | hlt2
    · exact ⟨ex, hex, hs⟩
    rw [endGo_step hlt] at he
    by_cases h8 : xs[k].k = 8
    · rw [delta8 h8, if_neg (by omega)] at he
      rw [step8 h8, hs] at hst
      exact inside n (k + 1) ((k : Int) :: ex) (d + 1) e (by omega) hst (by simp; omega) (by omega) he j (by omega) hje
    · by_cases h9 : xs[k].k = 9
      · rw [delta9 h9] at he
        rw [step9 h9, hs] at hst
        rcases ex with _ | ⟨x, ex⟩
        · simp at hd; omega
        · rw [List.cons_append, List.tail_cons] at hst
          by_cases hz : d + -1 = 0
          · rw [if_pos hz] at he
            omega
          · rw [if_neg hz] at he
            exact inside n (k + 1) ex (d + -1) e (by omega) hst (by simp at hd; omega) (by omega) he j (by omega) hje
      · rw [delta0 h8 h9, Int.add_zero, if_neg (by omega)] at he
        rw [step0 h8 h9, hs] at hst
        exact inside n (k + 1) ex d e (by omega) hst hd h1 he j (by omega) hje

/-- a piece of code, in one block -/
structure Seg (xs : List O4) (fr to : Nat) : Prop where
  le : fr ≤ to
  len : to ≤ xs.length
  cap : ∀ k, k ≤ xs.length → stAt xs k = stAt xs fr → k ≤ to
  noEnd : ∀ k (h : k < xs.length), k < to → stAt xs k = stAt xs fr → ¬ xs[k].k = 9
theorem Seg.whole {xs : List O4} (hc : codeOk xs = true) : Seg xs 0 xs.length :=
  { le := Nat.zero_le _, len := Nat.le_refl _, cap := fun k h _ => h, noEnd := fun k h _ hs h9 => by
      have hst := stAt_succ h
      have h0 : stAt xs 0 = [-1] := rfl
      rw [step9 h9, hs, h0, List.tail_cons] at hst
      have := (closed_at (code_four hc).2.2.1 (k + 1) (by omega)).1
      rw [hst] at this
      simp at this }
/-- the body of a block -/
theorem Seg.body {xs : List O4} (hc : codeOk xs = true) {b : Nat} (hb : b < xs.length) (h8 : xs[b].k = 8) : ∃ e : Nat, endOf xs b = (e : Int) ∧ Seg xs (b + 1) e ∧ (∃ h : e < xs.length, xs[e].k = 9) ∧ stAt xs (e + 1) = stAt xs b := by
  obtain ⟨e, he, h1, h2, h3, -⟩ := shapes8 hc hb h8
  obtain ⟨e', he', -, hs, hcap⟩ := block_end hc hb h8
  have hee : e' = e := by omega
  subst hee
  have hg := xs_at hb
  have hgo : endGo (xs.drop (b + 1)) 1 (b + 1) = (e' : Int) := by
    have h0 : endOf xs b = endGo (xs.drop b) 0 b := by
      unfold endOf
      rw [Int.toNat_natCast, if_pos ⟨by omega, by omega, by rw [hg]; exact h8⟩]
    rw [h0, endGo_step hb, delta8 h8, if_neg (by omega)] at he
    exact he
  have hst := stAt_succ hb
  rw [step8 h8] at hst
  have hin := inside (r := stAt xs b) (xs.length - (b + 1)) (b + 1) [(b : Int)] 1 e' (by omega) hst rfl (by omega) hgo
  refine ⟨e', he, { le := h1, len := by omega, cap := fun k _ hk => hcap k (stAt xs b) (hk.trans hst), noEnd := fun k hk hke hks h9 => ?_ }, ⟨h2, h3 h2⟩, hs⟩
  have hst2 := stAt_succ hk
  rw [step9 h9, hks, hst, List.tail_cons] at hst2
  by_cases hkb : b + 1 ≤ k + 1
  · obtain ⟨ex, hex, h⟩ := hin (k + 1) hkb hke
    rw [hst2] at h
    have := congrArg List.length h
    rw [List.length_append] at this
    have : 0 < ex.length := List.length_pos_iff.2 hex
    omega
  · have hk2 : k < b := by omega
    have := (st_sorted xs k).2 (b : Int) (by rw [hks, hst]; simp)
    omega
/-- how a piece of code ends: at its end, or at a place that gives up -/
inductive SegEnds (xs : List O4) (t0 : Th) (F : List Int → Th → List Int × Th) (s : Cf) (to : Nat) : Bool → List Int → Th → Prop
  | done {r : List Int} {t : Th} (hl : Leads xs t0 F s ⟨to, r, t, s.k⟩) (ok : CfOk xs ⟨to, r, t, s.k⟩) : SegEnds xs t0 F s to true r t
  | gave {r : List Int} {t : Th} {p : Nat} (hp : p < xs.length) (h10 : xs[p].k = 10) (hl : Leads xs t0 F s ⟨p, r, t, s.k⟩) (ok : CfOk xs ⟨p, r, t, s.k⟩) : SegEnds xs t0 F s to false r t
section
variable {xs : List O4} {t0 : Th} {F : List Int → Th → List Int × Th} {s s' : Cf} {to : Nat} {b : Bool} {r : List Int} {t : Th}
theorem SegEnds.ok (h : SegEnds xs t0 F s to b r t) : regsOk r = true ∧ thOk t = true := by
  cases h with
  | done _ ok => exact ⟨ok.r, ok.t⟩
  | gave _ _ _ ok => exact ⟨ok.r, ok.t⟩
theorem SegEnds.from (h : SegEnds xs t0 F s' to b r t) (hl : Leads xs t0 F s s') (hk : s'.k = s.k) : SegEnds xs t0 F s to b r t := by
  cases h with
  | done h1 ok => rw [hk] at h1 ok; exact .done (hl.trans h1) ok
  | gave hp h10 h1 ok => rw [hk] at h1 ok; exact .gave hp h10 (hl.trans h1) ok
/-- a whole block: the body's end, and where the machine goes on behind it -/
theorem block_over (hc : codeOk xs = true) (hs : CfOk xs s) (hp : s.pc < xs.length) (h8 : xs[s.pc].k = 8) {e : Nat} (he : endOf xs s.pc = (e : Int)) (hbd : SegEnds xs t0 F ⟨s.pc + 1, s.r, s.t, ⟨s.pc, s.r, s.t⟩ :: s.k⟩ e b r t)
    (h9 : ∃ h : e < xs.length, xs[e].k = 9) :
    Leads xs t0 F s ⟨e + 1, wr (if b then r else s.r) (xs[s.pc]).a (if b then 1 else 0), if b then t else s.t, s.k⟩ ∧ CfOk xs ⟨e + 1, wr (if b then r else s.r) (xs[s.pc]).a (if b then 1 else 0), if b then t else s.t, s.k⟩ := by
  have l1 : Leads xs t0 F s ⟨s.pc + 1, s.r, s.t, ⟨s.pc, s.r, s.t⟩ :: s.k⟩ := Leads.step hp (step_begin hs hp h8).1
  have hg := xs_at hp
  cases hbd with
  | done hl ok =>
    obtain ⟨h9a, h9b⟩ := h9
    obtain ⟨m, k, hmk, hst, hok⟩ := step_end (t0 := t0) (F := F) hc ok h9a h9b
    simp only [List.cons.injEq] at hmk
    obtain ⟨rfl, rfl⟩ := hmk
    simp only [if_true]
    rw [hg] at hst hok
    exact ⟨(l1.trans hl).trans (Leads.step h9a hst), hok⟩
  | gave hp2 h10 hl ok =>
    obtain ⟨e', h1, h2, h3, hst, hok⟩ := step_abort (t0 := t0) (F := F) hc ok hp2 h10 (m := ⟨s.pc, s.r, s.t⟩) (k := s.k) rfl
    have hee : e' = e := by have h1 : endOf xs s.pc = (e' : Int) := h1; omega
    subst hee
    simp only [Bool.false_eq_true, if_false]
    rw [hg] at hst hok
    exact ⟨(l1.trans hl).trans (Leads.step hp2 hst), hok⟩
/-- a whole program -/
theorem SegEnds.ends (h : SegEnds xs t0 F ⟨0, s.r, s.t, []⟩ xs.length b r t) : Ends xs t0 F ⟨0, s.r, s.t, []⟩ (if b then ⟨1, r, t⟩ else ⟨2, r, t0⟩) := by
  cases h with
  | done hl ok => exact hl _ (Ends.over (Nat.le_refl _))
  | gave hp h10 hl ok => exact hl _ (Ends.halt hp (step_give ok hp h10 rfl))
end
end Ops
end Go.Proofs.Ytppkohkcffnghaa
