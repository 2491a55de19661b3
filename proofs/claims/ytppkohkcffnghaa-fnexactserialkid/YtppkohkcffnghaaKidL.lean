/- Kids: what code without forks that touches neither map nor counter does, whatever these hold. -/
import Derived.Test.YtppkohkcffnghaaSegL
set_option linter.unusedVariables false
set_option linter.unusedSimpArgs false
namespace Go.Proofs.Ytppkohkcffnghaa
namespace Ops

/-- the same things with another map and another counter -/
def reT (m : List Int) (n : Int) (t : Th) : Th := ⟨t.c, m, n⟩
def reK (m : List Int) (n : Int) (k : Mk) : Mk := ⟨k.pc, k.r, reT m n k.t⟩
def reC (m : List Int) (n : Int) (s : Cf) : Cf := ⟨s.pc, s.r, reT m n s.t, s.k.map (reK m n)⟩
def reR (m : List Int) (n : Int) (q : Rn) : Rn := ⟨q.out, q.r, reT m n q.t⟩
def reS (m : List Int) (n : Int) : Cf ⊕ Rn → Cf ⊕ Rn
  | .inl s => .inl (reC m n s)
  | .inr q => .inr (reR m n q)
/-- ops that touch neither map nor counter -/
def Dry (xs : List O4) : Prop := ∀ i (h : i < xs.length), xs[i].k < 11 ∨ xs[i].k = 11
theorem plainT_re {o : O4} (h : o.k ≤ 11) (r : List Int) (t : Th) (m : List Int) (n : Int) : plainT o r (reT m n t) = reT m n (plainT o r t) := by
  unfold plainT
  by_cases h6 : o.k = 6
  · rw [if_pos h6, if_pos h6]; rfl
  · rw [if_neg h6, if_neg h6, if_neg (by omega), if_neg (by omega), if_neg (by omega), if_neg (by omega), if_neg (by omega), if_neg (by omega)]
theorem plainR_re {o : O4} (h : o.k ≤ 11) (r : List Int) (t : Th) (m : List Int) (n : Int) : plainR o r (reT m n t) = plainR o r t := by
  unfold plainR
  by_cases h5 : o.k = 5
  · rw [if_pos h5, if_pos h5]; rfl
  · have a : ¬ o.k = 12 := by omega
    have b : ¬ o.k = 13 := by omega
    have c : ¬ o.k = 14 := by omega
    have d : ¬ o.k = 16 := by omega
    simp only [if_neg h5, if_neg a, if_neg b, if_neg c, if_neg d]
theorem step_re {xs : List O4} (hd : Dry xs) {s : Cf} (hp : s.pc < xs.length) (t0 : Th) (m : List Int) (n : Int) : step xs (reT m n t0) noF (reC m n s) = reS m n (step xs t0 noF s) := by
  have hg := xs_at hp
  have hk : xs[s.pc].k ≤ 11 := by rcases hd s.pc hp with h | h <;> omega
  obtain ⟨pc, r, t, k⟩ := s
  have hg : xs.getD pc z4 = xs[pc] := hg
  have hk : xs[pc].k ≤ 11 := hk
  have hd' : ∀ T k, step xs T noF ⟨pc, r, reT m n t, k⟩ = (if xs[pc].k = 8 then .inl ⟨pc + 1, r, reT m n t, ⟨pc, r, reT m n t⟩ :: k⟩
      else if xs[pc].k = 9 then (match k with
        | [] => .inr ⟨0, [], T⟩
        | q :: k => .inl ⟨pc + 1, wr r (xs.getD q.pc z4).a 1, reT m n t, k⟩)
      else if xs[pc].k = 10 then (match k with
        | [] => .inr ⟨2, r, T⟩
        | q :: k => .inl ⟨(endOf xs q.pc).toNat + 1, wr q.r (xs.getD q.pc z4).a 0, q.t, k⟩)
      else if xs[pc].k = 11 then .inl ⟨pc + 1, (noF r (reT m n t)).1, (noF r (reT m n t)).2, k⟩
      else .inl ⟨nextPc xs[pc] r pc, plainR xs[pc] r (reT m n t), plainT xs[pc] r (reT m n t), k⟩) := fun T k => by
    rw [← hg]; rfl
  show step xs (reT m n t0) noF ⟨pc, r, reT m n t, k.map (reK m n)⟩ = _
  rw [hd']
  clear hd'
  unfold step
  simp only [hg]
  by_cases h8 : xs[pc].k = 8
  · rw [if_pos h8, if_pos h8]; rfl
  rw [if_neg h8, if_neg h8]
  by_cases h9 : xs[pc].k = 9
  · rw [if_pos h9, if_pos h9]; cases k <;> rfl
  rw [if_neg h9, if_neg h9]
  by_cases h10 : xs[pc].k = 10
  · rw [if_pos h10, if_pos h10]; cases k <;> rfl
  rw [if_neg h10, if_neg h10]
  by_cases h11 : xs[pc].k = 11
  · rw [if_pos h11, if_pos h11]; rfl
  rw [if_neg h11, if_neg h11, plainT_re hk, plainR_re hk]; rfl
theorem runF_re {xs : List O4} (hd : Dry xs) (t0 : Th) (m : List Int) (n : Int) : ∀ (f : Nat) (s : Cf), runF xs (reT m n t0) noF f (reC m n s) = (runF xs t0 noF f s).map (reR m n)
  | 0, _ => rfl
  | f + 1, s => by
    unfold runF
    show (if s.pc < xs.length then _ else _) = _
    by_cases hp : s.pc < xs.length
    · rw [if_pos hp, if_pos hp, step_re hd hp]
      cases hs : step xs t0 noF s with
      | inl s' => exact runF_re hd t0 m n f s'
      | inr q => rfl
    · rw [if_neg hp, if_neg hp]; rfl
theorem Ends.re {xs : List O4} (hd : Dry xs) {t0 : Th} {s : Cf} {q : Rn} (h : Ends xs t0 noF s q) (m : List Int) (n : Int) : Ends xs (reT m n t0) noF (reC m n s) (reR m n q) := by
  obtain ⟨f, h⟩ := h
  exact ⟨f, by rw [runF_re hd, h]; rfl⟩
/-- a kid's ops -/
theorem kid_dry {xs : List O4} (h : kidOk xs = true) : codeOk xs = true ∧ hasFork xs = false ∧ Dry xs := by
  unfold kidOk at h
  rw [Bool.and_eq_true, Bool.and_eq_true] at h
  obtain ⟨⟨h1, h2⟩, h3⟩ := h
  refine ⟨h1, by simpa using h2, fun i hi => ?_⟩
  have ho := code_at h1 hi
  have ht := List.all_eq_true.1 h3 _ (List.getElem_mem hi)
  have hk : 0 ≤ xs[i].k ∧ xs[i].k ≤ 16 := by
    have := ho
    unfold okOp opOk at this
    rcases Int.lt_or_le xs[i].k 1 with hx | hx
    · rw [spans_none (.inl hx)] at this; simp at this
    · rcases Int.lt_or_le 16 xs[i].k with hy | hy
      · rw [spans_none (.inr hy)] at this; simp at this
      · omega
  rcases Int.lt_or_le xs[i].k 12 with h | h
  · omega
  · exfalso
    unfold touch at ht
    rw [if_pos ho, if_neg (by omega), if_pos (by omega)] at ht
    simp at ht
/-- a kid does the same, whatever map and counter hold, and leaves them -/
theorem kid_run {xs : List O4} (h : kidOk xs = true) {r : List Int} {t : Th} {q : Rn} (he : Ends xs t noF ⟨0, r, t, []⟩ q) (m : List Int) (n : Int) : run xs noF r (reT m n t) = reR m n q :=
  run_eq (he.re (kid_dry h).2.2 m n)
end Ops
end Go.Proofs.Ytppkohkcffnghaa
