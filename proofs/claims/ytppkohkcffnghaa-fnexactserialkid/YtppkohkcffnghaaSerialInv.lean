/- What stays true of the machine, step by step, in right code. -/
import Derived.Test.YtppkohkcffnghaaSerialL
set_option linter.unusedVariables false
set_option linter.unusedSimpArgs false
namespace Go.Proofs.Ytppkohkcffnghaa
namespace Ops

theorem code_four {xs : List O4} (h : codeOk xs = true) : xs.length ≤ 24 ∧ xs.all okOp = true ∧ closedGo xs 0 = true ∧ skipsGo xs xs 0 = true := by
  rw [codeOk_split] at h
  simp only [Bool.and_eq_true, decide_eq_true_eq] at h
  exact ⟨h.1, h.2.1, h.2.2.1, h.2.2.2.1⟩
theorem code_at {xs : List O4} (h : codeOk xs = true) {i : Nat} (hi : i < xs.length) : okOp xs[i] = true := List.all_eq_true.1 (code_four h).2.1 _ (List.getElem_mem hi)
theorem skips_at {xs : List O4} (h : skipsGo xs xs 0 = true) : ∀ k, k ≤ xs.length → skipsGo xs (xs.drop k) k = true
  | 0, _ => by rw [List.drop_zero]; exact h
  | k + 1, hk => by
    have := skips_at h k (by omega)
    rw [skipsGo_step (by omega), Bool.and_eq_true] at this
    exact this.2
theorem skip_right {xs : List O4} (h : codeOk xs = true) {i : Nat} (hi : i < xs.length) (h7 : xs[i].k = 7) : skipOk xs i = true := by
  have := skips_at (code_four h).2.2.2 i (by omega)
  rw [skipsGo_step hi, Bool.and_eq_true] at this
  have h1 := this.1
  rw [h7] at h1
  simpa using h1
/-- a skip goes on in the block in which it stands -/
theorem skip_stack {xs : List O4} (h : codeOk xs = true) {i : Nat} (hi : i < xs.length) (h7 : xs[i].k = 7) : i + 1 + xs[i].b.toNat ≤ xs.length ∧ 0 ≤ xs[i].b ∧ stAt xs (i + 1 + xs[i].b.toNat) = stAt xs i := by
  have hs := skip_right h hi h7
  have hg : xs.getD i z4 = xs[i] := by simp [List.getD, hi]
  have hb : 0 ≤ xs[i].b := by
    have := code_at h hi
    unfold okOp opOk at this
    rw [h7] at this
    simp only [spans, Int.reduceEq, if_true, if_false, reduceIte, Bool.and_eq_true, or_self, or_false, false_or] at this
    have h2 := this.1.2
    unfold inn at h2
    simp at h2
    omega
  unfold skipOk at hs
  rw [hg, Bool.and_eq_true, decide_eq_true_eq] at hs
  have hl : i + 1 + xs[i].b.toNat ≤ xs.length := by omega
  refine ⟨hl, hb, ?_⟩
  have hst := stAt_succ hi
  rw [step0 (by omega) (by omega)] at hst
  obtain ⟨h1, -⟩ := closed_at (code_four h).2.2.1 i (by omega)
  obtain ⟨-, h2⟩ := st_sorted xs i
  match hS : stAt xs i, h1 with
  | b :: r, _ =>
    have hbl : b < ((i + 1 : Nat) : Int) := by have := h2 b (by rw [hS]; simp); omega
    rw [hS] at hst
    exact (skip_walk (code_four h).2.2.1 (b := b) (r := r) xs[i].b.toNat (i + 1) [] 0 hst rfl hl hbl).1 hs.2
/-- behind the end of a block the stack is what it was ahead of it; and the end of an open block is still to come -/
theorem block_end {xs : List O4} (h : codeOk xs = true) {b : Nat} (hb : b < xs.length) (h8 : xs[b].k = 8) : ∃ e : Nat, endOf xs b = (e : Int) ∧ e < xs.length ∧ stAt xs (e + 1) = stAt xs b ∧ ∀ k (rest : List Int), stAt xs k = (b : Int) :: rest → k ≤ e := by
  obtain ⟨e, he, h1, h2, -⟩ := shapes8 h hb h8
  have hg : xs.getD b z4 = xs[b] := by simp [List.getD, hb]
  have hgo : endGo (xs.drop (b + 1)) 1 (b + 1) = (e : Int) := by
    have h0 : endOf xs b = endGo (xs.drop b) 0 b := by
      unfold endOf
      rw [Int.toNat_natCast, if_pos ⟨by omega, by omega, by rw [hg]; exact h8⟩]
    rw [h0, endGo_step hb, delta8 h8, if_neg (by omega)] at he
    exact he
  have hst := stAt_succ hb
  rw [step8 h8] at hst
  have hs := end_stack (r := stAt xs b) (xs.length - (b + 1)) (b + 1) [(b : Int)] 1 e (by omega) hst rfl (by omega) hgo
  refine ⟨e, he, h2, hs, fun k rest hk => ?_⟩
  rcases Nat.lt_or_ge e k with hlt | hge
  · exfalso
    have hn : (b : Int) ∉ stAt xs (e + 1) := by
      rw [hs]
      intro hm
      have := (st_sorted xs b).2 _ hm
      omega
    have := gone (xs := xs) (b := (b : Int)) (k - (e + 1)) (e + 1) (by omega) hn
    rw [show e + 1 + (k - (e + 1)) = k by omega, hk] at this
    simp at this
  · exact hge

/-- what holds of the machine wherever it is -/
structure CfOk (xs : List O4) (s : Cf) : Prop where
  pc : s.pc ≤ xs.length
  r : regsOk s.r = true
  t : thOk s.t = true
  k : ∀ m ∈ s.k, regsOk m.r = true ∧ thOk m.t = true ∧ m.pc < xs.length ∧ (xs.getD m.pc z4).k = 8
  st : stAt xs s.pc = s.k.map (fun m => (m.pc : Int)) ++ [-1]
theorem CfOk.start {xs : List O4} {r : List Int} {t : Th} (hr : regsOk r = true) (ht : thOk t = true) : CfOk xs ⟨0, r, t, []⟩ :=
  { pc := Nat.zero_le _, r := hr, t := ht, k := fun m hm => by simp at hm, st := rfl }
def ForkOk (F : List Int → Th → List Int × Th) : Prop := ∀ r t, regsOk r = true → thOk t = true → regsOk (F r t).1 = true ∧ thOk (F r t).2 = true
section
variable {xs : List O4} {t0 : Th} {F : List Int → Th → List Int × Th} {s : Cf}
theorem xs_at {xs : List O4} {i : Nat} (hi : i < xs.length) : xs.getD i z4 = xs[i] := by simp [List.getD, hi]
theorem step_begin (h : CfOk xs s) (hp : s.pc < xs.length) (h8 : xs[s.pc].k = 8) : step xs t0 F s = .inl ⟨s.pc + 1, s.r, s.t, ⟨s.pc, s.r, s.t⟩ :: s.k⟩ ∧ CfOk xs ⟨s.pc + 1, s.r, s.t, ⟨s.pc, s.r, s.t⟩ :: s.k⟩ := by
  have hg := xs_at hp
  refine ⟨by unfold step; rw [hg, if_pos h8], { pc := hp, r := h.r, t := h.t, k := fun m hm => ?_, st := ?_ }⟩
  · rcases List.mem_cons.1 hm with rfl | hm
    · exact ⟨h.r, h.t, hp, by rw [hg]; exact h8⟩
    · exact h.k m hm
  · show stAt xs (s.pc + 1) = _
    rw [stAt_succ hp, step8 h8, h.st]; rfl
theorem step_end (hc : codeOk xs = true) (h : CfOk xs s) (hp : s.pc < xs.length) (h9 : xs[s.pc].k = 9) : ∃ m k, s.k = m :: k ∧ step xs t0 F s = .inl ⟨s.pc + 1, wr s.r (xs.getD m.pc z4).a 1, s.t, k⟩ ∧ CfOk xs ⟨s.pc + 1, wr s.r (xs.getD m.pc z4).a 1, s.t, k⟩ := by
  have hg := xs_at hp
  have hst := stAt_succ hp
  rw [step9 h9, h.st] at hst
  have h1 := (closed_at (code_four hc).2.2.1 (s.pc + 1) (by omega)).1
  match hk : s.k with
  | [] => rw [hk] at hst; rw [hst] at h1; simp at h1
  | m :: k =>
    refine ⟨m, k, rfl, by unfold step; rw [hg, if_neg (by omega), if_pos h9, hk], { pc := hp, r := regs_wr h.r _ (by omega), t := h.t, k := fun q hq => h.k q (by rw [hk]; simp [hq]), st := ?_ }⟩
    show stAt xs (s.pc + 1) = _
    rw [hst, hk]; rfl
theorem step_give (h : CfOk xs s) (hp : s.pc < xs.length) (h10 : xs[s.pc].k = 10) (hk : s.k = []) : step xs t0 F s = .inr ⟨2, s.r, t0⟩ := by
  unfold step
  rw [xs_at hp, if_neg (by omega), if_neg (by omega), if_pos h10, hk]
theorem step_abort (hc : codeOk xs = true) (h : CfOk xs s) (hp : s.pc < xs.length) (h10 : xs[s.pc].k = 10) {m : Mk} {k : List Mk} (hk : s.k = m :: k) :
    ∃ e : Nat, endOf xs m.pc = (e : Int) ∧ s.pc ≤ e ∧ e < xs.length ∧ step xs t0 F s = .inl ⟨e + 1, wr m.r (xs.getD m.pc z4).a 0, m.t, k⟩ ∧ CfOk xs ⟨e + 1, wr m.r (xs.getD m.pc z4).a 0, m.t, k⟩ := by
  obtain ⟨a1, a2, a3, a4⟩ := h.k m (by rw [hk]; simp)
  rw [xs_at a3] at a4
  obtain ⟨e, e1, e2, e3, e4⟩ := block_end hc a3 a4
  have hst := h.st
  rw [hk, List.map_cons, List.cons_append] at hst
  have hrest := stack_below s.pc [] hst
  refine ⟨e, e1, e4 _ _ hst, e2, by unfold step; rw [xs_at hp, if_neg (by omega), if_neg (by omega), if_pos h10, hk]; simp only [e1, Int.toNat_natCast], { pc := e2, r := regs_wr a1 _ (by omega), t := a2, k := fun q hq => h.k q (by rw [hk]; simp [hq]), st := ?_ }⟩
  show stAt xs (e + 1) = _
  rw [e3, ← hrest]
theorem step_fork (hF : ForkOk F) (h : CfOk xs s) (hp : s.pc < xs.length) (h11 : xs[s.pc].k = 11) : step xs t0 F s = .inl ⟨s.pc + 1, (F s.r s.t).1, (F s.r s.t).2, s.k⟩ ∧ CfOk xs ⟨s.pc + 1, (F s.r s.t).1, (F s.r s.t).2, s.k⟩ := by
  obtain ⟨f1, f2⟩ := hF s.r s.t h.r h.t
  refine ⟨by unfold step; rw [xs_at hp, if_neg (by omega), if_neg (by omega), if_neg (by omega), if_pos h11], { pc := hp, r := f1, t := f2, k := h.k, st := ?_ }⟩
  show stAt xs (s.pc + 1) = _
  rw [stAt_succ hp, step0 (by omega) (by omega)]; exact h.st
theorem step_plain (hc : codeOk xs = true) (h : CfOk xs s) (hp : s.pc < xs.length) (h8 : ¬ xs[s.pc].k = 8) (h9 : ¬ xs[s.pc].k = 9) (h10 : ¬ xs[s.pc].k = 10) (h11 : ¬ xs[s.pc].k = 11) :
    step xs t0 F s = .inl ⟨nextPc xs[s.pc] s.r s.pc, plainR xs[s.pc] s.r s.t, plainT xs[s.pc] s.r s.t, s.k⟩ ∧ CfOk xs ⟨nextPc xs[s.pc] s.r s.pc, plainR xs[s.pc] s.r s.t, plainT xs[s.pc] s.r s.t, s.k⟩ ∧ s.pc < nextPc xs[s.pc] s.r s.pc := by
  have ho := code_at hc hp
  have key : nextPc xs[s.pc] s.r s.pc ≤ xs.length ∧ stAt xs (nextPc xs[s.pc] s.r s.pc) = stAt xs s.pc ∧ s.pc < nextPc xs[s.pc] s.r s.pc := by
    unfold nextPc
    split
    · rename_i h7
      obtain ⟨a, b, c⟩ := skip_stack hc hp h7.1
      exact ⟨a, c, by omega⟩
    · exact ⟨hp, by rw [stAt_succ hp, step0 h8 h9], by omega⟩
  refine ⟨by unfold step; rw [xs_at hp, if_neg h8, if_neg h9, if_neg h10, if_neg h11], { pc := key.1, r := plainR_ok ho h.r h.t, t := plainT_ok h.r h.t, k := h.k, st := ?_ }, key.2.2⟩
  show stAt xs (nextPc xs[s.pc] s.r s.pc) = _
  rw [key.2.1]; exact h.st
end
end Ops
end Go.Proofs.Ytppkohkcffnghaa
