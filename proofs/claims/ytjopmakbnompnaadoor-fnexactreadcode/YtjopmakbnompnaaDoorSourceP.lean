/- Sources: whole programs as texts, as plain mathematics. -/
import Derived.Test.YtjopmakbnompnaaDoorSourceL
import Derived.Test.YtjopmakbnompnaaDoorShapeStk
set_option linter.unusedVariables false
set_option linter.unusedSimpArgs false
namespace Go.Proofs.YtjopmakbnompnaaDoor
namespace Ops
open Num

theorem code_ops {xs : List O4} (h : codeOk xs = true) : ∀ o ∈ xs, okOp o = true := by
  rw [codeOk_split] at h
  simp only [Bool.and_eq_true] at h
  exact List.all_eq_true.1 h.2.1
theorem RdCode.unique {s : Txt} {xs ys : List O4} {b b' : Bool} (h : RdCode s xs b) (h' : RdCode s ys b') : xs = ys ∧ b = b' := by
  rcases h with ⟨rfl, a1, a2⟩ | ⟨rfl, rfl, a⟩ <;> rcases h' with ⟨rfl, b1, b2⟩ | ⟨rfl, rfl, b⟩
  · exact ⟨lines_inj (code_ops a1) (code_ops b1) (a2.trans b2.symm), rfl⟩
  · exact absurd a2 (b xs a1)
  · exact absurd b2 (a ys b1)
  · exact ⟨rfl, rfl⟩

def kidW : Txt := [107, 105, 100]
def kidL : Txt := [107, 105, 100, 10]
/-- the text of a program -/
def kidsText (kss : List (List O4)) : Txt := kss.flatMap fun ks => kidL ++ linesOf ks
def progText (xs : List O4) (kss : List (List O4)) : Txt := linesOf xs ++ kidsText kss
/-- ShowProg -/
def showProg (xs : List O4) (kss : List (List O4)) : Txt := if progOk xs kss = true then progText xs kss else []
/-- all its lines -/
def kidsRows (kss : List (List O4)) : List Txt := kss.flatMap fun ks => kidW :: ks.map showOp
theorem kidsText_cons (ks : List O4) (r : List (List O4)) : kidsText (ks :: r) = kidL ++ (linesOf ks ++ kidsText r) := by simp [kidsText]
theorem kidsRows_cons (ks : List O4) (r : List (List O4)) : kidsRows (ks :: r) = kidW :: (ks.map showOp ++ kidsRows r) := by simp [kidsRows]
theorem split_lines (xs : List O4) (r : Txt) : split 10 (linesOf xs ++ r) = xs.map showOp ++ split 10 r := by
  induction xs with
  | nil => rfl
  | cons o l ih => rw [lines_cons, List.append_assoc, List.cons_append, split_at show_plain, ih]; rfl
theorem split_kid (r : Txt) : split 10 (kidL ++ r) = kidW :: split 10 r := by
  have : kidL ++ r = kidW ++ 10 :: r := rfl
  rw [this, split_at (by decide)]
theorem split_kids (kss : List (List O4)) : split 10 (kidsText kss) = kidsRows kss ++ [[]] := by
  induction kss with
  | nil => rfl
  | cons ks r ih => rw [kidsText_cons, split_kid, split_lines, ih, kidsRows_cons]; simp
theorem prog_rows (xs : List O4) (kss : List (List O4)) : split 10 (progText xs kss) = (xs.map showOp ++ kidsRows kss) ++ [[]] := by
  unfold progText; rw [split_lines, split_kids, List.append_assoc]
theorem kid_no_op {o : O4} (h : okOp o = true) : showOp o ≠ kidW := by
  intro e
  have := show_split h
  rw [e] at this
  have h1 : wordOf o.k = kidW := by
    have h2 : split 32 kidW = [kidW] := by decide
    rw [h2] at this
    exact ((List.cons.injEq _ _ _ _).mp this).1.symm
  have key : ∀ i < 17, words.getD i [] ≠ kidW := by decide
  have := ok_kind h
  exact key o.k.toNat (by omega) h1
theorem cut_at {K : Txt} : ∀ (A A' T T' : List Txt), (∀ a ∈ A, a ≠ K) → (∀ a ∈ A', a ≠ K) → (T = [] ∨ ∃ r, T = K :: r) → (T' = [] ∨ ∃ r, T' = K :: r) → A ++ T = A' ++ T' → A = A' ∧ T = T'
  | [], [], T, T', _, _, _, _, e => ⟨rfl, e⟩
  | [], a :: r, T, T', _, h', hT, _, e => by
    rcases hT with rfl | ⟨q, rfl⟩
    · simp at e
    · simp only [List.nil_append, List.cons_append, List.cons.injEq] at e
      exact absurd e.1.symm (h' a (by simp))
  | a :: r, [], T, T', h, _, _, hT, e => by
    rcases hT with rfl | ⟨q, rfl⟩
    · simp at e
    · simp only [List.nil_append, List.cons_append, List.cons.injEq] at e
      exact absurd e.1 (h a (by simp))
  | a :: r, a' :: r', T, T', h, h', hT, hT', e => by
    simp only [List.cons_append, List.cons.injEq] at e
    obtain ⟨e1, e2⟩ := cut_at r r' T T' (fun x hx => h x (by simp [hx])) (fun x hx => h' x (by simp [hx])) hT hT' e.2
    exact ⟨by rw [e.1, e1], e2⟩
theorem kidsRows_form (kss : List (List O4)) : kidsRows kss = [] ∨ ∃ r, kidsRows kss = kidW :: r := by
  cases kss with
  | nil => exact .inl rfl
  | cons ks r => exact .inr ⟨_, kidsRows_cons ks r⟩
theorem ops_no_kid {xs : List O4} (h : ∀ o ∈ xs, okOp o = true) : ∀ a ∈ xs.map showOp, a ≠ kidW := by
  intro a ha
  obtain ⟨o, ho, rfl⟩ := List.mem_map.1 ha
  exact kid_no_op (h o ho)
theorem kids_inj : ∀ (kss lss : List (List O4)), (∀ ks ∈ kss, ∀ o ∈ ks, okOp o = true) → (∀ ks ∈ lss, ∀ o ∈ ks, okOp o = true) → kidsRows kss = kidsRows lss → kss = lss
  | [], [], _, _, _ => rfl
  | [], ls :: t, _, _, e => by rw [kidsRows_cons] at e; simp [kidsRows] at e
  | ks :: r, [], _, _, e => by rw [kidsRows_cons] at e; simp [kidsRows] at e
  | ks :: r, ls :: t, h, h', e => by
    rw [kidsRows_cons, kidsRows_cons, List.cons.injEq] at e
    obtain ⟨e1, e2⟩ := cut_at _ _ _ _ (ops_no_kid (h ks (by simp))) (ops_no_kid (h' ls (by simp))) (kidsRows_form r) (kidsRows_form t) e.2
    rw [map_show_inj _ _ (h ks (by simp)) (h' ls (by simp)) e1, kids_inj r t (fun x hx => h x (by simp [hx])) (fun x hx => h' x (by simp [hx])) e2]
theorem prog_codes {xs : List O4} {kss : List (List O4)} (h : progOk xs kss = true) : codeOk xs = true ∧ kss.length ≤ 3 ∧ ∀ ks ∈ kss, codeOk ks = true := by
  unfold progOk at h
  simp only [Bool.and_eq_true, decide_eq_true_eq] at h
  refine ⟨h.1.1.1, h.1.1.2, fun ks hk => ?_⟩
  have := List.all_eq_true.1 h.2 ks hk
  unfold kidOk at this
  simp only [Bool.and_eq_true] at this
  exact this.1.1
theorem prog_inj {xs ys : List O4} {kss lss : List (List O4)} (h : progOk xs kss = true) (h' : progOk ys lss = true) (e : progText xs kss = progText ys lss) : xs = ys ∧ kss = lss := by
  obtain ⟨a1, -, a2⟩ := prog_codes h
  obtain ⟨b1, -, b2⟩ := prog_codes h'
  have := prog_rows xs kss
  rw [e, prog_rows] at this
  have e1 := List.append_inj_left' this rfl
  obtain ⟨e2, e3⟩ := cut_at _ _ _ _ (ops_no_kid (code_ops b1)) (ops_no_kid (code_ops a1)) (kidsRows_form lss) (kidsRows_form kss) e1
  exact ⟨(map_show_inj _ _ (code_ops b1) (code_ops a1) e2).symm, (kids_inj _ _ (fun k hk => code_ops (b2 k hk)) (fun k hk => code_ops (a2 k hk)) e3).symm⟩
/-- what ReadProg tells -/
def RdProg (s : Txt) (xs : List O4) (kss : List (List O4)) (b : Bool) : Prop := (b = true ∧ progOk xs kss = true ∧ progText xs kss = s) ∨ (b = false ∧ xs = [] ∧ kss = [] ∧ ∀ ys lss, progOk ys lss = true → progText ys lss ≠ s)
theorem RdProg.unique {s : Txt} {xs ys : List O4} {kss lss : List (List O4)} {b b' : Bool} (h : RdProg s xs kss b) (h' : RdProg s ys lss b') : xs = ys ∧ kss = lss ∧ b = b' := by
  rcases h with ⟨rfl, a1, a2⟩ | ⟨rfl, rfl, rfl, a⟩ <;> rcases h' with ⟨rfl, b1, b2⟩ | ⟨rfl, rfl, rfl, b⟩
  · obtain ⟨e1, e2⟩ := prog_inj a1 b1 (a2.trans b2.symm); exact ⟨e1, e2, rfl⟩
  · exact absurd a2 (b xs kss a1)
  · exact absurd b2 (a ys lss b1)
  · exact ⟨rfl, rfl, rfl⟩
end Ops
end Go.Proofs.YtjopmakbnompnaaDoor
