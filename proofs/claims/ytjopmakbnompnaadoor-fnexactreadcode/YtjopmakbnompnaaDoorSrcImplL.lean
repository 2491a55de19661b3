/- The program's way of reading texts, as plain mathematics: a line at a time, up to the first that is wrong. -/
import Derived.Test.YtjopmakbnompnaaDoorSourceP
import Derived.Test.YtjopmakbnompnaaDoorReadOpL
set_option linter.unusedVariables false
set_option linter.unusedSimpArgs false
namespace Go.Proofs.YtjopmakbnompnaaDoor
namespace Ops
open Num

/-! ### the first line -/
theorem first_eq {c : UInt8} : ∀ {a b A B : Txt}, (∀ x ∈ a, x ≠ c) → (∀ x ∈ b, x ≠ c) → a ++ c :: A = b ++ c :: B → a = b ∧ A = B
  | [], [], A, B, _, _, e => by simp at e; exact ⟨rfl, e⟩
  | [], y :: b, A, B, _, hb, e => by
    simp only [List.nil_append, List.cons_append, List.cons.injEq] at e
    exact absurd e.1.symm (hb y (by simp))
  | x :: a, [], A, B, ha, _, e => by
    simp only [List.nil_append, List.cons_append, List.cons.injEq] at e
    exact absurd e.1 (ha x (by simp))
  | x :: a, y :: b, A, B, ha, hb, e => by
    simp only [List.cons_append, List.cons.injEq] at e
    obtain ⟨h1, h2⟩ := first_eq (fun z hz => ha z (by simp [hz])) (fun z hz => hb z (by simp [hz])) e.2
    exact ⟨by rw [e.1, h1], h2⟩
theorem kidL_eq (r : Txt) : kidL ++ r = kidW ++ 10 :: r := rfl
theorem kidW_plain : ∀ x ∈ kidW, x ≠ 10 := by decide
theorem kidsText_form (kss : List (List O4)) : kidsText kss = [] ∨ ∃ R, kidsText kss = kidW ++ 10 :: R := by
  cases kss with
  | nil => exact .inl rfl
  | cons ks r => exact .inr ⟨_, kidsText_cons ks r⟩
def AllOk (xs : List O4) : Prop := ∀ o ∈ xs, okOp o = true
/-- lines that are alike at their beginning -/
theorem lines_cut : ∀ (c c0 : List O4) {K R : Txt}, AllOk c → AllOk c0 → (K = [] ∨ ∃ Q, K = kidW ++ 10 :: Q) → linesOf c0 ++ K = linesOf c ++ R → ∃ z, c0 = c ++ z ∧ linesOf z ++ K = R
  | [], c0, K, R, _, _, _, e => ⟨c0, rfl, e⟩
  | d :: c, [], K, R, hc, _, hK, e => by
    exfalso
    rw [lines_cons, List.append_assoc, List.cons_append] at e
    change K = _ at e
    rcases hK with rfl | ⟨Q, rfl⟩
    · simp at e
    · exact kid_no_op (hc d (by simp)) (first_eq kidW_plain show_plain e).1.symm
  | d :: c, x :: c0, K, R, hc, h0, hK, e => by
    rw [lines_cons, lines_cons, List.append_assoc, List.append_assoc, List.cons_append, List.cons_append] at e
    obtain ⟨e1, e2⟩ := first_eq show_plain show_plain e
    have := show_inj (h0 x (by simp)) (hc d (by simp)) e1
    subst this
    obtain ⟨z, hz, hr⟩ := lines_cut c c0 (fun o ho => hc o (by simp [ho])) (fun o ho => h0 o (by simp [ho])) hK e2
    exact ⟨z, by rw [hz]; rfl, hr⟩

/-! ### what readOps tells -/
/-- a line that is none, and what is left behind it -/
def Wrong (ln rest : Txt) : Prop := (∃ M, ln = M ++ [10] ∧ (∀ x ∈ M, x ≠ 10) ∧ ∀ o, okOp o = true → showOp o ≠ M) ∨ ((∀ x ∈ ln, x ≠ 10) ∧ ln ≠ [] ∧ rest = [])
def ToldOps (L : Txt) (xs : List O4) (rest : Txt) (er : Option Txt) : Prop := (er = none ∧ rest = [] ∧ L = linesOf xs) ∨ (er = none ∧ 24 < xs.length ∧ L = linesOf xs ++ rest) ∨ ∃ ln, er = some ln ∧ L = linesOf xs ++ (ln ++ rest) ∧ Wrong ln rest
theorem ToldOps.all {L : Txt} {xs : List O4} {rest : Txt} (h1 : rest = []) (h2 : L = linesOf xs) : ToldOps L xs rest none := .inl ⟨rfl, h1, h2⟩
theorem ToldOps.long {L : Txt} {xs : List O4} {rest : Txt} (h1 : 24 < xs.length) (h2 : L = linesOf xs ++ rest) : ToldOps L xs rest none := .inr (.inl ⟨rfl, h1, h2⟩)
theorem ToldOps.wrong {L : Txt} {xs : List O4} {rest : Txt} (ln : Txt) (h1 : L = linesOf xs ++ (ln ++ rest)) (h2 : Wrong ln rest) : ToldOps L xs rest (some ln) := .inr (.inr ⟨ln, rfl, h1, h2⟩)
theorem ToldOps.of_none {L : Txt} {xs : List O4} {rest : Txt} (h : ToldOps L xs rest none) : L = linesOf xs ∨ (24 < xs.length ∧ L = linesOf xs ++ rest) := by
  rcases h with ⟨-, -, h⟩ | ⟨-, hl, h⟩ | ⟨ln, e, -⟩
  · exact .inl h
  · exact .inr ⟨hl, h⟩
  · cases e
theorem ToldOps.of_some {L : Txt} {xs : List O4} {rest ln : Txt} (h : ToldOps L xs rest (some ln)) : L = linesOf xs ++ (ln ++ rest) ∧ Wrong ln rest := by
  rcases h with ⟨e, -⟩ | ⟨e, -⟩ | ⟨ln', e, h1, h2⟩
  · cases e
  · cases e
  · obtain rfl := Option.some.inj e
    exact ⟨h1, h2⟩
/-- no text of lines, with or without kids behind them, goes on with a line that is wrong, unless it is the line kid -/
theorem wrong_no {z : List O4} {kss : List (List O4)} {ln rest : Txt} (hz : AllOk z) (hw : Wrong ln rest) (e : linesOf z ++ kidsText kss = ln ++ rest) : z = [] ∧ ln = kidL := by
  rcases hw with ⟨M, rfl, hM, hno⟩ | ⟨hln, hne, rfl⟩
  · rw [List.append_assoc] at e
    change _ = M ++ 10 :: rest at e
    cases z with
    | nil =>
      rcases kidsText_form kss with h | ⟨R, h⟩
      · rw [h] at e; simp [linesOf] at e
      · rw [h] at e
        change kidW ++ 10 :: R = _ at e
        have := (first_eq kidW_plain hM e).1
        exact ⟨rfl, by rw [← this]; rfl⟩
    | cons o z =>
      exfalso
      rw [lines_cons, List.append_assoc, List.cons_append] at e
      exact hno o (hz o (by simp)) (first_eq show_plain hM e).1
  · exfalso
    rw [List.append_nil] at e
    cases z with
    | nil =>
      rcases kidsText_form kss with h | ⟨R, h⟩
      · rw [h] at e; exact hne (by simpa [linesOf] using e.symm)
      · rw [h] at e
        change kidW ++ 10 :: R = _ at e
        exact hln 10 (by rw [← e]; simp) rfl
    | cons o z =>
      rw [lines_cons] at e
      exact hln 10 (by rw [← e]; simp) rfl
theorem kids_nil : kidsText [] = [] := rfl
theorem code_long {xs : List O4} (h : 24 < xs.length) : codeOk xs = false := by
  cases hc : codeOk xs with
  | false => rfl
  | true =>
    unfold codeOk at hc
    rw [Bool.and_eq_true] at hc
    have := of_decide_eq_true hc.1
    omega
theorem rc_none {L : Txt} {xs : List O4} {rest : Txt} (h : ToldOps L xs rest none) (hx : AllOk xs) : (codeOk xs = true → RdCode L xs true) ∧ (codeOk xs = false → RdCode L [] false) := by
  rcases h.of_none with h | ⟨hl, h⟩
  case inl =>
    refine ⟨fun hc => .inl ⟨rfl, hc, h.symm⟩, fun hc => .inr ⟨rfl, rfl, fun ys hy e => ?_⟩⟩
    rw [h] at e
    rw [lines_inj (code_ops hy) hx e, hc] at hy
    cases hy
  case inr =>
    refine ⟨fun hc => (by rw [code_long hl] at hc; cases hc), fun hc => .inr ⟨rfl, rfl, fun ys hy e => ?_⟩⟩
    obtain ⟨z, hz, -⟩ := lines_cut xs ys (K := []) hx (code_ops hy) (.inl rfl) (by rw [List.append_nil, e, h])
    have h24 : 24 < ys.length := by rw [hz, List.length_append]; omega
    rw [code_long h24] at hy; cases hy
theorem rc_some {L : Txt} {xs : List O4} {rest ln : Txt} (h : ToldOps L xs rest (some ln)) (hx : AllOk xs) : RdCode L [] false := by
  obtain ⟨h, hw⟩ := h.of_some
  refine .inr ⟨rfl, rfl, fun ys hy e => ?_⟩
  obtain ⟨z, hz, hr⟩ := lines_cut xs ys (K := []) hx (code_ops hy) (.inl rfl) (by rw [List.append_nil, e, h])
  rw [← kids_nil] at hr
  obtain ⟨hz0, hln⟩ := wrong_no (fun o ho => code_ops hy o (by rw [hz]; simp [ho])) hw hr
  subst hz0
  rw [hln] at hr
  simp [linesOf, kidsText, kidL] at hr

/-! ### whole programs -/
/-- the codes that stand ahead of a line kid -/
def preText (cs : List (List O4)) : Txt := cs.flatMap fun c => linesOf c ++ kidL
theorem pre_cons (c : List O4) (r : List (List O4)) : preText (c :: r) = linesOf c ++ (kidL ++ preText r) := by simp [preText]
theorem pre_snoc (r : List (List O4)) (c : List O4) : preText (r ++ [c]) = preText r ++ (linesOf c ++ kidL) := by simp [preText]
def AllsOk (cs : List (List O4)) : Prop := ∀ c ∈ cs, AllOk c
theorem prog_cut : ∀ (init : List (List O4)) (ys : List O4) (lss : List (List O4)) {T : Txt}, AllsOk init → AllsOk (ys :: lss) → progText ys lss = preText init ++ T → ∃ c0 kss, ys :: lss = init ++ c0 :: kss ∧ progText c0 kss = T
  | [], ys, lss, T, _, _, e => ⟨ys, lss, rfl, e⟩
  | d :: init, ys, lss, T, hi, hy, e => by
    unfold progText at e
    rw [pre_cons, List.append_assoc, List.append_assoc] at e
    obtain ⟨z, hz, hr⟩ := lines_cut d ys (hi d (by simp)) (hy ys (by simp)) (kidsText_form lss) e
    have hw : Wrong kidL (preText init ++ T) := .inl ⟨kidW, rfl, kidW_plain, fun o ho => kid_no_op ho⟩
    obtain ⟨hz0, -⟩ := wrong_no (fun o ho => hy ys (by simp) o (by rw [hz]; simp [ho])) hw hr
    subst hz0
    rw [List.append_nil] at hz
    subst hz
    change kidsText lss = _ at hr
    cases lss with
    | nil => simp [kidsText, kidL] at hr
    | cons ks r =>
      rw [kidsText_cons] at hr
      have hr' := List.append_cancel_left hr
      obtain ⟨c0, kss, h1, h2⟩ := prog_cut init ks r (fun c hc => hi c (by simp [hc])) (fun c hc => hy c (by simp [hc])) hr'
      exact ⟨c0, kss, by rw [h1]; rfl, h2⟩
theorem pre_prog (cs : List (List O4)) (c : List O4) : ∃ xs kss, cs ++ [c] = xs :: kss ∧ preText cs ++ linesOf c = progText xs kss := by
  induction cs with
  | nil => exact ⟨c, [], rfl, by simp [preText, progText, kidsText]⟩
  | cons d r ih =>
    obtain ⟨xs, kss, h1, h2⟩ := ih
    refine ⟨d, xs :: kss, by rw [← h1]; rfl, ?_⟩
    rw [pre_cons]
    unfold progText
    rw [kidsText_cons]
    unfold progText at h2
    rw [← h2]
    simp
theorem prog_ops {ys : List O4} {lss : List (List O4)} (h : progOk ys lss = true) : AllsOk (ys :: lss) := by
  obtain ⟨h1, -, h2⟩ := prog_codes h
  intro c hc
  rcases List.mem_cons.1 hc with rfl | hc
  · exact code_ops h1
  · exact code_ops (h2 c hc)
theorem prog_short {ys : List O4} {lss : List (List O4)} (h : progOk ys lss = true) : ∀ c ∈ ys :: lss, c.length ≤ 24 := by
  obtain ⟨h1, -, h2⟩ := prog_codes h
  intro c hc
  have : codeOk c = true := by
    rcases List.mem_cons.1 hc with rfl | hc
    · exact h1
    · exact h2 c hc
  rcases Nat.lt_or_ge 24 c.length with h | h
  · rw [code_long h] at this; cases this
  · exact h
/-- all was read: no line is wrong -/
theorem rp_none {L T : Txt} {cs : List (List O4)} {c : List O4} {rest : Txt} {xs : List O4} {kss : List (List O4)} (hcs : AllsOk cs) (hc : AllOk c) (h : ToldOps T c rest none) (hL : L = preText cs ++ T) (e : cs ++ [c] = xs :: kss) :
    (progOk xs kss = true → RdProg L xs kss true) ∧ (progOk xs kss = false → RdProg L [] [] false) := by
  obtain ⟨xs', kss', e1, e2⟩ := pre_prog cs c
  rw [e, List.cons.injEq] at e1
  obtain ⟨rfl, rfl⟩ := e1
  rcases h.of_none with h | ⟨hl, h⟩
  case inl =>
    rw [h, e2] at hL
    refine ⟨fun hp => .inl ⟨rfl, hp, hL.symm⟩, fun hp => .inr ⟨rfl, rfl, rfl, fun ys lss hy he => ?_⟩⟩
    rw [hL, ← e2] at he
    obtain ⟨c0, k0, h1, h2⟩ := prog_cut cs ys lss hcs (prog_ops hy) he
    have hc0 : AllsOk (c0 :: k0) := fun q hq => prog_ops hy q (by rw [h1]; simp at hq ⊢; exact .inr hq)
    unfold progText at h2
    have h2' : linesOf c0 ++ kidsText k0 = linesOf c ++ [] := by rw [h2, List.append_nil]
    obtain ⟨z, hz, hr⟩ := lines_cut c c0 hc (hc0 c0 (by simp)) (kidsText_form k0) h2'
    have hz0 : z = [] := by
      cases z with
      | nil => rfl
      | cons o z => rw [lines_cons] at hr; simp at hr
    subst hz0
    have hk0 : k0 = [] := by
      cases k0 with
      | nil => rfl
      | cons k r => rw [kidsText_cons] at hr; simp [linesOf, kidL] at hr
    subst hk0
    rw [List.append_nil] at hz
    subst hz
    rw [e, List.cons.injEq] at h1
    rw [h1.1, h1.2, hp] at hy
    cases hy
  case inr =>
    have hno : progOk xs kss = false := by
      cases hp : progOk xs kss with
      | false => rfl
      | true =>
        have := prog_short hp c (by rw [← e]; simp)
        omega
    refine ⟨fun hp => (by rw [hno] at hp; cases hp), fun hp => .inr ⟨rfl, rfl, rfl, fun ys lss hy he => ?_⟩⟩
    rw [hL] at he
    obtain ⟨c0, k0, h1, h2⟩ := prog_cut cs ys lss hcs (prog_ops hy) he
    have hc0 : AllsOk (c0 :: k0) := fun q hq => prog_ops hy q (by rw [h1]; simp at hq ⊢; exact .inr hq)
    unfold progText at h2
    rw [h] at h2
    obtain ⟨z, hz, hr⟩ := lines_cut c c0 hc (hc0 c0 (by simp)) (kidsText_form k0) h2
    have := prog_short hy c0 (by rw [h1]; simp)
    rw [hz, List.length_append] at this
    omega
/-- a line is wrong, and it is not the line kid -/
theorem rp_wrong {L T : Txt} {cs : List (List O4)} {c : List O4} {rest ln : Txt} (hcs : AllsOk cs) (hc : AllOk c) (h : ToldOps T c rest (some ln)) (hL : L = preText cs ++ T) (hk : ln ≠ kidL) : RdProg L [] [] false := by
  obtain ⟨h, hw⟩ := h.of_some
  refine .inr ⟨rfl, rfl, rfl, fun ys lss hy he => ?_⟩
  rw [hL] at he
  obtain ⟨c0, k0, h1, h2⟩ := prog_cut cs ys lss hcs (prog_ops hy) he
  have hc0 : AllsOk (c0 :: k0) := fun q hq => prog_ops hy q (by rw [h1]; simp at hq ⊢; exact .inr hq)
  unfold progText at h2
  rw [h] at h2
  obtain ⟨z, hz, hr⟩ := lines_cut c c0 hc (hc0 c0 (by simp)) (kidsText_form k0) h2
  exact hk (wrong_no (fun o ho => hc0 c0 (by simp) o (by rw [hz]; simp [ho])) hw hr).2
/-- one kid more -/
theorem told_kid {L T : Txt} {cs : List (List O4)} {c : List O4} {rest : Txt} (h : ToldOps T c rest (some kidL)) (hL : L = preText cs ++ T) : L = preText (cs ++ [c]) ++ rest := by
  obtain ⟨h, hw⟩ := h.of_some
  rw [hL, h, pre_snoc]; simp
/-- a line kid too many -/
theorem rp_full {L T : Txt} {cs : List (List O4)} {c : List O4} {rest : Txt} (hcs : AllsOk cs) (hc : AllOk c) (hl : cs.length = 3) (h : ToldOps T c rest (some kidL)) (hL : L = preText cs ++ T) : RdProg L [] [] false := by
  refine .inr ⟨rfl, rfl, rfl, fun ys lss hy he => ?_⟩
  rw [told_kid h hL] at he
  have hcs' : AllsOk (cs ++ [c]) := by
    intro q hq
    rcases List.mem_append.1 hq with hq | hq
    · exact hcs q hq
    · simp at hq; rw [hq]; exact hc
  obtain ⟨c0, k0, h1, -⟩ := prog_cut _ ys lss hcs' (prog_ops hy) he
  have h3 := (prog_codes hy).2.1
  have := congrArg List.length h1
  simp at this
  omega

/-! ### a text parted at its first blanks -/
def splitTo (c : UInt8) : Nat → Txt → List Txt
  | 0, L => [L]
  | m + 1, L => match L.idxOf? c with
    | none => [L]
    | some i => L.take i :: splitTo c m (L.drop (i + 1))
end Ops
end Go.Proofs.YtjopmakbnompnaaDoor
