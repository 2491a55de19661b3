/- What the specification's KidOk, ProgOk and SameProg answer. -/
import Derived.Test.YthmkijbokfiljaaShapeSpec3
import Derived.Test.YthmkijbokfiljaaTake
import Derived.Deep.QuietTactic
import Derived.BigQuiet
set_option linter.unusedVariables false
set_option linter.unusedSimpArgs false
namespace Go.Proofs.Ythmkijbokfiljaa
open Go.RowKit
namespace Ops
open Bas Flat

theorem kid_no1 {xs : List O4} (h : codeOk xs = false) : kidOk xs = false := by unfold kidOk; rw [h]; rfl
theorem kid_no2 {xs : List O4} (h : hasFork xs = true) : kidOk xs = false := by unfold kidOk; rw [h]; simp
theorem kid_all {xs : List O4} (h1 : codeOk xs = true) (h2 : hasFork xs = false) : kidOk xs = xs.all fun o => !(touch o == 2) := by unfold kidOk; rw [h1, h2]; simp

theorem prog_no1 {xs : List O4} {kss : List (List O4)} (h : codeOk xs = false) : progOk xs kss = false := by unfold progOk; rw [h]; rfl
theorem prog_no2 {xs : List O4} {kss : List (List O4)} (h : ¬ kss.length ≤ 3) : progOk xs kss = false := by unfold progOk; rw [decide_eq_false h]; simp
theorem prog_no3 {xs : List O4} {kss : List (List O4)} (h : ¬ hasFork xs = decide (0 < kss.length)) : progOk xs kss = false := by unfold progOk; rw [beq_eq_false_iff_ne.2 h]; simp
theorem prog_all {xs : List O4} {kss : List (List O4)} (h1 : codeOk xs = true) (h2 : kss.length ≤ 3) (h3 : hasFork xs = decide (0 < kss.length)) : progOk xs kss = kss.all kidOk := by unfold progOk; rw [h1, decide_eq_true h2, h3]; simp

end Ops
end Go.Proofs.Ythmkijbokfiljaa
