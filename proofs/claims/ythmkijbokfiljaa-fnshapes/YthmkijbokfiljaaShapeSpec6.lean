/- What the specification's SameProg answers. -/
import Derived.Test.YthmkijbokfiljaaShapeSpec5
set_option linter.unusedVariables false
set_option linter.unusedSimpArgs false
namespace Go.Proofs.Ythmkijbokfiljaa
open Go.RowKit
namespace Ops
open Bas Flat

theorem sp_no1 {xs ys : List O4} {kss lss : List (List O4)} (h : sameGo xs ys = false) : sameProg xs kss ys lss = false := by unfold sameProg; rw [h]; rfl
theorem sp_no2 {xs ys : List O4} {kss lss : List (List O4)} (h : ¬ kss.length = lss.length) : sameProg xs kss ys lss = false := by unfold sameProg; rw [decide_eq_false h]; simp
theorem sp_no3 {xs ys : List O4} {kss lss : List (List O4)} {k : Nat} (h1 : k < kss.length) (h2 : k < lss.length) (h : sameGo kss[k] lss[k] = false) : sameProg xs kss ys lss = false := by
  unfold sameProg
  have : ((kss.zip lss).all fun p => sameGo p.1 p.2) = false := List.all_eq_false.2 ⟨(kss[k], lss[k]), by
    have : (kss.zip lss)[k]'(by simp; omega) = (kss[k], lss[k]) := by simp
    rw [← this]; exact List.getElem_mem _, by simp [h]⟩
  rw [this, Bool.and_false]
theorem sp_yes {xs ys : List O4} {kss lss : List (List O4)} (h0 : sameGo xs ys = true) (h1 : kss.length = lss.length) (h : ∀ j (a : j < kss.length) (b : j < lss.length), sameGo kss[j] lss[j] = true) : sameProg xs kss ys lss = true := by
  unfold sameProg
  have : ((kss.zip lss).all fun p => sameGo p.1 p.2) = true := List.all_eq_true.2 fun p hp => by
    obtain ⟨j, hj, rfl⟩ := List.mem_iff_getElem.1 hp
    simp at hj
    simpa using h j (by omega) (by omega)
  rw [h0, this, decide_eq_true h1]; rfl

end Ops
end Go.Proofs.Ythmkijbokfiljaa
