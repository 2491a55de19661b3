/- Whole programs: the laws' own copies, comparisons and sizes. -/
import Derived.Test.YthmkijbokfiljaaProgRow
set_option linter.unusedVariables false
namespace Go.Proofs.Ythmkijbokfiljaa
open Go.RowKit
namespace Ops
open Bas Flat

/-- a program: its code, its kids' codes -/
structure SeesP (B : Nat) (w : World) (vc vk : Value) (xs : List O4) (kss : List (List O4)) : Prop where
  c : Sees4 B w vc xs
  k : SeesK B w vk kss
section
variable {B B' : Nat} {w w' : World} {vc vk : Value} {xs : List O4} {kss : List (List O4)}
theorem SeesP.on (h : SeesP B w vc vk xs kss) (hb : Below B' w w') (hB : B ≤ B') : SeesP B w' vc vk xs kss := ⟨h.c.on hb hB, h.k.on hb hB⟩
theorem SeesP.up (h : SeesP B w vc vk xs kss) (hB : B ≤ B') : SeesP B' w vc vk xs kss := ⟨h.c.up hB, h.k.up hB⟩
end
/-- .. in blocks of which S holds -/
structure SeesPIn (S : Nat → Prop) (w : World) (vc vk : Value) (xs : List O4) (kss : List (List O4)) : Prop where
  c : SeesIn opEl S w vc xs
  k : SeesKIn S w vk kss
theorem SeesPIn.sees {S : Nat → Prop} {B : Nat} {w : World} {vc vk : Value} {xs : List O4} {kss : List (List O4)} (h : SeesPIn S w vc vk xs kss) (hs : ∀ b, S b → b < B) : SeesP B w vc vk xs kss := ⟨h.c.mono hs, h.k.mono hs⟩
/-- lengths that a law lets by -/
def Fits (xs : List O4) (kss : List (List O4)) : Prop := xs.length ≤ 1048576 ∧ kss.length ≤ 1048576 ∧ ∀ ks ∈ kss, ks.length ≤ 1048576

/-- what a size says: too great, or all lengths are within what was left -/
def Left (left r : Int) (P : Prop) : Prop := r < 0 ∨ (0 ≤ r ∧ r ≤ left ∧ P)
end Ops
end Go.Proofs.Ythmkijbokfiljaa
