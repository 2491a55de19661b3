/- The law of ShowProg, out of what both functions answer. -/
import Derived.Test.YtjopmakbnompnaaDoorSourceLaw
import Derived.Test.YtjopmakbnompnaaDoorImplProg
set_option linter.unusedVariables false
namespace Go.Proofs.YtjopmakbnompnaaDoor
open Go.RowKit
namespace Ops
open Bas Flat
theorem lawShowProg (vc vk : Value) (xs : List O4) (kss : List (List O4)) (w : World) (hv : SeesP w.heap.size w vc vk xs kss) (hT : WTab w) (ht : Dec.Tab w) : Calls Tryd.prog 7 #[.agg #[vc, vk]] w fun e w' => e = .returned (.bool true) ∧ Below w.heap.size w w' :=
  walkShowProg vc vk xs kss w hv (showProg xs kss) (fun u u' W h hf => showProgC u u' xs kss _ W h (Nat.le_refl _) hf) (fun u u' W hb h hf => showProgI u u' xs kss _ W h (Nat.le_refl _) hf (hT.on hb) (ht.on hb))
end Ops
end Go.Proofs.YtjopmakbnompnaaDoor
