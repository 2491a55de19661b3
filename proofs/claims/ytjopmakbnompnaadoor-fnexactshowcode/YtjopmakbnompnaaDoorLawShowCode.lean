/- The law of ShowCode, out of what both functions answer. -/
import Derived.Test.YtjopmakbnompnaaDoorSourceLaw
import Derived.Test.YtjopmakbnompnaaDoorCodeSrcSpec
import Derived.Test.YtjopmakbnompnaaDoorImplShowCode
set_option linter.unusedVariables false
namespace Go.Proofs.YtjopmakbnompnaaDoor
open Go.RowKit
namespace Ops
open Bas Flat
theorem lawShowCode (v : Value) (xs : List O4) (w : World) (hv : Sees4 w.heap.size w v xs) (hT : WTab w) (ht : Dec.Tab w) : Calls Tryd.prog 5 #[v] w fun e w' => e = .returned (.bool true) ∧ Below w.heap.size w w' :=
  walkShowCode v xs w hv (showCode xs) (fun u W h hl => showCodeC u xs _ W h (Nat.le_refl _) hl) (fun u W hb h hl => showCodeI u xs _ W h (Nat.le_refl _) hl (hT.on hb) (ht.on hb))
end Ops
end Go.Proofs.YtjopmakbnompnaaDoor
