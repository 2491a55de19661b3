/- The law of ShowOp, out of what both functions answer. -/
import Derived.Test.YtjopmakbnompnaaDoorSourceLaw
import Derived.Test.YtjopmakbnompnaaDoorSourceSpec
import Derived.Test.YtjopmakbnompnaaDoorImplShow
set_option linter.unusedVariables false
namespace Go.Proofs.YtjopmakbnompnaaDoor
open Go.RowKit
namespace Ops
open Bas Flat
theorem lawShowOp (k a b c : Int) (w : World) (hT : WTab w) (ht : Dec.Tab w) : Calls Tryd.prog 3 #[opV k a b c] w fun e w' => e = .returned (.bool true) ∧ Below w.heap.size w w' :=
  walkShowOp k a b c w (showOp ⟨k, a, b, c⟩) (fun W => showOpC ⟨k, a, b, c⟩ W) (fun W hb => showOpI ⟨k, a, b, c⟩ W (hT.on hb) (ht.on hb))
end Ops
end Go.Proofs.YtjopmakbnompnaaDoor
