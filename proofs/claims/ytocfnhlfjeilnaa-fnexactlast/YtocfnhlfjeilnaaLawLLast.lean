/- The law, out of what both functions answer. -/
import Derived.Test.YtocfnhlfjeilnaaLogWalkLast
import Derived.Test.YtocfnhlfjeilnaaLogLast
import Derived.Test.YtocfnhlfjeilnaaLogSpec
set_option linter.unusedVariables false
namespace Go.Proofs.Ytocfnhlfjeilnaa
open Go.RowKit
namespace Logs
open Bas Flat
theorem lawLast (v : Value) (xs : List R2) (c : Int) (w : World) (hv : Sees2 w.heap.size w v xs) (_ : (Lit.int .i64 c).wf = true) :
    Calls Try.prog 5 #[v, .int .i64 c] w fun e w' => e = .returned (.bool true) ∧ Below w.heap.size w w' :=
  walkLast v xs c w hv ((lastOf xs c).getD 0) (lastOf xs c).isSome (fun u W h _ => (specLast u xs c _ W h).mono fun _ _ ⟨he, hw⟩ => ⟨he, hw ▸ Below.refl _ _⟩) (fun u W h _ => implLast u xs c W h)
end Logs
end Go.Proofs.Ytocfnhlfjeilnaa
