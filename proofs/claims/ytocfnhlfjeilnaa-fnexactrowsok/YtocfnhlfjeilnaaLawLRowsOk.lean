/- The law, out of what both functions answer. -/
import Derived.Test.YtocfnhlfjeilnaaLogWalkRowsOk
import Derived.Test.YtocfnhlfjeilnaaLogImpl
set_option linter.unusedVariables false
namespace Go.Proofs.Ytocfnhlfjeilnaa
open Go.RowKit
namespace Logs
open Bas Flat
theorem lawRowsOk (v : Value) (xs : List R2) (w : World) (hv : Sees2 w.heap.size w v xs) :
    Calls Try.prog 4 #[v] w fun e w' => e = .returned (.bool true) ∧ Below w.heap.size w w' :=
  walkRowsOk v xs w hv (rowsOk xs) (fun u W h _ => (specOk u xs _ W h).mono fun _ _ ⟨he, hw⟩ => ⟨he, hw ▸ Below.refl _ _⟩) (fun u W h _ => implOk u xs _ W h (Nat.le_refl _))
end Logs
end Go.Proofs.Ytocfnhlfjeilnaa
