/- The law, out of what both functions answer. -/
import Derived.Test.YtocfnhlfjeilnaaLogWalkNet
import Derived.Test.YtocfnhlfjeilnaaLogNet
import Derived.Test.YtocfnhlfjeilnaaLogSpec
set_option linter.unusedVariables false
namespace Go.Proofs.Ytocfnhlfjeilnaa
open Go.RowKit
namespace Logs
open Bas Flat
theorem lawNet (v : Value) (xs : List R2) (w : World) (hv : Sees2 w.heap.size w v xs) :
    Calls Try.prog 7 #[v] w fun e w' => e = .returned (.bool true) ∧ Below w.heap.size w w' :=
  walkNet v xs w hv (netOf xs) (by have := netOf_length xs; omega) (fun u W h _ => specNet u xs _ W h (Nat.le_refl _)) (fun u W h _ => implNet u xs _ W h (Nat.le_refl _))
end Logs
end Go.Proofs.Ytocfnhlfjeilnaa
