/- The law, out of what both functions answer. -/
import Derived.Test.YtocfnhlfjeilnaaLogWalkCellsOf
import Derived.Test.YtocfnhlfjeilnaaLogNet
import Derived.Test.YtocfnhlfjeilnaaLogSpec
set_option linter.unusedVariables false
namespace Go.Proofs.Ytocfnhlfjeilnaa
open Go.RowKit
namespace Logs
open Bas Flat
theorem lawCellsOf (v : Value) (xs : List R2) (w : World) (hv : Sees2 w.heap.size w v xs) :
    Calls Try.prog 8 #[v] w fun e w' => e = .returned (.bool true) ∧ Below w.heap.size w w' :=
  walkCellsOf v xs w hv (cellsOf xs) (by have := netOf_length xs; rw [cellsOf_length]; omega) (fun u W h _ => specCellsOf u xs _ W h (Nat.le_refl _)) (fun u W h _ => implCellsOf u xs _ W h (Nat.le_refl _))
end Logs
end Go.Proofs.Ytocfnhlfjeilnaa
