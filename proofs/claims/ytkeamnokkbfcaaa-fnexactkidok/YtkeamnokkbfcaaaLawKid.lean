/- The law, out of what both functions answer. -/
import Derived.Test.YtkeamnokkbfcaaaShapeLaw
import Derived.Test.YtkeamnokkbfcaaaShapeSpec4
import Derived.Test.YtkeamnokkbfcaaaCodeImpl
namespace Go.Proofs.Ytkeamnokkbfcaaa
open Go.RowKit
namespace Ops
open Bas Flat
theorem lawKidOk (v : Value) (xs : List O4) (w : World) (hv : Sees4 w.heap.size w v xs) :
    Calls Try.prog 6 #[v] w fun e w' => e = .returned (.bool true) ∧ Below w.heap.size w w' :=
  walkKidOk v xs w hv (kidOk xs) (fun u W h hl => kidSpec u xs _ W h (Nat.le_refl _) hl) (fun u W h hl => kidImpl u xs _ W h (Nat.le_refl _) hl)
end Ops
end Go.Proofs.Ytkeamnokkbfcaaa
