/- The law, out of what both functions answer. -/
import Derived.Test.YtkeamnokkbfcaaaShapeLaw
import Derived.Test.YtkeamnokkbfcaaaShapeSpec2
import Derived.Test.YtkeamnokkbfcaaaEndImpl
namespace Go.Proofs.Ytkeamnokkbfcaaa
open Go.RowKit
namespace Ops
open Bas Flat
theorem lawEndOf (v : Value) (xs : List O4) (i : Int) (w : World) (hv : Sees4 w.heap.size w v xs) (_ : (Lit.int .i64 i).wf = true) :
    Calls Try.prog 4 #[v, .int .i64 i] w fun e w' => e = .returned (.bool true) ∧ Below w.heap.size w w' :=
  walkEndOf v xs i w hv (endOf xs i) (fun u W h hl => (endSpec u xs i _ W h hl).mono fun _ _ ⟨he, hw⟩ => ⟨he, hw ▸ Below.refl _ _⟩) (fun u W h hl => endImpl u xs i _ W h (Nat.le_refl _) hl)
end Ops
end Go.Proofs.Ytkeamnokkbfcaaa
