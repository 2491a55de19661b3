/- The law, out of what both functions answer. -/
import Derived.Test.YtkeamnokkbfcaaaShapeLaw
import Derived.Test.YtkeamnokkbfcaaaShapeSpec
import Derived.Test.YtkeamnokkbfcaaaShapeImpl
namespace Go.Proofs.Ytkeamnokkbfcaaa
open Go.RowKit
namespace Ops
open Bas Flat
theorem lawDepthAt (v : Value) (xs : List O4) (i : Int) (w : World) (hv : Sees4 w.heap.size w v xs) (_ : (Lit.int .i64 i).wf = true) :
    Calls Try.prog 3 #[v, .int .i64 i] w fun e w' => e = .returned (.bool true) ∧ Below w.heap.size w w' :=
  walkDepthAt v xs i w hv (depthAt xs i) (fun u W h hl => (depthSpec u xs i _ W h hl).mono fun _ _ ⟨he, hw⟩ => ⟨he, hw ▸ Below.refl _ _⟩) (fun u W h hl => depthImpl u xs i _ W h (Nat.le_refl _) hl)
end Ops
end Go.Proofs.Ytkeamnokkbfcaaa
