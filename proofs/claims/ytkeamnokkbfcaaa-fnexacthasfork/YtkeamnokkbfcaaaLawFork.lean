/- The law, out of what both functions answer. -/
import Derived.Test.YtkeamnokkbfcaaaShapeLaw
import Derived.Test.YtkeamnokkbfcaaaShapeSpec
import Derived.Test.YtkeamnokkbfcaaaShapeImpl
namespace Go.Proofs.Ytkeamnokkbfcaaa
open Go.RowKit
namespace Ops
open Bas Flat
theorem lawHasFork (v : Value) (xs : List O4) (w : World) (hv : Sees4 w.heap.size w v xs) :
    Calls Try.prog 8 #[v] w fun e w' => e = .returned (.bool true) ∧ Below w.heap.size w w' :=
  walkHasFork v xs w hv (hasFork xs) (fun u W h hl => (forkSpec u xs _ W h hl).mono fun _ _ ⟨he, hw⟩ => ⟨he, hw ▸ Below.refl _ _⟩) (fun u W h hl => forkImpl u xs _ W h (Nat.le_refl _) hl)
end Ops
end Go.Proofs.Ytkeamnokkbfcaaa
