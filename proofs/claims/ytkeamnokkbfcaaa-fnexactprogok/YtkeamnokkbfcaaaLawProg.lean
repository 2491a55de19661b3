/- The law, out of what both functions answer. -/
import Derived.Test.YtkeamnokkbfcaaaProgLaw
import Derived.Test.YtkeamnokkbfcaaaShapeSpec4
import Derived.Test.YtkeamnokkbfcaaaProgImpl
namespace Go.Proofs.Ytkeamnokkbfcaaa
open Go.RowKit
namespace Ops
open Bas Flat
theorem lawProgOk (vc vk : Value) (xs : List O4) (kss : List (List O4)) (w : World) (hv : SeesP w.heap.size w vc vk xs kss) :
    Calls Try.prog 7 #[.agg #[vc, vk]] w fun e w' => e = .returned (.bool true) ∧ Below w.heap.size w w' :=
  walkProgOk vc vk xs kss w hv (progOk xs kss) (fun u u' W h hf => progSpec u u' xs kss _ W h (Nat.le_refl _) hf) (fun u u' W h hf => progImpl u u' xs kss _ W h (Nat.le_refl _) hf)
end Ops
end Go.Proofs.Ytkeamnokkbfcaaa
