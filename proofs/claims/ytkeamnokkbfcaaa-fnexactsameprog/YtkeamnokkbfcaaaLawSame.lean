/- The law, out of what both functions answer. -/
import Derived.Test.YtkeamnokkbfcaaaProgLaw
import Derived.Test.YtkeamnokkbfcaaaShapeSpec6
import Derived.Test.YtkeamnokkbfcaaaSameImpl
namespace Go.Proofs.Ytkeamnokkbfcaaa
open Go.RowKit
namespace Ops
open Bas Flat
theorem lawSameProg (vc vk : Value) (xs : List O4) (kss : List (List O4)) (uc uk : Value) (ys : List O4) (lss : List (List O4)) (w : World) (hv : SeesP w.heap.size w vc vk xs kss) (hu : SeesP w.heap.size w uc uk ys lss) :
    Calls Try.prog 9 #[.agg #[vc, vk], .agg #[uc, uk]] w fun e w' => e = .returned (.bool true) ∧ Below w.heap.size w w' :=
  walkSameProg vc vk uc uk xs kss ys lss w hv hu (sameProg xs kss ys lss) (fun a a' b b' W h h' _ _ => sameProgSpec a a' b b' xs ys kss lss _ W h h' (Nat.le_refl _)) (fun a a' b b' W h h' _ _ => sameProgImpl a a' b b' xs ys kss lss _ W h h' (Nat.le_refl _))
end Ops
end Go.Proofs.Ytkeamnokkbfcaaa
