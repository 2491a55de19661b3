/- The law, out of what both functions answer. -/
import Derived.Test.YtocfnhlfjeilnaaLogWalkOverlay
import Derived.Test.YtocfnhlfjeilnaaLogOver
set_option linter.unusedVariables false
namespace Go.Proofs.Ytocfnhlfjeilnaa
open Go.RowKit
namespace Logs
open Bas Flat
theorem over_len (zs : List Int) (xs : List R2) : (overOf zs xs).length ≤ 1048576 := by
  by_cases h : (valsOk zs && rowsOk xs) = true
  · rw [over_length h]; omega
  · rw [over_no (by simpa using h)]; simp
theorem lawOverlay (v0 : Value) (zs : List Int) (v : Value) (xs : List R2) (w : World) (h0 : Ints.Sees w.heap.size w v0 zs) (hv : Sees2 w.heap.size w v xs) :
    Calls Try.prog 9 #[v0, v] w fun e w' => e = .returned (.bool true) ∧ Below w.heap.size w w' :=
  walkOverlay v0 zs v xs w h0 hv (overOf zs xs) (over_len zs xs) (fun u0 u W h _ h' _ => specOver u0 u zs xs _ W h h' (Nat.le_refl _)) (fun u0 u W h _ h' _ => implOver u0 u zs xs _ W h h' (Nat.le_refl _))
end Logs
end Go.Proofs.Ytocfnhlfjeilnaa
