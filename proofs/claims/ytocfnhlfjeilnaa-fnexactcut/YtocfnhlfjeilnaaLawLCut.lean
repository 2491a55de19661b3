/- The law, out of what both functions answer. -/
import Derived.Test.YtocfnhlfjeilnaaLogWalkCut
import Derived.Test.YtocfnhlfjeilnaaLogImpl
import Derived.Test.YtocfnhlfjeilnaaLogSpec
set_option linter.unusedVariables false
namespace Go.Proofs.Ytocfnhlfjeilnaa
open Go.RowKit
namespace Logs
open Bas Flat
theorem cut_len (xs : List R2) (k : Int) : (cutOf xs k).length ≤ 1048576 := by
  unfold cutOf
  by_cases h : rowsOk xs = true
  · rw [if_pos h, List.length_take]; have := rowsOk_out h; omega
  · rw [if_neg h]; simp
theorem lawCut (v : Value) (xs : List R2) (k : Int) (w : World) (hv : Sees2 w.heap.size w v xs) (_ : (Lit.int .i64 k).wf = true) :
    Calls Try.prog 6 #[v, .int .i64 k] w fun e w' => e = .returned (.bool true) ∧ Below w.heap.size w w' :=
  walkCut v xs k w hv (cutOf xs k) (cut_len xs k) (fun u W h _ => specCut u xs k _ W h (Nat.le_refl _)) (fun u W h _ => implCut u xs k _ W h (Nat.le_refl _))
end Logs
end Go.Proofs.Ytocfnhlfjeilnaa
