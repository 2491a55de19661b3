/- The exact laws of chapter 11, out of what both functions answer. -/
import Derived.Test.YtppikpdphcfomaaHistWalkHistOk
import Derived.Test.YtppikpdphcfomaaHistWalkStateAt
import Derived.Test.YtppikpdphcfomaaHistWalkStamps
import Derived.Test.YtppikpdphcfomaaHistWalkLastWriter
import Derived.Test.YtppikpdphcfomaaHistState
set_option linter.unusedVariables false
namespace Go.Proofs.Ytppikpdphcfomaa
open Go.RowKit
namespace Hist
open Bas Flat Logs
theorem lawHistOk (v : Value) (ls : List Wr) (w : World) (hv : SeesW w.heap.size w v ls) :
    Calls Try.prog 4 #[v] w fun e w' => e = .returned (.bool true) ∧ Below w.heap.size w w' :=
  walkHistOk v ls w hv (histOk ls) (fun u W h _ => specHist u ls _ W h (Nat.le_refl _)) (fun u W h _ => implHist u ls _ W h (Nat.le_refl _))
theorem lawStamps (v : Value) (ls : List Wr) (w : World) (hv : SeesW w.heap.size w v ls) :
    Calls Try.prog 6 #[v] w fun e w' => e = .returned (.bool true) ∧ Below w.heap.size w w' :=
  walkStamps v ls w hv (stampsOf ls) (by have := stamps_length_le ls; omega) (fun u W h _ => specStamps u ls _ W h (Nat.le_refl _)) (fun u W h _ => implStamps u ls _ W h (Nat.le_refl _))
theorem lawState (v0 : Value) (zs : List Int) (v : Value) (ls : List Wr) (n : Int) (w : World) (h0 : Ints.Sees w.heap.size w v0 zs) (hv : SeesW w.heap.size w v ls) (_ : (Lit.int .i64 n).wf = true) :
    Calls Try.prog 5 #[v0, v, .int .i64 n] w fun e w' => e = .returned (.bool true) ∧ Below w.heap.size w w' :=
  walkStateAt v0 zs v ls n w h0 hv (stateAt zs ls n) (by have := state_length_le zs ls n; omega) (fun u0 u W h _ h' _ => specState u0 u zs ls n _ W h h' (Nat.le_refl _)) (fun u0 u W h _ h' _ => implState u0 u zs ls n _ W h h' (Nat.le_refl _))
theorem lawLastW (v : Value) (ls : List Wr) (c n : Int) (w : World) (hv : SeesW w.heap.size w v ls) (_ : (Lit.int .i64 c).wf = true) (_ : (Lit.int .i64 n).wf = true) :
    Calls Try.prog 7 #[v, .int .i64 c, .int .i64 n] w fun e w' => e = .returned (.bool true) ∧ Below w.heap.size w w' :=
  walkLastWriter v ls c n w hv (lastW ls c n) (fun u W h _ => specLastW u ls c n _ W h (Nat.le_refl _)) (fun u W h _ => implLastW u ls c n _ W h (Nat.le_refl _))
end Hist
end Go.Proofs.Ytppikpdphcfomaa
