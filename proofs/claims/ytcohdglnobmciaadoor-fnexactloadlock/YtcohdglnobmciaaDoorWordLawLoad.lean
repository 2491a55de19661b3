/- The laws of LoadLock and LoadVal. -/
import Derived.Test.YtcohdglnobmciaaDoorWordLoad
import Derived.Test.YtcohdglnobmciaaDoorWordWalkLoadLock
import Derived.Test.YtcohdglnobmciaaDoorWordWalkLoadVal
namespace Go.Proofs.YtcohdglnobmciaaDoor
open Go.RowKit
namespace Words
theorem lawLoadLock (c : Int) (v : Value) (ws : List W3) (i : Int) (w : World) (_hc : (Lit.int .i64 c).wf = true) (hv : Sees w.heap.size w v ws) (_hi : (Lit.int .i64 i).wf = true) (bE : Addr) (hE : Err w bE) :
    Calls Tryd.prog 3 #[.agg #[.int .i64 c, v], .int .i64 i] w fun e w' => e = .returned (.bool true) ∧ Below w.heap.size w w' :=
  walkLoadLock c i v ws w hv (verAt c ws i) (ownAt c ws i) (canAt c ws i) (fun u W _ h => specLoadLock c u ws i _ W h (Nat.le_refl _)) (fun u W hb h => implLoadLock c u ws i _ W bE h (Nat.le_refl _) (hE.on hb (Nat.le_refl _)))
theorem lawLoadVal (c : Int) (v : Value) (ws : List W3) (i : Int) (w : World) (_hc : (Lit.int .i64 c).wf = true) (hv : Sees w.heap.size w v ws) (_hi : (Lit.int .i64 i).wf = true) (bE : Addr) (hE : Err w bE) :
    Calls Tryd.prog 4 #[.agg #[.int .i64 c, v], .int .i64 i] w fun e w' => e = .returned (.bool true) ∧ Below w.heap.size w w' :=
  walkLoadVal c i v ws w hv (valAt c ws i) (canAt c ws i) (fun u W _ h => specLoadVal c u ws i _ W h (Nat.le_refl _)) (fun u W hb h => implLoadVal c u ws i _ W bE h (Nat.le_refl _) (hE.on hb (Nat.le_refl _)))
end Words
end Go.Proofs.YtcohdglnobmciaaDoor
