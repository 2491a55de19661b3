/- The law of Tick. -/
import Derived.Test.YtcohdglnobmciaaWordTick
import Derived.Test.YtcohdglnobmciaaWordWalkTick
namespace Go.Proofs.Ytcohdglnobmciaa
open Go.RowKit
namespace Words
theorem lawTick (c : Int) (v : Value) (ws : List W3) (w : World) (_hc : (Lit.int .i64 c).wf = true) (hv : Sees w.heap.size w v ws) :
    Calls Try.prog 6 #[.agg #[.int .i64 c, v]] w fun e w' => e = .returned (.bool true) ∧ Below w.heap.size w w' :=
  walkTick c v ws w hv (tickC c ws) (tickR c ws) ws id (fun u W h hl => specTick c u ws _ W h (Nat.le_refl _) hl) (fun u W h hl => implTick c u ws _ W h (Nat.le_refl _) hl)
end Words
end Go.Proofs.Ytcohdglnobmciaa
