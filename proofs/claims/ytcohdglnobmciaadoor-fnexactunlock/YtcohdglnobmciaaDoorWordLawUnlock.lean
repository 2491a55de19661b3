/- The law of Unlock. -/
import Derived.Test.YtcohdglnobmciaaDoorWordSpecUnlock
import Derived.Test.YtcohdglnobmciaaDoorWordWalkUnlock
namespace Go.Proofs.YtcohdglnobmciaaDoor
open Go.RowKit
namespace Words
theorem unlockTo_length (c : Int) (ws : List W3) (i who y : Int) : (unlockTo c ws i who y).length = ws.length := by unfold unlockTo; split <;> simp [put_length]
theorem lawUnlock (c : Int) (v : Value) (ws : List W3) (i who y : Int) (w : World) (_hc : (Lit.int .i64 c).wf = true) (hv : Sees w.heap.size w v ws) (_hi : (Lit.int .i64 i).wf = true) (_hw : (Lit.int .i64 who).wf = true) (_hy : (Lit.int .i64 y).wf = true) (bE : Addr) (hE : Err w bE) :
    Calls Tryd.prog 7 #[.agg #[.int .i64 c, v], .int .i64 i, .int .i64 who, .int .i64 y] w fun e w' => e = .returned (.bool true) ∧ Below w.heap.size w w' :=
  walkUnlock c i who y v ws w hv c (unlockMay c ws i who y) (unlockTo c ws i who y) (fun h => by rw [unlockTo_length]; exact h) (fun u W h hl => specUnlock c u ws i who y _ W h (Nat.le_refl _) hl) (fun u W hb h hl => implUnlock c u ws i who y _ W bE h (Nat.le_refl _) (hE.on hb (Nat.le_refl _)) hl)
end Words
end Go.Proofs.YtcohdglnobmciaaDoor
