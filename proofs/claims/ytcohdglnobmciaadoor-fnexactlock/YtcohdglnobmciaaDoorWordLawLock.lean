/- The laws of Lock and Store. -/
import Derived.Test.YtcohdglnobmciaaDoorWordSpecLock
import Derived.Test.YtcohdglnobmciaaDoorWordWalkLock
import Derived.Test.YtcohdglnobmciaaDoorWordWalkStore
namespace Go.Proofs.YtcohdglnobmciaaDoor
open Go.RowKit
namespace Words
theorem lockTo_length (c : Int) (ws : List W3) (i who : Int) : (lockTo c ws i who).length = ws.length := by unfold lockTo; split <;> simp [put_length]
theorem storeTo_length (c : Int) (ws : List W3) (i who y : Int) : (storeTo c ws i who y).length = ws.length := by unfold storeTo; split <;> simp [put_length]
theorem lawLock (c : Int) (v : Value) (ws : List W3) (i who : Int) (w : World) (_hc : (Lit.int .i64 c).wf = true) (hv : Sees w.heap.size w v ws) (_hi : (Lit.int .i64 i).wf = true) (_hw : (Lit.int .i64 who).wf = true) (bE : Addr) (hE : Err w bE) :
    Calls Tryd.prog 5 #[.agg #[.int .i64 c, v], .int .i64 i, .int .i64 who] w fun e w' => e = .returned (.bool true) ∧ Below w.heap.size w w' :=
  walkLock c i who v ws w hv c (lockMay c ws i who) (lockTo c ws i who) (fun h => by rw [lockTo_length]; exact h) (fun u W h hl => specLock c u ws i who _ W h (Nat.le_refl _) hl) (fun u W hb h hl => implLock c u ws i who _ W bE h (Nat.le_refl _) (hE.on hb (Nat.le_refl _)) hl)
theorem lawStore (c : Int) (v : Value) (ws : List W3) (i who y : Int) (w : World) (_hc : (Lit.int .i64 c).wf = true) (hv : Sees w.heap.size w v ws) (_hi : (Lit.int .i64 i).wf = true) (_hw : (Lit.int .i64 who).wf = true) (_hy : (Lit.int .i64 y).wf = true) (bE : Addr) (hE : Err w bE) :
    Calls Tryd.prog 6 #[.agg #[.int .i64 c, v], .int .i64 i, .int .i64 who, .int .i64 y] w fun e w' => e = .returned (.bool true) ∧ Below w.heap.size w w' :=
  walkStore c i who y v ws w hv c (storeMay c ws i who y) (storeTo c ws i who y) (fun h => by rw [storeTo_length]; exact h) (fun u W h hl => specStore c u ws i who y _ W h (Nat.le_refl _) hl) (fun u W hb h hl => implStore c u ws i who y _ W bE h (Nat.le_refl _) (hE.on hb (Nat.le_refl _)) hl)
end Words
end Go.Proofs.YtcohdglnobmciaaDoor
