/- spec.DrawTick and DrawLock. -/
import Derived.Test.YtpjcbdanahiapaaWordDrawAny
namespace Go.Proofs.Ytpjcbdanahiapaa
open Go.RowKit
namespace Words
open Draw (Ctx belowC onceC pickC newC)
open Num (below belowSt below_range st0)

theorem grown_toBelow {w w1 w2 : World} {g : Nat} (h : w.grownBy w1 none) (k : w1.grownBy w2 (some g)) (hg : w.heap.size ≤ g) : Below w.heap.size w w2 :=
  ⟨k.os.trans h.os, k.tape.trans h.tape, k.output.trans h.output, Nat.le_trans h.size k.size, fun i hi => (k.block i (Nat.lt_of_lt_of_le hi h.size) (by intro e; injection e with e; omega)).trans (h.block i hi (by simp))⟩

theorem eight_cells (w : World) (j : Nat) (hj : j < 8) : (w.alloc (.cells #[.int .i64 1, .int .i64 2, .int .i64 3, .int .i64 4, .int .i64 5, .int .i64 99, .int .i64 100, .int .i64 0] 3)).cell? ⟨w.heap.size, j, none⟩ = some (.int .i64 (([1, 2, 3, 4, 5, 99, 100, 0] : List Int).getD j 0)) := by
  rw [cell_of_row _ _ _ _ _ _ (heap_alloc_new w _)]
  match j, hj with
  | 0, _ => rfl
  | 1, _ => rfl
  | 2, _ => rfl
  | 3, _ => rfl
  | 4, _ => rfl
  | 5, _ => rfl
  | 6, _ => rfl
  | 7, _ => rfl

end Words
end Go.Proofs.Ytpjcbdanahiapaa
