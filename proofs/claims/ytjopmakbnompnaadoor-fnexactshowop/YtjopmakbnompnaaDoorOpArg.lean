/- What the frames tell of an op that came in. -/
import Derived.Test.YtjopmakbnompnaaDoorOpL
import Derived.Deep.Slices
import Derived.Lib.SmallJoins
namespace Go.Proofs.YtjopmakbnompnaaDoor
open Go.RowKit Go.ChangeShapes Go.WideShapes Go.Deep
namespace Ops
theorem cellsOp : Tryd.prog.cellsOf 23 = 4 := by kernel_rfl

section
variable {H : Type} {enc : TypeId × Value → H} {W : World}
set_option maxRecDepth 100000 in
theorem openOp {r : Reach} {b0 : Nat} {v : Value} {d : DataW H} {p : List MemPlace} (hv : Value.okWide Tryd.prog W r b0 23 v) (h : DataW.Trod enc Tryd.prog W 0 (fun _ => true) true 23 v d p) :
    ∃ k a b c, v = opV k a b c ∧ (Lit.int .i64 k).wf = true ∧ (Lit.int .i64 a).wf = true ∧ (Lit.int .i64 b).wf = true ∧ (Lit.int .i64 c).wf = true := by
  obtain ⟨v0, v1, v2, v3, y0, y1, y2, y3, n, rfl, -, -, h0, h1, h2, h3⟩ := Joins.open_agg4 Tryd.underlying23 (by kernel_rfl) cellsOp hv h
  obtain ⟨k, e0, -, w0⟩ := DataW.trod_int Tryd.underlying3 h0
  obtain ⟨a, e1, -, w1⟩ := DataW.trod_int Tryd.underlying3 h1
  obtain ⟨b, e2, -, w2⟩ := DataW.trod_int Tryd.underlying3 h2
  obtain ⟨c, e3, -, w3⟩ := DataW.trod_int Tryd.underlying3 h3
  simp only [List.cons.injEq, and_true] at e0 e1 e2 e3
  subst e0 e1 e2 e3
  exact ⟨k, a, b, c, rfl, w0, w1, w2, w3⟩
end
end Ops
end Go.Proofs.YtjopmakbnompnaaDoor
