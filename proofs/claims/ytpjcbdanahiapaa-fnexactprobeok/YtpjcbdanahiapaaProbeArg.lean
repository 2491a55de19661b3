/- What the frames tell of a probe that came in. -/
import Derived.Test.YtpjcbdanahiapaaProbeL
import Derived.Deep.Slices
import Derived.Lib.SmallJoins
namespace Go.Proofs.Ytpjcbdanahiapaa
open Go.RowKit Go.ChangeShapes Go.WideShapes Go.Deep
namespace Probes
theorem cellsProbe : Try.prog.cellsOf 38 = 4 := by kernel_rfl

section
variable {H : Type} {enc : TypeId × Value → H} {W : World}
set_option maxRecDepth 100000 in
theorem openProbe {r : Reach} {b0 : Nat} {v : Value} {d : DataW H} {p : List MemPlace} (hv : Value.okWide Try.prog W r b0 38 v) (h : DataW.Trod enc Try.prog W 0 (fun _ => true) true 38 v d p) :
    ∃ q : P4, v = q.agg := by
  obtain ⟨v0, v1, v2, v3, y0, y1, y2, y3, n, rfl, -, -, h0, h1, h2, h3⟩ := Joins.open_agg4 Try.underlying38 (by kernel_rfl) cellsProbe hv h
  obtain ⟨k, e0, -, w0⟩ := DataW.trod_int Try.underlying3 h0
  obtain ⟨a, e1, -, w1⟩ := DataW.trod_int Try.underlying3 h1
  obtain ⟨b, e2, -, w2⟩ := DataW.trod_int Try.underlying3 h2
  obtain ⟨c, e3, -, w3⟩ := DataW.trod_int Try.underlying3 h3
  simp only [List.cons.injEq, and_true] at e0 e1 e2 e3
  subst e0 e1 e2 e3
  exact ⟨⟨k, a, b, c⟩, rfl⟩
end
end Probes
end Go.Proofs.Ytpjcbdanahiapaa
