/- Rows of ops in memory: the laws' own copies, comparisons and sizes. -/
import Derived.Test.YtppikpdphcfomaaFlat
import Derived.Test.YtppikpdphcfomaaOpL
set_option linter.unusedVariables false
namespace Go.Proofs.Ytppikpdphcfomaa
open Go.RowKit
namespace Ops
open Bas Flat

/-- an op's four numbers -/
structure O4 where
  k : Int
  a : Int
  b : Int
  c : Int
def O4.val (x : O4) : Value := opV x.k x.a x.b x.c
def opEl : El O4 where
  sz := 4
  cells x := [.int .i64 x.k, .int .i64 x.a, .int .i64 x.b, .int .i64 x.c]
  len _ := rfl
  one x v hv := by simp at hv; rcases hv with rfl | rfl | rfl | rfl <;> rfl
  pos := by decide
def z4 : O4 := ⟨0, 0, 0, 0⟩
theorem rowOp : Row Try.prog opEl 62 127 (.agg #[.int .i64 0, .int .i64 0, .int .i64 0, .int .i64 0]) z4 32 :=
  ⟨Try.underlying62, by kernel_rfl, rfl, by decide⟩
abbrev Sees4 (B : Nat) (w : World) (v : Value) (xs : List O4) : Prop := Sees opEl B w v xs
abbrev Owns4 (B : Nat) (w : World) (v : Value) (xs : List O4) : Prop := Owns opEl 127 B w v xs
theorem at4 {w : World} {b o : Nat} {x : O4} (h : At opEl w b o x) : w.cell? ⟨b, o, none⟩ = some (.int .i64 x.k) ∧ w.cell? ⟨b, o + 1, none⟩ = some (.int .i64 x.a) ∧ w.cell? ⟨b, o + 2, none⟩ = some (.int .i64 x.b) ∧ w.cell? ⟨b, o + 3, none⟩ = some (.int .i64 x.c) :=
  ⟨h 0 _ rfl, h 1 _ rfl, h 2 _ rfl, h 3 _ rfl⟩
/-- the world behind an op's store -/
def set4 (w : World) (g j : Nat) (x : O4) : World := (((w.setCell ⟨g, j * 4, none⟩ (.int .i64 x.k)).setCell ⟨g, j * 4 + 1, none⟩ (.int .i64 x.a)).setCell ⟨g, j * 4 + 2, none⟩ (.int .i64 x.b)).setCell ⟨g, j * 4 + 3, none⟩ (.int .i64 x.c)
theorem below_set4 {B g : Nat} {a w : World} (h : Below B a w) (hg : B ≤ g) (j : Nat) (x : O4) : Below B a (set4 w g j x) := (((h.setCell hg _).setCell hg _).setCell hg _).setCell hg _
theorem own_set4 {B g n cap : Nat} {w : World} {xs : List O4} (h : w.ownsRow B 127 4 (.slice (some ⟨g, 0, none⟩) n cap) n (fv opEl xs)) (j : Nat) (hj : j < xs.length) (x : O4) :
    (set4 w g j x).ownsRow B 127 4 (.slice (some ⟨g, 0, none⟩) n cap) n (fv opEl (xs.set j x)) := by
  obtain ⟨y, hy⟩ : ∃ y, xs[j] = y := ⟨_, rfl⟩
  have h0 := own_set (E := opEl) h j hj 0 (by decide) (.int .i64 x.k) ⟨x.k, y.a, y.b, y.c⟩ (by rw [hy]; rfl)
  have h1 := own_set (E := opEl) h0 j (by simp; exact hj) 1 (by decide) (.int .i64 x.a) ⟨x.k, x.a, y.b, y.c⟩ (by simp; rfl)
  have h2 := own_set (E := opEl) h1 j (by simp; exact hj) 2 (by decide) (.int .i64 x.b) ⟨x.k, x.a, x.b, y.c⟩ (by simp; rfl)
  have h3 := own_set (E := opEl) h2 j (by simp; exact hj) 3 (by decide) (.int .i64 x.c) x (by simp; rfl)
  simp only [List.set_set] at h3
  exact h3

end Ops
end Go.Proofs.Ytppikpdphcfomaa
