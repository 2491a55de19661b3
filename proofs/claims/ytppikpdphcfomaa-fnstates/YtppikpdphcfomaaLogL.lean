/- Logs: right rows, the last row of a cell, the net rows, what a log does to cells. -/
import Derived.Test.YtppikpdphcfomaaLogRow
import Derived.Test.YtppikpdphcfomaaOpL
set_option linter.unusedVariables false
namespace Go.Proofs.Ytppikpdphcfomaa
open Go.RowKit
namespace Logs

/-- one row is right -/
def okR (x : R2) : Bool := Ops.inn 0 7 x.c && Ops.inn 0 65535 x.v
def rowsOk (xs : List R2) : Bool := decide (xs.length ≤ 300) && xs.all okR
theorem rowsOk_mk {xs : List R2} (h : xs.length ≤ 300) (ha : ∀ j (h : j < xs.length), okR xs[j] = true) : rowsOk xs = true := by
  unfold rowsOk
  rw [Bool.and_eq_true]
  refine ⟨decide_eq_true h, List.all_eq_true.2 fun x hx => ?_⟩
  obtain ⟨j, hj, rfl⟩ := List.mem_iff_getElem.1 hx
  exact ha j hj
theorem rowsOk_len {xs : List R2} (h : ¬ xs.length ≤ 300) : rowsOk xs = false := by unfold rowsOk; rw [decide_eq_false h]; rfl
theorem rowsOk_one {xs : List R2} {j : Nat} (hj : j < xs.length) (h : okR xs[j] = false) : rowsOk xs = false := by
  unfold rowsOk
  rw [Bool.and_eq_false_iff]
  exact .inr (List.all_eq_false.2 ⟨xs[j], List.getElem_mem hj, by simp [h]⟩)
theorem rowsOk_out {xs : List R2} (h : rowsOk xs = true) : xs.length ≤ 300 := by
  unfold rowsOk at h
  rw [Bool.and_eq_true] at h
  exact of_decide_eq_true h.1
theorem rowsOk_at {xs : List R2} (h : rowsOk xs = true) {x : R2} (hx : x ∈ xs) : 0 ≤ x.c ∧ x.c ≤ 7 ∧ 0 ≤ x.v ∧ x.v ≤ 65535 := by
  unfold rowsOk at h
  rw [Bool.and_eq_true] at h
  have := List.all_eq_true.1 h.2 x hx
  simp [okR, Ops.inn] at this
  omega
theorem ret_rows {xs : List R2} {b : Bool} (h : rowsOk xs = b) : Ending.returned (.bool b) = .returned (.bool (rowsOk xs)) := by rw [h]
theorem okR_yes {x : R2} (h0 : 0 ≤ x.c) (h1 : x.c ≤ 7) (h2 : 0 ≤ x.v) (h3 : x.v ≤ 65535) : okR x = true := by
  simp [okR, Ops.inn, h0, h1, h2, h3]
theorem okR_cell {x : R2} (h : Ops.inn 0 7 x.c = false) : okR x = false := by simp [okR, h]
theorem okR_val {x : R2} (h : Ops.inn 0 65535 x.v = false) : okR x = false := by simp [okR, h]

/-- the value of the last row of a cell -/
def lastV (xs : List R2) (c : Int) : Option Int := (xs.reverse.find? (fun x => x.c == c)).map R2.v
def lastOf (xs : List R2) (c : Int) : Option Int := if rowsOk xs = true then lastV xs c else none
/-- the first n rows -/
def cutOf (xs : List R2) (n : Int) : List R2 := if rowsOk xs = true then xs.take n.toNat else []
/-- of each cell its last row, rising by cell -/
def netOf (xs : List R2) : List R2 := (List.range 8).filterMap fun (i : Nat) => (lastOf xs (i : Int)).map fun v => ⟨(i : Int), v⟩
def cellsOf (xs : List R2) : List Int := (netOf xs).map R2.c
/-- each row put into its cell -/
def putAll (zs : List Int) (xs : List R2) : List Int := xs.foldl (fun z x => z.set x.c.toNat x.v) zs
theorem putAll_length (xs : List R2) : ∀ zs : List Int, (putAll zs xs).length = zs.length := by
  induction xs with
  | nil => intro zs; rfl
  | cons x r ih => intro zs; show (putAll (zs.set x.c.toNat x.v) r).length = _; rw [ih]; simp
theorem putAll_snoc (zs : List Int) (xs : List R2) (x : R2) : putAll zs (xs ++ [x]) = (putAll zs xs).set x.c.toNat x.v := by simp [putAll]
theorem putAll_take (zs : List Int) (xs : List R2) (k : Nat) (h : k < xs.length) : (putAll zs (xs.take k)).set xs[k].c.toNat xs[k].v = putAll zs (xs.take (k + 1)) := by
  rw [List.take_succ_eq_append_getElem h, putAll_snoc]
end Logs
end Go.Proofs.Ytppikpdphcfomaa
