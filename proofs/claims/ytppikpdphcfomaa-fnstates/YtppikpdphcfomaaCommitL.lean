/- Commits: a commit's numbers, puts and reads; rows of cells that rise; right commits; where a commit's rows lie. -/
import Derived.Test.YtppikpdphcfomaaLogL
import Derived.Test.YtppikpdphcfomaaIntMark
set_option linter.unusedVariables false
set_option linter.unusedSimpArgs false
namespace Go.Proofs.Ytppikpdphcfomaa
open Go.RowKit
namespace Commits
open Bas Flat Logs

/-- a commit -/
structure Cm where
  who : Int
  rv : Int
  ph : Int
  at' : Int
  wv : Int
  ps : List R2
  rs : List Int
abbrev Cm.agg (c : Cm) (vP vR : Value) : Value := .agg #[.int .i64 c.who, .int .i64 c.rv, .int .i64 c.ph, .int .i64 c.at', .int .i64 c.wv, vP, vR]
def Cm.zero : Cm := ⟨0, 0, 0, 0, 0, [], []⟩
structure SeeC (B : Nat) (W : World) (vP vR : Value) (ps : List R2) (rs : List Int) : Prop where
  p : Sees2 B W vP ps
  r : Ints.Sees B W vR rs
structure OwnC (B : Nat) (W : World) (vP vR : Value) (ps : List R2) (rs : List Int) : Prop where
  p : Owns2 B W vP ps
  r : Ints.Owns B W vR rs
section
variable {B B' : Nat} {w w' : World} {vP vR : Value} {ps : List R2} {rs : List Int}
theorem SeeC.on (h : SeeC B w vP vR ps rs) (hb : Below B' w w') (hB : B ≤ B') : SeeC B w' vP vR ps rs := ⟨h.p.on hb hB, h.r.on hb hB⟩
theorem SeeC.up (h : SeeC B w vP vR ps rs) (hB : B ≤ B') : SeeC B' w vP vR ps rs := ⟨h.p.up hB, h.r.up hB⟩
theorem SeeC.drew (h : SeeC B w vP vR ps rs) : SeeC B w.drew vP vR ps rs := ⟨h.p, h.r⟩
theorem OwnC.sees (h : OwnC B w vP vR ps rs) : SeeC w.heap.size w vP vR ps rs := ⟨h.p.sees, h.r.sees⟩
theorem OwnC.on (h : OwnC B w vP vR ps rs) (hb : Below B' w w') (hB : w.heap.size ≤ B') : OwnC B w' vP vR ps rs := ⟨h.p.on hb hB, h.r.on hb hB⟩
theorem OwnC.mono (h : OwnC B w vP vR ps rs) (hB : B' ≤ B) : OwnC B' w vP vR ps rs := ⟨h.p.mono hB, h.r.mono hB⟩
/-- a row of rows of a log and a row of numbers lie apart -/
theorem apartRI {e t B B' s s' n n' : Nat} {W : World} {v v' : Value} {xs ys : List Value} (h : W.ownsRow B e s v n xs) (h' : W.ownsRow B' t s' v' n' ys) (hne : e ≠ t) : ∀ k, v.ownBlock = some k → some k ≠ v'.ownBlock := by
  intro k hk e'
  obtain ⟨h1, h2⟩ := h
  obtain ⟨h1', h2'⟩ := h'
  rcases h2 with ⟨rfl, h0⟩ | ⟨g, cap, cur, rfl, hg, hh, r⟩
  · cases hk
  rcases h2' with ⟨rfl, h0⟩ | ⟨g', cap', cur', rfl, hg', hh', r'⟩
  · cases e'
  cases hk
  cases e'
  rw [hh] at hh'
  simp only [Option.some.injEq, Obj.cells.injEq] at hh'
  exact hne hh'.2.1
end

/-- is place j of a row of cells right: a cell, above the one ahead of it? -/
def good (zs : List Int) (j : Nat) : Bool := Ops.inn 0 7 (zs.getD j 0) && (j == 0 || decide (zs.getD (j - 1) 0 < zs.getD j 0))
/-- cells that rise -/
def rises (zs : List Int) : Bool := (List.range zs.length).all (good zs)
theorem rises_mk {zs : List Int} (h : ∀ j, j < zs.length → good zs j = true) : rises zs = true :=
  List.all_eq_true.2 fun j hj => h j (List.mem_range.1 hj)
theorem rises_one {zs : List Int} {j : Nat} (hj : j < zs.length) (h : good zs j = false) : rises zs = false :=
  List.all_eq_false.2 ⟨j, List.mem_range.2 hj, by rw [h]; exact Bool.false_ne_true⟩
theorem rises_at {zs : List Int} (h : rises zs = true) {j : Nat} (hj : j < zs.length) : good zs j = true := List.all_eq_true.1 h j (List.mem_range.2 hj)
theorem good_cell {zs : List Int} {j : Nat} (hj : j < zs.length) (h : Ops.inn 0 7 zs[j] = false) : good zs j = false := by
  unfold good
  rw [show zs.getD j 0 = zs[j] by simp [List.getD, hj], h]; rfl
theorem good_zero {zs : List Int} (hj : 0 < zs.length) (h : Ops.inn 0 7 zs[0] = true) : good zs 0 = true := by
  unfold good
  rw [show zs.getD 0 0 = zs[0] by simp [List.getD, hj], h]; rfl
theorem good_le {zs : List Int} {j : Nat} (hj : j + 1 < zs.length) (h : zs[j + 1] ≤ zs[j]) : good zs (j + 1) = false := by
  unfold good
  rw [show zs.getD (j + 1) 0 = zs[j + 1] by simp [List.getD, hj], show zs.getD (j + 1 - 1) 0 = zs[j] by simp [List.getD, show j < zs.length by omega]]
  simp
  intro _
  omega
theorem good_lt {zs : List Int} {j : Nat} (hj : j + 1 < zs.length) (h0 : Ops.inn 0 7 zs[j + 1] = true) (h : zs[j] < zs[j + 1]) : good zs (j + 1) = true := by
  unfold good
  rw [show zs.getD (j + 1) 0 = zs[j + 1] by simp [List.getD, hj], show zs.getD (j + 1 - 1) 0 = zs[j] by simp [List.getD, show j < zs.length by omega], h0]
  simp [h]
theorem good_out {zs : List Int} {j : Nat} (hj : j < zs.length) (h : good zs j = true) : Ops.inn 0 7 zs[j] = true := by
  cases h' : Ops.inn 0 7 zs[j]
  · rw [good_cell hj h'] at h; cases h
  · rfl
theorem rises_cell {zs : List Int} (h : rises zs = true) {z : Int} (hz : z ∈ zs) : 0 ≤ z ∧ z ≤ 7 := by
  obtain ⟨j, hj, rfl⟩ := List.mem_iff_getElem.1 hz
  have := good_out hj (rises_at h hj)
  unfold Ops.inn at this
  simp at this
  omega
theorem rises_lt {zs : List Int} (h : rises zs = true) {j : Nat} (hj : j + 1 < zs.length) : zs[j] < zs[j + 1] := by
  have hg := rises_at h hj
  by_cases hl : zs[j] < zs[j + 1]
  · exact hl
  · rw [good_le hj (by omega)] at hg; cases hg
/-- so many steps has a phase -/
def Cm.steps (c : Cm) : Int := if c.ph = 1 ∨ c.ph = 4 ∨ c.ph = 5 ∨ c.ph = 7 then c.ps.length else if c.ph = 3 then c.rs.length else if c.ph = 2 ∨ c.ph = 6 ∨ c.ph = 8 then 1 else 0
def cellsP (ps : List R2) : List Int := ps.map R2.c
def numsOk (c : Cm) : Bool := (Ops.inn 1 99 c.who && Ops.inn 0 1000000 c.rv) && Ops.inn 0 1000000 c.wv
/-- is it right? -/
def commitOk (c : Cm) : Bool := numsOk c && (rowsOk c.ps && (rises (cellsP c.ps) && (rises c.rs && decide (0 ≤ c.at' ∧ c.at' < c.steps))))
theorem commit_out {c : Cm} (h : commitOk c = true) : (1 ≤ c.who ∧ c.who ≤ 99) ∧ (0 ≤ c.rv ∧ c.rv ≤ 1000000) ∧ (0 ≤ c.wv ∧ c.wv ≤ 1000000) ∧ rowsOk c.ps = true ∧ rises (cellsP c.ps) = true ∧ rises c.rs = true ∧ 0 ≤ c.at' ∧ c.at' < c.steps := by
  unfold commitOk numsOk Ops.inn at h
  simp only [Bool.and_eq_true, decide_eq_true_eq] at h
  obtain ⟨⟨⟨h1, h2⟩, h3⟩, h4, h5, h6, h7⟩ := h
  exact ⟨h1, h2, h3, h4, h5, h6, h7⟩
theorem commit_no1 {c : Cm} (h : numsOk c = false) : commitOk c = false := by unfold commitOk; rw [h]; rfl
theorem commit_no2 {c : Cm} (h : rowsOk c.ps = false) : commitOk c = false := by unfold commitOk; rw [h]; simp
theorem commit_no3 {c : Cm} (h : rises (cellsP c.ps) = false) : commitOk c = false := by unfold commitOk; rw [h]; simp
theorem commit_no4 {c : Cm} (h : rises c.rs = false) : commitOk c = false := by unfold commitOk; rw [h]; simp
theorem commit_last {c : Cm} (h1 : numsOk c = true) (h2 : rowsOk c.ps = true) (h3 : rises (cellsP c.ps) = true) (h4 : rises c.rs = true) : commitOk c = decide (0 ≤ c.at' ∧ c.at' < c.steps) := by unfold commitOk; rw [h1, h2, h3, h4]; rfl
theorem ret_commit {c : Cm} {b : Bool} (h : commitOk c = b) : Ending.returned (.bool b) = .returned (.bool (commitOk c)) := by rw [h]

/-- so many steps more it needs at most -/
def leftOf (c : Cm) : Int := if commitOk c = true then
    (if c.ph = 1 then (c.ps.length : Int) - c.at' + 1 + c.rs.length + 2 * c.ps.length
     else if c.ph = 2 then 1 + (c.rs.length : Int) + 2 * c.ps.length
     else if c.ph = 3 then (c.rs.length : Int) - c.at' + 2 * c.ps.length
     else if c.ph = 4 then 2 * (c.ps.length : Int) - c.at'
     else if c.ph = 5 then (c.ps.length : Int) - c.at'
     else if c.ph = 7 then c.at' + 1 else 0) else 0
/-- back over n locks -/
def Cm.back (c : Cm) (n : Int) : Cm := { c with ph := if n = 0 then 8 else 7, at' := if n = 0 then 0 else n - 1 }
/-- on to a phase -/
def Cm.goOn (c : Cm) (p : Int) : Cm :=
  let p1 := if p = 3 ∧ c.rs.length = 0 then 4 else p
  { c with at' := 0, ph := if p1 = 4 ∧ c.ps.length = 0 then 6 else p1 }
/-- broken off -/
def breakOf (c : Cm) : Cm := if commitOk c = true then (if c.ph = 1 then c.back c.at' else if c.ph = 2 ∨ c.ph = 3 then c.back c.ps.length else c) else c
def broke (c : Cm) : Bool := commitOk c && decide (c.ph ≤ 3)
theorem phase_in {c : Cm} (h : commitOk c = true) : 1 ≤ c.ph ∧ c.ph ≤ 8 := by
  obtain ⟨-, -, -, -, -, -, h0, h1⟩ := commit_out h
  unfold Cm.steps at h1
  split at h1
  · omega
  · split at h1
    · omega
    · split at h1 <;> omega
end Commits
end Go.Proofs.Ytppikpdphcfomaa
