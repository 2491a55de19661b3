/- Several texts of one proof, in build order: CommitL, LogOk, LogM. -/
import Derived.Test.YtppikpdphcfomaaDoorCB2
import Derived.Test.YtppikpdphcfomaaDoorCB3
/- Commits: a commit's numbers, puts and reads; rows of cells that rise; right commits; where a commit's rows lie. -/
set_option linter.unusedVariables false
set_option linter.unusedSimpArgs false
namespace Go.Proofs.YtppikpdphcfomaaDoor
open Go.RowKit
namespace Commits
open Bas Flat Logs

/-- a commit -/
structure Cm where
  who : Int
  rv : Int
  ph : Int
  at' : Int
  wv : Int
  ps : List R2
  rs : List Int
abbrev Cm.agg (c : Cm) (vP vR : Value) : Value := .agg #[.int .i64 c.who, .int .i64 c.rv, .int .i64 c.ph, .int .i64 c.at', .int .i64 c.wv, vP, vR]
def Cm.zero : Cm := ⟨0, 0, 0, 0, 0, [], []⟩
structure SeeC (B : Nat) (W : World) (vP vR : Value) (ps : List R2) (rs : List Int) : Prop where
  p : Sees2 B W vP ps
  r : Ints.Sees B W vR rs
structure OwnC (B : Nat) (W : World) (vP vR : Value) (ps : List R2) (rs : List Int) : Prop where
  p : Owns2 B W vP ps
  r : Ints.Owns B W vR rs
section
variable {B B' : Nat} {w w' : World} {vP vR : Value} {ps : List R2} {rs : List Int}
theorem SeeC.on (h : SeeC B w vP vR ps rs) (hb : Below B' w w') (hB : B ≤ B') : SeeC B w' vP vR ps rs := ⟨h.p.on hb hB, h.r.on hb hB⟩
theorem SeeC.up (h : SeeC B w vP vR ps rs) (hB : B ≤ B') : SeeC B' w vP vR ps rs := ⟨h.p.up hB, h.r.up hB⟩
theorem SeeC.drew (h : SeeC B w vP vR ps rs) : SeeC B w.drew vP vR ps rs := ⟨h.p, h.r⟩
theorem OwnC.sees (h : OwnC B w vP vR ps rs) : SeeC w.heap.size w vP vR ps rs := ⟨h.p.sees, h.r.sees⟩
theorem OwnC.on (h : OwnC B w vP vR ps rs) (hb : Below B' w w') (hB : w.heap.size ≤ B') : OwnC B w' vP vR ps rs := ⟨h.p.on hb hB, h.r.on hb hB⟩
theorem OwnC.mono (h : OwnC B w vP vR ps rs) (hB : B' ≤ B) : OwnC B' w vP vR ps rs := ⟨h.p.mono hB, h.r.mono hB⟩
/-- a row of rows of a log and a row of numbers lie apart -/
theorem apartRI {e t B B' s s' n n' : Nat} {W : World} {v v' : Value} {xs ys : List Value} (h : W.ownsRow B e s v n xs) (h' : W.ownsRow B' t s' v' n' ys) (hne : e ≠ t) : ∀ k, v.ownBlock = some k → some k ≠ v'.ownBlock := by
  intro k hk e'
  obtain ⟨h1, h2⟩ := h
  obtain ⟨h1', h2'⟩ := h'
  rcases h2 with ⟨rfl, h0⟩ | ⟨g, cap, cur, rfl, hg, hh, r⟩
  · cases hk
  rcases h2' with ⟨rfl, h0⟩ | ⟨g', cap', cur', rfl, hg', hh', r'⟩
  · cases e'
  cases hk
  cases e'
  rw [hh] at hh'
  simp only [Option.some.injEq, Obj.cells.injEq] at hh'
  exact hne hh'.2.1
end

/-- is place j of a row of cells right: a cell, above the one ahead of it? -/
def good (zs : List Int) (j : Nat) : Bool := Ops.inn 0 7 (zs.getD j 0) && (j == 0 || decide (zs.getD (j - 1) 0 < zs.getD j 0))
/-- cells that rise -/
def rises (zs : List Int) : Bool := (List.range zs.length).all (good zs)
theorem rises_mk {zs : List Int} (h : ∀ j, j < zs.length → good zs j = true) : rises zs = true :=
  List.all_eq_true.2 fun j hj => h j (List.mem_range.1 hj)
theorem rises_one {zs : List Int} {j : Nat} (hj : j < zs.length) (h : good zs j = false) : rises zs = false :=
  List.all_eq_false.2 ⟨j, List.mem_range.2 hj, by rw [h]; exact Bool.false_ne_true⟩
theorem rises_at {zs : List Int} (h : rises zs = true) {j : Nat} (hj : j < zs.length) : good zs j = true := List.all_eq_true.1 h j (List.mem_range.2 hj)
theorem good_cell {zs : List Int} {j : Nat} (hj : j < zs.length) (h : Ops.inn 0 7 zs[j] = false) : good zs j = false := by
  unfold good
  rw [show zs.getD j 0 = zs[j] by simp [List.getD, hj], h]; rfl
theorem good_zero {zs : List Int} (hj : 0 < zs.length) (h : Ops.inn 0 7 zs[0] = true) : good zs 0 = true := by
  unfold good
  rw [show zs.getD 0 0 = zs[0] by simp [List.getD, hj], h]; rfl
theorem good_le {zs : List Int} {j : Nat} (hj : j + 1 < zs.length) (h : zs[j + 1] ≤ zs[j]) : good zs (j + 1) = false := by
  unfold good
  rw [show zs.getD (j + 1) 0 = zs[j + 1] by simp [List.getD, hj], show zs.getD (j + 1 - 1) 0 = zs[j] by simp [List.getD, show j < zs.length by omega]]
  simp
  intro _
  omega
theorem good_lt {zs : List Int} {j : Nat} (hj : j + 1 < zs.length) (h0 : Ops.inn 0 7 zs[j + 1] = true) (h : zs[j] < zs[j + 1]) : good zs (j + 1) = true := by
  unfold good
  rw [show zs.getD (j + 1) 0 = zs[j + 1] by simp [List.getD, hj], show zs.getD (j + 1 - 1) 0 = zs[j] by simp [List.getD, show j < zs.length by omega], h0]
  simp [h]
theorem good_out {zs : List Int} {j : Nat} (hj : j < zs.length) (h : good zs j = true) : Ops.inn 0 7 zs[j] = true := by
  cases h' : Ops.inn 0 7 zs[j]
  · rw [good_cell hj h'] at h; cases h
  · rfl
theorem rises_cell {zs : List Int} (h : rises zs = true) {z : Int} (hz : z ∈ zs) : 0 ≤ z ∧ z ≤ 7 := by
  obtain ⟨j, hj, rfl⟩ := List.mem_iff_getElem.1 hz
  have := good_out hj (rises_at h hj)
  unfold Ops.inn at this
  simp at this
  omega
theorem rises_lt {zs : List Int} (h : rises zs = true) {j : Nat} (hj : j + 1 < zs.length) : zs[j] < zs[j + 1] := by
  have hg := rises_at h hj
  by_cases hl : zs[j] < zs[j + 1]
  · exact hl
  · rw [good_le hj (by omega)] at hg; cases hg
/-- so many steps has a phase -/
def Cm.steps (c : Cm) : Int := if c.ph = 1 ∨ c.ph = 4 ∨ c.ph = 5 ∨ c.ph = 7 then c.ps.length else if c.ph = 3 then c.rs.length else if c.ph = 2 ∨ c.ph = 6 ∨ c.ph = 8 then 1 else 0
def cellsP (ps : List R2) : List Int := ps.map R2.c
def numsOk (c : Cm) : Bool := (Ops.inn 1 99 c.who && Ops.inn 0 1000000 c.rv) && Ops.inn 0 1000000 c.wv
/-- is it right? -/
def commitOk (c : Cm) : Bool := numsOk c && (rowsOk c.ps && (rises (cellsP c.ps) && (rises c.rs && decide (0 ≤ c.at' ∧ c.at' < c.steps))))
theorem commit_out {c : Cm} (h : commitOk c = true) : (1 ≤ c.who ∧ c.who ≤ 99) ∧ (0 ≤ c.rv ∧ c.rv ≤ 1000000) ∧ (0 ≤ c.wv ∧ c.wv ≤ 1000000) ∧ rowsOk c.ps = true ∧ rises (cellsP c.ps) = true ∧ rises c.rs = true ∧ 0 ≤ c.at' ∧ c.at' < c.steps := by
  unfold commitOk numsOk Ops.inn at h
  simp only [Bool.and_eq_true, decide_eq_true_eq] at h
  obtain ⟨⟨⟨h1, h2⟩, h3⟩, h4, h5, h6, h7⟩ := h
  exact ⟨h1, h2, h3, h4, h5, h6, h7⟩
theorem commit_no1 {c : Cm} (h : numsOk c = false) : commitOk c = false := by unfold commitOk; rw [h]; rfl
theorem commit_no2 {c : Cm} (h : rowsOk c.ps = false) : commitOk c = false := by unfold commitOk; rw [h]; simp
theorem commit_no3 {c : Cm} (h : rises (cellsP c.ps) = false) : commitOk c = false := by unfold commitOk; rw [h]; simp
theorem commit_no4 {c : Cm} (h : rises c.rs = false) : commitOk c = false := by unfold commitOk; rw [h]; simp
theorem commit_last {c : Cm} (h1 : numsOk c = true) (h2 : rowsOk c.ps = true) (h3 : rises (cellsP c.ps) = true) (h4 : rises c.rs = true) : commitOk c = decide (0 ≤ c.at' ∧ c.at' < c.steps) := by unfold commitOk; rw [h1, h2, h3, h4]; rfl
theorem ret_commit {c : Cm} {b : Bool} (h : commitOk c = b) : Ending.returned (.bool b) = .returned (.bool (commitOk c)) := by rw [h]

/-- so many steps more it needs at most -/
def leftOf (c : Cm) : Int := if commitOk c = true then
    (if c.ph = 1 then (c.ps.length : Int) - c.at' + 1 + c.rs.length + 2 * c.ps.length
     else if c.ph = 2 then 1 + (c.rs.length : Int) + 2 * c.ps.length
     else if c.ph = 3 then (c.rs.length : Int) - c.at' + 2 * c.ps.length
     else if c.ph = 4 then 2 * (c.ps.length : Int) - c.at'
     else if c.ph = 5 then (c.ps.length : Int) - c.at'
     else if c.ph = 7 then c.at' + 1 else 0) else 0
/-- back over n locks -/
def Cm.back (c : Cm) (n : Int) : Cm := { c with ph := if n = 0 then 8 else 7, at' := if n = 0 then 0 else n - 1 }
/-- on to a phase -/
def Cm.goOn (c : Cm) (p : Int) : Cm :=
  let p1 := if p = 3 ∧ c.rs.length = 0 then 4 else p
  { c with at' := 0, ph := if p1 = 4 ∧ c.ps.length = 0 then 6 else p1 }
/-- broken off -/
def breakOf (c : Cm) : Cm := if commitOk c = true then (if c.ph = 1 then c.back c.at' else if c.ph = 2 ∨ c.ph = 3 then c.back c.ps.length else c) else c
def broke (c : Cm) : Bool := commitOk c && decide (c.ph ≤ 3)
theorem phase_in {c : Cm} (h : commitOk c = true) : 1 ≤ c.ph ∧ c.ph ≤ 8 := by
  obtain ⟨-, -, -, -, -, -, h0, h1⟩ := commit_out h
  unfold Cm.steps at h1
  split at h1
  · omega
  · split at h1
    · omega
    · split at h1 <;> omega
end Commits
end Go.Proofs.YtppikpdphcfomaaDoor
/- Right rows: what RowsOk answers, the program's and the specification's. -/
set_option linter.unusedVariables false
namespace Go.Proofs.YtppikpdphcfomaaDoor
open Go.RowKit
namespace Logs
open Flat

set_option maxRecDepth 100000 in
theorem isCellC (x : Int) (w : World) : Calls Tryd.prog 77 #[.int .i64 x] w fun e w' => e = .returned (.bool (Ops.inn 0 7 x)) ∧ w = w' := by
  unfold Ops.inn
  have e7 : decide (x ≤ 7) = decide (x < 8) := by rw [decide_eq_decide]; omega
  rw [e7]
  by_cases h1 : 0 ≤ x
  · have h1' : decide (0 ≤ x) = true := decide_eq_true h1
    go_enter Tryd.func77, Tryd.ntmps77
    go_wp2
    go_ret
    exact ⟨by simp [h1], rfl⟩
  · have h1' : decide (0 ≤ x) = false := decide_eq_false h1
    go_enter Tryd.func77, Tryd.ntmps77
    go_wp2
    go_ret
    exact ⟨by simp, rfl⟩

set_option maxRecDepth 100000 in
theorem isValC (x : Int) (w : World) : Calls Tryd.prog 78 #[.int .i64 x] w fun e w' => e = .returned (.bool (Ops.inn 0 65535 x)) ∧ w = w' := by
  unfold Ops.inn
  by_cases h1 : 0 ≤ x
  · have h1' : decide (0 ≤ x) = true := decide_eq_true h1
    go_enter Tryd.func78, Tryd.ntmps78
    go_wp2
    go_ret
    exact ⟨by simp [h1], rfl⟩
  · have h1' : decide (0 ≤ x) = false := decide_eq_false h1
    go_enter Tryd.func78, Tryd.ntmps78
    go_wp2
    go_ret
    exact ⟨by simp, rfl⟩

set_option maxRecDepth 100000 in
set_option maxHeartbeats 1600000 in
theorem specOk (v : Value) (xs : List R2) (B : Nat) (w : World) (hv : Sees2 B w v xs) :
    Calls Tryd.prog 54 #[v] w fun e w' => e = .returned (.bool (rowsOk xs)) ∧ w = w' := by
  obtain ⟨a, cap, rfl, h1, h2, h3⟩ := hv
  have hm : (xs.length : Int) ≤ 9223372036854775807 := by unfold maxLen at h2; omega
  by_cases h8 : xs.length ≤ 300
  · obtain ⟨n, hn⟩ : ∃ n, xs.length = n := ⟨_, rfl⟩
    have HL : Hid (xs.length ≤ 300) := h8
    rw [hn] at h8 hm ⊢
    have h8' : (n : Int) ≤ 300 := by omega
    clear h1 h2
    go_enter Tryd.func54, Tryd.ntmps54
    go_wp2
    go_loop [3] (fun i => ∃ k : Nat, k ≤ n ∧ i = .int .i64 k ∧ (∀ j (h : j < xs.length), j < k → okR xs[j] = true)) (fun i => n - (intOf i).toNat)
    case atStart => exact ⟨0, by omega, rfl, fun j _ h => by omega⟩
    case round =>
      obtain ⟨k, hk, rfl, hall⟩ := hrel
      by_cases hlt : k < n
      · obtain ⟨b, off, rfl, hbB, hc⟩ := h3 (fun h => by simp [h] at hn; omega)
        obtain ⟨a0, a1⟩ := at2 (hc k (by omega))
        obtain ⟨z, hz⟩ : ∃ z, xs[k] = z := ⟨_, rfl⟩
        rw [hz] at a0 a1
        change w.cell? ⟨b, off + k * 2, none⟩ = _ at a0
        change w.cell? ⟨b, off + k * 2 + 1, none⟩ = _ at a1
        have HZ : Hid (xs[k] = z) := hz
        have HA : Hid (∀ j (h : j < xs.length), j < k → okR xs[j] = true) := hall
        have cC := Ops.cellC z.c w
        have cV := Ops.valC z.v w
        obtain ⟨p, hp⟩ : ∃ p, Ops.inn 0 7 z.c = p := ⟨_, rfl⟩
        obtain ⟨q, hq⟩ : ∃ q, Ops.inn 0 65535 z.v = q := ⟨_, rfl⟩
        rw [hp] at cC
        rw [hq] at cV
        have HP : Hid (Ops.inn 0 7 z.c = p) := hp
        have HQ : Hid (Ops.inn 0 65535 z.v = q) := hq
        clear hz hc h3 hall hp hq
        cases p
        · have HF : Hid (rowsOk xs = false) := rowsOk_one (j := k) (by omega) (by rw [HZ.out]; exact okR_cell HP.out)
          go_wp2_with (go_at_call 57; refine cC.mono ?_; rintro e w1 ⟨rfl, rfl⟩)
          go_ret
          exact ⟨ret_rows HF.out, rfl⟩
        cases q
        · have HF : Hid (rowsOk xs = false) := rowsOk_one (j := k) (by omega) (by rw [HZ.out]; exact okR_val HQ.out)
          go_wp2_with (first | (go_at_call 57; refine cC.mono ?_; rintro e w1 ⟨rfl, rfl⟩) | (go_at_call 53; refine cV.mono ?_; rintro e w1 ⟨rfl, rfl⟩))
          go_ret
          exact ⟨ret_rows HF.out, rfl⟩
        go_wp2_with (first | (go_at_call 57; refine cC.mono ?_; rintro e w1 ⟨rfl, rfl⟩) | (go_at_call 53; refine cV.mono ?_; rintro e w1 ⟨rfl, rfl⟩))
        go_round
        case rel => exact ⟨k + 1, by omega, by go_num, fun j hj hjk => by
          rcases Nat.lt_succ_iff_lt_or_eq.1 hjk with h | h
          · exact HA.out j hj h
          · subst h; rw [HZ.out]; simp [okR, HP.out, HQ.out]⟩
        case measure => simp [intOf]; omega
      · obtain rfl : k = n := by omega
        have HT : Hid (rowsOk xs = true) := rowsOk_mk HL.out fun j hj => hall j hj (by omega)
        clear hall h3
        go_wp2
        go_ret
        exact ⟨ret_rows HT.out, rfl⟩
  · have HF : Hid (rowsOk xs = false) := rowsOk_len h8
    obtain ⟨n, hn⟩ : ∃ n, xs.length = n := ⟨_, rfl⟩
    rw [hn] at hm h8 ⊢
    have h8' : (300 : Int) < n := by omega
    clear h3 hn h1 h2 h8
    go_enter Tryd.func54, Tryd.ntmps54
    go_wp2
    go_ret
    exact ⟨ret_rows HF.out, rfl⟩
end Logs
end Go.Proofs.YtppikpdphcfomaaDoor
/- Logs: what holds of last rows, net rows, and of what a log does to cells. -/
set_option linter.unusedVariables false
set_option linter.unusedSimpArgs false
namespace Go.Proofs.YtppikpdphcfomaaDoor
open Go.RowKit
namespace Logs

theorem lastV_nil (c : Int) : lastV [] c = none := rfl
theorem lastV_snoc (xs : List R2) (x : R2) (c : Int) : lastV (xs ++ [x]) c = if x.c = c then some x.v else lastV xs c := by
  unfold lastV
  rw [List.reverse_append]
  show (List.find? _ (x :: xs.reverse)).map R2.v = _
  rw [List.find?_cons]
  by_cases h : x.c = c
  · simp [h]
  · have : (x.c == c) = false := by simpa using h
    rw [this, if_neg h]
theorem lastV_take (xs : List R2) (c : Int) (k : Nat) (h : k < xs.length) : lastV (xs.take (k + 1)) c = if xs[k].c = c then some xs[k].v else lastV (xs.take k) c := by
  rw [List.take_succ_eq_append_getElem h, lastV_snoc]
theorem lastV_mem {xs : List R2} {c v : Int} (h : lastV xs c = some v) : ∃ x ∈ xs, x.c = c ∧ x.v = v := by
  unfold lastV at h
  obtain ⟨x, hx, rfl⟩ := Option.map_eq_some_iff.1 h
  refine ⟨x, ?_, ?_, rfl⟩
  · have := List.mem_of_find?_eq_some hx; simpa using this
  · have := List.find?_some hx; simpa using this
theorem lastV_none {xs : List R2} {c : Int} : lastV xs c = none ↔ ∀ x ∈ xs, x.c ≠ c := by
  unfold lastV
  rw [Option.map_eq_none_iff, List.find?_eq_none]
  simp
theorem lastOf_ok {xs : List R2} (h : rowsOk xs = true) (c : Int) : lastOf xs c = lastV xs c := by unfold lastOf; rw [if_pos h]
theorem lastOf_no {xs : List R2} (h : rowsOk xs = false) (c : Int) : lastOf xs c = none := by unfold lastOf; rw [h]; rfl
theorem netOf_no {xs : List R2} (h : rowsOk xs = false) : netOf xs = [] := by
  unfold netOf
  rw [List.filterMap_eq_nil_iff]
  intro i _
  rw [lastOf_no h]; rfl

/-- the net rows of the cells below k -/
def netTo (xs : List R2) (k : Nat) : List R2 := (List.range k).filterMap fun (i : Nat) => (lastOf xs (i : Int)).map fun v => ⟨(i : Int), v⟩
theorem netTo_zero (xs : List R2) : netTo xs 0 = [] := rfl
theorem netTo_eight (xs : List R2) : netTo xs 8 = netOf xs := rfl
theorem netTo_some {xs : List R2} {k : Nat} {v : Int} (h : lastOf xs (k : Int) = some v) : netTo xs (k + 1) = netTo xs k ++ [⟨(k : Int), v⟩] := by
  unfold netTo; rw [List.range_succ, List.filterMap_append]; simp [h]
theorem netTo_none {xs : List R2} {k : Nat} (h : lastOf xs (k : Int) = none) : netTo xs (k + 1) = netTo xs k := by
  unfold netTo; rw [List.range_succ, List.filterMap_append]; simp [h]
theorem netTo_length (xs : List R2) (k : Nat) : (netTo xs k).length ≤ k := by
  unfold netTo
  have := List.length_filterMap_le (fun (i : Nat) => (lastOf xs (i : Int)).map fun v => (⟨(i : Int), v⟩ : R2)) (List.range k)
  simpa using this
theorem netOf_length (xs : List R2) : (netOf xs).length ≤ 8 := netTo_length xs 8
theorem cellsOf_length (xs : List R2) : (cellsOf xs).length = (netOf xs).length := by simp [cellsOf]

theorem mem_netTo {xs : List R2} {k : Nat} {x : R2} : x ∈ netTo xs k ↔ (0 ≤ x.c ∧ x.c < (k : Int)) ∧ lastOf xs x.c = some x.v := by
  unfold netTo
  rw [List.mem_filterMap]
  constructor
  · rintro ⟨i, hi, h⟩
    obtain ⟨v, hv, rfl⟩ := Option.map_eq_some_iff.1 h
    have := List.mem_range.1 hi
    exact ⟨⟨by show (0 : Int) ≤ (i : Int); omega, by show (i : Int) < (k : Int); omega⟩, hv⟩
  · rintro ⟨⟨h0, h1⟩, h2⟩
    obtain ⟨i, hi⟩ := Int.eq_ofNat_of_zero_le h0
    refine ⟨i, List.mem_range.2 (by omega), ?_⟩
    obtain ⟨c, v⟩ := x
    simp only at hi h2
    subst hi
    rw [h2]; rfl
theorem netTo_rising (xs : List R2) : ∀ k, (netTo xs k).Pairwise (fun x y => x.c < y.c)
  | 0 => List.Pairwise.nil
  | k + 1 => by
    cases h : lastOf xs (k : Int) with
    | none => rw [netTo_none h]; exact netTo_rising xs k
    | some v =>
      rw [netTo_some h, List.pairwise_append]
      refine ⟨netTo_rising xs k, List.pairwise_singleton _ _, fun x hx y hy => ?_⟩
      obtain rfl := List.mem_singleton.1 hy
      exact (mem_netTo.1 hx).1.2

theorem R2.ext' {x y : R2} (h1 : x.c = y.c) (h2 : x.v = y.v) : x = y := by cases x; cases y; simp_all
/-- rising rows that are each the last one of its cell, and all of them: the net rows -/
theorem net_unique {xs ns : List R2} (hok : rowsOk xs = true) (hr : ns.Pairwise (fun x y => x.c < y.c)) (h1 : ∀ x ∈ ns, lastV xs x.c = some x.v) (h2 : ∀ c, (lastV xs c).isSome = true → ∃ x ∈ ns, x.c = c) : ns = netOf xs := by
  have hs := netTo_rising xs 8
  refine List.Perm.eq_of_pairwise (le := fun x y : R2 => x.c < y.c) (fun a b _ _ h h' => by omega) hr hs ?_
  refine (List.perm_ext_iff_of_nodup (hr.imp fun h e => ?_) (hs.imp fun h e => ?_)).2 fun x => ?_
  · rw [e] at h; omega
  · rw [e] at h; omega
  · rw [mem_netTo, lastOf_ok hok]
    constructor
    · intro hx
      have hl := h1 x hx
      obtain ⟨y, hy, e1, e2⟩ := lastV_mem hl
      have := rowsOk_at hok hy
      exact ⟨by omega, hl⟩
    · rintro ⟨-, hl⟩
      obtain ⟨y, hy, e⟩ := h2 x.c (by rw [hl]; rfl)
      have hl' := h1 y hy
      rw [e, hl] at hl'
      have : y = x := R2.ext' e (by simpa using hl'.symm)
      rw [← this]; exact hy

/-! ### what the law tells of them -/
theorem lastV_cons (x : R2) (r : List R2) (c : Int) : lastV (x :: r) c = (lastV r c).or (if x.c = c then some x.v else none) := by
  unfold lastV
  rw [List.reverse_cons, List.find?_append]
  cases List.find? (fun x => x.c == c) r.reverse with
  | some y => rfl
  | none =>
    by_cases h : x.c = c
    · simp [h]
    · simp [h]
theorem putAll_at (xs : List R2) : ∀ (zs : List Int) (h : ∀ x ∈ xs, 0 ≤ x.c) (i : Nat) (hi : i < zs.length), (putAll zs xs)[i]? = some ((lastV xs (i : Int)).getD zs[i]) := by
  induction xs with
  | nil => intro zs h i hi; simp [putAll, lastV_nil, hi]
  | cons x r ih =>
    intro zs h i hi
    have ih := ih (zs.set x.c.toNat x.v) (fun y hy => h y (List.mem_cons_of_mem _ hy)) i (by simpa using hi)
    have hx := h x (by simp)
    show (putAll (zs.set x.c.toNat x.v) r)[i]? = _
    rw [ih, lastV_cons]
    cases lastV r (i : Int) with
    | some y => rfl
    | none =>
      by_cases he : x.c = (i : Int)
      · have : x.c.toNat = i := by omega
        simp [he, this]
      · have : ¬ x.c.toNat = i := by omega
        simp [he, this]

theorem rowsOk_of {xs : List R2} (h : xs.length ≤ 300) (ha : ∀ x ∈ xs, 0 ≤ x.c ∧ x.c ≤ 7 ∧ 0 ≤ x.v ∧ x.v ≤ 65535) : rowsOk xs = true := by
  refine rowsOk_mk h fun j hj => ?_
  obtain ⟨h0, h1, h2, h3⟩ := ha _ (List.getElem_mem hj)
  exact okR_yes h0 h1 h2 h3
theorem mem_net {xs : List R2} (hok : rowsOk xs = true) {x : R2} (h : x ∈ netOf xs) : x ∈ xs := by
  have h' := (mem_netTo.1 (show x ∈ netTo xs 8 from h)).2
  rw [lastOf_ok hok] at h'
  obtain ⟨y, hy, e1, e2⟩ := lastV_mem h'
  have : y = x := R2.ext' e1 e2
  rw [← this]; exact hy
theorem net_ok {xs : List R2} (hok : rowsOk xs = true) : rowsOk (netOf xs) = true :=
  rowsOk_of (by have := netOf_length xs; omega) fun x hx => rowsOk_at hok (mem_net hok hx)
theorem last_net {xs : List R2} (hok : rowsOk xs = true) (c : Int) : lastV (netOf xs) c = lastV xs c := by
  cases h : lastV (netOf xs) c with
  | some v =>
    obtain ⟨x, hx, rfl, rfl⟩ := lastV_mem h
    have := (mem_netTo.1 (show x ∈ netTo xs 8 from hx)).2
    rw [lastOf_ok hok] at this
    exact this.symm
  | none =>
    cases h' : lastV xs c with
    | none => rfl
    | some v =>
      obtain ⟨x, hx, e1, e2⟩ := lastV_mem h'
      obtain ⟨b0, b1, -, -⟩ := rowsOk_at hok hx
      have hm : (⟨c, v⟩ : R2) ∈ netTo xs 8 := mem_netTo.2 ⟨⟨by show 0 ≤ c; omega, by show c < ((8 : Nat) : Int); omega⟩, by rw [lastOf_ok hok]; exact h'⟩
      exact absurd rfl (lastV_none.1 h _ hm)
theorem net_net {xs : List R2} (hok : rowsOk xs = true) : netOf (netOf xs) = netOf xs :=
  (net_unique (net_ok hok) (netTo_rising xs 8) (fun x hx => by
      rw [last_net hok]
      have := (mem_netTo.1 (show x ∈ netTo xs 8 from hx)).2
      rw [lastOf_ok hok] at this; exact this) (fun c hc => by
      obtain ⟨v, hv⟩ := Option.isSome_iff_exists.1 hc
      obtain ⟨x, hx, e, -⟩ := lastV_mem hv
      exact ⟨x, hx, e⟩)).symm
theorem put_net {xs : List R2} (hok : rowsOk xs = true) (zs : List Int) : putAll zs (netOf xs) = putAll zs xs := by
  apply List.ext_getElem?
  intro i
  by_cases hi : i < zs.length
  · rw [putAll_at _ _ (fun x hx => (rowsOk_at hok (mem_net hok hx)).1) i hi, putAll_at _ _ (fun x hx => (rowsOk_at hok hx).1) i hi, last_net hok]
  · rw [List.getElem?_eq_none (by rw [putAll_length]; omega), List.getElem?_eq_none (by rw [putAll_length]; omega)]
theorem put_cut (zs : List Int) (xs : List R2) (k : Nat) : putAll (putAll zs (xs.take k)) (xs.drop k) = putAll zs xs := by
  unfold putAll
  rw [← List.foldl_append, List.take_append_drop]
theorem drop_ok {xs : List R2} (hok : rowsOk xs = true) (k : Nat) : rowsOk (xs.drop k) = true :=
  rowsOk_of (by have := rowsOk_out hok; simp; omega) fun x hx => rowsOk_at hok (List.mem_of_mem_drop hx)
theorem take_ok {xs : List R2} (hok : rowsOk xs = true) (k : Nat) : rowsOk (xs.take k) = true :=
  rowsOk_of (by have := rowsOk_out hok; simp; omega) fun x hx => rowsOk_at hok (List.mem_of_mem_take hx)
/-- right values stay right -/
def valsOk (zs : List Int) : Bool := decide (zs.length = 8) && zs.all (fun z => Ops.inn 0 65535 z)
theorem put_vals {zs : List Int} {xs : List R2} (hz : valsOk zs = true) (hok : rowsOk xs = true) : valsOk (putAll zs xs) = true := by
  unfold valsOk at hz ⊢
  rw [Bool.and_eq_true] at hz ⊢
  refine ⟨by rw [putAll_length]; exact hz.1, List.all_eq_true.2 fun z hm => ?_⟩
  obtain ⟨i, hi, rfl⟩ := List.mem_iff_getElem.1 hm
  rw [putAll_length] at hi
  have h := putAll_at xs zs (fun x hx => (rowsOk_at hok hx).1) i hi
  rw [List.getElem?_eq_getElem (by rw [putAll_length]; exact hi)] at h
  obtain h := Option.some.inj h
  rw [h]
  cases hl : lastV xs (i : Int) with
  | none => exact List.all_eq_true.1 hz.2 _ (List.getElem_mem hi)
  | some v =>
    obtain ⟨x, hx, -, rfl⟩ := lastV_mem hl
    obtain ⟨-, -, b0, b1⟩ := rowsOk_at hok hx
    show Ops.inn 0 65535 x.v = true
    simp [Ops.inn, b0, b1]
theorem mem_cells {xs : List R2} (hok : rowsOk xs = true) (c : Int) : c ∈ cellsOf xs ↔ (lastV xs c).isSome = true := by
  unfold cellsOf
  rw [List.mem_map]
  constructor
  · rintro ⟨x, hx, rfl⟩
    have := (mem_netTo.1 (show x ∈ netTo xs 8 from hx)).2
    rw [lastOf_ok hok] at this
    rw [this]; rfl
  · intro h
    obtain ⟨v, hv⟩ := Option.isSome_iff_exists.1 h
    obtain ⟨x, hx, e1, e2⟩ := lastV_mem hv
    obtain ⟨b0, b1, -, -⟩ := rowsOk_at hok hx
    exact ⟨⟨c, v⟩, mem_netTo.2 ⟨⟨by show 0 ≤ c; omega, by show c < ((8 : Nat) : Int); omega⟩, by rw [lastOf_ok hok]; exact hv⟩, rfl⟩
end Logs
end Go.Proofs.YtppikpdphcfomaaDoor
