/- Logs: what holds of last rows, net rows, and of what a log does to cells. -/
import Derived.Test.YtppikpdphcfomaaLogL
set_option linter.unusedVariables false
set_option linter.unusedSimpArgs false
namespace Go.Proofs.Ytppikpdphcfomaa
open Go.RowKit
namespace Logs

theorem lastV_nil (c : Int) : lastV [] c = none := rfl
theorem lastV_snoc (xs : List R2) (x : R2) (c : Int) : lastV (xs ++ [x]) c = if x.c = c then some x.v else lastV xs c := by
  unfold lastV
  rw [List.reverse_append]
  show (List.find? _ (x :: xs.reverse)).map R2.v = _
  rw [List.find?_cons]
  by_cases h : x.c = c
  · simp [h]
  · have : (x.c == c) = false := by simpa using h
    rw [this, if_neg h]
theorem lastV_take (xs : List R2) (c : Int) (k : Nat) (h : k < xs.length) : lastV (xs.take (k + 1)) c = if xs[k].c = c then some xs[k].v else lastV (xs.take k) c := by
  rw [List.take_succ_eq_append_getElem h, lastV_snoc]
theorem lastV_mem {xs : List R2} {c v : Int} (h : lastV xs c = some v) : ∃ x ∈ xs, x.c = c ∧ x.v = v := by
  unfold lastV at h
  obtain ⟨x, hx, rfl⟩ := Option.map_eq_some_iff.1 h
  refine ⟨x, ?_, ?_, rfl⟩
  · have := List.mem_of_find?_eq_some hx; simpa using this
  · have := List.find?_some hx; simpa using this
theorem lastV_none {xs : List R2} {c : Int} : lastV xs c = none ↔ ∀ x ∈ xs, x.c ≠ c := by
  unfold lastV
  rw [Option.map_eq_none_iff, List.find?_eq_none]
  simp
theorem lastOf_ok {xs : List R2} (h : rowsOk xs = true) (c : Int) : lastOf xs c = lastV xs c := by unfold lastOf; rw [if_pos h]
theorem lastOf_no {xs : List R2} (h : rowsOk xs = false) (c : Int) : lastOf xs c = none := by unfold lastOf; rw [h]; rfl
theorem netOf_no {xs : List R2} (h : rowsOk xs = false) : netOf xs = [] := by
  unfold netOf
  rw [List.filterMap_eq_nil_iff]
  intro i _
  rw [lastOf_no h]; rfl

/-- the net rows of the cells below k -/
def netTo (xs : List R2) (k : Nat) : List R2 := (List.range k).filterMap fun (i : Nat) => (lastOf xs (i : Int)).map fun v => ⟨(i : Int), v⟩
theorem netTo_zero (xs : List R2) : netTo xs 0 = [] := rfl
theorem netTo_eight (xs : List R2) : netTo xs 8 = netOf xs := rfl
theorem netTo_some {xs : List R2} {k : Nat} {v : Int} (h : lastOf xs (k : Int) = some v) : netTo xs (k + 1) = netTo xs k ++ [⟨(k : Int), v⟩] := by
  unfold netTo; rw [List.range_succ, List.filterMap_append]; simp [h]
theorem netTo_none {xs : List R2} {k : Nat} (h : lastOf xs (k : Int) = none) : netTo xs (k + 1) = netTo xs k := by
  unfold netTo; rw [List.range_succ, List.filterMap_append]; simp [h]
theorem netTo_length (xs : List R2) (k : Nat) : (netTo xs k).length ≤ k := by
  unfold netTo
  have := List.length_filterMap_le (fun (i : Nat) => (lastOf xs (i : Int)).map fun v => (⟨(i : Int), v⟩ : R2)) (List.range k)
  simpa using this
theorem netOf_length (xs : List R2) : (netOf xs).length ≤ 8 := netTo_length xs 8
theorem cellsOf_length (xs : List R2) : (cellsOf xs).length = (netOf xs).length := by simp [cellsOf]

theorem mem_netTo {xs : List R2} {k : Nat} {x : R2} : x ∈ netTo xs k ↔ (0 ≤ x.c ∧ x.c < (k : Int)) ∧ lastOf xs x.c = some x.v := by
  unfold netTo
  rw [List.mem_filterMap]
  constructor
  · rintro ⟨i, hi, h⟩
    obtain ⟨v, hv, rfl⟩ := Option.map_eq_some_iff.1 h
    have := List.mem_range.1 hi
    exact ⟨⟨by show (0 : Int) ≤ (i : Int); omega, by show (i : Int) < (k : Int); omega⟩, hv⟩
  · rintro ⟨⟨h0, h1⟩, h2⟩
    obtain ⟨i, hi⟩ := Int.eq_ofNat_of_zero_le h0
    refine ⟨i, List.mem_range.2 (by omega), ?_⟩
    obtain ⟨c, v⟩ := x
    simp only at hi h2
    subst hi
    rw [h2]; rfl
theorem netTo_rising (xs : List R2) : ∀ k, (netTo xs k).Pairwise (fun x y => x.c < y.c)
  | 0 => List.Pairwise.nil
  | k + 1 => by
    cases h : lastOf xs (k : Int) with
    | none => rw [netTo_none h]; exact netTo_rising xs k
    | some v =>
      rw [netTo_some h, List.pairwise_append]
      refine ⟨netTo_rising xs k, List.pairwise_singleton _ _, fun x hx y hy => ?_⟩
      obtain rfl := List.mem_singleton.1 hy
      exact (mem_netTo.1 hx).1.2

theorem R2.ext' {x y : R2} (h1 : x.c = y.c) (h2 : x.v = y.v) : x = y := by cases x; cases y; simp_all
/-- rising rows that are each the last one of its cell, and all of them: the net rows -/
theorem net_unique {xs ns : List R2} (hok : rowsOk xs = true) (hr : ns.Pairwise (fun x y => x.c < y.c)) (h1 : ∀ x ∈ ns, lastV xs x.c = some x.v) (h2 : ∀ c, (lastV xs c).isSome = true → ∃ x ∈ ns, x.c = c) : ns = netOf xs := by
  have hs := netTo_rising xs 8
  refine List.Perm.eq_of_pairwise (le := fun x y : R2 => x.c < y.c) (fun a b _ _ h h' => by omega) hr hs ?_
  refine (List.perm_ext_iff_of_nodup (hr.imp fun h e => ?_) (hs.imp fun h e => ?_)).2 fun x => ?_
  · rw [e] at h; omega
  · rw [e] at h; omega
  · rw [mem_netTo, lastOf_ok hok]
    constructor
    · intro hx
      have hl := h1 x hx
      obtain ⟨y, hy, e1, e2⟩ := lastV_mem hl
      have := rowsOk_at hok hy
      exact ⟨by omega, hl⟩
    · rintro ⟨-, hl⟩
      obtain ⟨y, hy, e⟩ := h2 x.c (by rw [hl]; rfl)
      have hl' := h1 y hy
      rw [e, hl] at hl'
      have : y = x := R2.ext' e (by simpa using hl'.symm)
      rw [← this]; exact hy

/-! ### what the law tells of them -/
theorem lastV_cons (x : R2) (r : List R2) (c : Int) : lastV (x :: r) c = (lastV r c).or (if x.c = c then some x.v else none) := by
  unfold lastV
  rw [List.reverse_cons, List.find?_append]
  cases List.find? (fun x => x.c == c) r.reverse with
  | some y => rfl
  | none =>
    by_cases h : x.c = c
    · simp [h]
    · simp [h]
theorem putAll_at (xs : List R2) : ∀ (zs : List Int) (h : ∀ x ∈ xs, 0 ≤ x.c) (i : Nat) (hi : i < zs.length), (putAll zs xs)[i]? = some ((lastV xs (i : Int)).getD zs[i]) := by
  induction xs with
  | nil => intro zs h i hi; simp [putAll, lastV_nil, hi]
  | cons x r ih =>
    intro zs h i hi
    have ih := ih (zs.set x.c.toNat x.v) (fun y hy => h y (List.mem_cons_of_mem _ hy)) i (by simpa using hi)
    have hx := h x (by simp)
    show (putAll (zs.set x.c.toNat x.v) r)[i]? = _
    rw [ih, lastV_cons]
    cases lastV r (i : Int) with
    | some y => rfl
    | none =>
      by_cases he : x.c = (i : Int)
      · have : x.c.toNat = i := by omega
        simp [he, this]
      · have : ¬ x.c.toNat = i := by omega
        simp [he, this]

theorem rowsOk_of {xs : List R2} (h : xs.length ≤ 300) (ha : ∀ x ∈ xs, 0 ≤ x.c ∧ x.c ≤ 7 ∧ 0 ≤ x.v ∧ x.v ≤ 65535) : rowsOk xs = true := by
  refine rowsOk_mk h fun j hj => ?_
  obtain ⟨h0, h1, h2, h3⟩ := ha _ (List.getElem_mem hj)
  exact okR_yes h0 h1 h2 h3
theorem mem_net {xs : List R2} (hok : rowsOk xs = true) {x : R2} (h : x ∈ netOf xs) : x ∈ xs := by
  have h' := (mem_netTo.1 (show x ∈ netTo xs 8 from h)).2
  rw [lastOf_ok hok] at h'
  obtain ⟨y, hy, e1, e2⟩ := lastV_mem h'
  have : y = x := R2.ext' e1 e2
  rw [← this]; exact hy
theorem net_ok {xs : List R2} (hok : rowsOk xs = true) : rowsOk (netOf xs) = true :=
  rowsOk_of (by have := netOf_length xs; omega) fun x hx => rowsOk_at hok (mem_net hok hx)
theorem last_net {xs : List R2} (hok : rowsOk xs = true) (c : Int) : lastV (netOf xs) c = lastV xs c := by
  cases h : lastV (netOf xs) c with
  | some v =>
    obtain ⟨x, hx, rfl, rfl⟩ := lastV_mem h
    have := (mem_netTo.1 (show x ∈ netTo xs 8 from hx)).2
    rw [lastOf_ok hok] at this
    exact this.symm
  | none =>
    cases h' : lastV xs c with
    | none => rfl
    | some v =>
      obtain ⟨x, hx, e1, e2⟩ := lastV_mem h'
      obtain ⟨b0, b1, -, -⟩ := rowsOk_at hok hx
      have hm : (⟨c, v⟩ : R2) ∈ netTo xs 8 := mem_netTo.2 ⟨⟨by show 0 ≤ c; omega, by show c < ((8 : Nat) : Int); omega⟩, by rw [lastOf_ok hok]; exact h'⟩
      exact absurd rfl (lastV_none.1 h _ hm)
theorem net_net {xs : List R2} (hok : rowsOk xs = true) : netOf (netOf xs) = netOf xs :=
  (net_unique (net_ok hok) (netTo_rising xs 8) (fun x hx => by
      rw [last_net hok]
      have := (mem_netTo.1 (show x ∈ netTo xs 8 from hx)).2
      rw [lastOf_ok hok] at this; exact this) (fun c hc => by
      obtain ⟨v, hv⟩ := Option.isSome_iff_exists.1 hc
      obtain ⟨x, hx, e, -⟩ := lastV_mem hv
      exact ⟨x, hx, e⟩)).symm
theorem put_net {xs : List R2} (hok : rowsOk xs = true) (zs : List Int) : putAll zs (netOf xs) = putAll zs xs := by
  apply List.ext_getElem?
  intro i
  by_cases hi : i < zs.length
  · rw [putAll_at _ _ (fun x hx => (rowsOk_at hok (mem_net hok hx)).1) i hi, putAll_at _ _ (fun x hx => (rowsOk_at hok hx).1) i hi, last_net hok]
  · rw [List.getElem?_eq_none (by rw [putAll_length]; omega), List.getElem?_eq_none (by rw [putAll_length]; omega)]
theorem put_cut (zs : List Int) (xs : List R2) (k : Nat) : putAll (putAll zs (xs.take k)) (xs.drop k) = putAll zs xs := by
  unfold putAll
  rw [← List.foldl_append, List.take_append_drop]
theorem drop_ok {xs : List R2} (hok : rowsOk xs = true) (k : Nat) : rowsOk (xs.drop k) = true :=
  rowsOk_of (by have := rowsOk_out hok; simp; omega) fun x hx => rowsOk_at hok (List.mem_of_mem_drop hx)
theorem take_ok {xs : List R2} (hok : rowsOk xs = true) (k : Nat) : rowsOk (xs.take k) = true :=
  rowsOk_of (by have := rowsOk_out hok; simp; omega) fun x hx => rowsOk_at hok (List.mem_of_mem_take hx)
/-- right values stay right -/
def valsOk (zs : List Int) : Bool := decide (zs.length = 8) && zs.all (fun z => Ops.inn 0 65535 z)
theorem put_vals {zs : List Int} {xs : List R2} (hz : valsOk zs = true) (hok : rowsOk xs = true) : valsOk (putAll zs xs) = true := by
  unfold valsOk at hz ⊢
  rw [Bool.and_eq_true] at hz ⊢
  refine ⟨by rw [putAll_length]; exact hz.1, List.all_eq_true.2 fun z hm => ?_⟩
  obtain ⟨i, hi, rfl⟩ := List.mem_iff_getElem.1 hm
  rw [putAll_length] at hi
  have h := putAll_at xs zs (fun x hx => (rowsOk_at hok hx).1) i hi
  rw [List.getElem?_eq_getElem (by rw [putAll_length]; exact hi)] at h
  obtain h := Option.some.inj h
  rw [h]
  cases hl : lastV xs (i : Int) with
  | none => exact List.all_eq_true.1 hz.2 _ (List.getElem_mem hi)
  | some v =>
    obtain ⟨x, hx, -, rfl⟩ := lastV_mem hl
    obtain ⟨-, -, b0, b1⟩ := rowsOk_at hok hx
    show Ops.inn 0 65535 x.v = true
    simp [Ops.inn, b0, b1]
theorem mem_cells {xs : List R2} (hok : rowsOk xs = true) (c : Int) : c ∈ cellsOf xs ↔ (lastV xs c).isSome = true := by
  unfold cellsOf
  rw [List.mem_map]
  constructor
  · rintro ⟨x, hx, rfl⟩
    have := (mem_netTo.1 (show x ∈ netTo xs 8 from hx)).2
    rw [lastOf_ok hok] at this
    rw [this]; rfl
  · intro h
    obtain ⟨v, hv⟩ := Option.isSome_iff_exists.1 h
    obtain ⟨x, hx, e1, e2⟩ := lastV_mem hv
    obtain ⟨b0, b1, -, -⟩ := rowsOk_at hok hx
    exact ⟨⟨c, v⟩, mem_netTo.2 ⟨⟨by show 0 ≤ c; omega, by show c < ((8 : Nat) : Int); omega⟩, by rw [lastOf_ok hok]; exact hv⟩, rfl⟩
end Logs
end Go.Proofs.Ytppikpdphcfomaa
