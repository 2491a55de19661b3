/- A doing in its block: the program, the order, registers, cells, map, counter; what is read of it and put into it. -/
import Derived.Test.YtppkohkcffnghaaKidL
import Derived.Test.YtppkohkcffnghaaIntRow
import Derived.Deep.MidRow
import Derived.Defers
import Derived.Recover
set_option linter.unusedVariables false
set_option linter.unusedSimpArgs false
namespace Go.Proofs.Ytppkohkcffnghaa
open Go.RowKit
namespace Ops
open Bas Flat

/-- all numbers of a stock, in order -/
def nums (r : List Int) (t : Th) : List Int := r ++ (t.c ++ (t.m ++ [t.n]))
theorem nums_length {r : List Int} {t : Th} (hr : r.length = 4) (hc : t.c.length = 8) (hm : t.m.length = 8) : (nums r t).length = 21 := by simp [nums, hr, hc, hm]
theorem ok_len {r : List Int} {t : Th} (hr : regsOk r = true) (ht : thOk t = true) : r.length = 4 ∧ t.c.length = 8 ∧ t.m.length = 8 :=
  ⟨(regsOk_out hr).1, (cellsOk_out (th_parts ht).1).1, (mapOk_out (th_parts ht).2.1).1⟩
/-- the cells of a doing -/
def dcells (vC vK vO : Value) (H : List Int) : Array Value := (vC :: vK :: vO :: Ints.iv H).toArray
/-- a doing lies in block p -/
def Dn (W : World) (p : Nat) (vC vK vO : Value) (H : List Int) : Prop := Blk W p (dcells vC vK vO H) 93
/-- a stock lies in block p -/
def Sk (W : World) (p : Nat) (H : List Int) : Prop := Blk W p (Ints.iv H).toArray 90
section
variable {W W' : World} {p : Nat} {vC vK vO : Value} {H : List Int}
theorem Dn.code (h : Dn W p vC vK vO H) : W.cell? ⟨p, 0, none⟩ = some vC := (Blk.cell h 0).trans rfl
theorem Dn.kids (h : Dn W p vC vK vO H) : W.cell? ⟨p, 1, none⟩ = some vK := (Blk.cell h 1).trans rfl
theorem Dn.ord (h : Dn W p vC vK vO H) : W.cell? ⟨p, 2, none⟩ = some vO := (Blk.cell h 2).trans rfl
theorem Dn.num (h : Dn W p vC vK vO H) (j : Nat) (hj : j < H.length) : W.cell? ⟨p, 3 + j, none⟩ = some (.int .i64 H[j]) := by
  rw [Blk.cell h]
  unfold dcells
  rw [List.getElem?_toArray, show 3 + j = j + 1 + 1 + 1 by omega, List.getElem?_cons_succ, List.getElem?_cons_succ, List.getElem?_cons_succ, Ints.iv_get H j hj]
theorem Dn.froz (h : Dn W p vC vK vO H) (i : Nat) : W.frozen? ⟨p, i, none⟩ = false := Blk.froz h i
theorem Dn.lt (h : Dn W p vC vK vO H) : p < W.heap.size := Blk.lt h
theorem Dn.on (h : Dn W p vC vK vO H) {B : Nat} (hb : Below B W W') (hB : p < B) : Dn W' p vC vK vO H := Blk.on h hb hB
theorem Dn.drew (h : Dn W p vC vK vO H) : Dn W.drew p vC vK vO H := h
theorem Dn.other (h : Dn W p vC vK vO H) {q : Nat} (hne : p ≠ q) (i : Nat) (u : Value) : Dn (W.setCell ⟨q, i, none⟩ u) p vC vK vO H := Blk.other h hne i u
theorem Dn.set (h : Dn W p vC vK vO H) (j : Nat) (x : Int) : Dn (W.setCell ⟨p, 3 + j, none⟩ (.int .i64 x)) p vC vK vO (H.set j x) := by
  have := Blk.set h (3 + j) (.int .i64 x)
  have e : (dcells vC vK vO H).setIfInBounds (3 + j) (.int .i64 x) = dcells vC vK vO (H.set j x) := by
    unfold dcells
    rw [List.setIfInBounds_toArray, show 3 + j = j + 1 + 1 + 1 by omega, List.set_cons_succ, List.set_cons_succ, List.set_cons_succ, ← Ints.iv_set]
  rw [e] at this
  exact this
theorem Sk.num (h : Sk W p H) (j : Nat) (hj : j < H.length) : W.cell? ⟨p, j, none⟩ = some (.int .i64 H[j]) := by
  rw [Blk.cell h, List.getElem?_toArray, Ints.iv_get H j hj]
theorem Sk.lt (h : Sk W p H) : p < W.heap.size := Blk.lt h
theorem Sk.on (h : Sk W p H) {B : Nat} (hb : Below B W W') (hB : p < B) : Sk W' p H := Blk.on h hb hB
theorem Sk.drew (h : Sk W p H) : Sk W.drew p H := h
/-- many cells at once -/
theorem Dn.range (h : Dn W p vC vK vO H) (k n : Nat) : W.rangeAt p (3 + k) (Ints.iv ((H.drop k).take n)) := fun j v hv => by
  have hj : j < ((H.drop k).take n).length := by rw [← Ints.iv_length]; exact (List.getElem?_eq_some_iff.1 hv).1
  have hk : k + j < H.length := by simp at hj; omega
  rw [Ints.iv_get _ j hj] at hv
  have := h.num (k + j) hk
  rw [Nat.add_assoc, this, ← hv]
  congr 2
  simp
theorem Sk.range (h : Sk W p H) (k n : Nat) : W.rangeAt p k (Ints.iv ((H.drop k).take n)) := fun j v hv => by
  have hj : j < ((H.drop k).take n).length := by rw [← Ints.iv_length]; exact (List.getElem?_eq_some_iff.1 hv).1
  have hk : k + j < H.length := by simp at hj; omega
  rw [Ints.iv_get _ j hj] at hv
  have := h.num (k + j) hk
  rw [this, ← hv]
  congr 2
  simp
theorem Dn.there (h : Dn W p vC vK vO H) {k n : Nat} (hn : k + n ≤ H.length) : W.there p (3 + k) n := fun j hj =>
  ⟨by rw [Nat.add_assoc, h.num (k + j) (by omega)]; rfl, h.froz _⟩
theorem Sk.there (h : Sk W p H) {k n : Nat} (hn : k + n ≤ H.length) : W.there p k n := fun j hj =>
  ⟨by rw [h.num (k + j) (by omega)]; rfl, Blk.froz h _⟩
/-- numbers put over the old ones from place k on -/
def over (H : List Int) (k : Nat) : List Int → List Int
  | [] => H
  | x :: r => over (H.set k x) (k + 1) r
theorem over_length (l : List Int) : ∀ (H : List Int) (k : Nat), (over H k l).length = H.length := by
  induction l with
  | nil => intro H k; rfl
  | cons x r ih => intro H k; rw [over, ih]; simp
theorem over_get (l : List Int) : ∀ (H : List Int) (k j : Nat), k + l.length ≤ H.length → (over H k l)[j]? = if k ≤ j ∧ j < k + l.length then l[j - k]? else H[j]? := by
  induction l with
  | nil => intro H k j _; rw [if_neg (by simp)]; rfl
  | cons x r ih =>
    intro H k j hk
    rw [List.length_cons] at hk
    rw [over, ih _ _ _ (by simp; omega), List.length_cons]
    by_cases h1 : k + 1 ≤ j ∧ j < k + 1 + r.length
    · rw [if_pos h1, if_pos (by omega), show j - k = (j - (k + 1)) + 1 by omega, List.getElem?_cons_succ]
    · rw [if_neg h1]
      by_cases h2 : j = k
      · subst h2
        rw [if_pos (by omega), Nat.sub_self, List.getElem?_cons_zero, List.getElem?_set_self (by omega)]
      · rw [List.getElem?_set_ne (by omega), if_neg (by omega)]
theorem over_mid (a b c l : List Int) (h : l.length = b.length) : over (a ++ (b ++ c)) a.length l = a ++ (l ++ c) := by
  apply List.ext_getElem?
  intro j
  rw [over_get _ _ _ _ (by simp; omega)]
  by_cases h1 : a.length ≤ j ∧ j < a.length + l.length
  · rw [if_pos h1, List.getElem?_append_right (by omega), List.getElem?_append_left (by omega)]
  · rw [if_neg h1]
    by_cases h2 : j < a.length
    · rw [List.getElem?_append_left h2, List.getElem?_append_left h2]
    · rw [List.getElem?_append_right (by omega), List.getElem?_append_right (by omega), List.getElem?_append_right (by omega), List.getElem?_append_right (by omega), h]
theorem Dn.setMany : ∀ (l : List Int) (W : World) (H : List Int) (k : Nat), Dn W p vC vK vO H → Dn (W.setCells p (3 + k) (Ints.iv l)) p vC vK vO (over H k l)
  | [], W, H, k, h => h
  | x :: r, W, H, k, h => by
    have := Dn.setMany r _ _ (k + 1) (h.set k x)
    exact this
theorem Sk.set (h : Sk W p H) (j : Nat) (x : Int) : Sk (W.setCell ⟨p, j, none⟩ (.int .i64 x)) p (H.set j x) := by
  have := Blk.set h j (.int .i64 x)
  rw [List.setIfInBounds_toArray, ← Ints.iv_set] at this
  exact this
theorem Sk.setMany : ∀ (l : List Int) (W : World) (H : List Int) (k : Nat), Sk W p H → Sk (W.setCells p k (Ints.iv l)) p (over H k l)
  | [], W, H, k, h => h
  | x :: r, W, H, k, h => by
    have := Sk.setMany r _ _ (k + 1) (h.set k x)
    exact this
end
theorem setCells_below {B p : Nat} (hp : B ≤ p) : ∀ (l : List Value) (k : Nat) (W : World), Below B W (W.setCells p k l)
  | [], k, W => Below.refl _ _
  | x :: r, k, W => ((Below.refl B W).setCell (p := ⟨p, k, none⟩) hp x).trans (setCells_below hp r (k + 1) _)
theorem setCells_block {p q : Nat} (hpq : q ≠ p) : ∀ (l : List Value) (k : Nat) (W : World), (W.setCells p k l).heap[q]? = W.heap[q]?
  | [], k, W => rfl
  | x :: r, k, W => (setCells_block hpq r (k + 1) _).trans (Below.heap_setCell W ⟨p, k, none⟩ x q hpq)
theorem setCells_size (p : Nat) : ∀ (l : List Value) (k : Nat) (W : World), (W.setCells p k l).heap.size = W.heap.size
  | [], k, W => rfl
  | x :: r, k, W => (setCells_size p r (k + 1) _).trans (by simp [World.setCell])
theorem Sk.other {W : World} {p q : Nat} {H : List Int} (h : Sk W p H) (hne : p ≠ q) (k : Nat) (l : List Value) : Sk (W.setCells q k l) p H := (setCells_block hne l k W).trans h
theorem Dn.others {W : World} {p q : Nat} {vC vK vO : Value} {H : List Int} (h : Dn W p vC vK vO H) (hne : p ≠ q) (k : Nat) (l : List Value) : Dn (W.setCells q k l) p vC vK vO H := (setCells_block hne l k W).trans h

/-! ### worlds in which one old block alone may have changed -/
/-- from W to W' no block has changed but p and new ones -/
structure Only (p : Nat) (W W' : World) : Prop where
  os : W'.os = W.os
  tape : W'.tape = W.tape
  output : W'.output = W.output
  size : W.heap.size ≤ W'.heap.size
  block : ∀ i, i < W.heap.size → i ≠ p → W'.heap[i]? = W.heap[i]?
section
variable {p : Nat} {W W' W'' : World}
theorem Only.refl (p : Nat) (W : World) : Only p W W := ⟨rfl, rfl, rfl, Nat.le_refl _, fun _ _ _ => rfl⟩
theorem Only.trans (h : Only p W W') (h' : Only p W' W'') : Only p W W'' :=
  ⟨h'.os.trans h.os, h'.tape.trans h.tape, h'.output.trans h.output, Nat.le_trans h.size h'.size, fun i hi hp => (h'.block i (Nat.lt_of_lt_of_le hi h.size) hp).trans (h.block i hi hp)⟩
theorem Only.below (h : Only p W W') {B : Nat} (hB : B ≤ W.heap.size) (hp : B ≤ p) : Below B W W' :=
  ⟨h.os, h.tape, h.output, h.size, fun i hi => h.block i (by omega) (by omega)⟩
theorem Only.of (h : Below W.heap.size W W') : Only p W W' := ⟨h.os, h.tape, h.output, h.size, fun i hi _ => h.block i hi⟩
theorem Only.ofB {B : Nat} (h : Below B W W') (hB : W.heap.size ≤ B) : Only p W W' := ⟨h.os, h.tape, h.output, h.size, fun i hi _ => h.block i (by omega)⟩
theorem Only.drew (h : Only p W W') : Only p W W'.drew := ⟨h.os, h.tape, h.output, h.size, h.block⟩
theorem Only.undrew (h : Only p W.drew W') : Only p W W' := ⟨h.os, h.tape, h.output, h.size, h.block⟩
theorem Only.set (h : Only p W W') (i : Nat) (u : Value) : Only p W (W'.setCell ⟨p, i, none⟩ u) :=
  ⟨h.os, h.tape, h.output, by simp [World.setCell]; exact h.size, fun j hj hp => (Below.heap_setCell W' ⟨p, i, none⟩ u j hp).trans (h.block j hj hp)⟩
theorem Only.setMany (h : Only p W W') (k : Nat) (l : List Value) : Only p W (W'.setCells p k l) := by
  have b := setCells_below (B := 0) (p := p) (Nat.zero_le _) l k W'
  exact ⟨b.os.trans h.os, b.tape.trans h.tape, b.output.trans h.output, Nat.le_trans h.size b.size, fun j hj hp => (setCells_block hp l k W').trans (h.block j hj hp)⟩
theorem Only.setNew (h : Only p W W') {q : Nat} (hq : W.heap.size ≤ q) (i : Nat) (u : Value) : Only p W (W'.setCell ⟨q, i, none⟩ u) :=
  ⟨h.os, h.tape, h.output, by simp [World.setCell]; exact h.size, fun j hj hp => (Below.heap_setCell W' ⟨q, i, none⟩ u j (show j ≠ q by omega)).trans (h.block j hj hp)⟩
theorem Only.alloc (h : Only p W W') (o : Obj) : Only p W (W'.alloc o) := h.trans (Only.of (alloc_below W' o))
theorem Dn.only {q : Nat} {vC vK vO : Value} {H : List Int} (h : Dn W q vC vK vO H) (ho : Only p W W') (hne : q ≠ p) : Dn W' q vC vK vO H := (ho.block q h.lt hne).trans h
theorem Sk.only {q : Nat} {H : List Int} (h : Sk W q H) (ho : Only p W W') (hne : q ≠ p) : Sk W' q H := (ho.block q h.lt hne).trans h
end
/-- what an OpAbort panics with -/
abbrev gave : Value := .iface 144 (.agg #[])
end Ops
end Go.Proofs.Ytppkohkcffnghaa
