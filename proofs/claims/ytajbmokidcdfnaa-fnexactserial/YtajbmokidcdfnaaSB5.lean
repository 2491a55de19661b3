/- Several texts of one proof, in build order: KidL, DoRow, DoCatch, DoReach, DoNums, OpSpec, CalcSpec, CalcFns. -/
import Derived.Deep.MidRow
import Derived.Defers
import Derived.Recover
import Derived.Maps.OwnSet
import Derived.Deep.QuietTactic
import Derived.BigQuiet
import Derived.Test.YtajbmokidcdfnaaSB1
import Derived.Test.YtajbmokidcdfnaaSB3
import Derived.Test.YtajbmokidcdfnaaSB4
/- Kids: what code without forks that touches neither map nor counter does, whatever these hold. -/
set_option linter.unusedVariables false
set_option linter.unusedSimpArgs false
namespace Go.Proofs.Ytajbmokidcdfnaa
namespace Ops

/-- the same things with another map and another counter -/
def reT (m : List Int) (n : Int) (t : Th) : Th := ⟨t.c, m, n⟩
def reK (m : List Int) (n : Int) (k : Mk) : Mk := ⟨k.pc, k.r, reT m n k.t⟩
def reC (m : List Int) (n : Int) (s : Cf) : Cf := ⟨s.pc, s.r, reT m n s.t, s.k.map (reK m n)⟩
def reR (m : List Int) (n : Int) (q : Rn) : Rn := ⟨q.out, q.r, reT m n q.t⟩
def reS (m : List Int) (n : Int) : Cf ⊕ Rn → Cf ⊕ Rn
  | .inl s => .inl (reC m n s)
  | .inr q => .inr (reR m n q)
/-- ops that touch neither map nor counter -/
def Dry (xs : List O4) : Prop := ∀ i (h : i < xs.length), xs[i].k < 11 ∨ xs[i].k = 11
theorem plainT_re {o : O4} (h : o.k ≤ 11) (r : List Int) (t : Th) (m : List Int) (n : Int) : plainT o r (reT m n t) = reT m n (plainT o r t) := by
  unfold plainT
  by_cases h6 : o.k = 6
  · rw [if_pos h6, if_pos h6]; rfl
  · rw [if_neg h6, if_neg h6, if_neg (by omega), if_neg (by omega), if_neg (by omega), if_neg (by omega), if_neg (by omega), if_neg (by omega)]
theorem plainR_re {o : O4} (h : o.k ≤ 11) (r : List Int) (t : Th) (m : List Int) (n : Int) : plainR o r (reT m n t) = plainR o r t := by
  unfold plainR
  by_cases h5 : o.k = 5
  · rw [if_pos h5, if_pos h5]; rfl
  · have a : ¬ o.k = 12 := by omega
    have b : ¬ o.k = 13 := by omega
    have c : ¬ o.k = 14 := by omega
    have d : ¬ o.k = 16 := by omega
    simp only [if_neg h5, if_neg a, if_neg b, if_neg c, if_neg d]
theorem step_re {xs : List O4} (hd : Dry xs) {s : Cf} (hp : s.pc < xs.length) (t0 : Th) (m : List Int) (n : Int) : step xs (reT m n t0) noF (reC m n s) = reS m n (step xs t0 noF s) := by
  have hg := xs_at hp
  have hk : xs[s.pc].k ≤ 11 := by rcases hd s.pc hp with h | h <;> omega
  obtain ⟨pc, r, t, k⟩ := s
  have hg : xs.getD pc z4 = xs[pc] := hg
  have hk : xs[pc].k ≤ 11 := hk
  have hd' : ∀ T k, step xs T noF ⟨pc, r, reT m n t, k⟩ = (if xs[pc].k = 8 then .inl ⟨pc + 1, r, reT m n t, ⟨pc, r, reT m n t⟩ :: k⟩
      else if xs[pc].k = 9 then (match k with
        | [] => .inr ⟨0, [], T⟩
        | q :: k => .inl ⟨pc + 1, wr r (xs.getD q.pc z4).a 1, reT m n t, k⟩)
      else if xs[pc].k = 10 then (match k with
        | [] => .inr ⟨2, r, T⟩
        | q :: k => .inl ⟨(endOf xs q.pc).toNat + 1, wr q.r (xs.getD q.pc z4).a 0, q.t, k⟩)
      else if xs[pc].k = 11 then .inl ⟨pc + 1, (noF r (reT m n t)).1, (noF r (reT m n t)).2, k⟩
      else .inl ⟨nextPc xs[pc] r pc, plainR xs[pc] r (reT m n t), plainT xs[pc] r (reT m n t), k⟩) := fun T k => by
    rw [← hg]; rfl
  show step xs (reT m n t0) noF ⟨pc, r, reT m n t, k.map (reK m n)⟩ = _
  rw [hd']
  clear hd'
  unfold step
  simp only [hg]
  by_cases h8 : xs[pc].k = 8
  · rw [if_pos h8, if_pos h8]; rfl
  rw [if_neg h8, if_neg h8]
  by_cases h9 : xs[pc].k = 9
  · rw [if_pos h9, if_pos h9]; cases k <;> rfl
  rw [if_neg h9, if_neg h9]
  by_cases h10 : xs[pc].k = 10
  · rw [if_pos h10, if_pos h10]; cases k <;> rfl
  rw [if_neg h10, if_neg h10]
  by_cases h11 : xs[pc].k = 11
  · rw [if_pos h11, if_pos h11]; rfl
  rw [if_neg h11, if_neg h11, plainT_re hk, plainR_re hk]; rfl
theorem runF_re {xs : List O4} (hd : Dry xs) (t0 : Th) (m : List Int) (n : Int) : ∀ (f : Nat) (s : Cf), runF xs (reT m n t0) noF f (reC m n s) = (runF xs t0 noF f s).map (reR m n)
  | 0, _ => rfl
  | f + 1, s => by
    unfold runF
    show (if s.pc < xs.length then _ else _) = _
    by_cases hp : s.pc < xs.length
    · rw [if_pos hp, if_pos hp, step_re hd hp]
      cases hs : step xs t0 noF s with
      | inl s' => exact runF_re hd t0 m n f s'
      | inr q => rfl
    · rw [if_neg hp, if_neg hp]; rfl
theorem Ends.re {xs : List O4} (hd : Dry xs) {t0 : Th} {s : Cf} {q : Rn} (h : Ends xs t0 noF s q) (m : List Int) (n : Int) : Ends xs (reT m n t0) noF (reC m n s) (reR m n q) := by
  obtain ⟨f, h⟩ := h
  exact ⟨f, by rw [runF_re hd, h]; rfl⟩
/-- a kid's ops -/
theorem kid_dry {xs : List O4} (h : kidOk xs = true) : codeOk xs = true ∧ hasFork xs = false ∧ Dry xs := by
  unfold kidOk at h
  rw [Bool.and_eq_true, Bool.and_eq_true] at h
  obtain ⟨⟨h1, h2⟩, h3⟩ := h
  refine ⟨h1, by simpa using h2, fun i hi => ?_⟩
  have ho := code_at h1 hi
  have ht := List.all_eq_true.1 h3 _ (List.getElem_mem hi)
  have hk : 0 ≤ xs[i].k ∧ xs[i].k ≤ 16 := by
    have := ho
    unfold okOp opOk at this
    rcases Int.lt_or_le xs[i].k 1 with hx | hx
    · rw [spans_none (.inl hx)] at this; simp at this
    · rcases Int.lt_or_le 16 xs[i].k with hy | hy
      · rw [spans_none (.inr hy)] at this; simp at this
      · omega
  rcases Int.lt_or_le xs[i].k 12 with h | h
  · omega
  · exfalso
    unfold touch at ht
    rw [if_pos ho, if_neg (by omega), if_pos (by omega)] at ht
    simp at ht
/-- a kid does the same, whatever map and counter hold, and leaves them -/
theorem kid_run {xs : List O4} (h : kidOk xs = true) {r : List Int} {t : Th} {q : Rn} (hr : regsOk r = true) (he : Ends xs t noF ⟨0, r, t, []⟩ q) (m : List Int) (n : Int) (ht : thOk (reT m n t) = true) : run xs noF r (reT m n t) = reR m n q :=
  run_eq (kid_dry h).1 noF_ok hr ht (he.re (kid_dry h).2.2 m n)
end Ops
end Go.Proofs.Ytajbmokidcdfnaa
/- A doing in its block: the program, the order, registers, cells, map, counter; what is read of it and put into it. -/
set_option linter.unusedVariables false
set_option linter.unusedSimpArgs false
namespace Go.Proofs.Ytajbmokidcdfnaa
open Go.RowKit
namespace Ops
open Bas Flat

/-- all numbers of a stock, in order -/
def nums (r : List Int) (t : Th) : List Int := r ++ (t.c ++ (t.m ++ [t.n]))
theorem nums_length {r : List Int} {t : Th} (hr : r.length = 4) (hc : t.c.length = 8) (hm : t.m.length = 8) : (nums r t).length = 21 := by simp [nums, hr, hc, hm]
theorem ok_len {r : List Int} {t : Th} (hr : regsOk r = true) (ht : thOk t = true) : r.length = 4 ∧ t.c.length = 8 ∧ t.m.length = 8 :=
  ⟨(regsOk_out hr).1, (cellsOk_out (th_parts ht).1).1, (mapOk_out (th_parts ht).2.1).1⟩
/-- the cells of a doing -/
def dcells (vC vK vO : Value) (H : List Int) : Array Value := (vC :: vK :: vO :: Ints.iv H).toArray
/-- a doing lies in block p -/
def Dn (W : World) (p : Nat) (vC vK vO : Value) (H : List Int) : Prop := Blk W p (dcells vC vK vO H) 116
/-- a stock lies in block p -/
def Sk (W : World) (p : Nat) (H : List Int) : Prop := Blk W p (Ints.iv H).toArray 113
section
variable {W W' : World} {p : Nat} {vC vK vO : Value} {H : List Int}
theorem Dn.code (h : Dn W p vC vK vO H) : W.cell? ⟨p, 0, none⟩ = some vC := (Blk.cell h 0).trans rfl
theorem Dn.kids (h : Dn W p vC vK vO H) : W.cell? ⟨p, 1, none⟩ = some vK := (Blk.cell h 1).trans rfl
theorem Dn.ord (h : Dn W p vC vK vO H) : W.cell? ⟨p, 2, none⟩ = some vO := (Blk.cell h 2).trans rfl
theorem Dn.num (h : Dn W p vC vK vO H) (j : Nat) (hj : j < H.length) : W.cell? ⟨p, 3 + j, none⟩ = some (.int .i64 H[j]) := by
  rw [Blk.cell h]
  unfold dcells
  rw [List.getElem?_toArray, show 3 + j = j + 1 + 1 + 1 by omega, List.getElem?_cons_succ, List.getElem?_cons_succ, List.getElem?_cons_succ, Ints.iv_get H j hj]
theorem Dn.froz (h : Dn W p vC vK vO H) (i : Nat) : W.frozen? ⟨p, i, none⟩ = false := Blk.froz h i
theorem Dn.lt (h : Dn W p vC vK vO H) : p < W.heap.size := Blk.lt h
theorem Dn.on (h : Dn W p vC vK vO H) {B : Nat} (hb : Below B W W') (hB : p < B) : Dn W' p vC vK vO H := Blk.on h hb hB
theorem Dn.drew (h : Dn W p vC vK vO H) : Dn W.drew p vC vK vO H := h
theorem Dn.other (h : Dn W p vC vK vO H) {q : Nat} (hne : p ≠ q) (i : Nat) (u : Value) : Dn (W.setCell ⟨q, i, none⟩ u) p vC vK vO H := Blk.other h hne i u
theorem Dn.set (h : Dn W p vC vK vO H) (j : Nat) (x : Int) : Dn (W.setCell ⟨p, 3 + j, none⟩ (.int .i64 x)) p vC vK vO (H.set j x) := by
  have := Blk.set h (3 + j) (.int .i64 x)
  have e : (dcells vC vK vO H).setIfInBounds (3 + j) (.int .i64 x) = dcells vC vK vO (H.set j x) := by
    unfold dcells
    rw [List.setIfInBounds_toArray, show 3 + j = j + 1 + 1 + 1 by omega, List.set_cons_succ, List.set_cons_succ, List.set_cons_succ, ← Ints.iv_set]
  rw [e] at this
  exact this
theorem Sk.num (h : Sk W p H) (j : Nat) (hj : j < H.length) : W.cell? ⟨p, j, none⟩ = some (.int .i64 H[j]) := by
  rw [Blk.cell h, List.getElem?_toArray, Ints.iv_get H j hj]
theorem Sk.lt (h : Sk W p H) : p < W.heap.size := Blk.lt h
theorem Sk.on (h : Sk W p H) {B : Nat} (hb : Below B W W') (hB : p < B) : Sk W' p H := Blk.on h hb hB
theorem Sk.drew (h : Sk W p H) : Sk W.drew p H := h
/-- many cells at once -/
theorem Dn.range (h : Dn W p vC vK vO H) (k n : Nat) : W.rangeAt p (3 + k) (Ints.iv ((H.drop k).take n)) := fun j v hv => by
  have hj : j < ((H.drop k).take n).length := by rw [← Ints.iv_length]; exact (List.getElem?_eq_some_iff.1 hv).1
  have hk : k + j < H.length := by simp at hj; omega
  rw [Ints.iv_get _ j hj] at hv
  have := h.num (k + j) hk
  rw [Nat.add_assoc, this, ← hv]
  congr 2
  simp
theorem Sk.range (h : Sk W p H) (k n : Nat) : W.rangeAt p k (Ints.iv ((H.drop k).take n)) := fun j v hv => by
  have hj : j < ((H.drop k).take n).length := by rw [← Ints.iv_length]; exact (List.getElem?_eq_some_iff.1 hv).1
  have hk : k + j < H.length := by simp at hj; omega
  rw [Ints.iv_get _ j hj] at hv
  have := h.num (k + j) hk
  rw [this, ← hv]
  congr 2
  simp
theorem Dn.there (h : Dn W p vC vK vO H) {k n : Nat} (hn : k + n ≤ H.length) : W.there p (3 + k) n := fun j hj =>
  ⟨by rw [Nat.add_assoc, h.num (k + j) (by omega)]; rfl, h.froz _⟩
theorem Sk.there (h : Sk W p H) {k n : Nat} (hn : k + n ≤ H.length) : W.there p k n := fun j hj =>
  ⟨by rw [h.num (k + j) (by omega)]; rfl, Blk.froz h _⟩
/-- numbers put over the old ones from place k on -/
def over (H : List Int) (k : Nat) : List Int → List Int
  | [] => H
  | x :: r => over (H.set k x) (k + 1) r
theorem over_length (l : List Int) : ∀ (H : List Int) (k : Nat), (over H k l).length = H.length := by
  induction l with
  | nil => intro H k; rfl
  | cons x r ih => intro H k; rw [over, ih]; simp
theorem over_get (l : List Int) : ∀ (H : List Int) (k j : Nat), k + l.length ≤ H.length → (over H k l)[j]? = if k ≤ j ∧ j < k + l.length then l[j - k]? else H[j]? := by
  induction l with
  | nil => intro H k j _; rw [if_neg (by simp)]; rfl
  | cons x r ih =>
    intro H k j hk
    rw [List.length_cons] at hk
    rw [over, ih _ _ _ (by simp; omega), List.length_cons]
    by_cases h1 : k + 1 ≤ j ∧ j < k + 1 + r.length
    · rw [if_pos h1, if_pos (by omega), show j - k = (j - (k + 1)) + 1 by omega, List.getElem?_cons_succ]
    · rw [if_neg h1]
      by_cases h2 : j = k
      · subst h2
        rw [if_pos (by omega), Nat.sub_self, List.getElem?_cons_zero, List.getElem?_set_self (by omega)]
      · rw [List.getElem?_set_ne (by omega), if_neg (by omega)]
theorem over_mid (a b c l : List Int) (h : l.length = b.length) : over (a ++ (b ++ c)) a.length l = a ++ (l ++ c) := by
  apply List.ext_getElem?
  intro j
  rw [over_get _ _ _ _ (by simp; omega)]
  by_cases h1 : a.length ≤ j ∧ j < a.length + l.length
  · rw [if_pos h1, List.getElem?_append_right (by omega), List.getElem?_append_left (by omega)]
  · rw [if_neg h1]
    by_cases h2 : j < a.length
    · rw [List.getElem?_append_left h2, List.getElem?_append_left h2]
    · rw [List.getElem?_append_right (by omega), List.getElem?_append_right (by omega), List.getElem?_append_right (by omega), List.getElem?_append_right (by omega), h]
theorem Dn.setMany : ∀ (l : List Int) (W : World) (H : List Int) (k : Nat), Dn W p vC vK vO H → Dn (W.setCells p (3 + k) (Ints.iv l)) p vC vK vO (over H k l)
  | [], W, H, k, h => h
  | x :: r, W, H, k, h => by
    have := Dn.setMany r _ _ (k + 1) (h.set k x)
    exact this
theorem Sk.set (h : Sk W p H) (j : Nat) (x : Int) : Sk (W.setCell ⟨p, j, none⟩ (.int .i64 x)) p (H.set j x) := by
  have := Blk.set h j (.int .i64 x)
  rw [List.setIfInBounds_toArray, ← Ints.iv_set] at this
  exact this
theorem Sk.setMany : ∀ (l : List Int) (W : World) (H : List Int) (k : Nat), Sk W p H → Sk (W.setCells p k (Ints.iv l)) p (over H k l)
  | [], W, H, k, h => h
  | x :: r, W, H, k, h => by
    have := Sk.setMany r _ _ (k + 1) (h.set k x)
    exact this
end
theorem setCells_below {B p : Nat} (hp : B ≤ p) : ∀ (l : List Value) (k : Nat) (W : World), Below B W (W.setCells p k l)
  | [], k, W => Below.refl _ _
  | x :: r, k, W => ((Below.refl B W).setCell (p := ⟨p, k, none⟩) hp x).trans (setCells_below hp r (k + 1) _)
theorem setCells_block {p q : Nat} (hpq : q ≠ p) : ∀ (l : List Value) (k : Nat) (W : World), (W.setCells p k l).heap[q]? = W.heap[q]?
  | [], k, W => rfl
  | x :: r, k, W => (setCells_block hpq r (k + 1) _).trans (Below.heap_setCell W ⟨p, k, none⟩ x q hpq)
theorem setCells_size (p : Nat) : ∀ (l : List Value) (k : Nat) (W : World), (W.setCells p k l).heap.size = W.heap.size
  | [], k, W => rfl
  | x :: r, k, W => (setCells_size p r (k + 1) _).trans (by simp [World.setCell])
theorem Sk.other {W : World} {p q : Nat} {H : List Int} (h : Sk W p H) (hne : p ≠ q) (k : Nat) (l : List Value) : Sk (W.setCells q k l) p H := (setCells_block hne l k W).trans h
theorem Dn.others {W : World} {p q : Nat} {vC vK vO : Value} {H : List Int} (h : Dn W p vC vK vO H) (hne : p ≠ q) (k : Nat) (l : List Value) : Dn (W.setCells q k l) p vC vK vO H := (setCells_block hne l k W).trans h

/-! ### worlds in which one old block alone may have changed -/
/-- from W to W' no block has changed but p and new ones -/
structure Only (p : Nat) (W W' : World) : Prop where
  os : W'.os = W.os
  tape : W'.tape = W.tape
  output : W'.output = W.output
  size : W.heap.size ≤ W'.heap.size
  block : ∀ i, i < W.heap.size → i ≠ p → W'.heap[i]? = W.heap[i]?
section
variable {p : Nat} {W W' W'' : World}
theorem Only.refl (p : Nat) (W : World) : Only p W W := ⟨rfl, rfl, rfl, Nat.le_refl _, fun _ _ _ => rfl⟩
theorem Only.trans (h : Only p W W') (h' : Only p W' W'') : Only p W W'' :=
  ⟨h'.os.trans h.os, h'.tape.trans h.tape, h'.output.trans h.output, Nat.le_trans h.size h'.size, fun i hi hp => (h'.block i (Nat.lt_of_lt_of_le hi h.size) hp).trans (h.block i hi hp)⟩
theorem Only.below (h : Only p W W') {B : Nat} (hB : B ≤ W.heap.size) (hp : B ≤ p) : Below B W W' :=
  ⟨h.os, h.tape, h.output, h.size, fun i hi => h.block i (by omega) (by omega)⟩
theorem Only.of (h : Below W.heap.size W W') : Only p W W' := ⟨h.os, h.tape, h.output, h.size, fun i hi _ => h.block i hi⟩
theorem Only.ofB {B : Nat} (h : Below B W W') (hB : W.heap.size ≤ B) : Only p W W' := ⟨h.os, h.tape, h.output, h.size, fun i hi _ => h.block i (by omega)⟩
theorem Only.drew (h : Only p W W') : Only p W W'.drew := ⟨h.os, h.tape, h.output, h.size, h.block⟩
theorem Only.undrew (h : Only p W.drew W') : Only p W W' := ⟨h.os, h.tape, h.output, h.size, h.block⟩
theorem Only.set (h : Only p W W') (i : Nat) (u : Value) : Only p W (W'.setCell ⟨p, i, none⟩ u) :=
  ⟨h.os, h.tape, h.output, by simp [World.setCell]; exact h.size, fun j hj hp => (Below.heap_setCell W' ⟨p, i, none⟩ u j hp).trans (h.block j hj hp)⟩
theorem Only.setMany (h : Only p W W') (k : Nat) (l : List Value) : Only p W (W'.setCells p k l) := by
  have b := setCells_below (B := 0) (p := p) (Nat.zero_le _) l k W'
  exact ⟨b.os.trans h.os, b.tape.trans h.tape, b.output.trans h.output, Nat.le_trans h.size b.size, fun j hj hp => (setCells_block hp l k W').trans (h.block j hj hp)⟩
theorem Only.setNew (h : Only p W W') {q : Nat} (hq : W.heap.size ≤ q) (i : Nat) (u : Value) : Only p W (W'.setCell ⟨q, i, none⟩ u) :=
  ⟨h.os, h.tape, h.output, by simp [World.setCell]; exact h.size, fun j hj hp => (Below.heap_setCell W' ⟨q, i, none⟩ u j (show j ≠ q by omega)).trans (h.block j hj hp)⟩
theorem Only.alloc (h : Only p W W') (o : Obj) : Only p W (W'.alloc o) := h.trans (Only.of (alloc_below W' o))
theorem Dn.only {q : Nat} {vC vK vO : Value} {H : List Int} (h : Dn W q vC vK vO H) (ho : Only p W W') (hne : q ≠ p) : Dn W' q vC vK vO H := (ho.block q h.lt hne).trans h
theorem Sk.only {q : Nat} {H : List Int} (h : Sk W q H) (ho : Only p W W') (hne : q ≠ p) : Sk W' q H := (ho.block q h.lt hne).trans h
end
/-- what an OpAbort panics with -/
abbrev gave : Value := .iface 175 (.agg #[])
end Ops
end Go.Proofs.Ytajbmokidcdfnaa
/- The closure that recovers, and what reaches leaves by its door. -/
set_option linter.unusedVariables false
set_option linter.unusedSimpArgs false
namespace Go.Proofs.Ytajbmokidcdfnaa
open Go.RowKit
namespace Ops
open Bas Flat

theorem ta_gave (w : World) : (Instr.typeAssert gave 20 175 true).run Try.prog w = .ok (.tuple #[.agg #[], .bool true]) w := by kernel_rfl
theorem ta_nil (w : World) : (Instr.typeAssert .nilIface 20 175 true).run Try.prog w = .ok (.tuple #[.agg #[], .bool false]) w := by kernel_rfl
theorem ne_gave (w : World) : (binOp .neq 20 gave .nilIface).run Try.prog w = .ok (.bool true) w := by kernel_rfl
theorem ne_nil (w : World) : (binOp .neq 20 .nilIface .nilIface).run Try.prog w = .ok (.bool false) w := by kernel_rfl
theorem eq_gave (w : World) : (binOp .eql 20 gave .nilIface).run Try.prog w = .ok (.bool false) w := by kernel_rfl
theorem eq_nil (w : World) : (binOp .eql 20 .nilIface .nilIface).run Try.prog w = .ok (.bool true) w := by kernel_rfl
theorem rep18 : Array.replicate 18 undef = #[undef, undef, undef, undef, undef, undef, undef, undef, undef, undef, undef, undef, undef, undef, undef, undef, undef, undef] := rfl

set_option maxRecDepth 100000 in
set_option maxHeartbeats 1600000 in
/-- a frame that gives up: the panic is taken, and the result says so -/
theorem catchPanic (q : Nat) (w : World) (b : Bool) (hc : w.cell? ⟨q, 0, none⟩ = some (.bool b)) (hz : w.frozen? ⟨q, 0, none⟩ = false) :
    CallsD Try.prog 143 #[.pointer (some ⟨q, 0, none⟩)] (.panicking ({ v := gave, recovered := false } :: [])) w fun e u' w' =>
      e = .returned (.tuple #[]) ∧ u' = .panicking ({ v := gave, recovered := true } :: []) ∧ w' = (w.alloc (.cells #[] 175)).setCell ⟨q, 0, none⟩ (.bool false) := by
  have hq := World.block_lt_of_cell? w _ hc
  have hc2 : (w.alloc (.cells #[] 175)).cell? ⟨q, 0, none⟩ = some (.bool b) := by rw [World.cell?_alloc_lt _ _ _ hq]; exact hc
  have hz2 : (w.alloc (.cells #[] 175)).frozen? ⟨q, 0, none⟩ = false := by rw [World.frozen?_alloc_past _ _ _ hq]; exact hz
  clear hc hz hq
  refine callsD_of_wpS Try.func143 rfl fun c₀ cs hu => ?_
  apply wpS_seq
  apply wpS_region
  simp [wpOpsS, go_sem, recoverD, hu, Try.ntmps143, Exit.thenS, rep18]
  have h1 := fun w => ta_gave w
  have h2 := fun w => ne_gave w
  have h3 := fun w => eq_gave w
  have hz0 : ∀ w : World, (zeroValue 175).run Try.prog w = .ok (.agg #[]) w := fun _ => by kernel_rfl
  refine wpS_of_wp ?_
  go_wp2
  simp [bodyPostS, results, Try.results143]
set_option maxRecDepth 100000 in
set_option maxHeartbeats 1600000 in
/-- a frame that returns: the result says so -/
theorem catchIdle (q : Nat) (w : World) (b : Bool) (hc : w.cell? ⟨q, 0, none⟩ = some (.bool b)) (hz : w.frozen? ⟨q, 0, none⟩ = false) :
    CallsD Try.prog 143 #[.pointer (some ⟨q, 0, none⟩)] .returning w fun e u' w' =>
      e = .returned (.tuple #[]) ∧ u' = .returning ∧ w' = (w.alloc (.cells #[] 175)).setCell ⟨q, 0, none⟩ (.bool true) := by
  have hq := World.block_lt_of_cell? w _ hc
  have hc2 : (w.alloc (.cells #[] 175)).cell? ⟨q, 0, none⟩ = some (.bool b) := by rw [World.cell?_alloc_lt _ _ _ hq]; exact hc
  have hz2 : (w.alloc (.cells #[] 175)).frozen? ⟨q, 0, none⟩ = false := by rw [World.frozen?_alloc_past _ _ _ hq]; exact hz
  clear hc hz hq
  refine callsD_of_wpS Try.func143 rfl fun c₀ cs hu => ?_
  apply wpS_seq
  apply wpS_region
  simp [wpOpsS, go_sem, recoverD, hu, Try.ntmps143, Exit.thenS, rep18]
  have h1 := fun w => ta_nil w
  have h2 := fun w => ne_nil w
  have h3 := fun w => eq_nil w
  have hz0 : ∀ w : World, (zeroValue 175).run Try.prog w = .ok (.agg #[]) w := fun _ => by kernel_rfl
  refine wpS_of_wp ?_
  go_wp2
  cases c₀
  simp_all [bodyPostS, results, Try.results143]
end Ops
end Go.Proofs.Ytajbmokidcdfnaa
/- What reaches answers, if step does what it should. -/
set_option linter.unusedVariables false
set_option linter.unusedSimpArgs false
namespace Go.Proofs.Ytajbmokidcdfnaa
open Go.RowKit
namespace Ops
open Bas Flat

/-- a doing on its way: its block, its code -/
structure Dc (B : Nat) (W : World) (p : Nat) (vC vK vO : Value) (xs : List O4) (r : List Int) (t : Th) : Prop where
  d : Dn W p vC vK vO (nums r t)
  c : Sees4 B W vC xs
  hB : B ≤ p
section
variable {B p : Nat} {W W' : World} {vC vK vO : Value} {xs : List O4} {r : List Int} {t : Th}
theorem Dc.on (h : Dc B W p vC vK vO xs r t) {B' : Nat} (hb : Below B' W W') (hp : p < B') : Dc B W' p vC vK vO xs r t :=
  { d := h.d.on hb hp, c := h.c.on hb (by have := h.hB; omega), hB := h.hB }
theorem Dc.drew (h : Dc B W p vC vK vO xs r t) : Dc B W.drew p vC vK vO xs r t := { d := h.d, c := h.c, hB := h.hB }
theorem Dc.code (h : Dc B W p vC vK vO xs r t) (ho : Only p W W') : Sees4 B W' vC xs := h.c.on (ho.below (B := B) (by have := h.hB; have := h.d.lt; omega) h.hB) (Nat.le_refl _)
end
/-- a premise about worlds that stays while p alone changes -/
def Stays (p : Nat) (Q : World → Prop) : Prop := ∀ W W', Q W → Only p W W' → Q W'
/-- what step does -/
def StepTo (B p : Nat) (vC vK vO : Value) (xs : List O4) (t0 : Th) (F : List Int → Th → List Int × Th) (s : Cf) (W : World) : Ending → World → Prop := fun e W' =>
  (∃ (i : Nat) (r : List Int) (t : Th), e = .returned (.int .i64 (i : Int)) ∧ s.pc < i ∧ Leads xs t0 F s ⟨i, r, t, s.k⟩ ∧ CfOk xs ⟨i, r, t, s.k⟩ ∧ Dc B W' p vC vK vO xs r t ∧ Only p W W') ∨
  ((∃ h : s.pc < xs.length, xs[s.pc].k = 10) ∧ e = .panicked [{ v := gave, recovered := false }] ∧ Dc B W' p vC vK vO xs s.r s.t ∧ Only p W W')
/-- what reaches does -/
def ReachTo (B p : Nat) (vC vK vO : Value) (xs : List O4) (t0 : Th) (F : List Int → Th → List Int × Th) (s : Cf) (to : Nat) (W : World) : Ending → World → Prop := fun e W' =>
  ∃ (b : Bool) (r : List Int) (t : Th), e = .returned (.bool b) ∧ SegEnds xs t0 F s to b r t ∧ Dc B W' p vC vK vO xs r t ∧ Only p W W'

set_option maxRecDepth 100000 in
set_option maxHeartbeats 3200000 in
theorem reachOf (B p : Nat) (vC vK vO : Value) (xs : List O4) (t0 : Th) (F : List Int → Th → List Int × Th) (Q : World → Prop) (hQ : Stays p Q) (fr to : Nat) (hseg : Seg xs fr to) (hlen : xs.length ≤ 1048576)
    (hstep : ∀ (s : Cf) (W : World), fr ≤ s.pc → s.pc < to → CfOk xs s → stAt xs s.pc = stAt xs fr → Dc B W p vC vK vO xs s.r s.t → Q W →
      Calls Try.prog 144 #[.pointer (some ⟨p, 0, none⟩), .int .i64 (s.pc : Int)] W (StepTo B p vC vK vO xs t0 F s W))
    (s : Cf) (hs : CfOk xs s) (hpc : s.pc = fr) (W : World) (hd : Dc B W p vC vK vO xs s.r s.t) (hq : Q W) :
    Calls Try.prog 119 #[.pointer (some ⟨p, 0, none⟩), .int .i64 (fr : Int), .int .i64 (to : Int)] W (ReachTo B p vC vK vO xs t0 F s to W) := by
  have hmf : ∀ (fn : Fn) (first cap : Array Value) (w : World), (Instr.makeFunc fn first cap).run Try.prog w = .ok (.func fn first cap) w := fun _ _ _ _ => rfl
  obtain ⟨q, hqq⟩ : ∃ q, W.heap.size = q := ⟨_, rfl⟩
  have hp := hd.d.lt
  have R1 := Blk.new W #[.bool false] 4
  have b1 := alloc_below W (.cells #[.bool false] 4)
  have d1 := hd.on b1 hp
  have o1 : Only p W (W.alloc (.cells #[.bool false] 4)) := Only.of b1
  have q1 := hQ _ _ hq o1
  rw [hqq] at R1 hp
  obtain ⟨W1, hW1⟩ : ∃ W1, W.alloc (.cells #[.bool false] 4) = W1 := ⟨_, rfl⟩
  have HW1 := (show Hid _ from hW1)
  rw [hW1] at R1 d1 o1 q1
  clear hW1 b1
  go_enter_defers Try.func119, Try.ntmps119
  go_wp2
  rw [HW1.out]
  go_loopw [7] (fun iv wr => ∃ (k : Nat) (r : List Int) (t : Th), iv = .int .i64 (k : Int) ∧ fr ≤ k ∧ k ≤ to ∧ Leads xs t0 F s ⟨k, r, t, s.k⟩ ∧ CfOk xs ⟨k, r, t, s.k⟩ ∧ Dc B wr p vC vK vO xs r t ∧ Only p W wr ∧ Q wr ∧ Blk wr q #[.bool false] 4) (fun iv _ => to - (intOf iv).toNat)
  case atStart => exact ⟨fr, s.r, s.t, rfl, Nat.le_refl _, hseg.le, by rw [← hpc]; exact Leads.refl _, by rw [← hpc]; exact hs, d1, o1, q1, R1⟩
  case round =>
    obtain ⟨k, r, t, rfl, h1, h2, hl, hok, hd2, ho, hq2, hR⟩ := hrel
    clear d1 o1 q1 R1 hd hq HW1
    by_cases hlt : k < to
    · have i1 : (k : Int) < to := by omega
      have hst : stAt xs k = stAt xs fr := by
        have a := hok.st
        have b := hs.st
        rw [hpc] at b
        exact a.trans b.symm
      have cS := hstep ⟨k, r, t, s.k⟩ wr h1 hlt hok hst hd2 hq2
      go_wp2_with fail
      refine cS.mono ?_
      rintro e w2 (⟨i2, r2, t2, rfl, hi2, hl2, hok2, hd3, ho3⟩ | ⟨⟨hk, h10⟩, rfl, hd3, ho3⟩)
      · have hle : i2 ≤ to := hseg.cap i2 hok2.pc (by
          have a := hok2.st
          have b := hok.st
          exact (a.trans b.symm).trans hst)
        have hR2 : Blk w2 q #[.bool false] 4 := (ho3.block q hR.lt (by omega)).trans hR
        have hi2' : k < i2 := hi2
        go_wp2
        go_roundw
        case rel => exact ⟨i2, r2, t2, rfl, by omega, hle, hl.trans hl2, hok2, hd3, ho.trans ho3, hQ _ _ hq2 ho3, hR2⟩
        case measure => simp [intOf]; omega
      · have hR2 : Blk w2 q #[.bool false] 4 := (ho3.block q hR.lt (by omega)).trans hR
        have r0 := hR2.cell 0
        have f0 := hR2.froz 0
        have h0 : w2.cell? ⟨q, 0, none⟩ = some (.bool false) := r0
        have bF : Below q w2 ((w2.alloc (.cells #[] 175)).setCell ⟨q, 0, none⟩ (.bool false)) := ((alloc_below w2 _).mono (Nat.le_of_lt hR2.lt)).setCell (p := ⟨q, 0, none⟩) (Nat.le_refl _) _
        have oF : Only p W ((w2.alloc (.cells #[] 175)).setCell ⟨q, 0, none⟩ (.bool false)) := ((ho.trans ho3).alloc _).setNew (by omega) _ _
        have dF := hd3.on bF hp
        have hE : SegEnds xs t0 F s to false r t := .gave hk h10 hl hok
        have HR3 : Blk ((w2.alloc (.cells #[] 175)).setCell ⟨q, 0, none⟩ (.bool false)) q #[.bool false] 4 := ((hR2.on (alloc_below w2 _) hR2.lt).set 0 (.bool false))
        go_wp2
        refine leaves_cons (f := 143) (args := #[.pointer (some ⟨q, 0, none⟩)]) (by simp) (by simp [go_sem]) ?_
        refine (catchPanic q w2 false h0 f0).mono ?_
        rintro e u' w'' ⟨rfl, rfl, rfl⟩
        have r3 := HR3.cell 0
        have f3 := HR3.froz 0
        have r3 : ((w2.alloc (.cells #[] 175)).setCell ⟨q, 0, none⟩ (.bool false)).cell? ⟨q, 0, none⟩ = some (.bool false) := r3
        obtain ⟨wf, hwf⟩ : ∃ wf, (w2.alloc (.cells #[] 175)).setCell ⟨q, 0, none⟩ (.bool false) = wf := ⟨_, rfl⟩
        rw [hwf] at r3 oF dF ⊢
        clear hwf
        simp [Leaves, settle, results, Try.results119, go_sem, r3]
        exact ⟨_, _, _, rfl, hE, dF, oF⟩
    · obtain rfl : k = to := by omega
      have r0 := hR.cell 0
      have f0 := hR.froz 0
      have h0 : wr.cell? ⟨q, 0, none⟩ = some (.bool false) := r0
      have R2 := hR.set 0 (.bool true)
      have bF : Below q wr (((wr.setCell ⟨q, 0, none⟩ (.bool true)).alloc (.cells #[] 175)).setCell ⟨q, 0, none⟩ (.bool true)) :=
        (((Below.refl q wr).setCell (p := ⟨q, 0, none⟩) (Nat.le_refl _) (.bool true)).trans ((alloc_below _ _).mono (Nat.le_of_lt R2.lt))).setCell (p := ⟨q, 0, none⟩) (Nat.le_refl _) _
      have oF : Only p W (((wr.setCell ⟨q, 0, none⟩ (.bool true)).alloc (.cells #[] 175)).setCell ⟨q, 0, none⟩ (.bool true)) := ((ho.setNew (by omega) _ _).alloc _).setNew (by omega) _ _
      have dF := hd2.on bF hp
      have hE : SegEnds xs t0 F s k true r t := .done hl hok
      have HR3 : Blk (((wr.setCell ⟨q, 0, none⟩ (.bool true)).alloc (.cells #[] 175)).setCell ⟨q, 0, none⟩ (.bool true)) q #[.bool true] 4 := ((R2.on (alloc_below _ _) R2.lt).set 0 (.bool true))
      have r2 : (wr.setCell ⟨q, 0, none⟩ (.bool true)).cell? ⟨q, 0, none⟩ = some (.bool true) := R2.cell 0
      have f2 : (wr.setCell ⟨q, 0, none⟩ (.bool true)).frozen? ⟨q, 0, none⟩ = false := R2.froz 0
      go_wp2
      refine leaves_cons (f := 143) (args := #[.pointer (some ⟨q, 0, none⟩)]) (by simp) (by simp [go_sem]) ?_
      refine (catchIdle q _ true r2 f2).mono ?_
      rintro e u' w'' ⟨rfl, rfl, rfl⟩
      have r3 : (((wr.setCell ⟨q, 0, none⟩ (.bool true)).alloc (.cells #[] 175)).setCell ⟨q, 0, none⟩ (.bool true)).cell? ⟨q, 0, none⟩ = some (.bool true) := HR3.cell 0
      obtain ⟨wf, hwf⟩ : ∃ wf, (((wr.setCell ⟨q, 0, none⟩ (.bool true)).alloc (.cells #[] 175)).setCell ⟨q, 0, none⟩ (.bool true)) = wf := ⟨_, rfl⟩
      rw [hwf] at r3 oF dF ⊢
      clear hwf
      simp [Leaves, settle, results, Try.results119, go_sem, r3]
      exact ⟨_, _, _, rfl, hE, dF, oF⟩
end Ops
end Go.Proofs.Ytajbmokidcdfnaa
/- Registers, cells, map and counter of a doing, each by its place. -/
set_option linter.unusedVariables false
set_option linter.unusedSimpArgs false
namespace Go.Proofs.Ytajbmokidcdfnaa
open Go.RowKit
namespace Ops
open Bas Flat

section
variable {W : World} {p : Nat} {vC vK vO : Value} {r : List Int} {t : Th}
theorem rd_nat {l : List Int} {a : Nat} (h : a < l.length) : rd l (a : Int) = l[a] := by unfold rd; rw [Int.toNat_natCast, List.getD_eq_getElem?_getD, List.getElem?_eq_getElem h]; rfl
theorem Dn.reg (h : Dn W p vC vK vO (nums r t)) (hr : r.length = 4) {a : Nat} (ha : a < 4) : W.cell? ⟨p, 3 + a, none⟩ = some (.int .i64 (rd r (a : Int))) := by
  rw [rd_nat (by omega), h.num a (by simp [nums]; omega)]
  congr 2
  unfold nums
  exact List.getElem_append_left (by omega)
theorem Dn.cel (h : Dn W p vC vK vO (nums r t)) (hr : r.length = 4) (hc : t.c.length = 8) {a : Nat} (ha : a < 8) : W.cell? ⟨p, 7 + a, none⟩ = some (.int .i64 (rd t.c (a : Int))) := by
  rw [rd_nat (by omega), show 7 + a = 3 + (4 + a) by omega, h.num (4 + a) (by simp [nums]; omega)]
  congr 2
  have : (nums r t)[4 + a]? = some t.c[a] := by
    unfold nums
    rw [List.getElem?_append_right (by omega), hr, Nat.add_sub_cancel_left, List.getElem?_append_left (by omega), List.getElem?_eq_getElem]
  rw [List.getElem?_eq_getElem (by simp [nums]; omega)] at this
  exact Option.some.inj this
theorem Dn.key (h : Dn W p vC vK vO (nums r t)) (hr : r.length = 4) (hc : t.c.length = 8) (hm : t.m.length = 8) {a : Nat} (ha : a < 8) : W.cell? ⟨p, 15 + a, none⟩ = some (.int .i64 (rd t.m (a : Int))) := by
  rw [rd_nat (by omega), show 15 + a = 3 + (12 + a) by omega, h.num (12 + a) (by simp [nums]; omega)]
  congr 2
  have : (nums r t)[12 + a]? = some t.m[a] := by
    unfold nums
    rw [List.getElem?_append_right (by omega), hr, List.getElem?_append_right (by omega), hc, show 12 + a - 4 - 8 = a by omega, List.getElem?_append_left (by omega), List.getElem?_eq_getElem]
  rw [List.getElem?_eq_getElem (by simp [nums]; omega)] at this
  exact Option.some.inj this
theorem Dn.cnt (h : Dn W p vC vK vO (nums r t)) (hr : r.length = 4) (hc : t.c.length = 8) (hm : t.m.length = 8) : W.cell? ⟨p, 23, none⟩ = some (.int .i64 t.n) := by
  rw [show 23 = 3 + 20 by omega, h.num 20 (by simp [nums]; omega)]
  congr 2
  have : (nums r t)[20]? = some t.n := by
    unfold nums
    rw [List.getElem?_append_right (by omega), hr, List.getElem?_append_right (by omega), hc, List.getElem?_append_right (by omega), hm]; rfl
  rw [List.getElem?_eq_getElem (by simp [nums]; omega)] at this
  exact Option.some.inj this
theorem Dn.setReg (h : Dn W p vC vK vO (nums r t)) (hr : r.length = 4) {a : Nat} (ha : a < 4) (x : Int) : Dn (W.setCell ⟨p, 3 + a, none⟩ (.int .i64 x)) p vC vK vO (nums (wr r (a : Int) x) t) := by
  have := h.set a x
  have e : (nums r t).set a x = nums (wr r (a : Int) x) t := by
    unfold nums wr
    rw [List.set_append_left _ _ (by omega), Int.toNat_natCast]
  rw [e] at this; exact this
theorem Dn.setCel (h : Dn W p vC vK vO (nums r t)) (hr : r.length = 4) (hc : t.c.length = 8) {a : Nat} (ha : a < 8) (x : Int) : Dn (W.setCell ⟨p, 7 + a, none⟩ (.int .i64 x)) p vC vK vO (nums r { t with c := wr t.c (a : Int) x }) := by
  have := h.set (4 + a) x
  have e : (nums r t).set (4 + a) x = nums r { t with c := wr t.c (a : Int) x } := by
    unfold nums wr
    rw [List.set_append_right _ _ (by omega), hr, Nat.add_sub_cancel_left, List.set_append_left _ _ (by omega), Int.toNat_natCast]
  rw [e, show 3 + (4 + a) = 7 + a by omega] at this; exact this
theorem Dn.setKey (h : Dn W p vC vK vO (nums r t)) (hr : r.length = 4) (hc : t.c.length = 8) (hm : t.m.length = 8) {a : Nat} (ha : a < 8) (x : Int) : Dn (W.setCell ⟨p, 15 + a, none⟩ (.int .i64 x)) p vC vK vO (nums r { t with m := wr t.m (a : Int) x }) := by
  have := h.set (12 + a) x
  have e : (nums r t).set (12 + a) x = nums r { t with m := wr t.m (a : Int) x } := by
    unfold nums wr
    rw [List.set_append_right _ _ (by omega), hr, List.set_append_right _ _ (by omega), hc, show 12 + a - 4 - 8 = a by omega, List.set_append_left _ _ (by omega), Int.toNat_natCast]
  rw [e, show 3 + (12 + a) = 15 + a by omega] at this; exact this
theorem Dn.setCnt (h : Dn W p vC vK vO (nums r t)) (hr : r.length = 4) (hc : t.c.length = 8) (hm : t.m.length = 8) (x : Int) : Dn (W.setCell ⟨p, 23, none⟩ (.int .i64 x)) p vC vK vO (nums r { t with n := x }) := by
  have := h.set 20 x
  have e : (nums r t).set 20 x = nums r { t with n := x } := by
    unfold nums
    rw [List.set_append_right _ _ (by omega), hr, List.set_append_right _ _ (by omega), hc, List.set_append_right _ _ (by omega), hm]; rfl
  rw [e] at this; exact this
end
/-- a field of an op, as a place -/
theorem nat_of {lo hi x : Int} (h : inn lo hi x = true) (h0 : 0 ≤ lo) : ∃ n : Nat, x = (n : Int) ∧ (n : Int) ≤ hi := by
  unfold inn at h
  simp at h
  exact ⟨x.toNat, by omega, by omega⟩
theorem Only.alloc1 {p : Nat} (W : World) (o : Obj) : Only p W (W.alloc o) := Only.of (alloc_below W o)
end Ops
end Go.Proofs.Ytajbmokidcdfnaa
/- The specification's OpOk. -/
namespace Go.Proofs.Ytajbmokidcdfnaa
open Go.RowKit
namespace Ops

set_option maxRecDepth 100000 in
set_option maxHeartbeats 1600000 in
theorem spec1 (a b c : Int) (w : World) : Calls Try.prog 145 #[opV 1 a b c] w fun e w' => e = .returned (.bool (opOk 1 a b c)) ∧ Below w.heap.size w w' := by
  show Calls _ _ #[.agg #[.int .i64 1, .int .i64 a, .int .i64 b, .int .i64 c]] _ _
  have e0 : opOk 1 a b c = (inn 0 3 a && inn 0 65535 b && (c == 0)) := by simp only [← inn_zero]; rfl
  rw [e0]
  clear e0
  obtain ⟨p0, h0⟩ : ∃ p, (inn 0 3 a) = p := ⟨_, rfl⟩
  obtain ⟨p1, h1⟩ : ∃ p, (inn 0 65535 b) = p := ⟨_, rfl⟩
  rw [h0, h1]
  cases p0 <;> cases p1
  all_goals
    go_enter Try.func145, Try.ntmps145
    go_wp2_with (first | (go_at_call 173; refine (regC a _).mono ?_; rintro e w1 ⟨rfl, rfl⟩; rw [h0]) | (go_at_call 90; refine (valC b _).mono ?_; rintro e w1 ⟨rfl, rfl⟩; rw [h1]))
    go_ret
    exact ⟨by simp, (Below.refl _ _).alloc (Nat.le_refl _) _⟩

set_option maxRecDepth 100000 in
set_option maxHeartbeats 1600000 in
theorem spec2 (a b c : Int) (w : World) : Calls Try.prog 145 #[opV 2 a b c] w fun e w' => e = .returned (.bool (opOk 2 a b c)) ∧ Below w.heap.size w w' := by
  show Calls _ _ #[.agg #[.int .i64 2, .int .i64 a, .int .i64 b, .int .i64 c]] _ _
  have e0 : opOk 2 a b c = (inn 0 3 a && inn 0 3 b && inn 0 3 c) := by rfl
  rw [e0]
  clear e0
  obtain ⟨p0, h0⟩ : ∃ p, (inn 0 3 a) = p := ⟨_, rfl⟩
  obtain ⟨p1, h1⟩ : ∃ p, (inn 0 3 b) = p := ⟨_, rfl⟩
  rw [h0, h1]
  cases p0 <;> cases p1
  all_goals
    go_enter Try.func145, Try.ntmps145
    go_wp2_with (first | (go_at_call 173; refine (regC a _).mono ?_; rintro e w1 ⟨rfl, rfl⟩; rw [h0]) | (go_at_call 173; refine (regC b _).mono ?_; rintro e w1 ⟨rfl, rfl⟩; rw [h1]) | (go_at_call 173; refine (regC c _).mono ?_; rintro e w1 ⟨rfl, rfl⟩))
    go_ret
    exact ⟨by simp, (Below.refl _ _).alloc (Nat.le_refl _) _⟩

set_option maxRecDepth 100000 in
set_option maxHeartbeats 1600000 in
theorem spec3 (a b c : Int) (w : World) : Calls Try.prog 145 #[opV 3 a b c] w fun e w' => e = .returned (.bool (opOk 3 a b c)) ∧ Below w.heap.size w w' := by
  show Calls _ _ #[.agg #[.int .i64 3, .int .i64 a, .int .i64 b, .int .i64 c]] _ _
  have e0 : opOk 3 a b c = (inn 0 3 a && inn 0 3 b && inn 0 3 c) := by rfl
  rw [e0]
  clear e0
  obtain ⟨p0, h0⟩ : ∃ p, (inn 0 3 a) = p := ⟨_, rfl⟩
  obtain ⟨p1, h1⟩ : ∃ p, (inn 0 3 b) = p := ⟨_, rfl⟩
  rw [h0, h1]
  cases p0 <;> cases p1
  all_goals
    go_enter Try.func145, Try.ntmps145
    go_wp2_with (first | (go_at_call 173; refine (regC a _).mono ?_; rintro e w1 ⟨rfl, rfl⟩; rw [h0]) | (go_at_call 173; refine (regC b _).mono ?_; rintro e w1 ⟨rfl, rfl⟩; rw [h1]) | (go_at_call 173; refine (regC c _).mono ?_; rintro e w1 ⟨rfl, rfl⟩))
    go_ret
    exact ⟨by simp, (Below.refl _ _).alloc (Nat.le_refl _) _⟩

set_option maxRecDepth 100000 in
set_option maxHeartbeats 1600000 in
theorem spec4 (a b c : Int) (w : World) : Calls Try.prog 145 #[opV 4 a b c] w fun e w' => e = .returned (.bool (opOk 4 a b c)) ∧ Below w.heap.size w w' := by
  show Calls _ _ #[.agg #[.int .i64 4, .int .i64 a, .int .i64 b, .int .i64 c]] _ _
  have e0 : opOk 4 a b c = (inn 0 3 a && inn 0 3 b && inn 0 3 c) := by rfl
  rw [e0]
  clear e0
  obtain ⟨p0, h0⟩ : ∃ p, (inn 0 3 a) = p := ⟨_, rfl⟩
  obtain ⟨p1, h1⟩ : ∃ p, (inn 0 3 b) = p := ⟨_, rfl⟩
  rw [h0, h1]
  cases p0 <;> cases p1
  all_goals
    go_enter Try.func145, Try.ntmps145
    go_wp2_with (first | (go_at_call 173; refine (regC a _).mono ?_; rintro e w1 ⟨rfl, rfl⟩; rw [h0]) | (go_at_call 173; refine (regC b _).mono ?_; rintro e w1 ⟨rfl, rfl⟩; rw [h1]) | (go_at_call 173; refine (regC c _).mono ?_; rintro e w1 ⟨rfl, rfl⟩))
    go_ret
    exact ⟨by simp, (Below.refl _ _).alloc (Nat.le_refl _) _⟩

set_option maxRecDepth 100000 in
set_option maxHeartbeats 1600000 in
theorem spec5 (a b c : Int) (w : World) : Calls Try.prog 145 #[opV 5 a b c] w fun e w' => e = .returned (.bool (opOk 5 a b c)) ∧ Below w.heap.size w w' := by
  show Calls _ _ #[.agg #[.int .i64 5, .int .i64 a, .int .i64 b, .int .i64 c]] _ _
  have e0 : opOk 5 a b c = (inn 0 3 a && inn 0 7 b && (c == 0)) := by simp only [← inn_zero]; rfl
  rw [e0]
  clear e0
  obtain ⟨p0, h0⟩ : ∃ p, (inn 0 3 a) = p := ⟨_, rfl⟩
  obtain ⟨p1, h1⟩ : ∃ p, (inn 0 7 b) = p := ⟨_, rfl⟩
  rw [h0, h1]
  cases p0 <;> cases p1
  all_goals
    go_enter Try.func145, Try.ntmps145
    go_wp2_with (first | (go_at_call 173; refine (regC a _).mono ?_; rintro e w1 ⟨rfl, rfl⟩; rw [h0]) | (go_at_call 103; refine (cellC b _).mono ?_; rintro e w1 ⟨rfl, rfl⟩; rw [h1]))
    go_ret
    exact ⟨by simp, (Below.refl _ _).alloc (Nat.le_refl _) _⟩

set_option maxRecDepth 100000 in
set_option maxHeartbeats 1600000 in
theorem spec6 (a b c : Int) (w : World) : Calls Try.prog 145 #[opV 6 a b c] w fun e w' => e = .returned (.bool (opOk 6 a b c)) ∧ Below w.heap.size w w' := by
  show Calls _ _ #[.agg #[.int .i64 6, .int .i64 a, .int .i64 b, .int .i64 c]] _ _
  have e0 : opOk 6 a b c = (inn 0 7 a && inn 0 3 b && (c == 0)) := by simp only [← inn_zero]; rfl
  rw [e0]
  clear e0
  obtain ⟨p0, h0⟩ : ∃ p, (inn 0 7 a) = p := ⟨_, rfl⟩
  obtain ⟨p1, h1⟩ : ∃ p, (inn 0 3 b) = p := ⟨_, rfl⟩
  rw [h0, h1]
  cases p0 <;> cases p1
  all_goals
    go_enter Try.func145, Try.ntmps145
    go_wp2_with (first | (go_at_call 103; refine (cellC a _).mono ?_; rintro e w1 ⟨rfl, rfl⟩; rw [h0]) | (go_at_call 173; refine (regC b _).mono ?_; rintro e w1 ⟨rfl, rfl⟩; rw [h1]))
    go_ret
    exact ⟨by simp, (Below.refl _ _).alloc (Nat.le_refl _) _⟩

set_option maxRecDepth 100000 in
set_option maxHeartbeats 1600000 in
theorem spec7 (a b c : Int) (w : World) : Calls Try.prog 145 #[opV 7 a b c] w fun e w' => e = .returned (.bool (opOk 7 a b c)) ∧ Below w.heap.size w w' := by
  show Calls _ _ #[.agg #[.int .i64 7, .int .i64 a, .int .i64 b, .int .i64 c]] _ _
  have e0 : opOk 7 a b c = (inn 0 3 a && inn 1 20 b && (c == 0)) := by simp only [← inn_zero]; rfl
  rw [e0]
  clear e0
  obtain ⟨p0, h0⟩ : ∃ p, (inn 0 3 a) = p := ⟨_, rfl⟩
  obtain ⟨p1, h1⟩ : ∃ p, (inn 1 20 b) = p := ⟨_, rfl⟩
  rw [h0, h1]
  cases p0 <;> cases p1
  all_goals
    go_enter Try.func145, Try.ntmps145
    go_wp2_with (first | (go_at_call 173; refine (regC a _).mono ?_; rintro e w1 ⟨rfl, rfl⟩; rw [h0]) | (go_at_call 50; refine (innC b 1 20 _).mono ?_; rintro e w1 ⟨rfl, rfl⟩; rw [h1]))
    go_ret
    exact ⟨by simp, (Below.refl _ _).alloc (Nat.le_refl _) _⟩

set_option maxRecDepth 100000 in
set_option maxHeartbeats 1600000 in
theorem spec8 (a b c : Int) (w : World) : Calls Try.prog 145 #[opV 8 a b c] w fun e w' => e = .returned (.bool (opOk 8 a b c)) ∧ Below w.heap.size w w' := by
  show Calls _ _ #[.agg #[.int .i64 8, .int .i64 a, .int .i64 b, .int .i64 c]] _ _
  have e0 : opOk 8 a b c = (inn 0 3 a && (b == 0) && (c == 0)) := by simp only [← inn_zero]; rfl
  rw [e0]
  clear e0
  obtain ⟨p0, h0⟩ : ∃ p, (inn 0 3 a) = p := ⟨_, rfl⟩
  obtain ⟨p1, h1⟩ : ∃ p, ((b == 0)) = p := ⟨_, rfl⟩
  rw [h0, h1]
  cases p0 <;> cases p1
  all_goals
    go_enter Try.func145, Try.ntmps145
    go_wp2_with (first | (go_at_call 173; refine (regC a _).mono ?_; rintro e w1 ⟨rfl, rfl⟩; rw [h0]))
    go_ret
    exact ⟨by simp, (Below.refl _ _).alloc (Nat.le_refl _) _⟩

set_option maxRecDepth 100000 in
set_option maxHeartbeats 1600000 in
theorem spec9 (a b c : Int) (w : World) : Calls Try.prog 145 #[opV 9 a b c] w fun e w' => e = .returned (.bool (opOk 9 a b c)) ∧ Below w.heap.size w w' := by
  show Calls _ _ #[.agg #[.int .i64 9, .int .i64 a, .int .i64 b, .int .i64 c]] _ _
  have e0 : opOk 9 a b c = ((a == 0) && (b == 0) && (c == 0)) := by simp only [← inn_zero]; rfl
  rw [e0]
  clear e0
  obtain ⟨p0, h0⟩ : ∃ p, ((a == 0)) = p := ⟨_, rfl⟩
  obtain ⟨p1, h1⟩ : ∃ p, ((b == 0)) = p := ⟨_, rfl⟩
  rw [h0, h1]
  cases p0 <;> cases p1
  all_goals
    go_enter Try.func145, Try.ntmps145
    go_wp2_with fail
    go_ret
    exact ⟨by simp, (Below.refl _ _).alloc (Nat.le_refl _) _⟩

set_option maxRecDepth 100000 in
set_option maxHeartbeats 1600000 in
theorem spec10 (a b c : Int) (w : World) : Calls Try.prog 145 #[opV 10 a b c] w fun e w' => e = .returned (.bool (opOk 10 a b c)) ∧ Below w.heap.size w w' := by
  show Calls _ _ #[.agg #[.int .i64 10, .int .i64 a, .int .i64 b, .int .i64 c]] _ _
  have e0 : opOk 10 a b c = ((a == 0) && (b == 0) && (c == 0)) := by simp only [← inn_zero]; rfl
  rw [e0]
  clear e0
  obtain ⟨p0, h0⟩ : ∃ p, ((a == 0)) = p := ⟨_, rfl⟩
  obtain ⟨p1, h1⟩ : ∃ p, ((b == 0)) = p := ⟨_, rfl⟩
  rw [h0, h1]
  cases p0 <;> cases p1
  all_goals
    go_enter Try.func145, Try.ntmps145
    go_wp2_with fail
    go_ret
    exact ⟨by simp, (Below.refl _ _).alloc (Nat.le_refl _) _⟩

set_option maxRecDepth 100000 in
set_option maxHeartbeats 1600000 in
theorem spec11 (a b c : Int) (w : World) : Calls Try.prog 145 #[opV 11 a b c] w fun e w' => e = .returned (.bool (opOk 11 a b c)) ∧ Below w.heap.size w w' := by
  show Calls _ _ #[.agg #[.int .i64 11, .int .i64 a, .int .i64 b, .int .i64 c]] _ _
  have e0 : opOk 11 a b c = ((a == 0) && (b == 0) && (c == 0)) := by simp only [← inn_zero]; rfl
  rw [e0]
  clear e0
  obtain ⟨p0, h0⟩ : ∃ p, ((a == 0)) = p := ⟨_, rfl⟩
  obtain ⟨p1, h1⟩ : ∃ p, ((b == 0)) = p := ⟨_, rfl⟩
  rw [h0, h1]
  cases p0 <;> cases p1
  all_goals
    go_enter Try.func145, Try.ntmps145
    go_wp2_with fail
    go_ret
    exact ⟨by simp, (Below.refl _ _).alloc (Nat.le_refl _) _⟩

set_option maxRecDepth 100000 in
set_option maxHeartbeats 1600000 in
theorem spec12 (a b c : Int) (w : World) : Calls Try.prog 145 #[opV 12 a b c] w fun e w' => e = .returned (.bool (opOk 12 a b c)) ∧ Below w.heap.size w w' := by
  show Calls _ _ #[.agg #[.int .i64 12, .int .i64 a, .int .i64 b, .int .i64 c]] _ _
  have e0 : opOk 12 a b c = (inn 0 7 a && inn 0 3 b && inn 0 3 c) := by rfl
  rw [e0]
  clear e0
  obtain ⟨p0, h0⟩ : ∃ p, (inn 0 7 a) = p := ⟨_, rfl⟩
  obtain ⟨p1, h1⟩ : ∃ p, (inn 0 3 b) = p := ⟨_, rfl⟩
  rw [h0, h1]
  cases p0 <;> cases p1
  all_goals
    go_enter Try.func145, Try.ntmps145
    go_wp2_with (first | (go_at_call 50; refine (innC a 0 7 _).mono ?_; rintro e w1 ⟨rfl, rfl⟩; rw [h0]) | (go_at_call 173; refine (regC b _).mono ?_; rintro e w1 ⟨rfl, rfl⟩; rw [h1]) | (go_at_call 173; refine (regC c _).mono ?_; rintro e w1 ⟨rfl, rfl⟩))
    go_ret
    exact ⟨by simp, (Below.refl _ _).alloc (Nat.le_refl _) _⟩

set_option maxRecDepth 100000 in
set_option maxHeartbeats 1600000 in
theorem spec13 (a b c : Int) (w : World) : Calls Try.prog 145 #[opV 13 a b c] w fun e w' => e = .returned (.bool (opOk 13 a b c)) ∧ Below w.heap.size w w' := by
  show Calls _ _ #[.agg #[.int .i64 13, .int .i64 a, .int .i64 b, .int .i64 c]] _ _
  have e0 : opOk 13 a b c = (inn 0 3 a && inn 0 7 b && (c == 0)) := by simp only [← inn_zero]; rfl
  rw [e0]
  clear e0
  obtain ⟨p0, h0⟩ : ∃ p, (inn 0 3 a) = p := ⟨_, rfl⟩
  obtain ⟨p1, h1⟩ : ∃ p, (inn 0 7 b) = p := ⟨_, rfl⟩
  rw [h0, h1]
  cases p0 <;> cases p1
  all_goals
    go_enter Try.func145, Try.ntmps145
    go_wp2_with (first | (go_at_call 173; refine (regC a _).mono ?_; rintro e w1 ⟨rfl, rfl⟩; rw [h0]) | (go_at_call 50; refine (innC b 0 7 _).mono ?_; rintro e w1 ⟨rfl, rfl⟩; rw [h1]))
    go_ret
    exact ⟨by simp, (Below.refl _ _).alloc (Nat.le_refl _) _⟩

set_option maxRecDepth 100000 in
set_option maxHeartbeats 1600000 in
theorem spec14 (a b c : Int) (w : World) : Calls Try.prog 145 #[opV 14 a b c] w fun e w' => e = .returned (.bool (opOk 14 a b c)) ∧ Below w.heap.size w w' := by
  show Calls _ _ #[.agg #[.int .i64 14, .int .i64 a, .int .i64 b, .int .i64 c]] _ _
  have e0 : opOk 14 a b c = (inn 0 7 a && inn 0 3 b && (c == 0)) := by simp only [← inn_zero]; rfl
  rw [e0]
  clear e0
  obtain ⟨p0, h0⟩ : ∃ p, (inn 0 7 a) = p := ⟨_, rfl⟩
  obtain ⟨p1, h1⟩ : ∃ p, (inn 0 3 b) = p := ⟨_, rfl⟩
  rw [h0, h1]
  cases p0 <;> cases p1
  all_goals
    go_enter Try.func145, Try.ntmps145
    go_wp2_with (first | (go_at_call 50; refine (innC a 0 7 _).mono ?_; rintro e w1 ⟨rfl, rfl⟩; rw [h0]) | (go_at_call 173; refine (regC b _).mono ?_; rintro e w1 ⟨rfl, rfl⟩; rw [h1]))
    go_ret
    exact ⟨by simp, (Below.refl _ _).alloc (Nat.le_refl _) _⟩

set_option maxRecDepth 100000 in
set_option maxHeartbeats 1600000 in
theorem spec15 (a b c : Int) (w : World) : Calls Try.prog 145 #[opV 15 a b c] w fun e w' => e = .returned (.bool (opOk 15 a b c)) ∧ Below w.heap.size w w' := by
  show Calls _ _ #[.agg #[.int .i64 15, .int .i64 a, .int .i64 b, .int .i64 c]] _ _
  have e0 : opOk 15 a b c = (inn 0 3 a && (b == 0) && (c == 0)) := by simp only [← inn_zero]; rfl
  rw [e0]
  clear e0
  obtain ⟨p0, h0⟩ : ∃ p, (inn 0 3 a) = p := ⟨_, rfl⟩
  obtain ⟨p1, h1⟩ : ∃ p, ((b == 0)) = p := ⟨_, rfl⟩
  rw [h0, h1]
  cases p0 <;> cases p1
  all_goals
    go_enter Try.func145, Try.ntmps145
    go_wp2_with (first | (go_at_call 173; refine (regC a _).mono ?_; rintro e w1 ⟨rfl, rfl⟩; rw [h0]))
    go_ret
    exact ⟨by simp, (Below.refl _ _).alloc (Nat.le_refl _) _⟩

set_option maxRecDepth 100000 in
set_option maxHeartbeats 1600000 in
theorem spec16 (a b c : Int) (w : World) : Calls Try.prog 145 #[opV 16 a b c] w fun e w' => e = .returned (.bool (opOk 16 a b c)) ∧ Below w.heap.size w w' := by
  show Calls _ _ #[.agg #[.int .i64 16, .int .i64 a, .int .i64 b, .int .i64 c]] _ _
  have e0 : opOk 16 a b c = (inn 0 3 a && (b == 0) && (c == 0)) := by simp only [← inn_zero]; rfl
  rw [e0]
  clear e0
  obtain ⟨p0, h0⟩ : ∃ p, (inn 0 3 a) = p := ⟨_, rfl⟩
  obtain ⟨p1, h1⟩ : ∃ p, ((b == 0)) = p := ⟨_, rfl⟩
  rw [h0, h1]
  cases p0 <;> cases p1
  all_goals
    go_enter Try.func145, Try.ntmps145
    go_wp2_with (first | (go_at_call 173; refine (regC a _).mono ?_; rintro e w1 ⟨rfl, rfl⟩; rw [h0]))
    go_ret
    exact ⟨by simp, (Below.refl _ _).alloc (Nat.le_refl _) _⟩

set_option maxRecDepth 100000 in
set_option maxHeartbeats 1600000 in
theorem specNone (k a b c : Int) (w : World) (h : k < 1 ∨ 16 < k) : Calls Try.prog 145 #[opV k a b c] w fun e w' => e = .returned (.bool (opOk k a b c)) ∧ Below w.heap.size w w' := by
  show Calls _ _ #[.agg #[.int .i64 k, .int .i64 a, .int .i64 b, .int .i64 c]] _ _
  have e0 : opOk k a b c = false := by unfold opOk; rw [spans_none h]
  rw [e0]
  clear e0
  have d1 : (k == 1) = false := by simp; omega
  have d2 : (k == 2) = false := by simp; omega
  have d3 : (k == 3) = false := by simp; omega
  have d4 : (k == 4) = false := by simp; omega
  have d5 : (k == 5) = false := by simp; omega
  have d6 : (k == 6) = false := by simp; omega
  have d7 : (k == 7) = false := by simp; omega
  have d8 : (k == 8) = false := by simp; omega
  have d9 : (k == 9) = false := by simp; omega
  have d10 : (k == 10) = false := by simp; omega
  have d11 : (k == 11) = false := by simp; omega
  have d12 : (k == 12) = false := by simp; omega
  have d13 : (k == 13) = false := by simp; omega
  have d14 : (k == 14) = false := by simp; omega
  have d15 : (k == 15) = false := by simp; omega
  have d16 : (k == 16) = false := by simp; omega
  clear h
  go_enter Try.func145, Try.ntmps145
  go_wp2
  go_ret
  exact ⟨rfl, (Below.refl _ _).alloc (Nat.le_refl _) _⟩

theorem specC (k a b c : Int) (w : World) : Calls Try.prog 145 #[opV k a b c] w fun e w' => e = .returned (.bool (opOk k a b c)) ∧ Below w.heap.size w w' := by
  rcases kinds k with rfl | rfl | rfl | rfl | rfl | rfl | rfl | rfl | rfl | rfl | rfl | rfl | rfl | rfl | rfl | rfl | h
  · exact spec1 a b c w
  · exact spec2 a b c w
  · exact spec3 a b c w
  · exact spec4 a b c w
  · exact spec5 a b c w
  · exact spec6 a b c w
  · exact spec7 a b c w
  · exact spec8 a b c w
  · exact spec9 a b c w
  · exact spec10 a b c w
  · exact spec11 a b c w
  · exact spec12 a b c w
  · exact spec13 a b c w
  · exact spec14 a b c w
  · exact spec15 a b c w
  · exact spec16 a b c w
  · exact specNone k a b c w h
end Ops
end Go.Proofs.Ytajbmokidcdfnaa
/- The specification's Calc. -/
namespace Go.Proofs.Ytajbmokidcdfnaa
open Go.RowKit
namespace Ops
open Bas

theorem may_kind {k a b c : Int} (h : opOk k a b c = true) (hk : k ≤ 4) : k = 1 ∨ k = 2 ∨ k = 3 ∨ k = 4 := by
  by_cases h1 : k < 1
  · unfold opOk at h; rw [spans_none (.inl h1)] at h; cases h
  · omega
theorem inn_out {lo hi x : Int} (h : inn lo hi x = true) : lo ≤ x ∧ x ≤ hi := by unfold inn at h; simpa using h
theorem ok_set {a b c : Int} (h : opOk 1 a b c = true) : (0 ≤ a ∧ a ≤ 3) ∧ (0 ≤ b ∧ b ≤ 65535) ∧ c = 0 := by
  have h' : (inn 0 3 a && inn 0 65535 b && inn 0 0 c) = true := h
  rw [Bool.and_eq_true, Bool.and_eq_true] at h'
  have := inn_out h'.2
  exact ⟨inn_out h'.1.1, inn_out h'.1.2, by omega⟩
theorem ok_regs {k a b c : Int} (hk : k = 2 ∨ k = 3 ∨ k = 4) (h : opOk k a b c = true) : (0 ≤ a ∧ a ≤ 3) ∧ (0 ≤ b ∧ b ≤ 3) ∧ (0 ≤ c ∧ c ≤ 3) := by
  have h' : (inn 0 3 a && inn 0 3 b && inn 0 3 c) = true := by rcases hk with rfl | rfl | rfl <;> exact h
  rw [Bool.and_eq_true, Bool.and_eq_true] at h'
  exact ⟨inn_out h'.1.1, inn_out h'.1.2, inn_out h'.2⟩
theorem may_ff {k a b c : Int} {zs : List Int} (h : opOk k a b c = false) : calcMay k a b c zs = false := by unfold calcMay; rw [h]; rfl
theorem may_tf {k a b c : Int} {zs : List Int} (h : opOk k a b c = true) (h2 : regsOk zs = false) : calcMay k a b c zs = false := by unfold calcMay; rw [h, h2]; rfl
theorem may_ttf {k a b c : Int} {zs : List Int} (h3 : ¬ k ≤ 4) : calcMay k a b c zs = false := by unfold calcMay; rw [decide_eq_false h3, Bool.and_false]
theorem may_ttt {k a b c : Int} {zs : List Int} (h : opOk k a b c = true) (h2 : regsOk zs = true) (h3 : k ≤ 4) : calcMay k a b c zs = true := by unfold calcMay; rw [h, h2, decide_eq_true h3]; rfl

/-- what both answer -/
def Calcs (f : FuncId) : Prop := ∀ (k a b c : Int) (v : Value) (zs : List Int) (B : Nat) (w : World), Ints.Sees B w v zs → B ≤ w.heap.size → zs.length ≤ 1048576 →
  Calls Try.prog f #[opV k a b c, v] w fun e w' => ∃ v', e = .returned (.tuple #[v', .bool (calcMay k a b c zs)]) ∧ Ints.Owns w.heap.size w' v' (calcTo k a b c zs) ∧ Below w.heap.size w w'
theorem calc_no {k a b c : Int} {zs : List Int} {B : Nat} {w w0 : World} {v : Value} (h : calcMay k a b c zs = false) (O : Ints.Owns B w v zs) (bel : Below B w0 w) :
    ∃ v', Ending.returned (.tuple #[v, .bool false]) = .returned (.tuple #[v', .bool (calcMay k a b c zs)]) ∧ Ints.Owns B w v' (calcTo k a b c zs) ∧ Below B w0 w := by
  rw [h, calcTo_no h]; exact ⟨v, rfl, O, bel⟩
theorem calc_yes {k a b c : Int} {zs : List Int} {B : Nat} {w w0 : World} {v : Value} {x : Int} {j : Nat} (h : calcMay k a b c zs = true) (ha : a = (j : Int)) (hx : reck k b c zs = x) (O : Ints.Owns B w v (zs.set j x)) (bel : Below B w0 w) :
    ∃ v', Ending.returned (.tuple #[v, .bool true]) = .returned (.tuple #[v', .bool (calcMay k a b c zs)]) ∧ Ints.Owns B w v' (calcTo k a b c zs) ∧ Below B w0 w := by
  rw [h, calcTo_yes h, hx, ha]; exact ⟨v, rfl, O, bel⟩
theorem set_len (zs : List Int) (j : Nat) (x : Int) (n : Nat) (h : zs.length = n) : (zs.set j x).length = n := by simp [h]
/-- a register's number as a place -/
theorem place {a : Int} (h : 0 ≤ a ∧ a ≤ 3) : ∃ j : Nat, a = (j : Int) ∧ j < 4 := ⟨a.toNat, by omega, by omega⟩
theorem getD_at {zs : List Int} {j : Nat} (hj : j < zs.length) : zs.getD ((j : Int)).toNat 0 = zs[j] := by simp [List.getD, hj]

theorem owns_form {B : Nat} {w : World} {v : Value} {zs : List Int} (h : Ints.Owns B w v zs) (hn : 0 < zs.length) : ∃ g cap, v = .slice (some ⟨g, 0, none⟩) zs.length cap ∧ B ≤ g ∧ g < w.heap.size := World.ownsRow.form h hn
theorem owns_low {B n e size g cap : Nat} {w : World} {xs : List Value} (h : w.ownsRow B e size (.slice (some ⟨g, 0, none⟩) n cap) n xs) : B ≤ g ∧ g < w.heap.size := by
  rcases h.2 with ⟨h', _⟩ | ⟨g', cap', cur, h', hb, hg, _⟩
  · cases h'
  · cases h'; exact ⟨hb, (Array.getElem?_eq_some_iff.1 hg).1⟩
theorem sees_out {B n cap : Nat} {w : World} {r : Option Addr} {zs : List Int} (h : Ints.Sees B w (.slice r n cap) zs) (hn : zs.length = 4) : True ∧ True ∧ True ∧ ∃ b off, r = some ⟨b, off, none⟩ ∧ b < B ∧ ∀ j (h : j < zs.length), w.cell? ⟨b, off + j, none⟩ = some (.int .i64 zs[j]) := by
  obtain ⟨a, c, e, -, -, h3⟩ := h
  cases e
  exact ⟨trivial, trivial, trivial, h3 (fun h => by simp [h] at hn)⟩

set_option maxRecDepth 100000 in
set_option maxHeartbeats 4000000 in
theorem calcSpecC : Calcs 125 := by
  intro k a b c v zs B w hv hB hlen
  obtain ⟨r, cap, rfl⟩ := hv.form
  have O0 := Blk.new w #[.int .i64 k, .int .i64 a, .int .i64 b, .int .i64 c] 140
  have b0 := alloc_below w (.cells #[.int .i64 k, .int .i64 a, .int .i64 b, .int .i64 c] 140)
  have hv0 := hv.on b0 hB
  have hs0 := O0.lt
  show Calls _ _ #[.agg #[.int .i64 k, .int .i64 a, .int .i64 b, .int .i64 c], _] _ _
  obtain ⟨n, hn⟩ : ∃ n, zs.length = n := ⟨_, rfl⟩
  obtain ⟨W0, hW0⟩ : ∃ W0, w.alloc (.cells #[.int .i64 k, .int .i64 a, .int .i64 b, .int .i64 c] 140) = W0 := ⟨_, rfl⟩
  rw [hW0] at O0 b0 hv0 hs0
  obtain ⟨v1, w1, hr, P1, b1⟩ := Ints.appLit _ 23 zs B W0 hv0 (by omega) hlen
  obtain ⟨g1, cap1, rfl⟩ := P1.form
  have O1 := O0.on b1 hs0
  have hv1 := hv0.on b1 (by omega)
  have bb := b0.trans (b1.mono b0.size)
  have P1 := P1.mono (show w.heap.size + 1 ≤ W0.heap.size from hs0)
  have cS := specC k a b c w1
  rw [hn] at hr hv1 P1 ⊢
  have eV : opV k a b c = .agg #[.int .i64 k, .int .i64 a, .int .i64 b, .int .i64 c] := rfl
  rw [eV] at cS
  have c0 := O1.cell 0; have c1 := O1.cell 1; have c2 := O1.cell 2; have c3 := O1.cell 3
  clear O0 hv0 eV
  go_enter Try.func125, Try.ntmps125
  go_wp2_with (at_builtin; refine wpList_app _ rfl _ _ 23 rfl _ _ _ _ rfl rfl hr ?_)
  refine cS.mono ?_
  rintro e w2 ⟨rfl, b2⟩
  have O2 := O1.on b2 O1.lt
  have hv2 := hv1.on b2 (by have := bb.size; omega)
  have P2 : Ints.Owns (w.heap.size + 1) w2 (.slice g1 n cap1) zs := P1.on b2 (Nat.le_refl _)
  have bb2 := bb.trans (b2.mono bb.size)
  clear cS O1 hv1 P1 b1 b2 bb c0 c1 c2 c3 hr hW0
  obtain ⟨p, hp⟩ : ∃ p, opOk k a b c = p := ⟨_, rfl⟩
  rw [hp]
  have HP : Hid (opOk k a b c = p) := hp
  clear hp
  cases p
  · go_wp2
    go_ret2
    exact calc_no (may_ff HP.out) (P2.mono (Nat.le_succ _)) bb2
  have cR := regsSpec _ zs _ w2 (hn ▸ hv2)
  rw [hn] at cR
  go_wp2_with fail
  refine cR.mono ?_
  rintro e w3 ⟨rfl, rfl⟩
  clear cR
  obtain ⟨q, hq⟩ : ∃ q, regsOk zs = q := ⟨_, rfl⟩
  rw [hq]
  have HQ : Hid (regsOk zs = q) := hq
  clear hq
  cases q
  · go_wp2
    go_ret2
    exact calc_no (may_tf HP.out HQ.out) (P2.mono (Nat.le_succ _)) bb2
  have c0 := O2.cell 0; have c1 := O2.cell 1; have c2 := O2.cell 2; have c3 := O2.cell 3
  by_cases hk : k ≤ 4
  · have HY : Hid (calcMay k a b c zs = true) := may_ttt HP.out HQ.out hk
    have hK := may_kind HP.out hk
    have hk' : decide (4 < k) = false := decide_eq_false (by omega)
    obtain ⟨h4, hval⟩ := regsOk_out HQ.out
    obtain rfl : n = 4 := by omega
    obtain ⟨g, rfl⟩ : ∃ g, g1 = some ⟨g, 0, none⟩ := by
      obtain ⟨g, cp, e, -, -⟩ := owns_form P2 (by omega)
      simp only [Value.slice.injEq] at e
      exact ⟨g, e.1⟩
    have Q2 : w2.ownsRow (w.heap.size + 1) 3 1 (.slice (some ⟨g, 0, none⟩) 4 cap1) 4 (Ints.iv zs) := h4 ▸ P2
    have hg' := (owns_low Q2).1
    have hg : w.heap.size ≤ g := by omega
    have z1 : ∀ (j : Nat) (u : Value), (w2.setCell ⟨g, j, none⟩ u).cell? ⟨w.heap.size, 1, none⟩ = some (.int .i64 a) := fun j u => ((Below.refl (w.heap.size + 1) w2).setCell hg' u).cell (p := ⟨w.heap.size, 1, none⟩) (Nat.lt_succ_self _) |>.trans c1
    have hfz := fun j => Q2.frozenAt j
    obtain ⟨-, -, -, hsee⟩ := sees_out hv2 h4
    obtain ⟨rb, ro, rfl, hrb, hcell⟩ := hsee
    clear hk P2 hv2 hv
    rcases hK with rfl | hK
    · obtain ⟨ha, -, -⟩ := ok_set HP.out
      obtain ⟨j, rfl, hj⟩ := place ha
      have i0 := Ints.owns_at Q2 j (by omega)
      clear hcell
      go_wp2
      go_ret2
      refine calc_yes HY.out rfl (show reck 1 b c zs = b from rfl) ?_ (bb2.setCell hg _)
      have := Ints.owns_set Q2 j b
      exact Ints.Owns.mono (by unfold Ints.Owns; rw [set_len zs j b 4 h4]; exact this) (Nat.le_succ _)
    · obtain ⟨ha, hb, hc⟩ := ok_regs hK HP.out
      obtain ⟨j, rfl, hj⟩ := place ha
      obtain ⟨jb, rfl, hjb⟩ := place hb
      obtain ⟨jc, rfl, hjc⟩ := place hc
      have i0 := Ints.owns_at Q2 j (by omega)
      have x0 := hcell jb (by omega)
      have y0 := hcell jc (by omega)
      obtain ⟨x1, x2⟩ := hval jb (by omega)
      obtain ⟨y1, y2⟩ := hval jc (by omega)
      have HX : Hid (zs.getD ((jb : Int)).toNat 0 = zs[jb]) := getD_at (by omega)
      have HY' : Hid (zs.getD ((jc : Int)).toNat 0 = zs[jc]) := getD_at (by omega)
      obtain ⟨x, hx⟩ : ∃ x, zs[jb] = x := ⟨_, rfl⟩
      obtain ⟨y, hy⟩ : ∃ y, zs[jc] = y := ⟨_, rfl⟩
      rw [hx] at x0 x1 x2 HX
      rw [hy] at y0 y1 y2 HY'
      have hown := fun z => Ints.owns_set Q2 j z
      clear hx hy hval hcell ha hb hc
      rcases hK with rfl | rfl | rfl
      · have HR : Hid (reck 2 (jb : Int) (jc : Int) zs = (x + y) % 65536) := by show reck _ _ _ _ = _; unfold reck; rw [HX.out, HY'.out]; rfl
        go_wp2
        go_ret2
        refine calc_yes HY.out rfl HR.out ?_ (bb2.setCell hg _)
        have := hown ((x + y) % 65536)
        exact Ints.Owns.mono (by unfold Ints.Owns; rw [set_len zs j _ 4 h4]; exact this) (Nat.le_succ _)
      · have HR : Hid (reck 3 (jb : Int) (jc : Int) zs = (x - y) % 65536) := by show reck _ _ _ _ = _; unfold reck; rw [HX.out, HY'.out]; simp
        go_wp2
        go_ret2
        refine calc_yes HY.out rfl HR.out ?_ (bb2.setCell hg _)
        have := hown ((x - y) % 65536)
        exact Ints.Owns.mono (by unfold Ints.Owns; rw [set_len zs j _ 4 h4]; exact this) (Nat.le_succ _)
      · by_cases hxy : x < y
        · have HR : Hid (reck 4 (jb : Int) (jc : Int) zs = 1) := by show reck _ _ _ _ = _; unfold reck; rw [HX.out, HY'.out]; simp [hxy]
          go_wp2
          go_ret2
          refine calc_yes HY.out rfl HR.out ?_ ((bb2.setCell hg _).setCell hg _)
          have := Ints.owns_set (hown 0) j 1
          rw [List.set_set] at this
          exact Ints.Owns.mono (by unfold Ints.Owns; rw [set_len zs j _ 4 h4]; exact this) (Nat.le_succ _)
        · have HR : Hid (reck 4 (jb : Int) (jc : Int) zs = 0) := by show reck _ _ _ _ = _; unfold reck; rw [HX.out, HY'.out]; simp [hxy]
          go_wp2
          go_ret2
          refine calc_yes HY.out rfl HR.out ?_ (bb2.setCell hg _)
          have := hown 0
          exact Ints.Owns.mono (by unfold Ints.Owns; rw [set_len zs j _ 4 h4]; exact this) (Nat.le_succ _)
  · have HK : Hid (¬ k ≤ 4) := hk
    have hk' : decide (4 < k) = true := decide_eq_true (by omega)
    clear hk
    go_wp2
    go_ret2
    exact calc_no (may_ttf (by have := HK.out; omega)) (P2.mono (Nat.le_succ _)) bb2
end Ops
end Go.Proofs.Ytajbmokidcdfnaa
/- The table of reckonings and its functions. -/
set_option linter.unusedVariables false
namespace Go.Proofs.Ytajbmokidcdfnaa
open Go.RowKit Go.Maps
namespace Ops
open Bas

theorem below_drewN {B : Nat} {a w : World} (h : Below B a w) : ∀ n, Below B a (w.drewN n)
  | 0 => h
  | n + 1 => by unfold World.drewN; exact (below_drewN h n).drew
/-- one where it is less, else nought -/
def lt01 (x y : Int) : Int := if x < y then 1 else 0
theorem lawInt : Keyed Try.prog 3 := int_keyed Try.underlying3
theorem zeroFn (w : World) : (zeroValue 218).run Try.prog w = .ok .nilFunc w := by kernel_rfl

/-- how a function of the table reads: by its number -/
def fnElem : Value → Option (DataW Unit × List MemPlace)
  | .func (.func n) a b => if a = #[] ∧ b = #[] then some (.lit (.int .i64 n), []) else none
  | .nilFunc => some (.lit (.bool false), [])
  | _ => none
theorem fnElem_mk (n : Nat) : fnElem (.func (.func n) #[] #[]) = some (.lit (.int .i64 n), []) := by simp [fnElem]
theorem fnElem_inv {v : Value} {n : Nat} {ps : List MemPlace} (h : fnElem v = some (.lit (.int .i64 n), ps)) : v = .func (.func n) #[] #[] := by
  unfold fnElem at h
  split at h
  · split at h
    · rename_i hc
      obtain ⟨rfl, rfl⟩ := hc
      simp at h
      rw [Int.natCast_inj.1 h.1]
    · cases h
  · simp at h
  · cases h

theorem wf1 : (Lit.int .i64 1).wf = true := by decide
theorem wf2 : (Lit.int .i64 2).wf = true := by decide
theorem wf3 : (Lit.int .i64 3).wf = true := by decide
theorem wf4 : (Lit.int .i64 4).wf = true := by decide

/-- what the table tells of a kind -/
def lookV (k : Int) : Value :=
  if k = 1 then .tuple #[.func (.func 187) #[] #[], .bool true]
  else if k = 2 then .tuple #[.func (.func 188) #[] #[], .bool true]
  else if k = 3 then .tuple #[.func (.func 189) #[] #[], .bool true]
  else if k = 4 then .tuple #[.func (.func 190) #[] #[], .bool true]
  else .tuple #[.nilFunc, .bool false]
def fnV (k : Int) : Value :=
  if k = 1 then .func (.func 187) #[] #[]
  else if k = 2 then .func (.func 188) #[] #[]
  else if k = 3 then .func (.func 189) #[] #[]
  else if k = 4 then .func (.func 190) #[] #[]
  else .nilFunc
def isFn (k : Int) : Bool := decide (1 ≤ k) && decide (k ≤ 4)
theorem lookV_eq (k : Int) : lookV k = .tuple #[fnV k, .bool (isFn k)] := by
  unfold lookV fnV isFn
  by_cases h1 : k = 1
  · subst h1; rfl
  by_cases h2 : k = 2
  · subst h2; rfl
  by_cases h3 : k = 3
  · subst h3; rfl
  by_cases h4 : k = 4
  · subst h4; rfl
  have e : (decide (1 ≤ k) && decide (k ≤ 4)) = false := by
    rw [Bool.and_eq_false_iff, decide_eq_false_iff_not, decide_eq_false_iff_not]; omega
  simp only [h1, h2, h3, h4, if_false, e]

def tab : DataW Unit := ((((DataW.map []).put (.int .i64 1) (.lit (.int .i64 (187 : Nat)))).put (.int .i64 2) (.lit (.int .i64 (188 : Nat)))).put (.int .i64 3) (.lit (.int .i64 (189 : Nat)))).put (.int .i64 4) (.lit (.int .i64 (190 : Nat)))
theorem tab_eq : tab = .map [(.int .i64 1, .lit (.int .i64 (187 : Nat))), (.int .i64 2, .lit (.int .i64 (188 : Nat))), (.int .i64 3, .lit (.int .i64 (189 : Nat))), (.int .i64 4, .lit (.int .i64 (190 : Nat)))] := by
  unfold tab; rfl

theorem look_tab {w : World} {b n : Nat} (h : w.ownsMap Try.prog 3 fnElem b n tab) (k : Int) (hk : (Lit.int .i64 k).wf = true) :
    (Instr.lookup 220 (.map (some b)) (.int .i64 k) true).run Try.prog w = .ok (lookV k) w := by
  obtain ⟨v, ps, hr, hv⟩ := h.look_ok lawInt Try.underlying220 (zeroFn w) (zd := .lit (.bool false)) (zp := []) rfl (keyOf_int_mk Try.underlying3 hk)
  rw [hr]
  rw [tab_eq] at hv ⊢
  unfold lookV
  by_cases h1 : k = 1
  · subst h1; rw [if_pos rfl, fnElem_inv hv]; rfl
  by_cases h2 : k = 2
  · subst h2; rw [if_neg (by decide), if_pos rfl, fnElem_inv hv]; rfl
  by_cases h3 : k = 3
  · subst h3; rw [if_neg (by decide), if_neg (by decide), if_pos rfl, fnElem_inv hv]; rfl
  by_cases h4 : k = 4
  · subst h4; rw [if_neg (by decide), if_neg (by decide), if_neg (by decide), if_pos rfl, fnElem_inv hv]; rfl
  rw [if_neg h1, if_neg h2, if_neg h3, if_neg h4]
  have e1 : ¬ (1 : Int) = k := fun h => h1 h.symm
  have e2 : ¬ (2 : Int) = k := fun h => h2 h.symm
  have e3 : ¬ (3 : Int) = k := fun h => h3 h.symm
  have e4 : ¬ (4 : Int) = k := fun h => h4 h.symm
  have hh : Maps.has (DataW.map [(.int .i64 1, (.lit (.int .i64 (187 : Nat)) : DataW Unit)), (.int .i64 2, .lit (.int .i64 (188 : Nat))), (.int .i64 3, .lit (.int .i64 (189 : Nat))), (.int .i64 4, .lit (.int .i64 (190 : Nat)))]) (.int .i64 k) = false := by
    simp [Maps.has, Lit.sameKey, e1, e2, e3, e4]
  have ha : (DataW.map [(.int .i64 1, (.lit (.int .i64 (187 : Nat)) : DataW Unit)), (.int .i64 2, .lit (.int .i64 (188 : Nat))), (.int .i64 3, .lit (.int .i64 (189 : Nat))), (.int .i64 4, .lit (.int .i64 (190 : Nat)))]).atKey (.int .i64 k) (.lit (.bool false)) = .lit (.bool false) := by
    simp [DataW.atKey, Lit.sameKey, e1, e2, e3, e4]
  rw [ha] at hv
  have hv' : v = .nilFunc := by
    unfold fnElem at hv
    split at hv
    · split at hv <;> simp at hv
    · rfl
    · cases hv
  rw [hh, hv']

set_option maxRecDepth 100000 in
set_option maxHeartbeats 1600000 in
theorem tableC (w : World) : Calls Try.prog 186 #[] w fun e w' => ∃ b, e = .returned (.map (some b)) ∧ (∀ k : Int, (Lit.int .i64 k).wf = true → (Instr.lookup 220 (.map (some b)) (.int .i64 k) true).run Try.prog w' = .ok (.tuple #[fnV k, .bool (isFn k)]) w') ∧ Below w.heap.size w w' := by
  have o0 := World.ownsMap_made w Try.prog 3 fnElem
  have b0 := alloc_below w (.map #[] 0)
  obtain ⟨w1, r1, o1, g1⟩ := o0.update lawInt Try.underlying220 (by unfold maxLen; omega) (keyOf_int_mk Try.underlying3 wf1) (fnElem_mk 187)
  obtain ⟨w2, r2, o2, g2⟩ := o1.update lawInt Try.underlying220 (by unfold maxLen; omega) (keyOf_int_mk Try.underlying3 wf2) (fnElem_mk 188)
  obtain ⟨w3, r3, o3, g3⟩ := o2.update lawInt Try.underlying220 (by unfold maxLen; omega) (keyOf_int_mk Try.underlying3 wf3) (fnElem_mk 189)
  obtain ⟨w4, r4, o4, g4⟩ := o3.update lawInt Try.underlying220 (by unfold maxLen; omega) (keyOf_int_mk Try.underlying3 wf4) (fnElem_mk 190)
  have hg := grownBy_trans (grownBy_trans (grownBy_trans g1 g2) g3) g4
  have bel := b0.grown hg (by simp) (fun k hk => by cases hk; exact Nat.le_refl _)
  have HL : Hid (∀ k : Int, (Lit.int .i64 k).wf = true → (Instr.lookup 220 (.map (some w.heap.size)) (.int .i64 k) true).run Try.prog w4 = .ok (.tuple #[fnV k, .bool (isFn k)]) w4) := fun k hk => lookV_eq k ▸ look_tab o4 k hk
  clear o0 o1 o2 o3 o4 g1 g2 g3 g4 hg b0
  have hmm := @run_makeMap Try.prog
  go_enter Try.func186, Try.ntmps186
  go_wp2
  go_ret
  exact ⟨_, rfl, HL.out, bel⟩

theorem u16_mod (n : Int) : wrap64 (IntKind.u16.wrap n) = n % 65536 := by
  have e : IntKind.u16.wrap n = n % 65536 := by simp [IntKind.wrap, IntKind.signed, IntKind.bits]
  rw [e]; unfold wrap64; omega
set_option maxRecDepth 100000 in
theorem wrappedC (n : Int) (w : World) : Calls Try.prog 182 #[.int .i64 n] w fun e w' => e = .returned (.int .i64 (n % 65536)) ∧ w = w' := by
  go_enter Try.func182, Try.ntmps182
  go_wp2
  go_ret
  exact ⟨congrArg (fun z => Ending.returned (.int .i64 z)) (u16_mod n), rfl⟩

set_option maxRecDepth 100000 in
theorem lessNumC (x y : Int) (w : World) : Calls Try.prog 191 #[.int .i64 x, .int .i64 y] w fun e w' => e = .returned (.int .i64 (lt01 x y)) ∧ w = w' := by
  unfold lt01
  by_cases h : x < y
  · rw [if_pos h]
    go_enter Try.func191, Try.ntmps191
    go_wp2
    go_ret
    exact ⟨rfl, rfl⟩
  · rw [if_neg h]
    go_enter Try.func191, Try.ntmps191
    go_wp2
    go_ret
    exact ⟨rfl, rfl⟩

set_option maxRecDepth 100000 in
theorem clo1C (k a b c : Int) (v : Value) (w : World) : Calls Try.prog 187 #[opV k a b c, v] w fun e w' => e = .returned (.int .i64 b) ∧ Below w.heap.size w w' := by
  show Calls _ _ #[.agg #[.int .i64 k, .int .i64 a, .int .i64 b, .int .i64 c], _] _ _
  go_enter Try.func187, Try.ntmps187
  go_wp2
  go_ret
  exact ⟨rfl, alloc_below _ _⟩

set_option maxRecDepth 100000 in
set_option maxHeartbeats 1600000 in
theorem clo2C (k a : Int) (jb jc : Nat) (hb : jb < 4) (hc : jc < 4) (rb ro cap : Nat) (x y : Int) (w : World) (hlt : rb < w.heap.size) (hx : w.cell? ⟨rb, ro + jb, none⟩ = some (.int .i64 x)) (hy : w.cell? ⟨rb, ro + jc, none⟩ = some (.int .i64 y))
    (x1 : 0 ≤ x) (x2 : x ≤ 65535) (y1 : 0 ≤ y) (y2 : y ≤ 65535) :
    Calls Try.prog 188 #[opV k a jb jc, .slice (some ⟨rb, ro, none⟩) 4 cap] w fun e w' => e = .returned (.int .i64 ((x + y) % 65536)) ∧ Below w.heap.size w w' := by
  show Calls _ _ #[.agg #[.int .i64 k, .int .i64 a, .int .i64 jb, .int .i64 jc], _] _ _
  have hx' := ((alloc_below w (.cells #[.int .i64 k, .int .i64 a, .int .i64 jb, .int .i64 jc] 140)).cell (p := ⟨rb, ro + jb, none⟩) hlt).trans hx
  have hy' := ((alloc_below w (.cells #[.int .i64 k, .int .i64 a, .int .i64 jb, .int .i64 jc] 140)).cell (p := ⟨rb, ro + jc, none⟩) hlt).trans hy
  have i1 : (0 : Int) ≤ jb := by omega
  have i2 : (jb : Int) < 4 := by omega
  have i3 : (0 : Int) ≤ jc := by omega
  have i4 : (jc : Int) < 4 := by omega
  go_enter Try.func188, Try.ntmps188
  go_wp2_with fail
  go_quiet ((go_at_call 182; exact Calls.quiet_of_same ((wrappedC _ _).mono fun e w' h => ⟨h.1, h.2.symm⟩)))
  go_wp2
  go_ret
  exact ⟨rfl, below_drewN (alloc_below _ _) _⟩

set_option maxRecDepth 100000 in
set_option maxHeartbeats 1600000 in
theorem clo3C (k a : Int) (jb jc : Nat) (hb : jb < 4) (hc : jc < 4) (rb ro cap : Nat) (x y : Int) (w : World) (hlt : rb < w.heap.size) (hx : w.cell? ⟨rb, ro + jb, none⟩ = some (.int .i64 x)) (hy : w.cell? ⟨rb, ro + jc, none⟩ = some (.int .i64 y))
    (x1 : 0 ≤ x) (x2 : x ≤ 65535) (y1 : 0 ≤ y) (y2 : y ≤ 65535) :
    Calls Try.prog 189 #[opV k a jb jc, .slice (some ⟨rb, ro, none⟩) 4 cap] w fun e w' => e = .returned (.int .i64 ((x - y) % 65536)) ∧ Below w.heap.size w w' := by
  show Calls _ _ #[.agg #[.int .i64 k, .int .i64 a, .int .i64 jb, .int .i64 jc], _] _ _
  have hx' := ((alloc_below w (.cells #[.int .i64 k, .int .i64 a, .int .i64 jb, .int .i64 jc] 140)).cell (p := ⟨rb, ro + jb, none⟩) hlt).trans hx
  have hy' := ((alloc_below w (.cells #[.int .i64 k, .int .i64 a, .int .i64 jb, .int .i64 jc] 140)).cell (p := ⟨rb, ro + jc, none⟩) hlt).trans hy
  have i1 : (0 : Int) ≤ jb := by omega
  have i2 : (jb : Int) < 4 := by omega
  have i3 : (0 : Int) ≤ jc := by omega
  have i4 : (jc : Int) < 4 := by omega
  go_enter Try.func189, Try.ntmps189
  go_wp2_with fail
  go_quiet ((go_at_call 182; exact Calls.quiet_of_same ((wrappedC _ _).mono fun e w' h => ⟨h.1, h.2.symm⟩)))
  go_wp2
  go_ret
  exact ⟨rfl, below_drewN (alloc_below _ _) _⟩

set_option maxRecDepth 100000 in
set_option maxHeartbeats 1600000 in
theorem clo4C (k a : Int) (jb jc : Nat) (hb : jb < 4) (hc : jc < 4) (rb ro cap : Nat) (x y : Int) (w : World) (hlt : rb < w.heap.size) (hx : w.cell? ⟨rb, ro + jb, none⟩ = some (.int .i64 x)) (hy : w.cell? ⟨rb, ro + jc, none⟩ = some (.int .i64 y))
    (x1 : 0 ≤ x) (x2 : x ≤ 65535) (y1 : 0 ≤ y) (y2 : y ≤ 65535) :
    Calls Try.prog 190 #[opV k a jb jc, .slice (some ⟨rb, ro, none⟩) 4 cap] w fun e w' => e = .returned (.int .i64 (lt01 x y)) ∧ Below w.heap.size w w' := by
  show Calls _ _ #[.agg #[.int .i64 k, .int .i64 a, .int .i64 jb, .int .i64 jc], _] _ _
  have hx' := ((alloc_below w (.cells #[.int .i64 k, .int .i64 a, .int .i64 jb, .int .i64 jc] 140)).cell (p := ⟨rb, ro + jb, none⟩) hlt).trans hx
  have hy' := ((alloc_below w (.cells #[.int .i64 k, .int .i64 a, .int .i64 jb, .int .i64 jc] 140)).cell (p := ⟨rb, ro + jc, none⟩) hlt).trans hy
  have i1 : (0 : Int) ≤ jb := by omega
  have i2 : (jb : Int) < 4 := by omega
  have i3 : (0 : Int) ≤ jc := by omega
  have i4 : (jc : Int) < 4 := by omega
  go_enter Try.func190, Try.ntmps190
  go_wp2_with fail
  go_quiet ((go_at_call 191; exact Calls.quiet_of_same ((lessNumC _ _ _).mono fun e w' h => ⟨h.1, h.2.symm⟩)))
  go_wp2
  go_ret
  exact ⟨rfl, below_drewN (alloc_below _ _) _⟩

end Ops
end Go.Proofs.Ytajbmokidcdfnaa
