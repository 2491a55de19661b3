/- Several texts of one proof, in build order: Base, Flat, OpL, OpRow, ShapeL, ShapeStk, ShapeTrue, IntRow, IntCopy. -/
import Derived.Test.YtppkohkcffnghaaProg
import Derived.WalkKit
import Derived.WalkLawsBesides
import Derived.WalkSpells
import Derived.Laws.OwnMore
import Derived.Laws.StructEq
import Derived.Deep.OwnRows
import Derived.Deep.AppendLies
import Derived.Deep.RegionWith
import Derived.Outline
import Derived.OpenShut
import Derived.Deep.Slices
import Derived.Deep.Upon
/- What all texts use: rows that the call owns, blocks, worlds that have grown. -/
namespace Go.Proofs.Ytppkohkcffnghaa
open Go.RowKit
namespace Bas

theorem grownBy_trans {w w1 w2 : World} {row : Option Nat} (h : w.grownBy w1 row) (k : w1.grownBy w2 row) : w.grownBy w2 row :=
  ⟨k.os.trans h.os, k.tape.trans h.tape, k.output.trans h.output, Nat.le_trans h.size k.size, fun i hi hn => (k.block i (Nat.lt_of_lt_of_le hi h.size) hn).trans (h.block i hi hn)⟩
theorem owns_on {B n e size : Nat} {w w' : World} {v : Value} {xs : List Value} (h : w.ownsRow B e size v n xs) {B' : Nat} (hb : Below B' w w') (hB : w.heap.size ≤ B') : w'.ownsRow B e size v n xs := by
  obtain ⟨h1, h2⟩ := h
  refine ⟨h1, ?_⟩
  rcases h2 with h2 | ⟨g, cap, cur, hv, hg, hh, r⟩
  · exact .inl h2
  · have := (Array.getElem?_eq_some_iff.1 hh).1
    exact .inr ⟨g, cap, cur, hv, hg, by rw [hb.block g (by omega)]; exact hh, r⟩

/-- a block of cells that may be written -/
def Blk (W : World) (p : Nat) (cs : Array Value) (t : TypeId) : Prop := W.heap[p]? = some (.cells cs t (0, 0))
section
variable {W W' : World} {p : Nat} {cs : Array Value} {t : TypeId}
theorem Blk.cell (h : Blk W p cs t) (i : Nat) : W.cell? ⟨p, i, none⟩ = cs[i]? := cell_of_row W p i _ _ _ h
theorem Blk.froz (h : Blk W p cs t) (i : Nat) : W.frozen? ⟨p, i, none⟩ = false := frozen_of_row W p i _ _ h
theorem Blk.lt (h : Blk W p cs t) : p < W.heap.size := (Array.getElem?_eq_some_iff.1 h).1
theorem Blk.on (h : Blk W p cs t) {B : Nat} (hb : Below B W W') (hB : p < B) : Blk W' p cs t := (hb.block p hB).trans h
theorem Blk.grown (h : Blk W p cs t) {row : Option Nat} (hg : W.grownBy W' row) (hr : some p ≠ row) : Blk W' p cs t := (hg.block p h.lt hr).trans h
theorem Blk.new (w : World) (cs : Array Value) (t : TypeId) : Blk (w.alloc (.cells cs t)) w.heap.size cs t := heap_alloc_new w _
theorem Blk.drew (h : Blk W p cs t) : Blk W.drew p cs t := h
end
theorem Blk.set {W : World} {p : Nat} {cs : Array Value} {t : TypeId} (h : Blk W p cs t) (i : Nat) (u : Value) : Blk (W.setCell ⟨p, i, none⟩ u) p (cs.setIfInBounds i u) t := by
  unfold Blk at *; simp [World.setCell, Array.getElem?_modify, h]
theorem Blk.other {W : World} {p q : Nat} {cs : Array Value} {t : TypeId} (h : Blk W p cs t) (hne : p ≠ q) (i : Nat) (u : Value) : Blk (W.setCell ⟨q, i, none⟩ u) p cs t := by
  unfold Blk at *
  rw [Below.heap_setCell _ _ _ _ hne]; exact h
theorem alloc_below (w : World) (o : Obj) : Below w.heap.size w (w.alloc o) := (Below.refl _ _).alloc (Nat.le_refl _) o

/-- an append whose answer is known, at its operation in a plain region: (at_builtin; refine wpList_app _ rfl _ _ T rfl _ _ _ _ rfl rfl hr ?_) -/
theorem wpList_app {P : Program} (w : World) {ops : Array Oper} {rest : List Oper} {o : Oper} {a : Act} {Q : Exit → Act → World → Prop} (hgd : o.guard = none) (s x : Operand) (t : TypeId)
    (ho : o.op = .call { callee := .builtin .append, args := #[s, x], argTypes := #[t, t] }) (u v v' : Value) (w' : World) (hs : a.eval s = u) (hx : a.eval x = v)
    (hr : (Builtin.append_ #[t, t] o.type #[u, v]).run P w = .ok v' w') (h : wpList P ops Q rest (a.put o.dst v') w') : wpList P ops Q (o :: rest) a w := by
  refine wpList_plain hgd fun K hK => ?_
  unfold Oper.wp execOp
  simp only [ho, resolve, invoke, builtin, Sem.run_bind, Sem.run_pure, Result.andThen_ok, List.map_toArray, List.map_cons, List.map_nil, hs, hx, hr]
  exact hK _ _ h
/-- .. as one step of a region that draws its order -/
theorem step_app {P : Program} {w : World} {ops : Array Oper} {o : Oper} {a : Act} {K : Act → World → Prop} {Q : Exit → Act → World → Prop} {E : Prop} (hgd : o.guard = none) (s x : Operand) (t : TypeId)
    (ho : o.op = .call { callee := .builtin .append, args := #[s, x], argTypes := #[t, t] }) (u v v' : Value) (w' : World) (hs : a.eval s = u) (hx : a.eval x = v)
    (hr : (Builtin.append_ #[t, t] o.type #[u, v]).run P w = .ok v' w') (h : K (a.put o.dst v') w') : if Region.wanted o (yielded ops a.tmps) = true then Oper.wp P o a w K Q else E := by
  have hw : Region.wanted o (yielded ops a.tmps) = true := by simp [Region.wanted, hgd]
  rw [if_pos hw]
  unfold Oper.wp execOp
  simp only [ho, resolve, invoke, builtin, Sem.run_bind, Sem.run_pure, Result.andThen_ok, List.map_toArray, List.map_cons, List.map_nil, hs, hx, hr]
  exact h
end Bas
end Go.Proofs.Ytppkohkcffnghaa
/- Rows of elements that take so many cells each: what a slice of them reads as, and what the call owns of them. -/
set_option linter.unusedVariables false
namespace Go.Proofs.Ytppkohkcffnghaa
open Go.RowKit
namespace Flat

/-- all old cells, all old marks read as before -/
theorem bcell {W w1 : World} (hb : Below W.heap.size W w1) : (∀ b o, b < W.heap.size → w1.cell? ⟨b, o, none⟩ = W.cell? ⟨b, o, none⟩) ∧ (∀ b o, b < W.heap.size → w1.frozen? ⟨b, o, none⟩ = W.frozen? ⟨b, o, none⟩) :=
  ⟨fun b o h => hb.cell (p := ⟨b, o, none⟩) h, fun b o h => hb.frozen (p := ⟨b, o, none⟩) h⟩

/-- how an element lies in memory -/
structure El (α : Type) where
  sz : Nat
  cells : α → List Value
  len : ∀ a, (cells a).length = sz
  one : ∀ a, ∀ v ∈ cells a, v.oneCell' = true
  pos : 0 < sz

section
variable {α : Type} {E : El α}

/-- the cells of a row -/
def fv (E : El α) (xs : List α) : List Value := xs.flatMap E.cells
theorem fv_nil : fv E [] = [] := rfl
theorem fv_cons (x : α) (r : List α) : fv E (x :: r) = E.cells x ++ fv E r := rfl
theorem fv_append (a b : List α) : fv E (a ++ b) = fv E a ++ fv E b := by simp [fv]
theorem fv_length (xs : List α) : (fv E xs).length = xs.length * E.sz := by
  induction xs with
  | nil => simp [fv]
  | cons x r ih => rw [fv_cons, List.length_append, ih, E.len, List.length_cons, Nat.succ_mul]; omega
theorem fv_one (xs : List α) : ∀ v ∈ fv E xs, v.oneCell' = true := by
  intro v hv
  obtain ⟨x, _, hx⟩ := List.mem_flatMap.1 hv
  exact E.one x v hx
theorem fv_get (xs : List α) : ∀ (j : Nat) (h : j < xs.length) (i : Nat), i < E.sz → (fv E xs)[j * E.sz + i]? = (E.cells xs[j])[i]? := by
  induction xs with
  | nil => intro j h; simp at h
  | cons x r ih =>
    intro j h i hi
    have hl := E.len x
    match j, h with
    | 0, _ => rw [fv_cons, Nat.zero_mul, Nat.zero_add, List.getElem?_append_left (by omega)]; rfl
    | j + 1, h =>
      have := ih j (by simpa using h) i hi
      rw [fv_cons, List.getElem?_append_right (by rw [Nat.succ_mul]; omega), hl, show (j + 1) * E.sz + i - E.sz = j * E.sz + i by rw [Nat.succ_mul]; omega, this]
      rfl
theorem fv_set (xs : List α) : ∀ (j : Nat) (h : j < xs.length) (i : Nat) (u : Value) (x' : α), i < E.sz → E.cells x' = (E.cells xs[j]).set i u → (fv E xs).set (j * E.sz + i) u = fv E (xs.set j x') := by
  induction xs with
  | nil => intro j h; simp at h
  | cons x r ih =>
    intro j h i u x' hi he
    have hl := E.len x
    match j, h with
    | 0, _ =>
      rw [fv_cons, Nat.zero_mul, Nat.zero_add, List.set_append_left _ _ (by omega), List.set_cons_zero, fv_cons, he]
      rfl
    | j + 1, h =>
      have := ih j (by simpa using h) i u x' hi he
      rw [fv_cons, List.set_append_right _ _ (by rw [Nat.succ_mul]; omega), hl, show (j + 1) * E.sz + i - E.sz = j * E.sz + i by rw [Nat.succ_mul]; omega, this]
      rfl

/-- the element that lies at a place -/
def At (E : El α) (w : World) (b o : Nat) (x : α) : Prop := ∀ i u, (E.cells x)[i]? = some u → w.cell? ⟨b, o + i, none⟩ = some u
theorem At.on {B b o : Nat} {w w' : World} {x : α} (h : At E w b o x) (hb : Below B w w') (hB : b < B) : At E w' b o x :=
  fun i u hu => (hb.cell (p := ⟨b, o + i, none⟩) hB).trans (h i u hu)
theorem At.keep {b o : Nat} {w w' : World} {x : α} (h : At E w b o x) (hk : w'.heap[b]? = w.heap[b]?) : At E w' b o x :=
  fun i u hu => (World.cell?_of_block (w := w) hk).trans (h i u hu)

/-- a slice of elements that lie below block B -/
def Sees (E : El α) (B : Nat) (w : World) (v : Value) (xs : List α) : Prop :=
  ∃ a cap, v = .slice a xs.length cap ∧ xs.length ≤ cap ∧ cap ≤ maxLen ∧ (xs ≠ [] → ∃ b off, a = some ⟨b, off, none⟩ ∧ b < B ∧ ∀ j (h : j < xs.length), At E w b (off + j * E.sz) xs[j])
section
variable {B B' : Nat} {w w' : World} {v : Value} {xs : List α}
theorem Sees.on (h : Sees E B w v xs) (hb : Below B' w w') (hB : B ≤ B') : Sees E B w' v xs := by
  obtain ⟨a, cap, rfl, h1, h2, h3⟩ := h
  refine ⟨a, cap, rfl, h1, h2, fun hne => ?_⟩
  obtain ⟨b, off, rfl, hlt, hc⟩ := h3 hne
  exact ⟨b, off, rfl, hlt, fun j hj => (hc j hj).on hb (by omega)⟩
theorem Sees.up (h : Sees E B w v xs) (hB : B ≤ B') : Sees E B' w v xs := by
  obtain ⟨a, cap, rfl, h1, h2, h3⟩ := h
  refine ⟨a, cap, rfl, h1, h2, fun hne => ?_⟩
  obtain ⟨b, off, rfl, hlt, hc⟩ := h3 hne
  exact ⟨b, off, rfl, by omega, hc⟩
theorem Sees.form (h : Sees E B w v xs) : ∃ a cap, v = .slice a xs.length cap := by obtain ⟨a, cap, h, -⟩ := h; exact ⟨a, cap, h⟩
theorem Sees.room (h : Sees E B w v xs) : xs.length ≤ maxLen := by obtain ⟨a, cap, -, h1, h2, -⟩ := h; omega
theorem Sees.nil (E : El α) (B : Nat) (w : World) : Sees E B w (.slice none 0 0) [] := ⟨none, 0, rfl, Nat.le_refl _, by simp, fun h => absurd rfl h⟩
theorem Sees.drew (h : Sees E B w v xs) : Sees E B w.drew v xs := h
theorem Sees.grown (h : Sees E B w v xs) {row : Option Nat} (hg : w.grownBy w' row) (hB : B ≤ w.heap.size) (hr : ∀ k, row = some k → B ≤ k) : Sees E B w' v xs :=
  h.on (B' := B) ((Below.refl B w).grown hg hB hr) (Nat.le_refl _)
/-- what the walk reads: where the row lies, and its elements -/
theorem Sees.open {a : Option Addr} {n cap : Nat} (h : Sees E B w (.slice a n cap) xs) (hn : 0 < xs.length) : ∃ b off, a = some ⟨b, off, none⟩ ∧ b < B ∧ ∀ j (h : j < xs.length), At E w b (off + j * E.sz) xs[j] := by
  obtain ⟨a', cap', e, -, -, h3⟩ := h
  simp only [Value.slice.injEq] at e
  obtain ⟨rfl, -, -⟩ := e
  exact h3 (fun h => by simp [h] at hn)
end

/-- a slice of elements that lie in blocks of which S holds -/
def SeesIn (E : El α) (S : Nat → Prop) (w : World) (v : Value) (xs : List α) : Prop :=
  ∃ a cap, v = .slice a xs.length cap ∧ xs.length ≤ cap ∧ cap ≤ maxLen ∧ (xs ≠ [] → ∃ b off, a = some ⟨b, off, none⟩ ∧ S b ∧ ∀ j (h : j < xs.length), At E w b (off + j * E.sz) xs[j])
section
variable {S S' : Nat → Prop} {B : Nat} {w w' : World} {v : Value} {xs : List α}
theorem SeesIn.keep (h : SeesIn E S w v xs) (hk : ∀ b, S b → w'.heap[b]? = w.heap[b]?) : SeesIn E S w' v xs := by
  obtain ⟨a, cap, rfl, h1, h2, h3⟩ := h
  refine ⟨a, cap, rfl, h1, h2, fun hne => ?_⟩
  obtain ⟨b, off, rfl, hs, hc⟩ := h3 hne
  exact ⟨b, off, rfl, hs, fun j hj => (hc j hj).keep (hk b hs)⟩
theorem SeesIn.form (h : SeesIn E S w v xs) : ∃ a cap, v = .slice a xs.length cap := by obtain ⟨a, cap, h, -⟩ := h; exact ⟨a, cap, h⟩
theorem SeesIn.mono (h : SeesIn E S w v xs) (hs : ∀ b, S b → S' b) : SeesIn E S' w v xs := by
  obtain ⟨a, cap, rfl, h1, h2, h3⟩ := h
  refine ⟨a, cap, rfl, h1, h2, fun hne => ?_⟩
  obtain ⟨b, off, rfl, hb, hc⟩ := h3 hne
  exact ⟨b, off, rfl, hs b hb, hc⟩
theorem SeesIn.sees (h : SeesIn E S w v xs) (hs : ∀ b, S b → b < B) : Sees E B w v xs := h.mono hs
theorem Sees.within (h : Sees E B w v xs) : SeesIn E (fun b => b < B) w v xs := h
end

/-- elements that the call owns, from block B on -/
def Owns (E : El α) (e : TypeId) (B : Nat) (w : World) (v : Value) (xs : List α) : Prop := w.ownsRow B e E.sz v xs.length (fv E xs)
section
variable {e : TypeId} {B B' : Nat} {w w' : World} {v : Value} {xs : List α}
theorem Owns.sees (h : Owns E e B w v xs) : Sees E w.heap.size w v xs := by
  obtain ⟨h1, h2⟩ := h
  rcases h2 with ⟨rfl, h0⟩ | ⟨g, cap, cur, rfl, hB, hg, hle, hm, hsz, htk⟩
  · exact ⟨none, 0, by rw [h0], by omega, by simp, fun hne => absurd (List.eq_nil_of_length_eq_zero h0) hne⟩
  · refine ⟨_, cap, rfl, hle, hm, fun _ => ⟨g, 0, rfl, (Array.getElem?_eq_some_iff.1 hg).1, fun j hj i u hu => ?_⟩⟩
    have hi : i < E.sz := by have := (List.getElem?_eq_some_iff.1 hu).1; rw [E.len] at this; exact this
    have hb : j * E.sz + i < xs.length * E.sz := by
      have : (j + 1) * E.sz ≤ xs.length * E.sz := Nat.mul_le_mul_right _ hj
      rw [Nat.succ_mul] at this; omega
    have key : w.cell? ⟨g, j * E.sz + i, none⟩ = (fv E xs)[j * E.sz + i]? := by
      rw [← htk, List.getElem?_take, if_pos hb]
      simp [World.cell?, hg]
    rw [Nat.zero_add, key, fv_get xs j hj i hi, hu]
theorem Owns.within (h : Owns E e B w v xs) : SeesIn E (fun b => B ≤ b ∧ b < w.heap.size) w v xs := by
  have hs := h.sees
  obtain ⟨h1, h2⟩ := h
  obtain ⟨a, cap, rfl, k1, k2, k3⟩ := hs
  refine ⟨a, cap, rfl, k1, k2, fun hne => ?_⟩
  obtain ⟨b, off, rfl, hb, hc⟩ := k3 hne
  refine ⟨b, off, rfl, ⟨?_, hb⟩, hc⟩
  rcases h2 with ⟨h', _⟩ | ⟨g, cap', cur, h', hB, _⟩
  · cases h'
  · simp only [Value.slice.injEq, Option.some.injEq, Addr.mk.injEq] at h'; omega
theorem Owns.form (h : Owns E e B w v xs) : ∃ a cap, v = .slice a xs.length cap := h.sees.form
theorem Owns.on (h : Owns E e B w v xs) (hb : Below B' w w') (hB : w.heap.size ≤ B') : Owns E e B w' v xs := Bas.owns_on h hb hB
theorem Owns.mono (h : Owns E e B w v xs) (hB : B' ≤ B) : Owns E e B' w v xs := by
  obtain ⟨h1, h2⟩ := h
  refine ⟨h1, ?_⟩
  rcases h2 with h2 | ⟨g, cap, cur, hv, hg, hh, r⟩
  · exact .inl h2
  · exact .inr ⟨g, cap, cur, hv, by omega, hh, r⟩
theorem Owns.keep (h : Owns E e B w v xs) (hk : ∀ k, v.ownBlock = some k → w'.heap[k]? = w.heap[k]?) : Owns E e B w' v xs := by
  obtain ⟨h1, h2⟩ := h
  refine ⟨h1, ?_⟩
  rcases h2 with h2 | ⟨g, cap, cur, rfl, hg, hh, r⟩
  · exact .inl h2
  · exact .inr ⟨g, cap, cur, rfl, hg, by rw [hk g rfl]; exact hh, r⟩
theorem Owns.at (h : Owns E e B w v xs) : ∀ k, v.ownBlock = some k → B ≤ k ∧ k < w.heap.size := by
  intro k hk
  obtain ⟨h1, h2⟩ := h
  rcases h2 with ⟨rfl, h0⟩ | ⟨g, cap, cur, rfl, hg, hh, r⟩
  · cases hk
  · cases hk; exact ⟨hg, (Array.getElem?_eq_some_iff.1 hh).1⟩
theorem Owns.grown (h : Owns E e B w v xs) {row : Option Nat} (hg : w.grownBy w' row) (hr : ∀ k, v.ownBlock = some k → some k ≠ row) : Owns E e B w' v xs :=
  h.keep fun k hk => hg.block k (h.at k hk).2 (hr k hk)
theorem Owns.nil (E : El α) (e : TypeId) (B : Nat) (w : World) : Owns E e B w (.slice none 0 0) [] := ⟨by simp [fv], .inl ⟨rfl, rfl⟩⟩
theorem Owns.drew (h : Owns E e B w v xs) : Owns E e B w.drew v xs := h
theorem Owns.other (h : Owns E e B w v xs) {p i : Nat} (hp : ∀ k, v.ownBlock = some k → k ≠ p) (u : Value) : Owns E e B (w.setCell ⟨p, i, none⟩ u) v xs :=
  h.keep fun k hk => Below.heap_setCell _ _ _ _ (hp k hk)
end

theorem Owns.off {e : TypeId} {B p : Nat} {w : World} {v : Value} {xs : List α} {cs : Array Value} {t : TypeId} (h : Owns E e B w v xs) (hb : Bas.Blk w p cs t) (hne : e ≠ t) : ∀ k, v.ownBlock = some k → k ≠ p := by
  rintro k hk rfl
  obtain ⟨h1, h2⟩ := h
  rcases h2 with ⟨rfl, h0⟩ | ⟨g, cap, cur, rfl, hg, hh, r⟩
  · cases hk
  · cases hk
    unfold Bas.Blk at hb
    rw [hh] at hb
    simp only [Option.some.injEq, Obj.cells.injEq] at hb
    exact hne hb.2.1

/-! ### a row that is not empty, at its block -/
section
variable {e : TypeId} {B g n cap : Nat} {w : World} {xs : List α}
theorem own_low (h : w.ownsRow B e E.sz (.slice (some ⟨g, 0, none⟩) n cap) n (fv E xs)) : B ≤ g ∧ g < w.heap.size := by
  rcases h.2 with ⟨h', _⟩ | ⟨g', cap', cur, h', hb, hg, _⟩
  · cases h'
  · cases h'; exact ⟨hb, (Array.getElem?_eq_some_iff.1 hg).1⟩
theorem own_len (h : w.ownsRow B e E.sz (.slice (some ⟨g, 0, none⟩) n cap) n (fv E xs)) : xs.length = n := by
  have := h.1; rw [fv_length] at this; exact Nat.eq_of_mul_eq_mul_right E.pos this
theorem own_at (h : w.ownsRow B e E.sz (.slice (some ⟨g, 0, none⟩) n cap) n (fv E xs)) (j : Nat) (hj : j < xs.length) : At E w g (j * E.sz) xs[j] := by
  intro i u hu
  have hi : i < E.sz := by have := (List.getElem?_eq_some_iff.1 hu).1; rw [E.len] at this; exact this
  have hl := own_len h
  have hb : j * E.sz + i < n * E.sz := by
    have : (j + 1) * E.sz ≤ n * E.sz := Nat.mul_le_mul_right _ (by omega)
    rw [Nat.succ_mul] at this; omega
  rw [h.cellAt _ hb, fv_get xs j hj i hi, hu]
theorem own_set (h : w.ownsRow B e E.sz (.slice (some ⟨g, 0, none⟩) n cap) n (fv E xs)) (j : Nat) (hj : j < xs.length) (i : Nat) (hi : i < E.sz) (u : Value) (x' : α) (he : E.cells x' = (E.cells xs[j]).set i u) :
    (w.setCell ⟨g, j * E.sz + i, none⟩ u).ownsRow B e E.sz (.slice (some ⟨g, 0, none⟩) n cap) n (fv E (xs.set j x')) := by
  rw [← fv_set xs j hj i u x' hi he]; exact (h.stored _ _).1
end

/-! ### the row's type -/
/-- t is the type of slices of elements of type e, whose zero value reads as z and takes so many bytes -/
structure Row (P : Program) (E : El α) (t e : TypeId) (zv : Value) (z : α) (bytes : Nat) : Prop where
  und : P.underlying t = some (.slice e)
  info : (P.info? e).map (fun i => (i.zero, i.size, i.bytes)) = some (some zv, E.sz, bytes)
  zero : zv.cells.toList = E.cells z
  small : bytes ≤ 1024
section
variable {P : Program} {t e : TypeId} {zv : Value} {z : α} {bytes : Nat}
theorem Row.zsize (R : Row P E t e zv z bytes) : zv.cells.size = E.sz := by
  have := congrArg List.length R.zero; rw [E.len] at this; simpa using this
theorem made (R : Row P E t e zv z bytes) (n : Nat) : (madeCells zv.cells (n * E.sz)).toList = fv E (List.replicate n z) := by
  have hz := R.zsize
  apply List.ext_getElem?
  intro j
  by_cases hj : j < n * E.sz
  · have hq : j / E.sz < (List.replicate n z).length := by
      rw [List.length_replicate]; exact Nat.div_lt_of_lt_mul (by rw [Nat.mul_comm]; exact hj)
    have hm : j % E.sz < E.sz := Nat.mod_lt _ E.pos
    have e1 := fv_get (E := E) (List.replicate n z) (j / E.sz) hq (j % E.sz) hm
    rw [show j / E.sz * E.sz + j % E.sz = j by rw [Nat.mul_comm]; exact Nat.div_add_mod _ _] at e1
    rw [e1, List.getElem_replicate, ← R.zero]
    simp only [madeCells, hz, Array.toList_map, Array.toList_range, List.getElem?_map]
    rw [List.getElem?_range hj]
    have hm' : j % E.sz < zv.cells.size := by omega
    simp [hm']
  · rw [List.getElem?_eq_none (by simp [madeCells]; omega), List.getElem?_eq_none (by rw [fv_length]; simp; omega)]
theorem make (R : Row P E t e zv z bytes) (n : Nat) (h : n ≤ 4194304) (w : World) (B : Nat) (hB : B ≤ w.heap.size) : ∃ w1, Below B w w1 ∧ w.heap.size < w1.heap.size ∧
    (Instr.makeSlice t (.int .i64 (n : Int)) (.int .i64 (n : Int))).run P w = .ok (.slice (some ⟨w.heap.size, 0, none⟩) n n) w1 ∧
    w1.ownsRow w.heap.size e E.sz (.slice (some ⟨w.heap.size, 0, none⟩) n n) n (fv E (List.replicate n z)) := by
  obtain ⟨i, hi, hz, hs, hb⟩ := info_parts R.info
  have hsm := R.small
  have hmul : bytes * n ≤ 1024 * 4194304 := Nat.mul_le_mul hsm h
  obtain ⟨w1, h1, h2, h3⟩ := run_make_full (P := P) w w.heap.size t e i _ E.sz R.und hi hz hs .i64 .i64 n (by rw [hb]; omega) (by unfold maxLen; omega) (Nat.le_refl _)
  refine ⟨w1, (Below.refl _ _).grown h3 hB (fun k hk => by cases hk), ?_, h1, ?_⟩
  · obtain ⟨-, h4⟩ := h2
    rcases h4 with ⟨h4, -⟩ | ⟨g, cap, cur, h4, -, hg, -⟩
    · cases h4
    · cases h4; exact (Array.getElem?_eq_some_iff.1 hg).1
  · rw [← made R]; exact h2

/-- make([]T, 0, c) -/
theorem makeRoom (R : Row P E t e zv z bytes) (c : Nat) (h : c ≤ 4194304) (w : World) (B : Nat) (hB : B ≤ w.heap.size) : ∃ w1, Below B w w1 ∧ w.heap.size < w1.heap.size ∧
    (Instr.makeSlice t (.int .i64 0) (.int .i64 (c : Int))).run P w = .ok (.slice (some ⟨w.heap.size, 0, none⟩) 0 c) w1 ∧ Owns E e w.heap.size w1 (.slice (some ⟨w.heap.size, 0, none⟩) 0 c) [] := by
  obtain ⟨i, hi, hz, hs, hb⟩ := info_parts R.info
  have hsm := R.small
  have hmul : bytes * c ≤ 1024 * 4194304 := Nat.mul_le_mul hsm h
  obtain ⟨w1, h1, h2, h3⟩ := run_make_own (P := P) w w.heap.size t e i _ E.sz R.und hi hz hs .i64 .i64 c (by rw [hb]; omega) (by unfold maxLen; omega) (Nat.le_refl _)
  refine ⟨w1, (Below.refl _ _).grown h3 hB (fun k hk => by cases hk), ?_, h1, h2⟩
  obtain ⟨-, h4⟩ := h2
  rcases h4 with ⟨h4, -⟩ | ⟨g, cap, cur, h4, -, hg, -⟩
  · cases h4
  · cases h4; exact (Array.getElem?_eq_some_iff.1 hg).1

theorem news_of {w : World} {b off : Nat} {xs : List α} (hc : ∀ j (h : j < xs.length), At E w b (off + j * E.sz) xs[j]) : ∀ j u, (fv E xs)[j]? = some u → w.cell? ((⟨b, off, none⟩ : Addr).add j) = some u := by
  intro j u hu
  have hj : j < xs.length * E.sz := by rw [← fv_length]; exact (List.getElem?_eq_some_iff.1 hu).1
  have hq : j / E.sz < xs.length := Nat.div_lt_of_lt_mul (by rw [Nat.mul_comm]; exact hj)
  have hm : j % E.sz < E.sz := Nat.mod_lt _ E.pos
  have e0 : j / E.sz * E.sz + j % E.sz = j := by rw [Nat.mul_comm]; exact Nat.div_add_mod _ _
  have e1 := fv_get (E := E) xs (j / E.sz) hq (j % E.sz) hm
  rw [e0, hu] at e1
  have ha : (⟨b, off, none⟩ : Addr).add j = ⟨b, off + j, none⟩ := by unfold Addr.add; split <;> simp_all
  have := hc (j / E.sz) hq (j % E.sz) u e1.symm
  rw [Nat.add_assoc, e0] at this
  rw [ha]; exact this

/-- append(u, v...): u is the call's own, v is read -/
theorem app (R : Row P E t e zv z bytes) (u v : Value) (ty : TypeId) (xs ys : List α) (B b0 : Nat) (w : World) (hu : Owns E e b0 w u xs) (h0 : b0 ≤ w.heap.size) (hv : Sees E B w v ys) (hlen : xs.length + ys.length ≤ 4194304) :
    ∃ v' w', (Builtin.append_ #[t, t] ty #[u, v]).run P w = .ok v' w' ∧ Owns E e b0 w' v' (xs ++ ys) ∧ w.grownBy w' u.ownBlock ∧ (∀ k, v'.ownBlock = some k → u.ownBlock = some k ∨ w.heap.size ≤ k) := by
  obtain ⟨i, hi, hz, hs, hb⟩ := info_parts R.info
  obtain ⟨a, cap, rfl, h1, h2, h3⟩ := hv
  have hsm := R.small
  by_cases hne : ys = []
  · subst hne
    have hsrc : Src P i.size t (.slice a 0 cap) 0 [] w := by
      cases a
      · exact Src.ofNil w R.und cap
      · exact Src.ofSlice w R.und _ 0 cap [] (by simp) (fun j u h => by simp at h) (fun u h => by cases h)
    obtain ⟨b, c, rfl⟩ := hu.form
    have hlc : xs.length ≤ c := by
      rcases hu.2 with ⟨h', h0⟩ | ⟨g, c', cur, h', -, -, hle, -⟩
      · simp at h'; omega
      · simp at h'; omega
    refine ⟨_, w, run_append_nothing w _ _ ty _ i R.und hi b xs.length c hlc _ hsrc, by rw [List.append_nil]; exact hu, ⟨rfl, rfl, rfl, Nat.le_refl _, fun _ _ _ => rfl⟩, fun k hk => .inl hk⟩
  · obtain ⟨b, off, rfl, -, hc⟩ := h3 hne
    have hpos : 0 < ys.length := List.length_pos_iff.2 hne
    have hmul : (xs.length + ys.length) * bytes ≤ 4194304 * 1024 := Nat.mul_le_mul hlen hsm
    obtain ⟨g, c, w', hr, ho, hg, hloc, -⟩ := run_append_lies (P := P) w t ty b0 e i _ E.sz bytes R.und hi hz hs hb R.zsize E.pos u xs.length (fv E xs) hu ⟨b, off, none⟩ ys.length cap (fv E ys) (by rw [fv_length]) (news_of hc) (fv_one ys) hpos (by unfold maxLen; omega) (by omega) h0 w.heap.size rfl
    refine ⟨_, w', hr, ?_, hg, fun k hk => ?_⟩
    · unfold Owns; rw [List.length_append, fv_append]; exact ho
    · cases hk
      rcases hloc with h | h
      · exact .inl h
      · exact .inr (Nat.le_of_eq h.symm)
end

/-! ### a row filled from its beginning -/
section
variable (z : α) (xs : List α)
def pad (k : Nat) : List α := xs.take k ++ List.replicate (xs.length - k) z
theorem pad_zero : pad z xs 0 = List.replicate xs.length z := by simp [pad]
theorem pad_full : pad z xs xs.length = xs := by simp [pad]
theorem pad_length (k : Nat) (h : k ≤ xs.length) : (pad z xs k).length = xs.length := by simp [pad]; omega
theorem pad_at (k : Nat) (h : k < xs.length) (h' : k < (pad z xs k).length) : (pad z xs k)[k] = z := by
  have hl : (xs.take k).length = k := by simp; omega
  have e : (pad z xs k)[k]? = some z := by
    unfold pad
    rw [List.getElem?_append_right (by omega), hl, Nat.sub_self, List.getElem?_replicate, if_pos (by omega)]
  rw [List.getElem?_eq_getElem h'] at e
  exact Option.some.inj e
theorem pad_set (k : Nat) (h : k < xs.length) : (pad z xs k).set k xs[k] = pad z xs (k + 1) := by
  unfold pad
  have e : List.replicate (xs.length - k) z = z :: List.replicate (xs.length - (k + 1)) z := by
    rw [show xs.length - k = (xs.length - (k + 1)) + 1 by omega, List.replicate_succ]
  have hl : (xs.take k).length = k := by simp; omega
  rw [e, List.set_append_right _ _ (by omega), hl, Nat.sub_self, List.set_cons_zero, List.take_succ_eq_append_getElem h, List.append_assoc]
  rfl
end
end
end Flat
end Go.Proofs.Ytppkohkcffnghaa
/- Ops: when one is right; the specification's small tests. -/
namespace Go.Proofs.Ytppkohkcffnghaa
open Go.RowKit
namespace Ops

/-- between two numbers -/
def inn (lo hi x : Int) : Bool := decide (lo ≤ x) && decide (x ≤ hi)
/-- which spans the three fields of an op have, by its kind -/
def spans (k : Int) : Option ((Int × Int) × (Int × Int) × (Int × Int)) :=
  if k = 1 then some ((0, 3), (0, 65535), (0, 0))
  else if k = 2 ∨ k = 3 ∨ k = 4 then some ((0, 3), (0, 3), (0, 3))
  else if k = 5 then some ((0, 3), (0, 7), (0, 0))
  else if k = 6 then some ((0, 7), (0, 3), (0, 0))
  else if k = 7 then some ((0, 3), (1, 20), (0, 0))
  else if k = 8 ∨ k = 15 ∨ k = 16 then some ((0, 3), (0, 0), (0, 0))
  else if k = 9 ∨ k = 10 ∨ k = 11 then some ((0, 0), (0, 0), (0, 0))
  else if k = 12 then some ((0, 7), (0, 3), (0, 3))
  else if k = 13 then some ((0, 3), (0, 7), (0, 0))
  else if k = 14 then some ((0, 7), (0, 3), (0, 0))
  else none
/-- an op is right -/
def opOk (k a b c : Int) : Bool :=
  match spans k with
  | none => false
  | some (p, q, r) => inn p.1 p.2 a && inn q.1 q.2 b && inn r.1 r.2 c

theorem kinds (k : Int) : k = 1 ∨ k = 2 ∨ k = 3 ∨ k = 4 ∨ k = 5 ∨ k = 6 ∨ k = 7 ∨ k = 8 ∨ k = 9 ∨ k = 10 ∨ k = 11 ∨ k = 12 ∨ k = 13 ∨ k = 14 ∨ k = 15 ∨ k = 16 ∨ (k < 1 ∨ 16 < k) := by omega
theorem spans_none {k : Int} (h : k < 1 ∨ 16 < k) : spans k = none := by
  unfold spans
  repeat rw [if_neg (by omega)]
theorem inn_zero (x : Int) : inn 0 0 x = (x == 0) := by
  unfold inn
  by_cases h : x = 0
  · subst h; rfl
  · by_cases h1 : 0 ≤ x <;> by_cases h2 : x ≤ 0 <;> simp [h, h1, h2] ; omega

set_option maxRecDepth 100000 in
theorem innC (x lo hi : Int) (w : World) : Calls Try.prog 71 #[.int .i64 x, .int .i64 lo, .int .i64 hi] w fun e w' => e = .returned (.bool (inn lo hi x)) ∧ w = w' := by
  unfold inn
  by_cases h1 : lo ≤ x
  · have h1' : decide (lo ≤ x) = true := decide_eq_true h1
    go_enter Try.func71, Try.ntmps71
    go_wp2
    go_ret
    simp [h1]
  · have h1' : decide (lo ≤ x) = false := decide_eq_false h1
    go_enter Try.func71, Try.ntmps71
    go_wp2
    go_ret
    simp

set_option maxRecDepth 100000 in
theorem regC (x : Int) (w : World) : Calls Try.prog 107 #[.int .i64 x] w fun e w' => e = .returned (.bool (inn 0 3 x)) ∧ w = w' := by
  go_enter Try.func107, Try.ntmps107
  go_wp2_with fail
  refine (innC x 0 3 w).mono ?_
  rintro e w1 ⟨rfl, rfl⟩
  go_wp2
  go_ret
  exact ⟨rfl, rfl⟩
set_option maxRecDepth 100000 in
theorem valC (x : Int) (w : World) : Calls Try.prog 70 #[.int .i64 x] w fun e w' => e = .returned (.bool (inn 0 65535 x)) ∧ w = w' := by
  go_enter Try.func70, Try.ntmps70
  go_wp2_with fail
  refine (innC x 0 65535 w).mono ?_
  rintro e w1 ⟨rfl, rfl⟩
  go_wp2
  go_ret
  exact ⟨rfl, rfl⟩
set_option maxRecDepth 100000 in
theorem cellC (x : Int) (w : World) : Calls Try.prog 108 #[.int .i64 x] w fun e w' => e = .returned (.bool (inn 0 7 x)) ∧ w = w' := by
  go_enter Try.func108, Try.ntmps108
  go_wp2_with fail
  refine (innC x 0 7 w).mono ?_
  rintro e w1 ⟨rfl, rfl⟩
  go_wp2
  go_ret
  exact ⟨rfl, rfl⟩

/-- an op as a value -/
def opV (k a b c : Int) : Value := .agg #[.int .i64 k, .int .i64 a, .int .i64 b, .int .i64 c]
end Ops
end Go.Proofs.Ytppkohkcffnghaa
/- Rows of ops in memory: the laws' own copies, comparisons and sizes. -/
set_option linter.unusedVariables false
namespace Go.Proofs.Ytppkohkcffnghaa
open Go.RowKit
namespace Ops
open Bas Flat

/-- an op's four numbers -/
structure O4 where
  k : Int
  a : Int
  b : Int
  c : Int
def O4.val (x : O4) : Value := opV x.k x.a x.b x.c
def opEl : El O4 where
  sz := 4
  cells x := [.int .i64 x.k, .int .i64 x.a, .int .i64 x.b, .int .i64 x.c]
  len _ := rfl
  one x v hv := by simp at hv; rcases hv with rfl | rfl | rfl | rfl <;> rfl
  pos := by decide
def z4 : O4 := ⟨0, 0, 0, 0⟩
theorem rowOp : Row Try.prog opEl 24 30 (.agg #[.int .i64 0, .int .i64 0, .int .i64 0, .int .i64 0]) z4 32 :=
  ⟨Try.underlying24, by kernel_rfl, rfl, by decide⟩
abbrev Sees4 (B : Nat) (w : World) (v : Value) (xs : List O4) : Prop := Sees opEl B w v xs
abbrev Owns4 (B : Nat) (w : World) (v : Value) (xs : List O4) : Prop := Owns opEl 30 B w v xs
theorem at4 {w : World} {b o : Nat} {x : O4} (h : At opEl w b o x) : w.cell? ⟨b, o, none⟩ = some (.int .i64 x.k) ∧ w.cell? ⟨b, o + 1, none⟩ = some (.int .i64 x.a) ∧ w.cell? ⟨b, o + 2, none⟩ = some (.int .i64 x.b) ∧ w.cell? ⟨b, o + 3, none⟩ = some (.int .i64 x.c) :=
  ⟨h 0 _ rfl, h 1 _ rfl, h 2 _ rfl, h 3 _ rfl⟩
/-- the world behind an op's store -/
def set4 (w : World) (g j : Nat) (x : O4) : World := (((w.setCell ⟨g, j * 4, none⟩ (.int .i64 x.k)).setCell ⟨g, j * 4 + 1, none⟩ (.int .i64 x.a)).setCell ⟨g, j * 4 + 2, none⟩ (.int .i64 x.b)).setCell ⟨g, j * 4 + 3, none⟩ (.int .i64 x.c)
theorem below_set4 {B g : Nat} {a w : World} (h : Below B a w) (hg : B ≤ g) (j : Nat) (x : O4) : Below B a (set4 w g j x) := (((h.setCell hg _).setCell hg _).setCell hg _).setCell hg _
theorem own_set4 {B g n cap : Nat} {w : World} {xs : List O4} (h : w.ownsRow B 30 4 (.slice (some ⟨g, 0, none⟩) n cap) n (fv opEl xs)) (j : Nat) (hj : j < xs.length) (x : O4) :
    (set4 w g j x).ownsRow B 30 4 (.slice (some ⟨g, 0, none⟩) n cap) n (fv opEl (xs.set j x)) := by
  obtain ⟨y, hy⟩ : ∃ y, xs[j] = y := ⟨_, rfl⟩
  have h0 := own_set (E := opEl) h j hj 0 (by decide) (.int .i64 x.k) ⟨x.k, y.a, y.b, y.c⟩ (by rw [hy]; rfl)
  have h1 := own_set (E := opEl) h0 j (by simp; exact hj) 1 (by decide) (.int .i64 x.a) ⟨x.k, x.a, y.b, y.c⟩ (by simp; rfl)
  have h2 := own_set (E := opEl) h1 j (by simp; exact hj) 2 (by decide) (.int .i64 x.b) ⟨x.k, x.a, x.b, y.c⟩ (by simp; rfl)
  have h3 := own_set (E := opEl) h2 j (by simp; exact hj) 3 (by decide) (.int .i64 x.c) x (by simp; rfl)
  simp only [List.set_set] at h3
  exact h3

set_option maxRecDepth 100000 in
set_option maxHeartbeats 800000 in
theorem toOpE (x : O4) (w : World) : Calls Try.prog 84 #[x.val] w fun e w' => e = .returned x.val ∧ Below w.heap.size w w' := by
  obtain ⟨k, a, b, c⟩ := x
  show Calls _ _ #[.agg #[.int .i64 k, .int .i64 a, .int .i64 b, .int .i64 c]] _ (fun e w' => e = .returned (.agg #[.int .i64 k, .int .i64 a, .int .i64 b, .int .i64 c]) ∧ _)
  go_enter Try.func84, Try.ntmps84
  go_wp2
  refine bodyPost_ret (v := .agg #[.int .i64 k, .int .i64 a, .int .i64 b, .int .i64 c]) (by simp [results, Try.results84, go_sem]) rfl ⟨rfl, ?_⟩
  exact (((Below.refl _ _).alloc (Nat.le_refl _) _).alloc (by simp) _).alloc (by simp; omega) _

set_option maxRecDepth 100000 in
set_option maxHeartbeats 1600000 in
theorem toOpsC (v : Value) (xs : List O4) (B : Nat) (w : World) (hv : Sees4 B w v xs) (hB : B ≤ w.heap.size) (hlen : xs.length ≤ 1048576) :
    Calls Try.prog 39 #[v] w fun e w' => ∃ v', e = .returned v' ∧ Owns4 w.heap.size w' v' xs ∧ Below w.heap.size w w' := by
  obtain ⟨a, cap, rfl, h1, h2, h3⟩ := hv
  obtain ⟨n, hn⟩ : ∃ n, xs.length = n := ⟨_, rfl⟩
  rw [hn] at h1 hlen ⊢
  obtain ⟨w1, hB1, hs1, hmk, hO⟩ := make rowOp n (by omega) w w.heap.size (Nat.le_refl _)
  obtain ⟨g, hg⟩ : ∃ g, w.heap.size = g := ⟨_, rfl⟩
  rw [hg] at hmk hO hB1 hs1 hB ⊢
  go_enter Try.func39, Try.ntmps39
  go_wp2
  go_loopw [4] (fun i wr => ∃ k : Nat, k ≤ n ∧ i = .int .i64 k ∧ wr.ownsRow g 30 4 (.slice (some ⟨g, 0, none⟩) n n) n (fv opEl (pad z4 xs k)) ∧ Below g w wr) (fun i _ => n - (intOf i).toNat)
  case atStart => exact ⟨0, Nat.zero_le _, rfl, by rw [pad_zero, hn]; exact hO, hB1⟩
  case round =>
    obtain ⟨k, hk, rfl, hR, hb⟩ := hrel
    clear hmk hO hB1 hs1
    by_cases hlt : k < n
    · obtain ⟨b, off, rfl, hbB, hc⟩ := h3 (fun h => by simp [h] at hn; omega)
      obtain ⟨a0, a1, a2, a3⟩ := at4 ((hc k (by omega)).on hb (by omega))
      obtain ⟨hgg, hgs⟩ := own_low (E := opEl) hR
      have HP : Hid ((pad z4 xs k).set k xs[k] = pad z4 xs (k + 1)) := pad_set z4 xs k (by omega)
      have hpl : (pad z4 xs k).length = n := by rw [pad_length z4 xs k (by omega)]; exact hn
      obtain ⟨x, hx⟩ : ∃ x, xs[k] = x := ⟨_, rfl⟩
      rw [hx] at a0 a1 a2 a3 HP
      change wr.cell? ⟨b, off + k * 4, none⟩ = _ at a0
      change wr.cell? ⟨b, off + k * 4 + 1, none⟩ = _ at a1
      change wr.cell? ⟨b, off + k * 4 + 2, none⟩ = _ at a2
      change wr.cell? ⟨b, off + k * 4 + 3, none⟩ = _ at a3
      have cT := toOpE x
      have eV : x.val = .agg #[.int .i64 x.k, .int .i64 x.a, .int .i64 x.b, .int .i64 x.c] := rfl
      rw [eV] at cT
      have HT := (show Hid _ from cT)
      clear hx hc h3 hgg cT eV
      go_wp2_with (go_at_call 84; refine (HT.out _).mono ?_; rintro e w2 ⟨rfl, hb2⟩; have hR2 := owns_on hR hb2 (Nat.le_refl _); obtain ⟨c0, c1, c2, c3⟩ := at4 (own_at (E := opEl) hR2 k (by omega)); change w2.cell? ⟨g, k * 4, none⟩ = _ at c0; change w2.cell? ⟨g, k * 4 + 1, none⟩ = _ at c1; change w2.cell? ⟨g, k * 4 + 2, none⟩ = _ at c2; change w2.cell? ⟨g, k * 4 + 3, none⟩ = _ at c3; have hfz := fun j => hR2.frozenAt j)
      have hR3 := own_set4 hR2 k (by omega) x
      rw [HP.out] at hR3
      unfold set4 at hR3
      go_roundw
      case rel => exact ⟨k + 1, by omega, by go_num, hR3, ((((hb.trans (hb2.mono (by omega))).setCell (Nat.le_refl _) _).setCell (Nat.le_refl _) _).setCell (Nat.le_refl _) _).setCell (Nat.le_refl _) _⟩
      case measure => simp [intOf]; omega
    · obtain rfl : k = n := by omega
      go_wp2
      go_ret
      rw [← hn, pad_full] at hR
      exact ⟨_, rfl, hn ▸ hR, hb⟩

set_option maxRecDepth 100000 in
set_option maxHeartbeats 400000 in
theorem eqOpE (x : O4) (w : World) : Calls Try.prog 85 #[x.val, x.val] w fun e w' => e = .returned (.bool true) ∧ Below w.heap.size w w' := by
  obtain ⟨k, a, b, c⟩ := x
  show Calls _ _ #[.agg #[.int .i64 k, .int .i64 a, .int .i64 b, .int .i64 c], .agg #[.int .i64 k, .int .i64 a, .int .i64 b, .int .i64 c]] _ _
  go_enter Try.func85, Try.ntmps85
  go_wp2
  go_ret
  exact ⟨rfl, ((Below.refl _ _).alloc (Nat.le_refl _) _).alloc (by simp) _⟩

set_option maxRecDepth 100000 in
set_option maxHeartbeats 1600000 in
theorem eqOpsC (v v' : Value) (xs : List O4) (B : Nat) (w : World) (hv : Sees4 B w v xs) (hv' : Sees4 B w v' xs) (hB : B ≤ w.heap.size) :
    Calls Try.prog 40 #[v, v'] w fun e w' => e = .returned (.bool true) ∧ Below w.heap.size w w' := by
  obtain ⟨a, cap, rfl, h1, h2, h3⟩ := hv
  obtain ⟨a', cap', rfl, h1', h2', h3'⟩ := hv'
  obtain ⟨n, hn⟩ : ∃ n, xs.length = n := ⟨_, rfl⟩
  have hm : (n : Int) ≤ 9223372036854775807 := by unfold maxLen at h2; omega
  rw [hn]
  obtain ⟨g, hg⟩ : ∃ g, w.heap.size = g := ⟨_, rfl⟩
  rw [hg] at hB ⊢
  clear h1 h2 h1' h2'
  go_enter Try.func40, Try.ntmps40
  go_wp2
  go_loopw [5] (fun i wr => ∃ k : Nat, k ≤ n ∧ i = .int .i64 k ∧ Below g w wr) (fun i _ => n - (intOf i).toNat)
  case atStart => exact ⟨0, Nat.zero_le _, rfl, Below.refl _ _⟩
  case round =>
    obtain ⟨k, hk, rfl, hb⟩ := hrel
    by_cases hlt : k < n
    · obtain ⟨b, off, rfl, hbB, hc⟩ := h3 (fun h => by simp [h] at hn; omega)
      obtain ⟨b', off', rfl, hbB', hc'⟩ := h3' (fun h => by simp [h] at hn; omega)
      obtain ⟨a0, a1, a2, a3⟩ := at4 ((hc k (by omega)).on hb (by omega))
      obtain ⟨d0, d1, d2, d3⟩ := at4 ((hc' k (by omega)).on hb (by omega))
      obtain ⟨x, hx⟩ : ∃ x, xs[k] = x := ⟨_, rfl⟩
      rw [hx] at a0 a1 a2 a3 d0 d1 d2 d3
      change wr.cell? ⟨b, off + k * 4, none⟩ = _ at a0
      change wr.cell? ⟨b, off + k * 4 + 1, none⟩ = _ at a1
      change wr.cell? ⟨b, off + k * 4 + 2, none⟩ = _ at a2
      change wr.cell? ⟨b, off + k * 4 + 3, none⟩ = _ at a3
      change wr.cell? ⟨b', off' + k * 4, none⟩ = _ at d0
      change wr.cell? ⟨b', off' + k * 4 + 1, none⟩ = _ at d1
      change wr.cell? ⟨b', off' + k * 4 + 2, none⟩ = _ at d2
      change wr.cell? ⟨b', off' + k * 4 + 3, none⟩ = _ at d3
      have cT := eqOpE x
      have eV : x.val = .agg #[.int .i64 x.k, .int .i64 x.a, .int .i64 x.b, .int .i64 x.c] := rfl
      rw [eV] at cT
      have HT := (show Hid _ from cT)
      clear hx hc h3 hc' h3' cT eV
      go_wp2_with fail
      go_region_with (go_at_call 85; refine (HT.out _).mono ?_; rintro e w2 ⟨rfl, hb2⟩)
      all_goals
        go_wp2
        go_roundw
        case rel =>
          have hle : g ≤ wr.heap.size := by have := hb.size; omega
          refine ⟨k + 1, by omega, by go_num, ?_⟩
          first | exact hb.trans (hb2.mono hle) | exact hb.drew.trans (hb2.mono hle) | exact hb.drew.drew.trans (hb2.mono hle)
        case measure => simp [intOf]; omega
    · obtain rfl : k = n := by omega
      go_wp2
      go_ret
      exact ⟨rfl, hb⟩

set_option maxRecDepth 100000 in
theorem szOpsC (a : Option Addr) (n cap : Nat) (left : Int) (w : World) (h0 : 0 ≤ left) (h1 : left ≤ 1048576) (hm : n ≤ maxLen) :
    Calls Try.prog 37 #[.slice a n cap, .int .i64 left] w fun e w' => e = .returned (.int .i64 (if (n : Int) ≤ left then left - n else -1)) ∧ w = w' := by
  have hm' : (n : Int) ≤ 9223372036854775807 := by unfold maxLen at hm; omega
  clear hm
  by_cases h : (n : Int) ≤ left
  · rw [if_pos h]
    go_enter Try.func37, Try.ntmps37
    go_wp2
    go_ret
    exact ⟨rfl, rfl⟩
  · rw [if_neg h]
    have h' : left < (n : Int) := by omega
    go_enter Try.func37, Try.ntmps37
    go_wp2
    go_ret
    exact ⟨rfl, rfl⟩
end Ops
end Go.Proofs.Ytppkohkcffnghaa
/- Shapes: what the functions of chapter 5 say, as plain mathematics. -/
set_option linter.unusedVariables false
namespace Go.Proofs.Ytppkohkcffnghaa
namespace Ops

/-- what an op adds to the depth -/
def delta (o : O4) : Int := if o.k = 8 then 1 else if o.k = 9 then -1 else 0
theorem delta_range (o : O4) : -1 ≤ delta o ∧ delta o ≤ 1 := by
  unfold delta
  by_cases h8 : o.k = 8
  · rw [if_pos h8]; omega
  · rw [if_neg h8]; split <;> omega
def dsum (xs : List O4) : Int := (xs.map delta).sum
theorem dsum_nil : dsum [] = 0 := rfl
theorem dsum_snoc (xs : List O4) (o : O4) : dsum (xs ++ [o]) = dsum xs + delta o := by simp [dsum]
theorem dsum_range (xs : List O4) : -(xs.length : Int) ≤ dsum xs ∧ dsum xs ≤ xs.length := by
  induction xs with
  | nil => simp [dsum]
  | cons o r ih =>
    have := delta_range o
    have e : dsum (o :: r) = delta o + dsum r := by simp [dsum]
    rw [e, List.length_cons]; omega
theorem take_succ {xs : List O4} {k : Nat} (h : k < xs.length) : xs.take (k + 1) = xs.take k ++ [xs[k]] := List.take_succ_eq_append_getElem h
theorem dsum_take {xs : List O4} {k : Nat} (h : k < xs.length) : dsum (xs.take (k + 1)) = dsum (xs.take k) + delta xs[k] := by rw [take_succ h, dsum_snoc]
theorem dsum_take_range (xs : List O4) (k : Nat) : -(k : Int) ≤ dsum (xs.take k) ∧ dsum (xs.take k) ≤ k := by
  have := dsum_range (xs.take k)
  have hl : (xs.take k).length ≤ k := List.length_take_le _ _
  omega
/-- DepthAt -/
def depthAt (xs : List O4) (i : Int) : Int := dsum (xs.take i.toNat)

/-- the first place, from k on, at which the depth d is nought -/
def endGo : List O4 → Int → Nat → Int
  | [], _, _ => -1
  | o :: r, d, k => if d + delta o = 0 then k else endGo r (d + delta o) (k + 1)
/-- EndOf -/
def endOf (xs : List O4) (i : Int) : Int :=
  if 0 ≤ i ∧ i < xs.length ∧ (xs.getD i.toNat z4).k = 8 then endGo (xs.drop i.toNat) 0 i.toNat else -1
theorem endGo_step {xs : List O4} {k : Nat} (h : k < xs.length) (d : Int) : endGo (xs.drop k) d k = if d + delta xs[k] = 0 then (k : Int) else endGo (xs.drop (k + 1)) (d + delta xs[k]) (k + 1) := by
  rw [List.drop_eq_getElem_cons h]; rfl

/-- whole blocks alone in the first n -/
def skipGo : List O4 → Nat → Int → Bool
  | _, 0, d => d == 0
  | [], _ + 1, _ => false
  | o :: r, n + 1, d => decide (0 ≤ d + delta o) && skipGo r n (d + delta o)
/-- the skip at i passes over whole blocks alone -/
def skipOk (xs : List O4) (i : Nat) : Bool :=
  decide ((i : Int) + 1 + (xs.getD i z4).b ≤ xs.length) && skipGo (xs.drop (i + 1)) (xs.getD i z4).b.toNat 0
theorem skipGo_step {xs : List O4} {k : Nat} (h : k < xs.length) (n : Nat) (d : Int) : skipGo (xs.drop k) (n + 1) d = (decide (0 ≤ d + delta xs[k]) && skipGo (xs.drop (k + 1)) n (d + delta xs[k])) := by
  rw [List.drop_eq_getElem_cons h]; rfl

/-- an op is right -/
def okOp (o : O4) : Bool := opOk o.k o.a o.b o.c
/-- what is left of a code from place i on is right, at depth d, with so many forks ahead -/
def codeGo (xs : List O4) : List O4 → Nat → Int → Nat → Bool
  | [], _, d, _ => d == 0
  | o :: r, i, d, f => okOp o && (!(o.k == 7) || skipOk xs i) && (!(o.k == 11) || (decide (d ≤ 0) && decide (f = 0))) && decide (0 ≤ d + delta o) && codeGo xs r (i + 1) (d + delta o) (if o.k = 11 then f + 1 else f)
/-- CodeOk -/
def codeOk (xs : List O4) : Bool := decide (xs.length ≤ 24) && codeGo xs xs 0 0 0
theorem codeGo_step {xs : List O4} {k : Nat} (h : k < xs.length) (d : Int) (f : Nat) : codeGo xs (xs.drop k) k d f =
    (okOp xs[k] && (!(xs[k].k == 7) || skipOk xs k) && (!(xs[k].k == 11) || (decide (d ≤ 0) && decide (f = 0))) && decide (0 ≤ d + delta xs[k]) && codeGo xs (xs.drop (k + 1)) (k + 1) (d + delta xs[k]) (if xs[k].k = 11 then f + 1 else f)) := by
  rw [List.drop_eq_getElem_cons h]; rfl
/-- HasFork -/
def hasFork (xs : List O4) : Bool := xs.any fun o => o.k == 11
theorem hasFork_yes {xs : List O4} {k : Nat} (h : k < xs.length) (hk : xs[k].k = 11) : hasFork xs = true :=
  List.any_eq_true.2 ⟨xs[k], List.getElem_mem h, by simp [hk]⟩
theorem hasFork_no {xs : List O4} (h : ∀ j (h : j < xs.length), ¬ xs[j].k = 11) : hasFork xs = false := by
  refine List.any_eq_false.2 fun o ho => ?_
  obtain ⟨j, hj, rfl⟩ := List.mem_iff_getElem.1 ho
  simpa using h j hj
/-- what Touches says of an op -/
def touch (o : O4) : Int := if okOp o = true then (if o.k = 5 ∨ o.k = 6 then 1 else if o.k = 12 ∨ o.k = 13 ∨ o.k = 14 ∨ o.k = 15 ∨ o.k = 16 then 2 else 0) else 0
/-- KidOk -/
def kidOk (xs : List O4) : Bool := codeOk xs && !hasFork xs && xs.all fun o => !(touch o == 2)
theorem all_no {xs : List O4} {k : Nat} {p : O4 → Bool} (h : k < xs.length) (hk : p xs[k] = false) : xs.all p = false := List.all_eq_false.2 ⟨xs[k], List.getElem_mem h, by simp [hk]⟩
theorem all_yes {xs : List O4} {p : O4 → Bool} (h : ∀ j (h : j < xs.length), p xs[j] = true) : xs.all p = true := List.all_eq_true.2 fun o ho => by
  obtain ⟨j, hj, rfl⟩ := List.mem_iff_getElem.1 ho
  exact h j hj
/-- ProgOk -/
def progOk (xs : List O4) (kss : List (List O4)) : Bool := codeOk xs && decide (kss.length ≤ 3) && (hasFork xs == decide (0 < kss.length)) && kss.all kidOk
/-- the same op -/
def same4 (x y : O4) : Bool := decide (x.k = y.k ∧ x.a = y.a ∧ x.b = y.b ∧ x.c = y.c)
def sameGo : List O4 → List O4 → Bool
  | [], [] => true
  | x :: r, y :: t => same4 x y && sameGo r t
  | _, _ => false
/-- SameProg -/
def sameProg (xs : List O4) (kss : List (List O4)) (ys : List O4) (lss : List (List O4)) : Bool := sameGo xs ys && decide (kss.length = lss.length) && (kss.zip lss).all fun p => sameGo p.1 p.2
end Ops
end Go.Proofs.Ytppkohkcffnghaa
/- Blocks on a stack: the program's way to tell right code, as plain mathematics. -/
set_option linter.unusedVariables false
namespace Go.Proofs.Ytppkohkcffnghaa
namespace Ops

/-- a block: where it begins, how many are around it -/
structure B2 where
  b : Int
  d : Int
/-- the stack of begins, the innermost first, as it lies in memory: the innermost last, each with how many are around it -/
def stk : List Int → List B2
  | [] => []
  | x :: r => stk r ++ [⟨x, r.length⟩]
theorem stk_length (s : List Int) : (stk s).length = s.length := by
  induction s with
  | nil => rfl
  | cons x r ih => simp [stk, ih]
theorem stk_last (x : Int) (r : List Int) (h : r.length < (stk (x :: r)).length) : (stk (x :: r))[r.length] = ⟨x, r.length⟩ := by
  have hl := stk_length r
  have : (stk (x :: r))[r.length]? = some ⟨x, r.length⟩ := by
    show (stk r ++ [⟨x, r.length⟩])[r.length]? = _
    rw [List.getElem?_append_right (by omega), hl, Nat.sub_self]; rfl
  rw [List.getElem?_eq_getElem h] at this
  exact Option.some.inj this
/-- the stack behind an op -/
def stepS (s : List Int) (i : Nat) (o : O4) : List Int := if o.k = 8 then (i : Int) :: s else if o.k = 9 then s.tail else s
/-- the stack ahead of place i -/
def stAt (xs : List O4) : Nat → List Int
  | 0 => [-1]
  | i + 1 => stepS (stAt xs i) i (xs.getD i z4)
theorem stAt_succ {xs : List O4} {i : Nat} (h : i < xs.length) : stAt xs (i + 1) = stepS (stAt xs i) i xs[i] := by
  show stepS _ _ (xs.getD i z4) = _
  simp [List.getD, h]
/-- the innermost block -/
def topB (s : List Int) : B2 := ⟨s.headD (-1), (s.length : Int) - 1⟩
/-- the innermost block ahead of each of the first places -/
def homes (xs : List O4) (k : Nat) : List B2 := (List.range k).map fun j => topB (stAt xs j)
theorem homes_length (xs : List O4) (k : Nat) : (homes xs k).length = k := by simp [homes]
theorem homes_succ (xs : List O4) (k : Nat) : homes xs (k + 1) = homes xs k ++ [topB (stAt xs k)] := by simp [homes, List.range_succ]
theorem homes_at (xs : List O4) (k j : Nat) (h : j < (homes xs k).length) : (homes xs k)[j] = topB (stAt xs j) := by simp [homes]

/-- no end too many, and none too few -/
def closedGo : List O4 → Int → Bool
  | [], d => d == 0
  | o :: r, d => decide (0 ≤ d + delta o) && closedGo r (d + delta o)
theorem closedGo_step {xs : List O4} {k : Nat} (h : k < xs.length) (d : Int) : closedGo (xs.drop k) d = (decide (0 ≤ d + delta xs[k]) && closedGo (xs.drop (k + 1)) (d + delta xs[k])) := by
  rw [List.drop_eq_getElem_cons h]; rfl
/-- each skip passes over whole blocks -/
def skipsGo (xs : List O4) : List O4 → Nat → Bool
  | [], _ => true
  | o :: r, i => (!(o.k == 7) || skipOk xs i) && skipsGo xs r (i + 1)
theorem skipsGo_step {xs : List O4} {k : Nat} (h : k < xs.length) : skipsGo xs (xs.drop k) k = ((!(xs[k].k == 7) || skipOk xs k) && skipsGo xs (xs.drop (k + 1)) (k + 1)) := by
  rw [List.drop_eq_getElem_cons h]; rfl
/-- one fork at most, outside of blocks -/
def forksGo : List O4 → Int → Nat → Bool
  | [], _, _ => true
  | o :: r, d, f => (!(o.k == 11) || (decide (d ≤ 0) && decide (f = 0))) && forksGo r (d + delta o) (if o.k = 11 then f + 1 else f)
theorem forksGo_step {xs : List O4} {k : Nat} (h : k < xs.length) (d : Int) (f : Nat) : forksGo (xs.drop k) d f = ((!(xs[k].k == 11) || (decide (d ≤ 0) && decide (f = 0))) && forksGo (xs.drop (k + 1)) (d + delta xs[k]) (if xs[k].k = 11 then f + 1 else f)) := by
  rw [List.drop_eq_getElem_cons h]; rfl
theorem codeGo_split (xs ys : List O4) : ∀ (i : Nat) (d : Int) (f : Nat), codeGo xs ys i d f = (ys.all okOp && (closedGo ys d && (skipsGo xs ys i && forksGo ys d f))) := by
  induction ys with
  | nil => intro i d f; simp [codeGo, closedGo, skipsGo, forksGo]
  | cons o r ih =>
    intro i d f
    show (okOp o && (!(o.k == 7) || skipOk xs i) && (!(o.k == 11) || (decide (d ≤ 0) && decide (f = 0))) && decide (0 ≤ d + delta o) && codeGo xs r (i + 1) (d + delta o) (if o.k = 11 then f + 1 else f)) =
      ((okOp o && r.all okOp) && ((decide (0 ≤ d + delta o) && closedGo r (d + delta o)) && (((!(o.k == 7) || skipOk xs i) && skipsGo xs r (i + 1)) && ((!(o.k == 11) || (decide (d ≤ 0) && decide (f = 0))) && forksGo r (d + delta o) (if o.k = 11 then f + 1 else f)))))
    rw [ih]
    generalize okOp o = a1
    generalize (!(o.k == 7) || skipOk xs i) = a2
    generalize (!(o.k == 11) || (decide (d ≤ 0) && decide (f = 0))) = a3
    generalize decide (0 ≤ d + delta o) = a4
    generalize r.all okOp = a5
    generalize closedGo r (d + delta o) = a6
    generalize skipsGo xs r (i + 1) = a7
    generalize forksGo r (d + delta o) (if o.k = 11 then f + 1 else f) = a8
    cases a1 <;> cases a2 <;> cases a3 <;> cases a4 <;> simp
theorem codeOk_split (xs : List O4) : codeOk xs = (decide (xs.length ≤ 24) && (xs.all okOp && (closedGo xs 0 && (skipsGo xs xs 0 && forksGo xs 0 0)))) := by
  unfold codeOk; rw [codeGo_split]

/-- the kinds of an op, as the stack takes it -/
theorem step8 {s : List Int} {i : Nat} {o : O4} (h : o.k = 8) : stepS s i o = (i : Int) :: s := by unfold stepS; rw [if_pos h]
theorem step9 {s : List Int} {i : Nat} {o : O4} (h : o.k = 9) : stepS s i o = s.tail := by unfold stepS; rw [if_neg (by omega), if_pos h]
theorem step0 {s : List Int} {i : Nat} {o : O4} (h8 : ¬ o.k = 8) (h9 : ¬ o.k = 9) : stepS s i o = s := by unfold stepS; rw [if_neg h8, if_neg h9]
theorem delta8 {o : O4} (h : o.k = 8) : delta o = 1 := by unfold delta; rw [if_pos h]
theorem delta9 {o : O4} (h : o.k = 9) : delta o = -1 := by unfold delta; rw [if_neg (by omega), if_pos h]
theorem delta0 {o : O4} (h8 : ¬ o.k = 8) (h9 : ¬ o.k = 9) : delta o = 0 := by unfold delta; rw [if_neg h8, if_neg h9]
theorem step_len {s : List Int} {i : Nat} {o : O4} (h : 1 ≤ s.length) : ((stepS s i o).length : Int) = s.length + delta o := by
  by_cases h8 : o.k = 8
  · rw [step8 h8, delta8 h8]; simp
  · by_cases h9 : o.k = 9
    · rw [step9 h9, delta9 h9, List.length_tail]; omega
    · rw [step0 h8 h9, delta0 h8 h9]; omega

/-- in closed code there always is an innermost block -/
theorem closed_at {xs : List O4} (hc : closedGo xs 0 = true) : ∀ k, k ≤ xs.length → 1 ≤ (stAt xs k).length ∧ closedGo (xs.drop k) (((stAt xs k).length : Int) - 1) = true := by
  intro k
  induction k with
  | zero => intro _; exact ⟨by simp [stAt], by simpa [stAt] using hc⟩
  | succ k ih =>
    intro hk
    obtain ⟨h1, h2⟩ := ih (by omega)
    rw [closedGo_step (by omega), Bool.and_eq_true] at h2
    obtain ⟨h3, h4⟩ := h2
    have h3 := of_decide_eq_true h3
    have hl := step_len (i := k) (o := xs[k]) h1
    rw [stAt_succ (by omega)]
    refine ⟨by omega, ?_⟩
    rw [hl, show (((stAt xs k).length : Int) + delta xs[k] - 1) = (((stAt xs k).length : Int) - 1 + delta xs[k]) by omega]; exact h4
theorem st_sorted (xs : List O4) : ∀ k, (stAt xs k).Pairwise (· > ·) ∧ ∀ x ∈ stAt xs k, x < (k : Int) := by
  intro k
  induction k with
  | zero => simp [stAt]
  | succ k ih =>
    obtain ⟨h1, h2⟩ := ih
    show (stepS (stAt xs k) k (xs.getD k z4)).Pairwise (· > ·) ∧ ∀ x ∈ stepS (stAt xs k) k (xs.getD k z4), x < ((k + 1 : Nat) : Int)
    obtain ⟨o, ho⟩ : ∃ o, xs.getD k z4 = o := ⟨_, rfl⟩
    rw [ho]
    by_cases h8 : o.k = 8
    · rw [step8 h8]
      refine ⟨List.pairwise_cons.2 ⟨fun x hx => h2 x hx, h1⟩, fun x hx => ?_⟩
      rcases List.mem_cons.1 hx with rfl | hx
      · omega
      · have := h2 x hx; omega
    · by_cases h9 : o.k = 9
      · rw [step9 h9]
        exact ⟨h1.sublist (List.tail_sublist _), fun x hx => by have := h2 x (List.mem_of_mem_tail hx); omega⟩
      · rw [step0 h8 h9]
        exact ⟨h1, fun x hx => by have := h2 x hx; omega⟩
/-- a block that was ended never comes back -/
theorem gone {xs : List O4} {b : Int} : ∀ (m k : Nat), b < (k : Int) → b ∉ stAt xs k → b ∉ stAt xs (k + m) := by
  intro m
  induction m with
  | zero => intro k _ h; exact h
  | succ m ih =>
    intro k hk h
    have := ih k hk h
    show b ∉ stepS (stAt xs (k + m)) (k + m) (xs.getD (k + m) z4)
    obtain ⟨o, ho⟩ : ∃ o, xs.getD (k + m) z4 = o := ⟨_, rfl⟩
    rw [ho]
    by_cases h8 : o.k = 8
    · rw [step8 h8]
      intro hx
      rcases List.mem_cons.1 hx with hx | hx
      · omega
      · exact this hx
    · by_cases h9 : o.k = 9
      · rw [step9 h9]; exact fun hx => this (List.mem_of_mem_tail hx)
      · rw [step0 h8 h9]; exact this
theorem head_mem {s : List Int} (h : 1 ≤ s.length) (d : Int) : s.headD d ∈ s := by
  cases s with
  | nil => simp at h
  | cons x r => simp
/-- what a skip passes over, by the stack -/
theorem skip_walk {xs : List O4} (hc : closedGo xs 0 = true) {b : Int} {r : List Int} : ∀ (n k : Nat) (ex : List Int) (q : Int), stAt xs k = ex ++ b :: r → (ex.length : Int) = q → k + n ≤ xs.length → b < (k : Int) →
    (skipGo (xs.drop k) n q = true → stAt xs (k + n) = b :: r) ∧ (skipGo (xs.drop k) n q = false → (stAt xs (k + n)).headD (-1) ≠ b) := by
  intro n
  induction n with
  | zero =>
    intro k ex q hs hq hk hb
    have e : skipGo (xs.drop k) 0 q = (q == 0) := by cases xs.drop k <;> rfl
    rw [e]
    refine ⟨fun h => ?_, fun h => ?_⟩
    · have : q = 0 := by simpa using h
      have : ex = [] := List.eq_nil_of_length_eq_zero (by omega)
      subst this; exact hs
    · have hq0 : ¬ q = 0 := by simpa using h
      cases ex with
      | nil => simp at hq; omega
      | cons x ex =>
        show (stAt xs k).headD (-1) ≠ b
        have hp := (st_sorted xs k).1
        rw [hs] at hp ⊢
        have := (List.pairwise_cons.1 hp).1 b (by simp)
        show x ≠ b
        omega
  | succ n ih =>
    intro k ex q hs hq hk hb
    have hlt : k < xs.length := by omega
    rw [skipGo_step hlt, show k + (n + 1) = (k + 1) + n by omega]
    have hst := stAt_succ hlt
    by_cases h8 : xs[k].k = 8
    · rw [delta8 h8, decide_eq_true (show 0 ≤ q + 1 by omega), Bool.true_and]
      rw [step8 h8, hs] at hst
      exact ih (k + 1) ((k : Int) :: ex) (q + 1) hst (by simp; omega) (by omega) (by omega)
    · by_cases h9 : xs[k].k = 9
      · rw [delta9 h9]
        rw [step9 h9, hs] at hst
        cases ex with
        | nil =>
          obtain rfl : q = 0 := by simpa using hq.symm
          refine ⟨fun h => by simp at h, fun _ => ?_⟩
          have hp := (st_sorted xs k).1
          rw [hs] at hp
          have hn : b ∉ stAt xs (k + 1) := by
            rw [hst]
            intro hm
            have := (List.pairwise_cons.1 hp).1 b (by simpa using hm)
            omega
          have hg := gone n (k + 1) (by omega) hn
          intro he
          exact hg (he ▸ head_mem (closed_at hc _ (by omega)).1 (-1))
        | cons x ex =>
          have : 0 ≤ q + -1 := by simp at hq; omega
          rw [decide_eq_true this, Bool.true_and]
          exact ih (k + 1) ex (q + -1) hst (by simp at hq; omega) (by omega) (by omega)
      · rw [delta0 h8 h9, decide_eq_true (show 0 ≤ q + 0 by omega), Bool.true_and, Int.add_zero]
        rw [step0 h8 h9, hs] at hst
        exact ih (k + 1) ex q hst hq (by omega) (by omega)
def sameB (x y : B2) : Bool := decide (x.b = y.b ∧ x.d = y.d)
/-- a skip is right just where it ends in its own block -/
theorem skip_home {xs : List O4} (hc : closedGo xs 0 = true) {i t : Nat} (hi : i < xs.length) (h7 : xs[i].k = 7) (ht : xs[i].b = (t : Int)) (hto : i + 1 + t ≤ xs.length) :
    skipOk xs i = sameB (topB (stAt xs (i + 1 + t))) (topB (stAt xs i)) := by
  have hst := stAt_succ hi
  rw [step0 (by omega) (by omega)] at hst
  have hg : xs.getD i z4 = xs[i] := by simp [List.getD, hi]
  have e : skipOk xs i = skipGo (xs.drop (i + 1)) t 0 := by
    unfold skipOk
    rw [hg, ht, decide_eq_true (by omega), Bool.true_and, Int.toNat_natCast]
  rw [e]
  obtain ⟨h1, -⟩ := closed_at hc i (by omega)
  obtain ⟨-, h2⟩ := st_sorted xs i
  match hS : stAt xs i, h1 with
  | b :: r, _ =>
    have hb : b < ((i + 1 : Nat) : Int) := by have := h2 b (by rw [hS]; simp); omega
    rw [hS] at hst
    obtain ⟨y, n⟩ := skip_walk hc (b := b) (r := r) t (i + 1) [] 0 hst rfl hto hb
    obtain ⟨p, hp⟩ : ∃ p, skipGo (xs.drop (i + 1)) t 0 = p := ⟨_, rfl⟩
    rw [hp] at y n ⊢
    unfold sameB topB
    cases p
    · rw [decide_eq_false]
      rintro ⟨h, -⟩
      exact n rfl h
    · rw [y rfl, decide_eq_true ⟨rfl, rfl⟩]

/-- all ops are right -/
theorem code_bad1 {xs : List O4} (h : xs.all okOp = false) : codeOk xs = false := by rw [codeOk_split, h]; simp
theorem code_bad2 {xs : List O4} (h : closedGo xs 0 = false) : codeOk xs = false := by rw [codeOk_split, h]; simp
theorem code_bad3 {xs : List O4} (h : skipsGo xs xs 0 = false) : codeOk xs = false := by rw [codeOk_split, h]; simp
theorem code_all {xs : List O4} (h0 : xs.length ≤ 24) (h1 : xs.all okOp = true) (h2 : closedGo xs 0 = true) (h3 : skipsGo xs xs 0 = true) : codeOk xs = forksGo xs 0 0 := by rw [codeOk_split, h1, h2, h3, decide_eq_true h0]; simp
end Ops
end Go.Proofs.Ytppkohkcffnghaa
/- In right code each block that begins has an end, at which as many are open as ahead of it. -/
set_option linter.unusedVariables false
namespace Go.Proofs.Ytppkohkcffnghaa
namespace Ops

theorem closed_dsum (ys : List O4) : ∀ d : Int, 0 ≤ d → closedGo ys d = true → (∀ k, 0 ≤ d + dsum (ys.take k)) ∧ d + dsum ys = 0 := by
  induction ys with
  | nil => intro d hd h; exact ⟨fun k => by simp [dsum]; exact hd, by simpa [closedGo, dsum] using h⟩
  | cons o r ih =>
    intro d hd h
    have h' : (decide (0 ≤ d + delta o) && closedGo r (d + delta o)) = true := h
    rw [Bool.and_eq_true] at h'
    have h0 := of_decide_eq_true h'.1
    obtain ⟨a, b⟩ := ih _ h0 h'.2
    have e : ∀ l, dsum (o :: l) = delta o + dsum l := fun l => by simp [dsum]
    refine ⟨fun k => ?_, by rw [e]; omega⟩
    cases k with
    | zero => simp [dsum]; exact hd
    | succ k => rw [List.take_succ_cons, e]; have := a k; omega
theorem code_closed {xs : List O4} (h : codeOk xs = true) : closedGo xs 0 = true := by
  rw [codeOk_split] at h
  simp only [Bool.and_eq_true] at h
  exact h.2.2.1
theorem delta_end {o : O4} (h : delta o < 0) : o.k = 9 := by
  unfold delta at h
  by_cases h8 : o.k = 8
  · rw [if_pos h8] at h; omega
  · rw [if_neg h8] at h
    by_cases h9 : o.k = 9
    · exact h9
    · rw [if_neg h9] at h; omega
/-- the search comes to an end -/
theorem end_found {xs : List O4} {D : Int} (hD : 0 ≤ D) (hlen : dsum xs = 0) : ∀ (n k : Nat) (q : Int), k + n = xs.length → q = dsum (xs.take k) - D → 1 ≤ q →
    ∃ e : Nat, endGo (xs.drop k) q k = (e : Int) ∧ k ≤ e ∧ e < xs.length ∧ (∀ h : e < xs.length, xs[e].k = 9) ∧ dsum (xs.take e) = D + 1 ∧ dsum (xs.take (e + 1)) = D := by
  intro n
  induction n with
  | zero =>
    intro k q hk hq h1
    rw [List.take_of_length_le (by omega), hlen] at hq
    omega
  | succ n ih =>
    intro k q hk hq h1
    have hlt : k < xs.length := by omega
    have hs := dsum_take hlt
    have hr := delta_range xs[k]
    rw [endGo_step hlt]
    by_cases hz : q + delta xs[k] = 0
    · rw [if_pos hz]
      exact ⟨k, rfl, Nat.le_refl _, hlt, fun _ => delta_end (by omega), by omega, by omega⟩
    · rw [if_neg hz]
      obtain ⟨e, a1, a2, a3⟩ := ih (k + 1) (q + delta xs[k]) (by omega) (by omega) (by omega)
      exact ⟨e, a1, by omega, a3⟩
/-- what EndOf and DepthAt say of a right code -/
theorem shapes8 {xs : List O4} (h : codeOk xs = true) {i : Nat} (hi : i < xs.length) (h8 : xs[i].k = 8) :
    ∃ e : Nat, endOf xs i = (e : Int) ∧ i < e ∧ e < xs.length ∧ (∀ h : e < xs.length, xs[e].k = 9) ∧ depthAt xs ((e : Int) + 1) = depthAt xs i ∧ depthAt xs e = depthAt xs i + 1 := by
  obtain ⟨p, z⟩ := closed_dsum xs 0 (Int.le_refl _) (code_closed h)
  have hD := p i
  have hg : xs.getD i z4 = xs[i] := by simp [List.getD, hi]
  have he : endOf xs i = endGo (xs.drop i) 0 i := by
    unfold endOf
    rw [Int.toNat_natCast, if_pos ⟨by omega, by omega, by rw [hg]; exact h8⟩]
  have hs := dsum_take hi
  rw [delta8 h8] at hs
  have hd8 := delta8 h8
  rw [endGo_step hi, hd8, if_neg (by omega)] at he
  obtain ⟨e, a1, a2, a3, a4, a5, a6⟩ := end_found (xs := xs) (D := dsum (xs.take i)) (by omega) (by omega) (xs.length - (i + 1)) (i + 1) (0 + 1) (by omega) (by omega) (by omega)
  refine ⟨e, he.trans a1, by omega, a3, a4, ?_, ?_⟩
  · show dsum (xs.take ((e : Int) + 1).toNat) = dsum (xs.take (i : Int).toNat)
    rw [show ((e : Int) + 1).toNat = e + 1 by omega, Int.toNat_natCast]; exact a6
  · show dsum (xs.take (e : Int).toNat) = dsum (xs.take (i : Int).toNat) + 1
    rw [Int.toNat_natCast, Int.toNat_natCast]; exact a5
theorem shapes0 {xs : List O4} {i : Nat} (hi : i < xs.length) (h8 : ¬ xs[i].k = 8) : endOf xs i = -1 := by
  have hg : xs.getD i z4 = xs[i] := by simp [List.getD, hi]
  unfold endOf
  rw [if_neg]
  rintro ⟨-, -, h⟩
  rw [Int.toNat_natCast, hg] at h
  exact h8 h
theorem shapesEnd {xs : List O4} (h : codeOk xs = true) : depthAt xs xs.length = 0 := by
  obtain ⟨p, z⟩ := closed_dsum xs 0 (Int.le_refl _) (code_closed h)
  show dsum (xs.take (xs.length : Int).toNat) = 0
  rw [Int.toNat_natCast, List.take_of_length_le (Nat.le_refl _)]; omega
theorem sameGo_self (xs : List O4) : sameGo xs xs = true := by
  induction xs with
  | nil => rfl
  | cons x r ih =>
    show (same4 x x && sameGo r r) = true
    rw [ih]; simp [same4]
theorem sameProg_self (xs : List O4) : sameProg xs [] xs [] = true := by unfold sameProg; rw [sameGo_self]; rfl
end Ops
end Go.Proofs.Ytppkohkcffnghaa
/- Integers in memory: what a slice of them reads as, and what the call owns of them; the laws' own copies, comparisons and marks. -/
namespace Go.Proofs.Ytppkohkcffnghaa
open Go.RowKit

theorem Try.infoInt : (Try.prog.info? 3).map (fun i => (i.zero, i.size, i.bytes)) = some (some (.int .i64 0), 1, 8) := by kernel_rfl

namespace Ints
open Bas (grownBy_trans)

def iv (zs : List Int) : List Value := zs.map (.int .i64)
theorem iv_length (zs : List Int) : (iv zs).length = zs.length := by simp [iv]
theorem iv_get (zs : List Int) (j : Nat) (h : j < zs.length) : (iv zs)[j]? = some (.int .i64 zs[j]) := by simp [iv, h]
theorem iv_one (zs : List Int) : ∀ v ∈ iv zs, v.oneCell' = true := by
  intro v hv; obtain ⟨x, _, rfl⟩ := List.mem_map.1 hv; rfl
theorem iv_append (a b : List Int) : iv (a ++ b) = iv a ++ iv b := by simp [iv]
theorem iv_set (zs : List Int) (j : Nat) (x : Int) : iv (zs.set j x) = (iv zs).set j (.int .i64 x) := by simp [iv, List.map_set]

def Sees (B : Nat) (w : World) (v : Value) (zs : List Int) : Prop :=
  ∃ a cap, v = .slice a zs.length cap ∧ zs.length ≤ cap ∧ cap ≤ maxLen ∧ (zs ≠ [] → ∃ b off, a = some ⟨b, off, none⟩ ∧ b < B ∧ ∀ j (h : j < zs.length), w.cell? ⟨b, off + j, none⟩ = some (.int .i64 zs[j]))
theorem Sees.on {B B' : Nat} {w w' : World} {v : Value} {zs : List Int} (h : Sees B w v zs) (hb : Below B' w w') (hB : B ≤ B') : Sees B w' v zs := by
  obtain ⟨a, cap, rfl, h1, h2, h3⟩ := h
  refine ⟨a, cap, rfl, h1, h2, fun hne => ?_⟩
  obtain ⟨b, off, rfl, hlt, hc⟩ := h3 hne
  exact ⟨b, off, rfl, hlt, fun j hj => (hb.cell (p := ⟨b, _, none⟩) (by show b < B'; omega)).trans (hc j hj)⟩
theorem Sees.up {B B' : Nat} {w : World} {v : Value} {zs : List Int} (h : Sees B w v zs) (hB : B ≤ B') : Sees B' w v zs := by
  obtain ⟨a, cap, rfl, h1, h2, h3⟩ := h
  refine ⟨a, cap, rfl, h1, h2, fun hne => ?_⟩
  obtain ⟨b, off, rfl, hlt, hc⟩ := h3 hne
  exact ⟨b, off, rfl, by omega, hc⟩
theorem Sees.form {B : Nat} {w : World} {v : Value} {zs : List Int} (h : Sees B w v zs) : ∃ a cap, v = .slice a zs.length cap := by
  obtain ⟨a, cap, h, -⟩ := h; exact ⟨a, cap, h⟩

def Owns (B : Nat) (w : World) (v : Value) (zs : List Int) : Prop := w.ownsRow B 3 1 v zs.length (iv zs)
theorem Owns.sees {B : Nat} {w : World} {v : Value} {zs : List Int} (h : Owns B w v zs) : Sees w.heap.size w v zs := by
  obtain ⟨h1, h2⟩ := h
  rcases h2 with ⟨rfl, h0⟩ | ⟨g, cap, cur, rfl, hB, hg, hle, hm, hsz, htk⟩
  · exact ⟨none, 0, by rw [h0], by omega, by simp, fun hne => absurd (List.eq_nil_of_length_eq_zero h0) hne⟩
  · refine ⟨_, cap, rfl, hle, hm, fun _ => ⟨g, 0, rfl, (Array.getElem?_eq_some_iff.1 hg).1, fun j hj => ?_⟩⟩
    have : w.cell? ⟨g, j, none⟩ = (iv zs)[j]? := by
      rw [← htk, List.getElem?_take, if_pos (by omega)]
      simp [World.cell?, hg]
    rw [Nat.zero_add, this, iv_get zs j hj]
theorem Owns.form {B : Nat} {w : World} {v : Value} {zs : List Int} (h : Owns B w v zs) : ∃ a cap, v = .slice a zs.length cap := h.sees.form
theorem Owns.on {B : Nat} {w w' : World} {v : Value} {zs : List Int} (h : Owns B w v zs) {B' : Nat} (hb : Below B' w w') (hB : w.heap.size ≤ B') : Owns B w' v zs := Bas.owns_on h hb hB
theorem Owns.mono {B B' : Nat} {w : World} {v : Value} {zs : List Int} (h : Owns B w v zs) (hB : B' ≤ B) : Owns B' w v zs := by
  obtain ⟨h1, h2⟩ := h
  refine ⟨h1, ?_⟩
  rcases h2 with h2 | ⟨g, cap, cur, hv, hg, hh, r⟩
  · exact .inl h2
  · exact .inr ⟨g, cap, cur, hv, by omega, hh, r⟩
theorem Owns.keep {B : Nat} {w w' : World} {v : Value} {zs : List Int} (h : Owns B w v zs) (hk : ∀ k, v.ownBlock = some k → w'.heap[k]? = w.heap[k]?) : Owns B w' v zs := by
  obtain ⟨h1, h2⟩ := h
  refine ⟨h1, ?_⟩
  rcases h2 with h2 | ⟨g, cap, cur, rfl, hg, hh, r⟩
  · exact .inl h2
  · exact .inr ⟨g, cap, cur, rfl, hg, by rw [hk g rfl]; exact hh, r⟩
theorem Owns.at {B : Nat} {w : World} {v : Value} {zs : List Int} (h : Owns B w v zs) : ∀ k, v.ownBlock = some k → B ≤ k ∧ k < w.heap.size := by
  intro k hk
  obtain ⟨h1, h2⟩ := h
  rcases h2 with ⟨rfl, h0⟩ | ⟨g, cap, cur, rfl, hg, hh, r⟩
  · cases hk
  · cases hk; exact ⟨hg, (Array.getElem?_eq_some_iff.1 hh).1⟩
theorem Owns.grown {B : Nat} {w w' : World} {v : Value} {zs : List Int} (h : Owns B w v zs) {row : Option Nat} (hg : w.grownBy w' row) (hr : ∀ k, v.ownBlock = some k → some k ≠ row) : Owns B w' v zs :=
  h.keep fun k hk => hg.block k (h.at k hk).2 (hr k hk)
theorem Sees.grown {B : Nat} {W W' : World} {v : Value} {zs : List Int} (h : Sees B W v zs) {row : Option Nat} (hg : W.grownBy W' row) (hB : B ≤ W.heap.size) (hr : ∀ k, row = some k → B ≤ k) : Sees B W' v zs :=
  h.on (B' := B) ((Below.refl B W).grown hg hB hr) (Nat.le_refl _)

theorem makeI (n : Nat) (h : n ≤ 1048576) (w : World) (B : Nat) (hB : B ≤ w.heap.size) : ∃ w1, Below B w w1 ∧ w.heap.size < w1.heap.size ∧
    (Instr.makeSlice 25 (.int .i64 (n : Int)) (.int .i64 (n : Int))).run Try.prog w = .ok (.slice (some ⟨w.heap.size, 0, none⟩) n n) w1 ∧
    w1.ownsRow w.heap.size 3 1 (.slice (some ⟨w.heap.size, 0, none⟩) n n) n (iv (List.replicate n 0)) := by
  obtain ⟨i, hi, hz, hs, hb⟩ := info_parts Try.infoInt
  obtain ⟨w1, h1, h2, h3⟩ := run_make_full (P := Try.prog) w w.heap.size 25 3 i _ 1 Try.underlying25 hi hz hs .i64 .i64 n (by rw [hb]; omega) (by unfold maxLen; omega) (Nat.le_refl _)
  refine ⟨w1, (Below.refl _ _).grown h3 hB (fun k hk => by cases hk), ?_, h1, ?_⟩
  · obtain ⟨-, h4⟩ := h2
    rcases h4 with ⟨h4, -⟩ | ⟨g, cap, cur, h4, -, hg, -⟩
    · cases h4
    · cases h4; exact (Array.getElem?_eq_some_iff.1 hg).1
  · have e : (madeCells (Value.int .i64 0).cells (n * 1)).toList = iv (List.replicate n 0) := by
      rw [show (Value.int .i64 0).cells = #[.int .i64 0] from rfl, Nat.mul_one, toList_madeCells_one]; simp [iv]
    rw [← e]; exact h2

/-- numbers put so far, noughts behind -/
def pad (zs : List Int) (k : Nat) : List Int := zs.take k ++ List.replicate (zs.length - k) 0
theorem pad_zero (zs : List Int) : pad zs 0 = List.replicate zs.length 0 := by simp [pad]
theorem pad_full (zs : List Int) : pad zs zs.length = zs := by simp [pad]
theorem pad_length (zs : List Int) (k : Nat) (h : k ≤ zs.length) : (pad zs k).length = zs.length := by simp [pad]; omega
theorem pad_set (zs : List Int) (k : Nat) (h : k < zs.length) : (pad zs k).set k zs[k] = pad zs (k + 1) := by
  unfold pad
  have e : List.replicate (zs.length - k) (0 : Int) = 0 :: List.replicate (zs.length - (k + 1)) 0 := by
    rw [show zs.length - k = (zs.length - (k + 1)) + 1 by omega, List.replicate_succ]
  have hl : (zs.take k).length = k := by simp; omega
  rw [e, List.set_append_right _ _ (by omega), hl, Nat.sub_self, List.set_cons_zero, List.take_succ_eq_append_getElem h, List.append_assoc]
  rfl
theorem owns_set {B g n cap : Nat} {w : World} {zs : List Int} (h : w.ownsRow B 3 1 (.slice (some ⟨g, 0, none⟩) n cap) n (iv zs)) (j : Nat) (x : Int) :
    (w.setCell ⟨g, j, none⟩ (.int .i64 x)).ownsRow B 3 1 (.slice (some ⟨g, 0, none⟩) n cap) n (iv (zs.set j x)) := by
  rw [iv_set]; exact (h.stored _ _).1
theorem owns_at {B g n cap : Nat} {w : World} {zs : List Int} (h : w.ownsRow B 3 1 (.slice (some ⟨g, 0, none⟩) n cap) n (iv zs)) (j : Nat) (hj : j < zs.length) : w.cell? ⟨g, j, none⟩ = some (.int .i64 zs[j]) := by
  have hl : zs.length = n := by have := h.1; rw [iv_length] at this; omega
  rw [h.cellAt _ (by omega), iv_get zs j hj]

set_option maxRecDepth 100000 in
set_option maxHeartbeats 800000 in
theorem toIntsC (v : Value) (zs : List Int) (B : Nat) (w : World) (hv : Sees B w v zs) (hB : B ≤ w.heap.size) (hlen : zs.length ≤ 1048576) :
    Calls Try.prog 28 #[v] w fun e w' => ∃ v', e = .returned v' ∧ Owns w.heap.size w' v' zs ∧ Below w.heap.size w w' := by
  obtain ⟨a, cap, rfl, h1, h2, h3⟩ := hv
  obtain ⟨n, hn⟩ : ∃ n, zs.length = n := ⟨_, rfl⟩
  rw [hn] at h1 hlen ⊢
  obtain ⟨w1, hB1, hs1, hmk, hO⟩ := makeI n hlen w w.heap.size (Nat.le_refl _)
  obtain ⟨g, hg⟩ : ∃ g, w.heap.size = g := ⟨_, rfl⟩
  rw [hg] at hmk hO hB1 hs1 hB ⊢
  go_enter Try.func28, Try.ntmps28
  go_wp2
  go_loopw [4] (fun i wr => ∃ k : Nat, k ≤ n ∧ i = .int .i64 k ∧ wr.ownsRow g 3 1 (.slice (some ⟨g, 0, none⟩) n n) n (iv (pad zs k)) ∧ Below g w wr) (fun i _ => n - (intOf i).toNat)
  case atStart => exact ⟨0, Nat.zero_le _, rfl, by rw [pad_zero, hn]; exact hO, hB1⟩
  case round =>
    obtain ⟨k, hk, rfl, hR, hb⟩ := hrel
    clear hmk hO hB1 hs1
    by_cases hlt : k < n
    · obtain ⟨b, off, rfl, hbB, hc⟩ := h3 (fun h => by simp [h] at hn; omega)
      have a0 := (hb.cell (p := ⟨b, off + k, none⟩) (by show b < g; omega)).trans (hc k (by omega))
      obtain ⟨x, hx⟩ : ∃ x, zs[k] = x := ⟨_, rfl⟩
      have HP : Hid ((pad zs k).set k x = pad zs (k + 1)) := by rw [← hx]; exact pad_set zs k (by omega)
      have hpl : (pad zs k).length = n := by rw [pad_length zs k (by omega)]; exact hn
      rw [hx] at a0
      have c0 := owns_at hR k (by omega)
      have hfz := fun j => hR.frozenAt j
      clear hx hc h3
      go_wp2
      have hR3 := owns_set hR k x
      rw [HP.out] at hR3
      go_roundw
      case rel => exact ⟨k + 1, by omega, by go_num, hR3, hb.setCell (Nat.le_refl _) _⟩
      case measure => simp [intOf]; omega
    · obtain rfl : k = n := by omega
      go_wp2
      go_ret
      rw [← hn, pad_full] at hR
      exact ⟨_, rfl, hn ▸ hR, hb⟩

set_option maxRecDepth 100000 in
set_option maxHeartbeats 800000 in
theorem eqIntsC (v v' : Value) (zs : List Int) (B : Nat) (w : World) (hv : Sees B w v zs) (hv' : Sees B w v' zs) (hB : B ≤ w.heap.size) :
    Calls Try.prog 31 #[v, v'] w fun e w' => e = .returned (.bool true) ∧ Below w.heap.size w w' := by
  obtain ⟨a, cap, rfl, h1, h2, h3⟩ := hv
  obtain ⟨a', cap', rfl, h1', h2', h3'⟩ := hv'
  obtain ⟨n, hn⟩ : ∃ n, zs.length = n := ⟨_, rfl⟩
  have hm : (n : Int) ≤ 9223372036854775807 := by unfold maxLen at h2; omega
  rw [hn]
  obtain ⟨g, hg⟩ : ∃ g, w.heap.size = g := ⟨_, rfl⟩
  rw [hg] at hB ⊢
  clear h1 h2 h1' h2'
  go_enter Try.func31, Try.ntmps31
  go_wp2
  go_loopw [5] (fun i wr => ∃ k : Nat, k ≤ n ∧ i = .int .i64 k ∧ Below g w wr) (fun i _ => n - (intOf i).toNat)
  case atStart => exact ⟨0, Nat.zero_le _, rfl, Below.refl _ _⟩
  case round =>
    obtain ⟨k, hk, rfl, hb⟩ := hrel
    by_cases hlt : k < n
    · obtain ⟨b, off, rfl, hbB, hc⟩ := h3 (fun h => by simp [h] at hn; omega)
      obtain ⟨b', off', rfl, hbB', hc'⟩ := h3' (fun h => by simp [h] at hn; omega)
      have a0 := (hb.cell (p := ⟨b, off + k, none⟩) (by show b < g; omega)).trans (hc k (by omega))
      have a0' := (hb.cell (p := ⟨b', off' + k, none⟩) (by show b' < g; omega)).trans (hc' k (by omega))
      obtain ⟨x, hx⟩ : ∃ x, zs[k] = x := ⟨_, rfl⟩
      rw [hx] at a0 a0'
      clear hx hc h3 hc' h3'
      go_wp2_with fail
      go_region
      all_goals
        go_wp2
        go_roundw
        case rel => exact ⟨k + 1, by omega, by go_num, by first | exact hb.drew | exact hb.drew.drew | exact hb⟩
        case measure => simp [intOf]; omega
    · obtain rfl : k = n := by omega
      go_wp2
      go_ret
      exact ⟨rfl, hb⟩

/-- marks so far, the old numbers behind -/
def mark (i : Nat) : Int := 1 + (i : Int)
def marked (zs : List Int) (k : Nat) : List Int := (List.range k).map mark ++ zs.drop k
def marks (n : Nat) : List Int := (List.range n).map mark
theorem marked_zero (zs : List Int) : marked zs 0 = zs := by simp [marked]
theorem marked_full (zs : List Int) : marked zs zs.length = marks zs.length := by simp [marked, marks]
theorem marked_length (zs : List Int) (k : Nat) (h : k ≤ zs.length) : (marked zs k).length = zs.length := by simp [marked]; omega
theorem marked_set (zs : List Int) (k : Nat) (h : k < zs.length) : (marked zs k).set k (mark k) = marked zs (k + 1) := by
  unfold marked
  have hl : ((List.range k).map mark).length = k := by simp
  rw [List.drop_eq_getElem_cons h, List.set_append_right _ _ (by omega), hl, Nat.sub_self, List.set_cons_zero, List.range_succ, List.map_append, List.append_assoc]
  rfl
theorem marks_get (n k : Nat) (h : k < (marks n).length) : (marks n)[k] = mark k := by simp [marks]
theorem marks_length (n : Nat) : (marks n).length = n := by simp [marks]

set_option maxRecDepth 100000 in
set_option maxHeartbeats 800000 in
theorem markIntsC (v : Value) (zs : List Int) (B : Nat) (w : World) (hv : Owns B w v zs) (hlen : zs.length ≤ 1048576) :
    Calls Try.prog 33 #[v, .int .i64 1] w fun e w' => e = .returned (.int .i64 (1 + (zs.length : Int))) ∧ Owns B w' v (marks zs.length) ∧ w.grownBy w' v.ownBlock := by
  obtain ⟨n, hn⟩ : ∃ n, zs.length = n := ⟨_, rfl⟩
  obtain ⟨hv1, hv2⟩ := id hv
  rcases hv2 with ⟨rfl, h0⟩ | ⟨g, cap, cur, rfl, hBg, hg, hle, hm, -, -⟩
  · obtain rfl : zs = [] := List.eq_nil_of_length_eq_zero h0
    clear hn hv1 h0
    go_enter Try.func33, Try.ntmps33
    go_wp2
    go_loop [1, 5] (fun q i => q = .int .i64 1 ∧ i = .int .i64 0) (fun _ _ => 0)
    case atStart => exact ⟨rfl, rfl⟩
    case round =>
      obtain ⟨rfl, rfl⟩ := hrel
      go_wp2
      go_ret
      exact ⟨rfl, hv, ⟨rfl, rfl, rfl, Nat.le_refl _, fun _ _ _ => rfl⟩⟩
  · unfold Owns at hv
    rw [hn] at hv hlen hle ⊢
    clear hv1 hg hm
    go_enter Try.func33, Try.ntmps33
    go_wp2
    go_loopw [1, 5] (fun q i wr => ∃ k : Nat, k ≤ n ∧ q = .int .i64 (1 + (k : Int)) ∧ i = .int .i64 k ∧ wr.ownsRow B 3 1 (.slice (some ⟨g, 0, none⟩) n cap) n (iv (marked zs k)) ∧ w.grownBy wr (some g)) (fun _ i _ => n - (intOf i).toNat)
    case atStart => exact ⟨0, Nat.zero_le _, rfl, rfl, by rw [marked_zero]; exact hv, ⟨rfl, rfl, rfl, Nat.le_refl _, fun _ _ _ => rfl⟩⟩
    case round =>
      obtain ⟨k, hk, rfl, rfl, hR, hgr⟩ := hrel
      by_cases hlt : k < n
      · have hpl : (marked zs k).length = n := by rw [marked_length zs k (by omega)]; exact hn
        have HP : Hid ((marked zs k).set k (mark k) = marked zs (k + 1)) := marked_set zs k (by omega)
        have c0 := owns_at hR k (by omega)
        have hfz := fun j => hR.frozenAt j
        go_wp2
        have hR3 := owns_set hR k (mark k)
        rw [HP.out] at hR3
        unfold mark at hR3
        have t1 := (hR.stored k (.int .i64 (1 + (k : Int)))).2
        go_roundw
        case rel => exact ⟨k + 1, by omega, by go_num, by go_num, hR3, grownBy_trans hgr t1⟩
        case measure => simp [intOf]; omega
      · obtain rfl : k = n := by omega
        go_wp2
        go_ret
        rw [← hn, marked_full, hn] at hR
        refine ⟨rfl, ?_, hgr⟩
        unfold Owns
        rw [marks_length]
        exact hR

set_option maxRecDepth 100000 in
set_option maxHeartbeats 800000 in
theorem heldIntsC (v : Value) (n : Nat) (B : Nat) (w : World) (hv : Sees B w v (marks n)) (hlen : n ≤ 1048576) :
    Calls Try.prog 42 #[v, .int .i64 1] w fun e w' => e = .returned (.int .i64 (1 + (n : Int))) ∧ w = w' := by
  obtain ⟨a, cap, rfl, h1, h2, h3⟩ := hv
  rw [marks_length]
  clear h1 h2
  go_enter Try.func42, Try.ntmps42
  go_wp2
  go_loop [1, 5] (fun q i => ∃ k : Nat, k ≤ n ∧ q = .int .i64 (1 + (k : Int)) ∧ i = .int .i64 k) (fun _ i => n - (intOf i).toNat)
  case atStart => exact ⟨0, Nat.zero_le _, rfl, rfl⟩
  case round =>
    obtain ⟨k, hk, rfl, rfl⟩ := hrel
    by_cases hlt : k < n
    · obtain ⟨b, off, rfl, hbB, hc⟩ := h3 (fun h => by have := congrArg List.length h; rw [marks_length] at this; simp at this; omega)
      have a0 := hc k (by rw [marks_length]; omega)
      simp only [marks_get, mark] at a0
      clear hc h3
      go_wp2
      go_round
      case rel => exact ⟨k + 1, by omega, by go_num, by go_num⟩
      case measure => simp [intOf]; omega
    · obtain rfl : k = n := by omega
      go_wp2
      go_ret
      exact ⟨rfl, rfl⟩

/- what the frames tell of a slice of ints -/
section
open Go.ChangeShapes Go.WideShapes Go.Deep
variable {H : Type} {enc : TypeId × Value → H} {W : World}
set_option maxRecDepth 100000 in
theorem openInts {r : Reach} {b0 : Nat} {v : Value} {d : DataW H} {p : List MemPlace} (hv : Value.okWide Try.prog W r b0 25 v) (h : DataW.Trod enc Try.prog W 0 (fun _ => true) true 25 v d p) :
    ∃ zs, Sees W.heap.size W v zs := by
  obtain ⟨a, len, cap, rfl⟩ := okWide_slice Try.underlying25 hv
  obtain ⟨fuel, hf⟩ := h
  rcases open_ints Try.underlying25 Try.underlying3 (by kernel_rfl) hf with ⟨hcs, _⟩ | ⟨x, l, c, zs, hcs, _, hl, hm, hz, _, hcell, hwz⟩
  · simp [Value.cells] at hcs
    obtain ⟨rfl, rfl, rfl⟩ := hcs
    exact ⟨[], none, 0, rfl, Nat.zero_le _, by simp, fun h => absurd rfl h⟩
  · simp [Value.cells] at hcs
    obtain ⟨rfl, rfl, rfl⟩ := hcs
    have hz' : zs.length = cap := by simpa using hz
    have hln : (zs.take len).length = len := by simp; omega
    refine ⟨zs.take len, some x, cap, by rw [hln], by rw [hln]; exact hl, hm, fun hne => ?_⟩
    have hpos : 0 < len := by
      rcases Nat.eq_zero_or_pos len with h0 | h0
      · subst h0; simp at hne
      · exact h0
    obtain ⟨b, off, spot⟩ := x
    have h0 := hcell 0 (by omega)
    have hspot : spot = none := by simpa [Addr.add] using World.cell?_spot h0
    subst hspot
    have hb : b < W.heap.size := by
      have := World.block_lt_of_cell? _ _ h0
      simpa [Addr.add] using this
    refine ⟨b, off, rfl, hb, fun j hj => ?_⟩
    have ha : ∀ i, (⟨b, off, none⟩ : Addr).add i = ⟨b, off + i, none⟩ := fun i => by unfold Addr.add; split <;> simp_all
    have hj' : j < zs.length := by omega
    have hc := hcell j hj'
    rw [ha] at hc
    have hg : zs.getD j 0 = zs[j] := by simp [List.getD, hj']
    rw [hc, hg, List.getElem_take]
end
end Ints
end Go.Proofs.Ytppkohkcffnghaa
/- Integers put behind an empty row that the call owns: the equation that a walk takes. -/
namespace Go.Proofs.Ytppkohkcffnghaa
open Go.RowKit
namespace Ints

theorem grown_refl (w : World) (row : Option Nat) : w.grownBy w row := ⟨rfl, rfl, rfl, Nat.le_refl _, fun _ _ _ => rfl⟩
theorem news_of {w : World} {b off : Nat} {zs : List Int} (hc : ∀ j (h : j < zs.length), w.cell? ⟨b, off + j, none⟩ = some (.int .i64 zs[j])) : ∀ j u, (iv zs)[j]? = some u → w.cell? ((⟨b, off, none⟩ : Addr).add j) = some u := by
  intro j u hu
  have hj : j < zs.length := by rw [← iv_length]; exact (List.getElem?_eq_some_iff.1 hu).1
  have ha : (⟨b, off, none⟩ : Addr).add j = ⟨b, off + j, none⟩ := by unfold Addr.add; split <;> simp_all
  rw [ha, hc j hj, ← hu, iv_get zs j hj]

theorem appI (u v : Value) (ty : TypeId) (zs : List Int) (B b0 : Nat) (w : World) (hu : w.ownsRow b0 3 1 u 0 []) (h0 : b0 ≤ w.heap.size) (hv : Sees B w v zs) (hlen : zs.length ≤ 1048576) :
    ∃ v' w', (Builtin.append_ #[25, 25] ty #[u, v]).run Try.prog w = .ok v' w' ∧ w'.ownsRow b0 3 1 v' zs.length (iv zs) ∧ w.grownBy w' u.ownBlock := by
  obtain ⟨i, hi, hz, hs, hb⟩ := info_parts Try.infoInt
  obtain ⟨a, cap, rfl, h1, h2, h3⟩ := hv
  by_cases hne : zs = []
  · subst hne
    have hsrc : Src Try.prog i.size 25 (.slice a 0 cap) 0 [] w := by
      cases a
      · exact Src.ofNil w Try.underlying25 cap
      · exact Src.ofSlice w Try.underlying25 _ 0 cap [] (by simp) (fun j u h => by simp at h) (fun u h => by cases h)
    have hform : ∃ b c, u = .slice b 0 c := by
      rcases hu.2 with ⟨rfl, -⟩ | ⟨g, c, cur, rfl, -⟩
      · exact ⟨_, _, rfl⟩
      · exact ⟨_, _, rfl⟩
    obtain ⟨b, c, rfl⟩ := hform
    exact ⟨_, w, run_append_nothing w _ _ ty _ i Try.underlying25 hi b 0 c (Nat.zero_le _) _ hsrc, hu, grown_refl w _⟩
  · obtain ⟨b, off, rfl, -, hc⟩ := h3 hne
    have hpos : 0 < zs.length := List.length_pos_iff.2 hne
    obtain ⟨g, c, w', hr, ho, hg, -, -⟩ := run_append_lies (P := Try.prog) w 25 ty b0 3 i _ 1 8 Try.underlying25 hi hz hs hb rfl (by decide) u 0 [] hu ⟨b, off, none⟩ zs.length cap (iv zs) (by rw [iv_length]; omega) (news_of hc) (iv_one zs) hpos (by unfold maxLen; omega) (by omega) h0 w.heap.size rfl
    refine ⟨_, w', hr, ?_, hg⟩
    simpa using ho
theorem own_nil (B : Nat) (w : World) : w.ownsRow B 3 1 (.slice none 0 0) 0 [] := ⟨rfl, .inl ⟨rfl, rfl⟩⟩

/-- append([]int(nil), zs...) -/
theorem appNil (v : Value) (ty : TypeId) (zs : List Int) (B : Nat) (w : World) (hv : Sees B w v zs) (hlen : zs.length ≤ 1048576) :
    ∃ v' w', (Builtin.append_ #[25, 25] ty #[.slice none 0 0, v]).run Try.prog w = .ok v' w' ∧ Owns w.heap.size w' v' zs ∧ Below w.heap.size w w' := by
  obtain ⟨v', w', hr, ho, hg⟩ := appI _ v ty zs B w.heap.size w (own_nil _ _) (Nat.le_refl _) hv hlen
  exact ⟨v', w', hr, ho, (Below.refl _ _).grown hg (Nat.le_refl _) (fun k hk => by cases hk)⟩
/-- append([]int{}, zs...): the empty row is laid first -/
theorem appLit (v : Value) (ty : TypeId) (zs : List Int) (B : Nat) (w : World) (hv : Sees B w v zs) (hB : B ≤ w.heap.size) (hlen : zs.length ≤ 1048576) :
    ∃ v' w', (Builtin.append_ #[25, 25] ty #[.slice (some ⟨w.heap.size, 0, none⟩) 0 0, v]).run Try.prog (w.alloc (.cells #[] 3)) = .ok v' w' ∧ Owns w.heap.size w' v' zs ∧ Below w.heap.size w w' := by
  have L1 : (w.alloc (.cells #[] 3)).ownsRow w.heap.size 3 1 (.slice (some ⟨w.heap.size, 0, none⟩) 0 0) 0 [] := World.ownsRow_lit w #[] 0 (Nat.le_refl _) (by simp [maxLen]) rfl
  obtain ⟨v', w', hr, ho, hg⟩ := appI _ v ty zs B w.heap.size (w.alloc (.cells #[] 3)) L1 (by simp) (hv.on (Bas.alloc_below w _) hB) hlen
  exact ⟨v', w', hr, ho, (Bas.alloc_below w _).grown hg (by simp) (fun k hk => by cases hk; exact Nat.le_refl _)⟩
end Ints
end Go.Proofs.Ytppkohkcffnghaa
