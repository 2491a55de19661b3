/- Several texts of one proof, in build order: Base, Flat, OpL, OpRow, ShapeL, DecL. -/
import Derived.Test.YtjopmakbnompnaaGreatDoorProg
import Derived.WalkKit
import Derived.WalkLawsBesides
import Derived.WalkSpells
import Derived.Laws.OwnMore
import Derived.Laws.StructEq
import Derived.Deep.OwnRows
import Derived.Deep.AppendLies
import Derived.Deep.RegionWith
import Derived.Outline
import Derived.OpenShut
import Derived.Deep.Slices
import Derived.Deep.Upon
import Derived.Lib.ItoaMem
import Derived.Lib.ItoaLen
import Derived.Lib.AtoiAll
/- What all texts use: rows that the call owns, blocks, worlds that have grown. -/
namespace Go.Proofs.YtjopmakbnompnaaGreatDoor
open Go.RowKit
namespace Bas

theorem grownBy_trans {w w1 w2 : World} {row : Option Nat} (h : w.grownBy w1 row) (k : w1.grownBy w2 row) : w.grownBy w2 row :=
  ⟨k.os.trans h.os, k.tape.trans h.tape, k.output.trans h.output, Nat.le_trans h.size k.size, fun i hi hn => (k.block i (Nat.lt_of_lt_of_le hi h.size) hn).trans (h.block i hi hn)⟩
theorem owns_on {B n e size : Nat} {w w' : World} {v : Value} {xs : List Value} (h : w.ownsRow B e size v n xs) {B' : Nat} (hb : Below B' w w') (hB : w.heap.size ≤ B') : w'.ownsRow B e size v n xs := by
  obtain ⟨h1, h2⟩ := h
  refine ⟨h1, ?_⟩
  rcases h2 with h2 | ⟨g, cap, cur, hv, hg, hh, r⟩
  · exact .inl h2
  · have := (Array.getElem?_eq_some_iff.1 hh).1
    exact .inr ⟨g, cap, cur, hv, hg, by rw [hb.block g (by omega)]; exact hh, r⟩

/-- a block of cells that may be written -/
def Blk (W : World) (p : Nat) (cs : Array Value) (t : TypeId) : Prop := W.heap[p]? = some (.cells cs t (0, 0))
section
variable {W W' : World} {p : Nat} {cs : Array Value} {t : TypeId}
theorem Blk.cell (h : Blk W p cs t) (i : Nat) : W.cell? ⟨p, i, none⟩ = cs[i]? := cell_of_row W p i _ _ _ h
theorem Blk.froz (h : Blk W p cs t) (i : Nat) : W.frozen? ⟨p, i, none⟩ = false := frozen_of_row W p i _ _ h
theorem Blk.lt (h : Blk W p cs t) : p < W.heap.size := (Array.getElem?_eq_some_iff.1 h).1
theorem Blk.on (h : Blk W p cs t) {B : Nat} (hb : Below B W W') (hB : p < B) : Blk W' p cs t := (hb.block p hB).trans h
theorem Blk.grown (h : Blk W p cs t) {row : Option Nat} (hg : W.grownBy W' row) (hr : some p ≠ row) : Blk W' p cs t := (hg.block p h.lt hr).trans h
theorem Blk.new (w : World) (cs : Array Value) (t : TypeId) : Blk (w.alloc (.cells cs t)) w.heap.size cs t := heap_alloc_new w _
theorem Blk.drew (h : Blk W p cs t) : Blk W.drew p cs t := h
end
theorem Blk.set {W : World} {p : Nat} {cs : Array Value} {t : TypeId} (h : Blk W p cs t) (i : Nat) (u : Value) : Blk (W.setCell ⟨p, i, none⟩ u) p (cs.setIfInBounds i u) t := by
  unfold Blk at *; simp [World.setCell, Array.getElem?_modify, h]
theorem Blk.other {W : World} {p q : Nat} {cs : Array Value} {t : TypeId} (h : Blk W p cs t) (hne : p ≠ q) (i : Nat) (u : Value) : Blk (W.setCell ⟨q, i, none⟩ u) p cs t := by
  unfold Blk at *
  rw [Below.heap_setCell _ _ _ _ hne]; exact h
theorem alloc_below (w : World) (o : Obj) : Below w.heap.size w (w.alloc o) := (Below.refl _ _).alloc (Nat.le_refl _) o

/-- an append whose answer is known, at its operation in a plain region: (at_builtin; refine wpList_app _ rfl _ _ T rfl _ _ _ _ rfl rfl hr ?_) -/
theorem wpList_app {P : Program} (w : World) {ops : Array Oper} {rest : List Oper} {o : Oper} {a : Act} {Q : Exit → Act → World → Prop} (hgd : o.guard = none) (s x : Operand) (t : TypeId)
    (ho : o.op = .call { callee := .builtin .append, args := #[s, x], argTypes := #[t, t] }) (u v v' : Value) (w' : World) (hs : a.eval s = u) (hx : a.eval x = v)
    (hr : (Builtin.append_ #[t, t] o.type #[u, v]).run P w = .ok v' w') (h : wpList P ops Q rest (a.put o.dst v') w') : wpList P ops Q (o :: rest) a w := by
  refine wpList_plain hgd fun K hK => ?_
  unfold Oper.wp execOp
  simp only [ho, resolve, invoke, builtin, Sem.run_bind, Sem.run_pure, Result.andThen_ok, List.map_toArray, List.map_cons, List.map_nil, hs, hx, hr]
  exact hK _ _ h
/-- .. as one step of a region that draws its order -/
theorem step_app {P : Program} {w : World} {ops : Array Oper} {o : Oper} {a : Act} {K : Act → World → Prop} {Q : Exit → Act → World → Prop} {E : Prop} (hgd : o.guard = none) (s x : Operand) (t : TypeId)
    (ho : o.op = .call { callee := .builtin .append, args := #[s, x], argTypes := #[t, t] }) (u v v' : Value) (w' : World) (hs : a.eval s = u) (hx : a.eval x = v)
    (hr : (Builtin.append_ #[t, t] o.type #[u, v]).run P w = .ok v' w') (h : K (a.put o.dst v') w') : if Region.wanted o (yielded ops a.tmps) = true then Oper.wp P o a w K Q else E := by
  have hw : Region.wanted o (yielded ops a.tmps) = true := by simp [Region.wanted, hgd]
  rw [if_pos hw]
  unfold Oper.wp execOp
  simp only [ho, resolve, invoke, builtin, Sem.run_bind, Sem.run_pure, Result.andThen_ok, List.map_toArray, List.map_cons, List.map_nil, hs, hx, hr]
  exact h
end Bas
end Go.Proofs.YtjopmakbnompnaaGreatDoor
/- Rows of elements that take so many cells each: what a slice of them reads as, and what the call owns of them. -/
set_option linter.unusedVariables false
namespace Go.Proofs.YtjopmakbnompnaaGreatDoor
open Go.RowKit
namespace Flat

/-- all old cells, all old marks read as before -/
theorem bcell {W w1 : World} (hb : Below W.heap.size W w1) : (∀ b o, b < W.heap.size → w1.cell? ⟨b, o, none⟩ = W.cell? ⟨b, o, none⟩) ∧ (∀ b o, b < W.heap.size → w1.frozen? ⟨b, o, none⟩ = W.frozen? ⟨b, o, none⟩) :=
  ⟨fun b o h => hb.cell (p := ⟨b, o, none⟩) h, fun b o h => hb.frozen (p := ⟨b, o, none⟩) h⟩

/-- how an element lies in memory -/
structure El (α : Type) where
  sz : Nat
  cells : α → List Value
  len : ∀ a, (cells a).length = sz
  one : ∀ a, ∀ v ∈ cells a, v.oneCell' = true
  pos : 0 < sz

section
variable {α : Type} {E : El α}

/-- the cells of a row -/
def fv (E : El α) (xs : List α) : List Value := xs.flatMap E.cells
theorem fv_nil : fv E [] = [] := rfl
theorem fv_cons (x : α) (r : List α) : fv E (x :: r) = E.cells x ++ fv E r := rfl
theorem fv_append (a b : List α) : fv E (a ++ b) = fv E a ++ fv E b := by simp [fv]
theorem fv_length (xs : List α) : (fv E xs).length = xs.length * E.sz := by
  induction xs with
  | nil => simp [fv]
  | cons x r ih => rw [fv_cons, List.length_append, ih, E.len, List.length_cons, Nat.succ_mul]; omega
theorem fv_one (xs : List α) : ∀ v ∈ fv E xs, v.oneCell' = true := by
  intro v hv
  obtain ⟨x, _, hx⟩ := List.mem_flatMap.1 hv
  exact E.one x v hx
theorem fv_get (xs : List α) : ∀ (j : Nat) (h : j < xs.length) (i : Nat), i < E.sz → (fv E xs)[j * E.sz + i]? = (E.cells xs[j])[i]? := by
  induction xs with
  | nil => intro j h; simp at h
  | cons x r ih =>
    intro j h i hi
    have hl := E.len x
    match j, h with
    | 0, _ => rw [fv_cons, Nat.zero_mul, Nat.zero_add, List.getElem?_append_left (by omega)]; rfl
    | j + 1, h =>
      have := ih j (by simpa using h) i hi
      rw [fv_cons, List.getElem?_append_right (by rw [Nat.succ_mul]; omega), hl, show (j + 1) * E.sz + i - E.sz = j * E.sz + i by rw [Nat.succ_mul]; omega, this]
      rfl
theorem fv_set (xs : List α) : ∀ (j : Nat) (h : j < xs.length) (i : Nat) (u : Value) (x' : α), i < E.sz → E.cells x' = (E.cells xs[j]).set i u → (fv E xs).set (j * E.sz + i) u = fv E (xs.set j x') := by
  induction xs with
  | nil => intro j h; simp at h
  | cons x r ih =>
    intro j h i u x' hi he
    have hl := E.len x
    match j, h with
    | 0, _ =>
      rw [fv_cons, Nat.zero_mul, Nat.zero_add, List.set_append_left _ _ (by omega), List.set_cons_zero, fv_cons, he]
      rfl
    | j + 1, h =>
      have := ih j (by simpa using h) i u x' hi he
      rw [fv_cons, List.set_append_right _ _ (by rw [Nat.succ_mul]; omega), hl, show (j + 1) * E.sz + i - E.sz = j * E.sz + i by rw [Nat.succ_mul]; omega, this]
      rfl

/-- the element that lies at a place -/
def At (E : El α) (w : World) (b o : Nat) (x : α) : Prop := ∀ i u, (E.cells x)[i]? = some u → w.cell? ⟨b, o + i, none⟩ = some u
theorem At.on {B b o : Nat} {w w' : World} {x : α} (h : At E w b o x) (hb : Below B w w') (hB : b < B) : At E w' b o x :=
  fun i u hu => (hb.cell (p := ⟨b, o + i, none⟩) hB).trans (h i u hu)
theorem At.keep {b o : Nat} {w w' : World} {x : α} (h : At E w b o x) (hk : w'.heap[b]? = w.heap[b]?) : At E w' b o x :=
  fun i u hu => (World.cell?_of_block (w := w) hk).trans (h i u hu)

/-- a slice of elements that lie below block B -/
def Sees (E : El α) (B : Nat) (w : World) (v : Value) (xs : List α) : Prop :=
  ∃ a cap, v = .slice a xs.length cap ∧ xs.length ≤ cap ∧ cap ≤ maxLen ∧ (xs ≠ [] → ∃ b off, a = some ⟨b, off, none⟩ ∧ b < B ∧ ∀ j (h : j < xs.length), At E w b (off + j * E.sz) xs[j])
section
variable {B B' : Nat} {w w' : World} {v : Value} {xs : List α}
theorem Sees.on (h : Sees E B w v xs) (hb : Below B' w w') (hB : B ≤ B') : Sees E B w' v xs := by
  obtain ⟨a, cap, rfl, h1, h2, h3⟩ := h
  refine ⟨a, cap, rfl, h1, h2, fun hne => ?_⟩
  obtain ⟨b, off, rfl, hlt, hc⟩ := h3 hne
  exact ⟨b, off, rfl, hlt, fun j hj => (hc j hj).on hb (by omega)⟩
theorem Sees.up (h : Sees E B w v xs) (hB : B ≤ B') : Sees E B' w v xs := by
  obtain ⟨a, cap, rfl, h1, h2, h3⟩ := h
  refine ⟨a, cap, rfl, h1, h2, fun hne => ?_⟩
  obtain ⟨b, off, rfl, hlt, hc⟩ := h3 hne
  exact ⟨b, off, rfl, by omega, hc⟩
theorem Sees.form (h : Sees E B w v xs) : ∃ a cap, v = .slice a xs.length cap := by obtain ⟨a, cap, h, -⟩ := h; exact ⟨a, cap, h⟩
theorem Sees.room (h : Sees E B w v xs) : xs.length ≤ maxLen := by obtain ⟨a, cap, -, h1, h2, -⟩ := h; omega
theorem Sees.nil (E : El α) (B : Nat) (w : World) : Sees E B w (.slice none 0 0) [] := ⟨none, 0, rfl, Nat.le_refl _, by simp, fun h => absurd rfl h⟩
theorem Sees.drew (h : Sees E B w v xs) : Sees E B w.drew v xs := h
theorem Sees.grown (h : Sees E B w v xs) {row : Option Nat} (hg : w.grownBy w' row) (hB : B ≤ w.heap.size) (hr : ∀ k, row = some k → B ≤ k) : Sees E B w' v xs :=
  h.on (B' := B) ((Below.refl B w).grown hg hB hr) (Nat.le_refl _)
/-- what the walk reads: where the row lies, and its elements -/
theorem Sees.open {a : Option Addr} {n cap : Nat} (h : Sees E B w (.slice a n cap) xs) (hn : 0 < xs.length) : ∃ b off, a = some ⟨b, off, none⟩ ∧ b < B ∧ ∀ j (h : j < xs.length), At E w b (off + j * E.sz) xs[j] := by
  obtain ⟨a', cap', e, -, -, h3⟩ := h
  simp only [Value.slice.injEq] at e
  obtain ⟨rfl, -, -⟩ := e
  exact h3 (fun h => by simp [h] at hn)
end

/-- a slice of elements that lie in blocks of which S holds -/
def SeesIn (E : El α) (S : Nat → Prop) (w : World) (v : Value) (xs : List α) : Prop :=
  ∃ a cap, v = .slice a xs.length cap ∧ xs.length ≤ cap ∧ cap ≤ maxLen ∧ (xs ≠ [] → ∃ b off, a = some ⟨b, off, none⟩ ∧ S b ∧ ∀ j (h : j < xs.length), At E w b (off + j * E.sz) xs[j])
section
variable {S S' : Nat → Prop} {B : Nat} {w w' : World} {v : Value} {xs : List α}
theorem SeesIn.keep (h : SeesIn E S w v xs) (hk : ∀ b, S b → w'.heap[b]? = w.heap[b]?) : SeesIn E S w' v xs := by
  obtain ⟨a, cap, rfl, h1, h2, h3⟩ := h
  refine ⟨a, cap, rfl, h1, h2, fun hne => ?_⟩
  obtain ⟨b, off, rfl, hs, hc⟩ := h3 hne
  exact ⟨b, off, rfl, hs, fun j hj => (hc j hj).keep (hk b hs)⟩
theorem SeesIn.form (h : SeesIn E S w v xs) : ∃ a cap, v = .slice a xs.length cap := by obtain ⟨a, cap, h, -⟩ := h; exact ⟨a, cap, h⟩
theorem SeesIn.mono (h : SeesIn E S w v xs) (hs : ∀ b, S b → S' b) : SeesIn E S' w v xs := by
  obtain ⟨a, cap, rfl, h1, h2, h3⟩ := h
  refine ⟨a, cap, rfl, h1, h2, fun hne => ?_⟩
  obtain ⟨b, off, rfl, hb, hc⟩ := h3 hne
  exact ⟨b, off, rfl, hs b hb, hc⟩
theorem SeesIn.sees (h : SeesIn E S w v xs) (hs : ∀ b, S b → b < B) : Sees E B w v xs := h.mono hs
theorem Sees.within (h : Sees E B w v xs) : SeesIn E (fun b => b < B) w v xs := h
end

/-- elements that the call owns, from block B on -/
def Owns (E : El α) (e : TypeId) (B : Nat) (w : World) (v : Value) (xs : List α) : Prop := w.ownsRow B e E.sz v xs.length (fv E xs)
section
variable {e : TypeId} {B B' : Nat} {w w' : World} {v : Value} {xs : List α}
theorem Owns.sees (h : Owns E e B w v xs) : Sees E w.heap.size w v xs := by
  obtain ⟨h1, h2⟩ := h
  rcases h2 with ⟨rfl, h0⟩ | ⟨g, cap, cur, rfl, hB, hg, hle, hm, hsz, htk⟩
  · exact ⟨none, 0, by rw [h0], by omega, by simp, fun hne => absurd (List.eq_nil_of_length_eq_zero h0) hne⟩
  · refine ⟨_, cap, rfl, hle, hm, fun _ => ⟨g, 0, rfl, (Array.getElem?_eq_some_iff.1 hg).1, fun j hj i u hu => ?_⟩⟩
    have hi : i < E.sz := by have := (List.getElem?_eq_some_iff.1 hu).1; rw [E.len] at this; exact this
    have hb : j * E.sz + i < xs.length * E.sz := by
      have : (j + 1) * E.sz ≤ xs.length * E.sz := Nat.mul_le_mul_right _ hj
      rw [Nat.succ_mul] at this; omega
    have key : w.cell? ⟨g, j * E.sz + i, none⟩ = (fv E xs)[j * E.sz + i]? := by
      rw [← htk, List.getElem?_take, if_pos hb]
      simp [World.cell?, hg]
    rw [Nat.zero_add, key, fv_get xs j hj i hi, hu]
theorem Owns.within (h : Owns E e B w v xs) : SeesIn E (fun b => B ≤ b ∧ b < w.heap.size) w v xs := by
  have hs := h.sees
  obtain ⟨h1, h2⟩ := h
  obtain ⟨a, cap, rfl, k1, k2, k3⟩ := hs
  refine ⟨a, cap, rfl, k1, k2, fun hne => ?_⟩
  obtain ⟨b, off, rfl, hb, hc⟩ := k3 hne
  refine ⟨b, off, rfl, ⟨?_, hb⟩, hc⟩
  rcases h2 with ⟨h', _⟩ | ⟨g, cap', cur, h', hB, _⟩
  · cases h'
  · simp only [Value.slice.injEq, Option.some.injEq, Addr.mk.injEq] at h'; omega
theorem Owns.form (h : Owns E e B w v xs) : ∃ a cap, v = .slice a xs.length cap := h.sees.form
theorem Owns.on (h : Owns E e B w v xs) (hb : Below B' w w') (hB : w.heap.size ≤ B') : Owns E e B w' v xs := Bas.owns_on h hb hB
theorem Owns.mono (h : Owns E e B w v xs) (hB : B' ≤ B) : Owns E e B' w v xs := by
  obtain ⟨h1, h2⟩ := h
  refine ⟨h1, ?_⟩
  rcases h2 with h2 | ⟨g, cap, cur, hv, hg, hh, r⟩
  · exact .inl h2
  · exact .inr ⟨g, cap, cur, hv, by omega, hh, r⟩
theorem Owns.keep (h : Owns E e B w v xs) (hk : ∀ k, v.ownBlock = some k → w'.heap[k]? = w.heap[k]?) : Owns E e B w' v xs := by
  obtain ⟨h1, h2⟩ := h
  refine ⟨h1, ?_⟩
  rcases h2 with h2 | ⟨g, cap, cur, rfl, hg, hh, r⟩
  · exact .inl h2
  · exact .inr ⟨g, cap, cur, rfl, hg, by rw [hk g rfl]; exact hh, r⟩
theorem Owns.at (h : Owns E e B w v xs) : ∀ k, v.ownBlock = some k → B ≤ k ∧ k < w.heap.size := by
  intro k hk
  obtain ⟨h1, h2⟩ := h
  rcases h2 with ⟨rfl, h0⟩ | ⟨g, cap, cur, rfl, hg, hh, r⟩
  · cases hk
  · cases hk; exact ⟨hg, (Array.getElem?_eq_some_iff.1 hh).1⟩
theorem Owns.grown (h : Owns E e B w v xs) {row : Option Nat} (hg : w.grownBy w' row) (hr : ∀ k, v.ownBlock = some k → some k ≠ row) : Owns E e B w' v xs :=
  h.keep fun k hk => hg.block k (h.at k hk).2 (hr k hk)
theorem Owns.nil (E : El α) (e : TypeId) (B : Nat) (w : World) : Owns E e B w (.slice none 0 0) [] := ⟨by simp [fv], .inl ⟨rfl, rfl⟩⟩
theorem Owns.drew (h : Owns E e B w v xs) : Owns E e B w.drew v xs := h
theorem Owns.other (h : Owns E e B w v xs) {p i : Nat} (hp : ∀ k, v.ownBlock = some k → k ≠ p) (u : Value) : Owns E e B (w.setCell ⟨p, i, none⟩ u) v xs :=
  h.keep fun k hk => Below.heap_setCell _ _ _ _ (hp k hk)
end

theorem Owns.off {e : TypeId} {B p : Nat} {w : World} {v : Value} {xs : List α} {cs : Array Value} {t : TypeId} (h : Owns E e B w v xs) (hb : Bas.Blk w p cs t) (hne : e ≠ t) : ∀ k, v.ownBlock = some k → k ≠ p := by
  rintro k hk rfl
  obtain ⟨h1, h2⟩ := h
  rcases h2 with ⟨rfl, h0⟩ | ⟨g, cap, cur, rfl, hg, hh, r⟩
  · cases hk
  · cases hk
    unfold Bas.Blk at hb
    rw [hh] at hb
    simp only [Option.some.injEq, Obj.cells.injEq] at hb
    exact hne hb.2.1

/-! ### a row that is not empty, at its block -/
section
variable {e : TypeId} {B g n cap : Nat} {w : World} {xs : List α}
theorem own_low (h : w.ownsRow B e E.sz (.slice (some ⟨g, 0, none⟩) n cap) n (fv E xs)) : B ≤ g ∧ g < w.heap.size := by
  rcases h.2 with ⟨h', _⟩ | ⟨g', cap', cur, h', hb, hg, _⟩
  · cases h'
  · cases h'; exact ⟨hb, (Array.getElem?_eq_some_iff.1 hg).1⟩
theorem own_len (h : w.ownsRow B e E.sz (.slice (some ⟨g, 0, none⟩) n cap) n (fv E xs)) : xs.length = n := by
  have := h.1; rw [fv_length] at this; exact Nat.eq_of_mul_eq_mul_right E.pos this
theorem own_at (h : w.ownsRow B e E.sz (.slice (some ⟨g, 0, none⟩) n cap) n (fv E xs)) (j : Nat) (hj : j < xs.length) : At E w g (j * E.sz) xs[j] := by
  intro i u hu
  have hi : i < E.sz := by have := (List.getElem?_eq_some_iff.1 hu).1; rw [E.len] at this; exact this
  have hl := own_len h
  have hb : j * E.sz + i < n * E.sz := by
    have : (j + 1) * E.sz ≤ n * E.sz := Nat.mul_le_mul_right _ (by omega)
    rw [Nat.succ_mul] at this; omega
  rw [h.cellAt _ hb, fv_get xs j hj i hi, hu]
theorem own_set (h : w.ownsRow B e E.sz (.slice (some ⟨g, 0, none⟩) n cap) n (fv E xs)) (j : Nat) (hj : j < xs.length) (i : Nat) (hi : i < E.sz) (u : Value) (x' : α) (he : E.cells x' = (E.cells xs[j]).set i u) :
    (w.setCell ⟨g, j * E.sz + i, none⟩ u).ownsRow B e E.sz (.slice (some ⟨g, 0, none⟩) n cap) n (fv E (xs.set j x')) := by
  rw [← fv_set xs j hj i u x' hi he]; exact (h.stored _ _).1
end

/-! ### the row's type -/
/-- t is the type of slices of elements of type e, whose zero value reads as z and takes so many bytes -/
structure Row (P : Program) (E : El α) (t e : TypeId) (zv : Value) (z : α) (bytes : Nat) : Prop where
  und : P.underlying t = some (.slice e)
  info : (P.info? e).map (fun i => (i.zero, i.size, i.bytes)) = some (some zv, E.sz, bytes)
  zero : zv.cells.toList = E.cells z
  small : bytes ≤ 1024
section
variable {P : Program} {t e : TypeId} {zv : Value} {z : α} {bytes : Nat}
theorem Row.zsize (R : Row P E t e zv z bytes) : zv.cells.size = E.sz := by
  have := congrArg List.length R.zero; rw [E.len] at this; simpa using this
theorem made (R : Row P E t e zv z bytes) (n : Nat) : (madeCells zv.cells (n * E.sz)).toList = fv E (List.replicate n z) := by
  have hz := R.zsize
  apply List.ext_getElem?
  intro j
  by_cases hj : j < n * E.sz
  · have hq : j / E.sz < (List.replicate n z).length := by
      rw [List.length_replicate]; exact Nat.div_lt_of_lt_mul (by rw [Nat.mul_comm]; exact hj)
    have hm : j % E.sz < E.sz := Nat.mod_lt _ E.pos
    have e1 := fv_get (E := E) (List.replicate n z) (j / E.sz) hq (j % E.sz) hm
    rw [show j / E.sz * E.sz + j % E.sz = j by rw [Nat.mul_comm]; exact Nat.div_add_mod _ _] at e1
    rw [e1, List.getElem_replicate, ← R.zero]
    simp only [madeCells, hz, Array.toList_map, Array.toList_range, List.getElem?_map]
    rw [List.getElem?_range hj]
    have hm' : j % E.sz < zv.cells.size := by omega
    simp [hm']
  · rw [List.getElem?_eq_none (by simp [madeCells]; omega), List.getElem?_eq_none (by rw [fv_length]; simp; omega)]
theorem make (R : Row P E t e zv z bytes) (n : Nat) (h : n ≤ 4194304) (w : World) (B : Nat) (hB : B ≤ w.heap.size) : ∃ w1, Below B w w1 ∧ w.heap.size < w1.heap.size ∧
    (Instr.makeSlice t (.int .i64 (n : Int)) (.int .i64 (n : Int))).run P w = .ok (.slice (some ⟨w.heap.size, 0, none⟩) n n) w1 ∧
    w1.ownsRow w.heap.size e E.sz (.slice (some ⟨w.heap.size, 0, none⟩) n n) n (fv E (List.replicate n z)) := by
  obtain ⟨i, hi, hz, hs, hb⟩ := info_parts R.info
  have hsm := R.small
  have hmul : bytes * n ≤ 1024 * 4194304 := Nat.mul_le_mul hsm h
  obtain ⟨w1, h1, h2, h3⟩ := run_make_full (P := P) w w.heap.size t e i _ E.sz R.und hi hz hs .i64 .i64 n (by rw [hb]; omega) (by unfold maxLen; omega) (Nat.le_refl _)
  refine ⟨w1, (Below.refl _ _).grown h3 hB (fun k hk => by cases hk), ?_, h1, ?_⟩
  · obtain ⟨-, h4⟩ := h2
    rcases h4 with ⟨h4, -⟩ | ⟨g, cap, cur, h4, -, hg, -⟩
    · cases h4
    · cases h4; exact (Array.getElem?_eq_some_iff.1 hg).1
  · rw [← made R]; exact h2

/-- make([]T, 0, c) -/
theorem makeRoom (R : Row P E t e zv z bytes) (c : Nat) (h : c ≤ 4194304) (w : World) (B : Nat) (hB : B ≤ w.heap.size) : ∃ w1, Below B w w1 ∧ w.heap.size < w1.heap.size ∧
    (Instr.makeSlice t (.int .i64 0) (.int .i64 (c : Int))).run P w = .ok (.slice (some ⟨w.heap.size, 0, none⟩) 0 c) w1 ∧ Owns E e w.heap.size w1 (.slice (some ⟨w.heap.size, 0, none⟩) 0 c) [] := by
  obtain ⟨i, hi, hz, hs, hb⟩ := info_parts R.info
  have hsm := R.small
  have hmul : bytes * c ≤ 1024 * 4194304 := Nat.mul_le_mul hsm h
  obtain ⟨w1, h1, h2, h3⟩ := run_make_own (P := P) w w.heap.size t e i _ E.sz R.und hi hz hs .i64 .i64 c (by rw [hb]; omega) (by unfold maxLen; omega) (Nat.le_refl _)
  refine ⟨w1, (Below.refl _ _).grown h3 hB (fun k hk => by cases hk), ?_, h1, h2⟩
  obtain ⟨-, h4⟩ := h2
  rcases h4 with ⟨h4, -⟩ | ⟨g, cap, cur, h4, -, hg, -⟩
  · cases h4
  · cases h4; exact (Array.getElem?_eq_some_iff.1 hg).1

theorem news_of {w : World} {b off : Nat} {xs : List α} (hc : ∀ j (h : j < xs.length), At E w b (off + j * E.sz) xs[j]) : ∀ j u, (fv E xs)[j]? = some u → w.cell? ((⟨b, off, none⟩ : Addr).add j) = some u := by
  intro j u hu
  have hj : j < xs.length * E.sz := by rw [← fv_length]; exact (List.getElem?_eq_some_iff.1 hu).1
  have hq : j / E.sz < xs.length := Nat.div_lt_of_lt_mul (by rw [Nat.mul_comm]; exact hj)
  have hm : j % E.sz < E.sz := Nat.mod_lt _ E.pos
  have e0 : j / E.sz * E.sz + j % E.sz = j := by rw [Nat.mul_comm]; exact Nat.div_add_mod _ _
  have e1 := fv_get (E := E) xs (j / E.sz) hq (j % E.sz) hm
  rw [e0, hu] at e1
  have ha : (⟨b, off, none⟩ : Addr).add j = ⟨b, off + j, none⟩ := by unfold Addr.add; split <;> simp_all
  have := hc (j / E.sz) hq (j % E.sz) u e1.symm
  rw [Nat.add_assoc, e0] at this
  rw [ha]; exact this

/-- append(u, v...): u is the call's own, v is read -/
theorem app (R : Row P E t e zv z bytes) (u v : Value) (ty : TypeId) (xs ys : List α) (B b0 : Nat) (w : World) (hu : Owns E e b0 w u xs) (h0 : b0 ≤ w.heap.size) (hv : Sees E B w v ys) (hlen : xs.length + ys.length ≤ 4194304) :
    ∃ v' w', (Builtin.append_ #[t, t] ty #[u, v]).run P w = .ok v' w' ∧ Owns E e b0 w' v' (xs ++ ys) ∧ w.grownBy w' u.ownBlock ∧ (∀ k, v'.ownBlock = some k → u.ownBlock = some k ∨ w.heap.size ≤ k) := by
  obtain ⟨i, hi, hz, hs, hb⟩ := info_parts R.info
  obtain ⟨a, cap, rfl, h1, h2, h3⟩ := hv
  have hsm := R.small
  by_cases hne : ys = []
  · subst hne
    have hsrc : Src P i.size t (.slice a 0 cap) 0 [] w := by
      cases a
      · exact Src.ofNil w R.und cap
      · exact Src.ofSlice w R.und _ 0 cap [] (by simp) (fun j u h => by simp at h) (fun u h => by cases h)
    obtain ⟨b, c, rfl⟩ := hu.form
    have hlc : xs.length ≤ c := by
      rcases hu.2 with ⟨h', h0⟩ | ⟨g, c', cur, h', -, -, hle, -⟩
      · simp at h'; omega
      · simp at h'; omega
    refine ⟨_, w, run_append_nothing w _ _ ty _ i R.und hi b xs.length c hlc _ hsrc, by rw [List.append_nil]; exact hu, ⟨rfl, rfl, rfl, Nat.le_refl _, fun _ _ _ => rfl⟩, fun k hk => .inl hk⟩
  · obtain ⟨b, off, rfl, -, hc⟩ := h3 hne
    have hpos : 0 < ys.length := List.length_pos_iff.2 hne
    have hmul : (xs.length + ys.length) * bytes ≤ 4194304 * 1024 := Nat.mul_le_mul hlen hsm
    obtain ⟨g, c, w', hr, ho, hg, hloc, -⟩ := run_append_lies (P := P) w t ty b0 e i _ E.sz bytes R.und hi hz hs hb R.zsize E.pos u xs.length (fv E xs) hu ⟨b, off, none⟩ ys.length cap (fv E ys) (by rw [fv_length]) (news_of hc) (fv_one ys) hpos (by unfold maxLen; omega) (by omega) h0 w.heap.size rfl
    refine ⟨_, w', hr, ?_, hg, fun k hk => ?_⟩
    · unfold Owns; rw [List.length_append, fv_append]; exact ho
    · cases hk
      rcases hloc with h | h
      · exact .inl h
      · exact .inr (Nat.le_of_eq h.symm)
end

/-! ### a row filled from its beginning -/
section
variable (z : α) (xs : List α)
def pad (k : Nat) : List α := xs.take k ++ List.replicate (xs.length - k) z
theorem pad_zero : pad z xs 0 = List.replicate xs.length z := by simp [pad]
theorem pad_full : pad z xs xs.length = xs := by simp [pad]
theorem pad_length (k : Nat) (h : k ≤ xs.length) : (pad z xs k).length = xs.length := by simp [pad]; omega
theorem pad_at (k : Nat) (h : k < xs.length) (h' : k < (pad z xs k).length) : (pad z xs k)[k] = z := by
  have hl : (xs.take k).length = k := by simp; omega
  have e : (pad z xs k)[k]? = some z := by
    unfold pad
    rw [List.getElem?_append_right (by omega), hl, Nat.sub_self, List.getElem?_replicate, if_pos (by omega)]
  rw [List.getElem?_eq_getElem h'] at e
  exact Option.some.inj e
theorem pad_set (k : Nat) (h : k < xs.length) : (pad z xs k).set k xs[k] = pad z xs (k + 1) := by
  unfold pad
  have e : List.replicate (xs.length - k) z = z :: List.replicate (xs.length - (k + 1)) z := by
    rw [show xs.length - k = (xs.length - (k + 1)) + 1 by omega, List.replicate_succ]
  have hl : (xs.take k).length = k := by simp; omega
  rw [e, List.set_append_right _ _ (by omega), hl, Nat.sub_self, List.set_cons_zero, List.take_succ_eq_append_getElem h, List.append_assoc]
  rfl
end
end
end Flat
end Go.Proofs.YtjopmakbnompnaaGreatDoor
/- Ops: when one is right; the specification's small tests. -/
namespace Go.Proofs.YtjopmakbnompnaaGreatDoor
open Go.RowKit
namespace Ops

/-- between two numbers -/
def inn (lo hi x : Int) : Bool := decide (lo ≤ x) && decide (x ≤ hi)
/-- which spans the three fields of an op have, by its kind -/
def spans (k : Int) : Option ((Int × Int) × (Int × Int) × (Int × Int)) :=
  if k = 1 then some ((0, 3), (0, 65535), (0, 0))
  else if k = 2 ∨ k = 3 ∨ k = 4 then some ((0, 3), (0, 3), (0, 3))
  else if k = 5 then some ((0, 3), (0, 7), (0, 0))
  else if k = 6 then some ((0, 7), (0, 3), (0, 0))
  else if k = 7 then some ((0, 3), (1, 20), (0, 0))
  else if k = 8 ∨ k = 15 ∨ k = 16 then some ((0, 3), (0, 0), (0, 0))
  else if k = 9 ∨ k = 10 ∨ k = 11 then some ((0, 0), (0, 0), (0, 0))
  else if k = 12 then some ((0, 7), (0, 3), (0, 3))
  else if k = 13 then some ((0, 3), (0, 7), (0, 0))
  else if k = 14 then some ((0, 7), (0, 3), (0, 0))
  else none
/-- an op is right -/
def opOk (k a b c : Int) : Bool :=
  match spans k with
  | none => false
  | some (p, q, r) => inn p.1 p.2 a && inn q.1 q.2 b && inn r.1 r.2 c

theorem kinds (k : Int) : k = 1 ∨ k = 2 ∨ k = 3 ∨ k = 4 ∨ k = 5 ∨ k = 6 ∨ k = 7 ∨ k = 8 ∨ k = 9 ∨ k = 10 ∨ k = 11 ∨ k = 12 ∨ k = 13 ∨ k = 14 ∨ k = 15 ∨ k = 16 ∨ (k < 1 ∨ 16 < k) := by omega
theorem spans_none {k : Int} (h : k < 1 ∨ 16 < k) : spans k = none := by
  unfold spans
  repeat rw [if_neg (by omega)]
theorem inn_zero (x : Int) : inn 0 0 x = (x == 0) := by
  unfold inn
  by_cases h : x = 0
  · subst h; rfl
  · by_cases h1 : 0 ≤ x <;> by_cases h2 : x ≤ 0 <;> simp [h, h1, h2] ; omega

set_option maxRecDepth 100000 in
theorem innC (x lo hi : Int) (w : World) : Calls Tryz.prog 88 #[.int .i64 x, .int .i64 lo, .int .i64 hi] w fun e w' => e = .returned (.bool (inn lo hi x)) ∧ w = w' := by
  unfold inn
  by_cases h1 : lo ≤ x
  · have h1' : decide (lo ≤ x) = true := decide_eq_true h1
    go_enter Tryz.func88, Tryz.ntmps88
    go_wp2
    go_ret
    simp [h1]
  · have h1' : decide (lo ≤ x) = false := decide_eq_false h1
    go_enter Tryz.func88, Tryz.ntmps88
    go_wp2
    go_ret
    simp

set_option maxRecDepth 100000 in
theorem regC (x : Int) (w : World) : Calls Tryz.prog 85 #[.int .i64 x] w fun e w' => e = .returned (.bool (inn 0 3 x)) ∧ w = w' := by
  go_enter Tryz.func85, Tryz.ntmps85
  go_wp2_with fail
  refine (innC x 0 3 w).mono ?_
  rintro e w1 ⟨rfl, rfl⟩
  go_wp2
  go_ret
  exact ⟨rfl, rfl⟩
set_option maxRecDepth 100000 in
theorem valC (x : Int) (w : World) : Calls Tryz.prog 86 #[.int .i64 x] w fun e w' => e = .returned (.bool (inn 0 65535 x)) ∧ w = w' := by
  go_enter Tryz.func86, Tryz.ntmps86
  go_wp2_with fail
  refine (innC x 0 65535 w).mono ?_
  rintro e w1 ⟨rfl, rfl⟩
  go_wp2
  go_ret
  exact ⟨rfl, rfl⟩
set_option maxRecDepth 100000 in
theorem cellC (x : Int) (w : World) : Calls Tryz.prog 87 #[.int .i64 x] w fun e w' => e = .returned (.bool (inn 0 7 x)) ∧ w = w' := by
  go_enter Tryz.func87, Tryz.ntmps87
  go_wp2_with fail
  refine (innC x 0 7 w).mono ?_
  rintro e w1 ⟨rfl, rfl⟩
  go_wp2
  go_ret
  exact ⟨rfl, rfl⟩

/-- an op as a value -/
def opV (k a b c : Int) : Value := .agg #[.int .i64 k, .int .i64 a, .int .i64 b, .int .i64 c]
end Ops
end Go.Proofs.YtjopmakbnompnaaGreatDoor
/- Rows of ops in memory: the laws' own copies, comparisons and sizes. -/
set_option linter.unusedVariables false
namespace Go.Proofs.YtjopmakbnompnaaGreatDoor
open Go.RowKit
namespace Ops
open Bas Flat

/-- an op's four numbers -/
structure O4 where
  k : Int
  a : Int
  b : Int
  c : Int
def O4.val (x : O4) : Value := opV x.k x.a x.b x.c
def opEl : El O4 where
  sz := 4
  cells x := [.int .i64 x.k, .int .i64 x.a, .int .i64 x.b, .int .i64 x.c]
  len _ := rfl
  one x v hv := by simp at hv; rcases hv with rfl | rfl | rfl | rfl <;> rfl
  pos := by decide
def z4 : O4 := ⟨0, 0, 0, 0⟩
theorem rowOp : Row Tryz.prog opEl 24 36 (.agg #[.int .i64 0, .int .i64 0, .int .i64 0, .int .i64 0]) z4 32 :=
  ⟨Tryz.underlying24, by kernel_rfl, rfl, by decide⟩
abbrev Sees4 (B : Nat) (w : World) (v : Value) (xs : List O4) : Prop := Sees opEl B w v xs
abbrev Owns4 (B : Nat) (w : World) (v : Value) (xs : List O4) : Prop := Owns opEl 36 B w v xs
theorem at4 {w : World} {b o : Nat} {x : O4} (h : At opEl w b o x) : w.cell? ⟨b, o, none⟩ = some (.int .i64 x.k) ∧ w.cell? ⟨b, o + 1, none⟩ = some (.int .i64 x.a) ∧ w.cell? ⟨b, o + 2, none⟩ = some (.int .i64 x.b) ∧ w.cell? ⟨b, o + 3, none⟩ = some (.int .i64 x.c) :=
  ⟨h 0 _ rfl, h 1 _ rfl, h 2 _ rfl, h 3 _ rfl⟩
/-- the world behind an op's store -/
def set4 (w : World) (g j : Nat) (x : O4) : World := (((w.setCell ⟨g, j * 4, none⟩ (.int .i64 x.k)).setCell ⟨g, j * 4 + 1, none⟩ (.int .i64 x.a)).setCell ⟨g, j * 4 + 2, none⟩ (.int .i64 x.b)).setCell ⟨g, j * 4 + 3, none⟩ (.int .i64 x.c)
theorem below_set4 {B g : Nat} {a w : World} (h : Below B a w) (hg : B ≤ g) (j : Nat) (x : O4) : Below B a (set4 w g j x) := (((h.setCell hg _).setCell hg _).setCell hg _).setCell hg _
theorem own_set4 {B g n cap : Nat} {w : World} {xs : List O4} (h : w.ownsRow B 36 4 (.slice (some ⟨g, 0, none⟩) n cap) n (fv opEl xs)) (j : Nat) (hj : j < xs.length) (x : O4) :
    (set4 w g j x).ownsRow B 36 4 (.slice (some ⟨g, 0, none⟩) n cap) n (fv opEl (xs.set j x)) := by
  obtain ⟨y, hy⟩ : ∃ y, xs[j] = y := ⟨_, rfl⟩
  have h0 := own_set (E := opEl) h j hj 0 (by decide) (.int .i64 x.k) ⟨x.k, y.a, y.b, y.c⟩ (by rw [hy]; rfl)
  have h1 := own_set (E := opEl) h0 j (by simp; exact hj) 1 (by decide) (.int .i64 x.a) ⟨x.k, x.a, y.b, y.c⟩ (by simp; rfl)
  have h2 := own_set (E := opEl) h1 j (by simp; exact hj) 2 (by decide) (.int .i64 x.b) ⟨x.k, x.a, x.b, y.c⟩ (by simp; rfl)
  have h3 := own_set (E := opEl) h2 j (by simp; exact hj) 3 (by decide) (.int .i64 x.c) x (by simp; rfl)
  simp only [List.set_set] at h3
  exact h3

set_option maxRecDepth 100000 in
set_option maxHeartbeats 400000 in
theorem eqOpE (x : O4) (w : World) : Calls Tryz.prog 78 #[x.val, x.val] w fun e w' => e = .returned (.bool true) ∧ Below w.heap.size w w' := by
  obtain ⟨k, a, b, c⟩ := x
  show Calls _ _ #[.agg #[.int .i64 k, .int .i64 a, .int .i64 b, .int .i64 c], .agg #[.int .i64 k, .int .i64 a, .int .i64 b, .int .i64 c]] _ _
  go_enter Tryz.func78, Tryz.ntmps78
  go_wp2
  go_ret
  exact ⟨rfl, ((Below.refl _ _).alloc (Nat.le_refl _) _).alloc (by simp) _⟩

set_option maxRecDepth 100000 in
set_option maxHeartbeats 1600000 in
theorem eqOpsC (v v' : Value) (xs : List O4) (B : Nat) (w : World) (hv : Sees4 B w v xs) (hv' : Sees4 B w v' xs) (hB : B ≤ w.heap.size) :
    Calls Tryz.prog 44 #[v, v'] w fun e w' => e = .returned (.bool true) ∧ Below w.heap.size w w' := by
  obtain ⟨a, cap, rfl, h1, h2, h3⟩ := hv
  obtain ⟨a', cap', rfl, h1', h2', h3'⟩ := hv'
  obtain ⟨n, hn⟩ : ∃ n, xs.length = n := ⟨_, rfl⟩
  have hm : (n : Int) ≤ 9223372036854775807 := by unfold maxLen at h2; omega
  rw [hn]
  obtain ⟨g, hg⟩ : ∃ g, w.heap.size = g := ⟨_, rfl⟩
  rw [hg] at hB ⊢
  clear h1 h2 h1' h2'
  go_enter Tryz.func44, Tryz.ntmps44
  go_wp2
  go_loopw [5] (fun i wr => ∃ k : Nat, k ≤ n ∧ i = .int .i64 k ∧ Below g w wr) (fun i _ => n - (intOf i).toNat)
  case atStart => exact ⟨0, Nat.zero_le _, rfl, Below.refl _ _⟩
  case round =>
    obtain ⟨k, hk, rfl, hb⟩ := hrel
    by_cases hlt : k < n
    · obtain ⟨b, off, rfl, hbB, hc⟩ := h3 (fun h => by simp [h] at hn; omega)
      obtain ⟨b', off', rfl, hbB', hc'⟩ := h3' (fun h => by simp [h] at hn; omega)
      obtain ⟨a0, a1, a2, a3⟩ := at4 ((hc k (by omega)).on hb (by omega))
      obtain ⟨d0, d1, d2, d3⟩ := at4 ((hc' k (by omega)).on hb (by omega))
      obtain ⟨x, hx⟩ : ∃ x, xs[k] = x := ⟨_, rfl⟩
      rw [hx] at a0 a1 a2 a3 d0 d1 d2 d3
      change wr.cell? ⟨b, off + k * 4, none⟩ = _ at a0
      change wr.cell? ⟨b, off + k * 4 + 1, none⟩ = _ at a1
      change wr.cell? ⟨b, off + k * 4 + 2, none⟩ = _ at a2
      change wr.cell? ⟨b, off + k * 4 + 3, none⟩ = _ at a3
      change wr.cell? ⟨b', off' + k * 4, none⟩ = _ at d0
      change wr.cell? ⟨b', off' + k * 4 + 1, none⟩ = _ at d1
      change wr.cell? ⟨b', off' + k * 4 + 2, none⟩ = _ at d2
      change wr.cell? ⟨b', off' + k * 4 + 3, none⟩ = _ at d3
      have cT := eqOpE x
      have eV : x.val = .agg #[.int .i64 x.k, .int .i64 x.a, .int .i64 x.b, .int .i64 x.c] := rfl
      rw [eV] at cT
      have HT := (show Hid _ from cT)
      clear hx hc h3 hc' h3' cT eV
      go_wp2_with fail
      go_region_with (go_at_call 78; refine (HT.out _).mono ?_; rintro e w2 ⟨rfl, hb2⟩)
      all_goals
        go_wp2
        go_roundw
        case rel =>
          have hle : g ≤ wr.heap.size := by have := hb.size; omega
          refine ⟨k + 1, by omega, by go_num, ?_⟩
          first | exact hb.trans (hb2.mono hle) | exact hb.drew.trans (hb2.mono hle) | exact hb.drew.drew.trans (hb2.mono hle)
        case measure => simp [intOf]; omega
    · obtain rfl : k = n := by omega
      go_wp2
      go_ret
      exact ⟨rfl, hb⟩

end Ops
end Go.Proofs.YtjopmakbnompnaaGreatDoor
/- Shapes: what the functions of chapter 5 say, as plain mathematics. -/
set_option linter.unusedVariables false
namespace Go.Proofs.YtjopmakbnompnaaGreatDoor
namespace Ops

/-- what an op adds to the depth -/
def delta (o : O4) : Int := if o.k = 8 then 1 else if o.k = 9 then -1 else 0
theorem delta_range (o : O4) : -1 ≤ delta o ∧ delta o ≤ 1 := by
  unfold delta
  by_cases h8 : o.k = 8
  · rw [if_pos h8]; omega
  · rw [if_neg h8]; split <;> omega
def dsum (xs : List O4) : Int := (xs.map delta).sum
theorem dsum_nil : dsum [] = 0 := rfl
theorem dsum_snoc (xs : List O4) (o : O4) : dsum (xs ++ [o]) = dsum xs + delta o := by simp [dsum]
theorem dsum_range (xs : List O4) : -(xs.length : Int) ≤ dsum xs ∧ dsum xs ≤ xs.length := by
  induction xs with
  | nil => simp [dsum]
  | cons o r ih =>
    have := delta_range o
    have e : dsum (o :: r) = delta o + dsum r := by simp [dsum]
    rw [e, List.length_cons]; omega
theorem take_succ {xs : List O4} {k : Nat} (h : k < xs.length) : xs.take (k + 1) = xs.take k ++ [xs[k]] := List.take_succ_eq_append_getElem h
theorem dsum_take {xs : List O4} {k : Nat} (h : k < xs.length) : dsum (xs.take (k + 1)) = dsum (xs.take k) + delta xs[k] := by rw [take_succ h, dsum_snoc]
theorem dsum_take_range (xs : List O4) (k : Nat) : -(k : Int) ≤ dsum (xs.take k) ∧ dsum (xs.take k) ≤ k := by
  have := dsum_range (xs.take k)
  have hl : (xs.take k).length ≤ k := List.length_take_le _ _
  omega
/-- DepthAt -/
def depthAt (xs : List O4) (i : Int) : Int := dsum (xs.take i.toNat)

/-- the first place, from k on, at which the depth d is nought -/
def endGo : List O4 → Int → Nat → Int
  | [], _, _ => -1
  | o :: r, d, k => if d + delta o = 0 then k else endGo r (d + delta o) (k + 1)
/-- EndOf -/
def endOf (xs : List O4) (i : Int) : Int :=
  if 0 ≤ i ∧ i < xs.length ∧ (xs.getD i.toNat z4).k = 8 then endGo (xs.drop i.toNat) 0 i.toNat else -1
theorem endGo_step {xs : List O4} {k : Nat} (h : k < xs.length) (d : Int) : endGo (xs.drop k) d k = if d + delta xs[k] = 0 then (k : Int) else endGo (xs.drop (k + 1)) (d + delta xs[k]) (k + 1) := by
  rw [List.drop_eq_getElem_cons h]; rfl

/-- whole blocks alone in the first n -/
def skipGo : List O4 → Nat → Int → Bool
  | _, 0, d => d == 0
  | [], _ + 1, _ => false
  | o :: r, n + 1, d => decide (0 ≤ d + delta o) && skipGo r n (d + delta o)
/-- the skip at i passes over whole blocks alone -/
def skipOk (xs : List O4) (i : Nat) : Bool :=
  decide ((i : Int) + 1 + (xs.getD i z4).b ≤ xs.length) && skipGo (xs.drop (i + 1)) (xs.getD i z4).b.toNat 0
theorem skipGo_step {xs : List O4} {k : Nat} (h : k < xs.length) (n : Nat) (d : Int) : skipGo (xs.drop k) (n + 1) d = (decide (0 ≤ d + delta xs[k]) && skipGo (xs.drop (k + 1)) n (d + delta xs[k])) := by
  rw [List.drop_eq_getElem_cons h]; rfl

/-- an op is right -/
def okOp (o : O4) : Bool := opOk o.k o.a o.b o.c
/-- what is left of a code from place i on is right, at depth d, with so many forks ahead -/
def codeGo (xs : List O4) : List O4 → Nat → Int → Nat → Bool
  | [], _, d, _ => d == 0
  | o :: r, i, d, f => okOp o && (!(o.k == 7) || skipOk xs i) && (!(o.k == 11) || (decide (d ≤ 0) && decide (f = 0))) && decide (0 ≤ d + delta o) && codeGo xs r (i + 1) (d + delta o) (if o.k = 11 then f + 1 else f)
/-- CodeOk -/
def codeOk (xs : List O4) : Bool := decide (xs.length ≤ 24) && codeGo xs xs 0 0 0
theorem codeGo_step {xs : List O4} {k : Nat} (h : k < xs.length) (d : Int) (f : Nat) : codeGo xs (xs.drop k) k d f =
    (okOp xs[k] && (!(xs[k].k == 7) || skipOk xs k) && (!(xs[k].k == 11) || (decide (d ≤ 0) && decide (f = 0))) && decide (0 ≤ d + delta xs[k]) && codeGo xs (xs.drop (k + 1)) (k + 1) (d + delta xs[k]) (if xs[k].k = 11 then f + 1 else f)) := by
  rw [List.drop_eq_getElem_cons h]; rfl
/-- HasFork -/
def hasFork (xs : List O4) : Bool := xs.any fun o => o.k == 11
theorem hasFork_yes {xs : List O4} {k : Nat} (h : k < xs.length) (hk : xs[k].k = 11) : hasFork xs = true :=
  List.any_eq_true.2 ⟨xs[k], List.getElem_mem h, by simp [hk]⟩
theorem hasFork_no {xs : List O4} (h : ∀ j (h : j < xs.length), ¬ xs[j].k = 11) : hasFork xs = false := by
  refine List.any_eq_false.2 fun o ho => ?_
  obtain ⟨j, hj, rfl⟩ := List.mem_iff_getElem.1 ho
  simpa using h j hj
/-- what Touches says of an op -/
def touch (o : O4) : Int := if okOp o = true then (if o.k = 5 ∨ o.k = 6 then 1 else if o.k = 12 ∨ o.k = 13 ∨ o.k = 14 ∨ o.k = 15 ∨ o.k = 16 then 2 else 0) else 0
/-- KidOk -/
def kidOk (xs : List O4) : Bool := codeOk xs && !hasFork xs && xs.all fun o => !(touch o == 2)
theorem all_no {xs : List O4} {k : Nat} {p : O4 → Bool} (h : k < xs.length) (hk : p xs[k] = false) : xs.all p = false := List.all_eq_false.2 ⟨xs[k], List.getElem_mem h, by simp [hk]⟩
theorem all_yes {xs : List O4} {p : O4 → Bool} (h : ∀ j (h : j < xs.length), p xs[j] = true) : xs.all p = true := List.all_eq_true.2 fun o ho => by
  obtain ⟨j, hj, rfl⟩ := List.mem_iff_getElem.1 ho
  exact h j hj
/-- ProgOk -/
def progOk (xs : List O4) (kss : List (List O4)) : Bool := codeOk xs && decide (kss.length ≤ 3) && (hasFork xs == decide (0 < kss.length)) && kss.all kidOk
/-- the same op -/
def same4 (x y : O4) : Bool := decide (x.k = y.k ∧ x.a = y.a ∧ x.b = y.b ∧ x.c = y.c)
def sameGo : List O4 → List O4 → Bool
  | [], [] => true
  | x :: r, y :: t => same4 x y && sameGo r t
  | _, _ => false
/-- SameProg -/
def sameProg (xs : List O4) (kss : List (List O4)) (ys : List O4) (lss : List (List O4)) : Bool := sameGo xs ys && decide (kss.length = lss.length) && (kss.zip lss).all fun p => sameGo p.1 p.2
end Ops
end Go.Proofs.YtjopmakbnompnaaGreatDoor
/- Plain mathematics: numbers in decimal digits, and texts read as such numbers. -/
namespace Go.Proofs.YtjopmakbnompnaaGreatDoor.Num

/-- the k lowest digits, the highest of them first -/
def decTo (n : Nat) : Nat → List UInt8
  | 0 => []
  | k + 1 => UInt8.ofNat (48 + n / 10 ^ k % 10) :: decTo n k
theorem decTo_low (n : Nat) : ∀ k, decTo n (k + 1) = decTo (n / 10) k ++ [UInt8.ofNat (48 + n % 10)]
  | 0 => by simp [decTo]
  | k + 1 => by
    have h := decTo_low n k
    rw [decTo, h, decTo]
    have e : n / 10 ^ (k + 1) = n / 10 / 10 ^ k := by rw [Nat.pow_succ, Nat.mul_comm, Nat.div_div_eq_div_mul]
    rw [e]; rfl
theorem decTo_length (n k : Nat) : (decTo n k).length = k := by induction k with
  | zero => rfl
  | succ k ih => simp [decTo, ih]
theorem dstep (n i : Nat) : n / 10 ^ (i + 1) = n / 10 ^ i / 10 := by rw [Nat.pow_succ, Nat.div_div_eq_div_mul]

theorem decTo_all : ∀ k n, n ≠ 0 → (∀ j, j < k → n / 10 ^ j ≠ 0) → n / 10 ^ k = 0 → decTo n k = Lib.decDigits n
  | 0, n, h0, _, h2 => by simp at h2; exact absurd h2 h0
  | k + 1, n, h0, h1, h2 => by
    rw [decTo_low, Lib.decDigits]
    have e : ∀ j, n / 10 / 10 ^ j = n / 10 ^ (j + 1) := by intro j; rw [Nat.pow_succ, Nat.mul_comm, Nat.div_div_eq_div_mul]
    by_cases h : n < 10
    · rw [dif_pos h]
      have hk : k = 0 := by
        rcases Nat.eq_zero_or_pos k with h3 | h3
        · exact h3
        · exfalso
          apply h1 1 (by omega)
          simp; exact h
      subst hk
      have : n % 10 = n := by omega
      simp [decTo, this]
    · rw [dif_neg h]
      have := decTo_all k (n / 10) (by omega) (fun j hj => by rw [e]; exact h1 (j + 1) (by omega)) (by rw [e]; exact h2)
      rw [this]

theorem dk_lt (n k : Nat) (hn : n ≤ 9223372036854775808) (h : n / 10 ^ k ≠ 0) : k < 20 := by
  rcases Nat.lt_or_ge k 20 with h1 | h1
  · exact h1
  · exfalso
    apply h
    have h2 : (10 : Nat) ^ 20 ≤ 10 ^ k := Nat.pow_le_pow_right (by omega) h1
    have h3 : (10 : Nat) ^ 20 = 100000000000000000000 := by decide
    exact Nat.div_eq_of_lt (by omega)

/-! ### a text's digits, added up -/
def isDig (c : UInt8) : Bool := 48 ≤ c.toNat && c.toNat ≤ 57
/-- the number of all digits in a list, and how many they are -/
def dsum : List UInt8 → Nat → Nat
  | [], n => n
  | c :: r, n => dsum r (if isDig c then n * 10 + (c.toNat - 48) else n)
def dcnt : List UInt8 → Nat
  | [] => 0
  | c :: r => (if isDig c then 1 else 0) + dcnt r
theorem dsum_append (a b : List UInt8) (n : Nat) : dsum (a ++ b) n = dsum b (dsum a n) := by
  induction a generalizing n with
  | nil => rfl
  | cons c r ih => exact ih _
theorem dcnt_append (a b : List UInt8) : dcnt (a ++ b) = dcnt a + dcnt b := by
  induction a with
  | nil => simp [dcnt]
  | cons c r ih => rw [List.cons_append, dcnt, dcnt, ih]; omega
theorem dcnt_le (l : List UInt8) : dcnt l ≤ l.length := by
  induction l with
  | nil => simp [dcnt]
  | cons c r ih => rw [dcnt, List.length_cons]; split <;> omega
theorem dsum_lt (l : List UInt8) : ∀ n, dsum l n < (n + 1) * 10 ^ dcnt l := by
  induction l with
  | nil => intro n; simp [dsum, dcnt]
  | cons c r ih =>
    intro n
    have h := ih (if isDig c then n * 10 + (c.toNat - 48) else n)
    rw [dsum, dcnt]
    by_cases hd : isDig c = true
    · rw [if_pos hd] at h
      rw [if_pos hd, if_pos hd, Nat.add_comm 1, Nat.pow_succ]
      have h2 : c.toNat - 48 ≤ 9 := by simp [isDig] at hd; omega
      calc dsum r (n * 10 + (c.toNat - 48)) < (n * 10 + (c.toNat - 48) + 1) * 10 ^ dcnt r := h
        _ ≤ ((n + 1) * 10) * 10 ^ dcnt r := Nat.mul_le_mul_right _ (by omega)
        _ = (n + 1) * (10 ^ dcnt r * 10) := by rw [Nat.mul_assoc, Nat.mul_comm 10]
    · rw [if_neg hd] at h
      rw [if_neg hd, if_neg hd, Nat.zero_add]; exact h
theorem dig_isDig (d : Nat) (h : d < 10) : isDig (UInt8.ofNat (48 + d)) = true ∧ (UInt8.ofNat (48 + d)).toNat = 48 + d := by
  have : (UInt8.ofNat (48 + d)).toNat = 48 + d := by simp; omega
  refine ⟨?_, this⟩
  unfold isDig
  rw [this]
  simp; omega
theorem dsum_one (c : UInt8) (n : Nat) (h : isDig c = true) : dsum [c] n = n * 10 + (c.toNat - 48) := by simp [dsum, h]
theorem dcnt_one (c : UInt8) (h : isDig c = true) : dcnt [c] = 1 := by simp [dcnt, h]

theorem decDigits_ind {P : Nat → Prop} (h1 : ∀ n, n < 10 → P n) (h2 : ∀ n, 10 ≤ n → P (n / 10) → P n) : ∀ n, P n := by
  intro n
  induction n using Nat.strongRecOn with
  | ind n ih =>
    by_cases h : n < 10
    · exact h1 n h
    · exact h2 n (by omega) (ih (n / 10) (by omega))

theorem dsum_dec : ∀ n, dsum (Lib.decDigits n) 0 = n := by
  apply decDigits_ind
  · intro n h
    rw [Lib.decDigits, dif_pos h]
    obtain ⟨a, b⟩ := dig_isDig n h
    rw [dsum_one _ _ a, b]; omega
  · intro n h ih
    rw [Lib.decDigits, dif_neg (by omega), dsum_append, ih]
    obtain ⟨a, b⟩ := dig_isDig (n % 10) (by omega)
    rw [dsum_one _ _ a, b]; omega
theorem dcnt_dec : ∀ n, dcnt (Lib.decDigits n) = (Lib.decDigits n).length := by
  apply decDigits_ind
  · intro n h
    rw [Lib.decDigits, dif_pos h]
    rw [dcnt_one _ (dig_isDig n h).1]; rfl
  · intro n h ih
    rw [Lib.decDigits, dif_neg (by omega), dcnt_append, ih]
    rw [dcnt_one _ (dig_isDig (n % 10) (by omega)).1, List.length_append]; rfl
theorem dec_len : ∀ n k, 1 ≤ k → n < 10 ^ k → (Lib.decDigits n).length ≤ k := by
  intro n
  induction n using Nat.strongRecOn with
  | ind n ih =>
    intro k hk h
    rw [Lib.decDigits]
    by_cases h10 : n < 10
    · rw [dif_pos h10]; simp; exact hk
    · rw [dif_neg h10]
      obtain ⟨m, rfl⟩ : ∃ m, k = m + 1 := ⟨k - 1, by omega⟩
      rw [Nat.pow_succ] at h
      have hm : 1 ≤ m := by
        rcases Nat.eq_zero_or_pos m with h3 | h3
        · subst h3; simp at h; omega
        · exact h3
      have := ih (n / 10) (by omega) m hm (by omega)
      simp; omega
theorem dec_ne : ∀ n, Lib.decDigits n ≠ [] := by
  intro n; rw [Lib.decDigits]; split <;> simp
theorem dec_all : ∀ n, ∀ c ∈ Lib.decDigits n, isDig c = true := by
  apply decDigits_ind
  · intro n h c hc
    rw [Lib.decDigits, dif_pos h] at hc
    rw [List.mem_singleton.1 hc]; exact (dig_isDig n h).1
  · intro n h ih c hc
    rw [Lib.decDigits, dif_neg (by omega)] at hc
    rcases List.mem_append.1 hc with h1 | h1
    · exact ih c h1
    · rw [List.mem_singleton.1 h1]; exact (dig_isDig (n % 10) (by omega)).1

/-! ### Atoi reads back what Itoa makes -/
theorem pu_dig (l : List UInt8) : ∀ acc, (∀ c ∈ l, isDig c = true) → dsum l acc < 18446744073709551616 → Lib.parseUint10 acc l = .ok (dsum l acc) := by
  induction l with
  | nil => intro acc _ _; rfl
  | cons c r ih =>
    intro acc h1 h2
    have hc : isDig c = true := h1 c (by simp)
    have hc' : 48 ≤ c.toNat ∧ c.toNat ≤ 57 := by simpa [isDig] using hc
    have hs : dsum (c :: r) acc = dsum r (acc * 10 + (c.toNat - 48)) := by rw [dsum, if_pos hc]
    have hmono : ∀ (l : List UInt8) (a : Nat), a ≤ dsum l a := by
      intro l
      induction l with
      | nil => intro a; exact Nat.le_refl _
      | cons d q ihq =>
        intro a
        rw [dsum]
        refine Nat.le_trans ?_ (ihq _)
        split <;> omega
    have hle := hmono r (acc * 10 + (c.toNat - 48))
    rw [hs] at h2
    have hr := ih (acc * 10 + (c.toNat - 48)) (fun d hd => h1 d (by simp [hd])) h2
    rw [hs]
    unfold Lib.parseUint10
    rw [if_pos hc', if_neg (by omega), if_neg (by omega)]
    exact hr

theorem dec_head (n : Nat) : ∃ c r, Lib.decDigits n = c :: r ∧ isDig c = true := by
  cases h : Lib.decDigits n with
  | nil => exact absurd h (dec_ne n)
  | cons c r => exact ⟨c, r, rfl, dec_all n c (by rw [h]; simp)⟩
theorem isDig_not {c : UInt8} (h : isDig c = true) : c.toNat ≠ 43 ∧ c.toNat ≠ 45 := by simp [isDig] at h; omega
theorem mag_dec (n : Nat) (h : n < 18446744073709551616) : Lib.parseMag (Lib.decDigits n) = .ok n := by
  unfold Lib.parseMag
  rw [if_neg (dec_ne n), pu_dig _ 0 (dec_all n) (by rw [dsum_dec]; exact h), dsum_dec]
theorem atoi_itoa (m : Int) (h0 : -9223372036854775808 ≤ m) (h1 : m ≤ 9223372036854775807) : Lib.atoiAll (Lib.itoa m) = .ok m := by
  by_cases hm : m < 0
  · obtain ⟨u, rfl⟩ : ∃ u : Nat, m = -(u : Int) := ⟨m.natAbs, by omega⟩
    rw [Lib.itoa_neg u (by omega)]
    have e := mag_dec u (by omega)
    have e45 : (45 : UInt8).toNat = 45 := rfl
    have hu : ¬ (9223372036854775808 < u) := by omega
    simp [Lib.atoiAll, e45, e, hu]
  · obtain ⟨u, rfl⟩ := Int.eq_ofNat_of_zero_le (show 0 ≤ m by omega)
    rw [Lib.itoa_nonneg u]
    obtain ⟨c, r, hcr, hc⟩ := dec_head u
    have e := mag_dec u (by omega)
    rw [hcr] at e ⊢
    have hne := isDig_not hc
    have hu : ¬ (9223372036854775808 ≤ u) := by omega
    simp [Lib.atoiAll, hne.1, hne.2, e, hu]
theorem itoa_inj (a b : Int) (ha : -9223372036854775808 ≤ a ∧ a ≤ 9223372036854775807) (hb : -9223372036854775808 ≤ b ∧ b ≤ 9223372036854775807) (h : Lib.itoa a = Lib.itoa b) : a = b := by
  have h1 := atoi_itoa a ha.1 ha.2
  have h2 := atoi_itoa b hb.1 hb.2
  rw [h] at h1
  rw [h1] at h2
  injection h2

/-- what ReadDec tells -/
def RdRes (l : List UInt8) (n : Int) (b : Bool) : Prop :=
  (b = true ∧ -999999999 ≤ n ∧ n ≤ 999999999 ∧ Lib.itoa n = l) ∨ (b = false ∧ n = 0 ∧ ∀ m, -999999999 ≤ m → m ≤ 999999999 → Lib.itoa m ≠ l)
theorem RdRes.unique {l : List UInt8} {n n' : Int} {b b' : Bool} (h : RdRes l n b) (h' : RdRes l n' b') : n = n' ∧ b = b' := by
  rcases h with ⟨rfl, a1, a2, a3⟩ | ⟨rfl, rfl, a⟩ <;> rcases h' with ⟨rfl, b1, b2, b3⟩ | ⟨rfl, rfl, b⟩
  · exact ⟨itoa_inj n n' (by omega) (by omega) (a3.trans b3.symm), rfl⟩
  · exact absurd a3 (b n a1 a2)
  · exact absurd b3 (a n' b1 b2)
  · exact ⟨rfl, rfl⟩
theorem rd_err {l : List UInt8} (h : ∀ v, Lib.atoiAll l ≠ .ok v) : RdRes l 0 false := by
  refine .inr ⟨rfl, rfl, fun m h1 h2 e => ?_⟩
  exact h m (by rw [← e]; exact atoi_itoa m (by omega) (by omega))
theorem rd_out {l : List UInt8} {v : Int} (h : Lib.atoiAll l = .ok v) (hv : v < -999999999 ∨ 999999999 < v) : RdRes l 0 false := by
  refine .inr ⟨rfl, rfl, fun m h1 h2 e => ?_⟩
  have := atoi_itoa m (by omega) (by omega)
  rw [e, h] at this
  injection this with this
  omega
theorem rd_ne {l : List UInt8} {v : Int} (h : Lib.atoiAll l = .ok v) (hv : Lib.itoa v ≠ l) : RdRes l 0 false := by
  refine .inr ⟨rfl, rfl, fun m h1 h2 e => ?_⟩
  have := atoi_itoa m (by omega) (by omega)
  rw [e, h] at this
  injection this with this
  exact hv (by rw [this]; exact e)

/-! ### what spec.ReadDec makes of a text: the digits of its first eleven bytes, the sign by its first byte -/
def specNum (l : List UInt8) : Int := if l.head? = some 45 then -(dsum (l.take 11) 0 : Int) else dsum (l.take 11) 0
theorem spec_yes {l : List UInt8} (hk : dcnt (l.take 11) ≤ 9) (h : Lib.itoa (specNum l) = l) : RdRes l (specNum l) true := by
  have h1 := dsum_lt (l.take 11) 0
  have h2 : 10 ^ dcnt (l.take 11) ≤ 10 ^ 9 := Nat.pow_le_pow_right (by omega) hk
  have h3 : (10 : Nat) ^ 9 = 1000000000 := by decide
  refine .inl ⟨rfl, ?_, ?_, h⟩ <;> (unfold specNum; split <;> omega)
theorem spec_of (m : Int) (h0 : -999999999 ≤ m) (h1 : m ≤ 999999999) : specNum (Lib.itoa m) = m ∧ dcnt ((Lib.itoa m).take 11) ≤ 9 ∧ (Lib.itoa m).length ≤ 10 := by
  by_cases hm : m < 0
  · obtain ⟨u, rfl⟩ : ∃ u : Nat, m = -(u : Int) := ⟨m.natAbs, by omega⟩
    have hl := dec_len u 9 (by omega) (by omega)
    rw [Lib.itoa_neg u (by omega)]
    have e : (45 :: Lib.decDigits u).take 11 = 45 :: Lib.decDigits u := List.take_of_length_le (by simp; omega)
    have d45 : isDig 45 = false := by decide
    refine ⟨?_, ?_, by simp; omega⟩
    · unfold specNum
      rw [e, if_pos (by simp), dsum, d45, if_neg (by simp), dsum_dec]
    · rw [e, dcnt, d45, if_neg (by simp), dcnt_dec]; omega
  · obtain ⟨u, rfl⟩ := Int.eq_ofNat_of_zero_le (show 0 ≤ m by omega)
    have hl := dec_len u 9 (by omega) (by omega)
    rw [Lib.itoa_nonneg u]
    have e : (Lib.decDigits u).take 11 = Lib.decDigits u := List.take_of_length_le (by omega)
    obtain ⟨c, r, hcr, hc⟩ := dec_head u
    have hne := isDig_not hc
    refine ⟨?_, by rw [e, dcnt_dec]; omega, by omega⟩
    unfold specNum
    rw [e, dsum_dec, if_neg]
    rw [hcr]; intro h; simp at h; rw [h] at hne; exact hne.2 rfl
theorem spec_no {l : List UInt8} (h : 9 < dcnt (l.take 11) ∨ 10 < l.length ∨ Lib.itoa (specNum l) ≠ l) : RdRes l 0 false := by
  refine .inr ⟨rfl, rfl, fun m h0 h1 e => ?_⟩
  subst e
  obtain ⟨a, b, c⟩ := spec_of m h0 h1
  rcases h with h | h | h
  · omega
  · omega
  · exact h (by rw [a])
end Go.Proofs.YtjopmakbnompnaaGreatDoor.Num
