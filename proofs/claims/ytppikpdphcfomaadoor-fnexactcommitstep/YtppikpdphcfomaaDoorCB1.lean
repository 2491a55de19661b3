/- Several texts of one proof, in build order: Base, Flat. -/
import Derived.Test.YtppikpdphcfomaaDoorProg
import Derived.WalkKit
import Derived.WalkLawsBesides
import Derived.WalkSpells
import Derived.Laws.OwnMore
import Derived.Laws.StructEq
import Derived.Deep.OwnRows
import Derived.Deep.AppendLies
import Derived.Deep.RegionWith
import Derived.Outline
import Derived.OpenShut
import Derived.Deep.Slices
import Derived.Deep.Upon
/- What all texts use: rows that the call owns, blocks, worlds that have grown. -/
namespace Go.Proofs.YtppikpdphcfomaaDoor
open Go.RowKit
namespace Bas

theorem grownBy_trans {w w1 w2 : World} {row : Option Nat} (h : w.grownBy w1 row) (k : w1.grownBy w2 row) : w.grownBy w2 row :=
  ⟨k.os.trans h.os, k.tape.trans h.tape, k.output.trans h.output, Nat.le_trans h.size k.size, fun i hi hn => (k.block i (Nat.lt_of_lt_of_le hi h.size) hn).trans (h.block i hi hn)⟩
theorem owns_on {B n e size : Nat} {w w' : World} {v : Value} {xs : List Value} (h : w.ownsRow B e size v n xs) {B' : Nat} (hb : Below B' w w') (hB : w.heap.size ≤ B') : w'.ownsRow B e size v n xs := by
  obtain ⟨h1, h2⟩ := h
  refine ⟨h1, ?_⟩
  rcases h2 with h2 | ⟨g, cap, cur, hv, hg, hh, r⟩
  · exact .inl h2
  · have := (Array.getElem?_eq_some_iff.1 hh).1
    exact .inr ⟨g, cap, cur, hv, hg, by rw [hb.block g (by omega)]; exact hh, r⟩

/-- a block of cells that may be written -/
def Blk (W : World) (p : Nat) (cs : Array Value) (t : TypeId) : Prop := W.heap[p]? = some (.cells cs t (0, 0))
section
variable {W W' : World} {p : Nat} {cs : Array Value} {t : TypeId}
theorem Blk.cell (h : Blk W p cs t) (i : Nat) : W.cell? ⟨p, i, none⟩ = cs[i]? := cell_of_row W p i _ _ _ h
theorem Blk.froz (h : Blk W p cs t) (i : Nat) : W.frozen? ⟨p, i, none⟩ = false := frozen_of_row W p i _ _ h
theorem Blk.lt (h : Blk W p cs t) : p < W.heap.size := (Array.getElem?_eq_some_iff.1 h).1
theorem Blk.on (h : Blk W p cs t) {B : Nat} (hb : Below B W W') (hB : p < B) : Blk W' p cs t := (hb.block p hB).trans h
theorem Blk.grown (h : Blk W p cs t) {row : Option Nat} (hg : W.grownBy W' row) (hr : some p ≠ row) : Blk W' p cs t := (hg.block p h.lt hr).trans h
theorem Blk.new (w : World) (cs : Array Value) (t : TypeId) : Blk (w.alloc (.cells cs t)) w.heap.size cs t := heap_alloc_new w _
theorem Blk.drew (h : Blk W p cs t) : Blk W.drew p cs t := h
end
theorem Blk.set {W : World} {p : Nat} {cs : Array Value} {t : TypeId} (h : Blk W p cs t) (i : Nat) (u : Value) : Blk (W.setCell ⟨p, i, none⟩ u) p (cs.setIfInBounds i u) t := by
  unfold Blk at *; simp [World.setCell, Array.getElem?_modify, h]
theorem Blk.other {W : World} {p q : Nat} {cs : Array Value} {t : TypeId} (h : Blk W p cs t) (hne : p ≠ q) (i : Nat) (u : Value) : Blk (W.setCell ⟨q, i, none⟩ u) p cs t := by
  unfold Blk at *
  rw [Below.heap_setCell _ _ _ _ hne]; exact h
theorem alloc_below (w : World) (o : Obj) : Below w.heap.size w (w.alloc o) := (Below.refl _ _).alloc (Nat.le_refl _) o

/-- an append whose answer is known, at its operation in a plain region: (at_builtin; refine wpList_app _ rfl _ _ T rfl _ _ _ _ rfl rfl hr ?_) -/
theorem wpList_app {P : Program} (w : World) {ops : Array Oper} {rest : List Oper} {o : Oper} {a : Act} {Q : Exit → Act → World → Prop} (hgd : o.guard = none) (s x : Operand) (t : TypeId)
    (ho : o.op = .call { callee := .builtin .append, args := #[s, x], argTypes := #[t, t] }) (u v v' : Value) (w' : World) (hs : a.eval s = u) (hx : a.eval x = v)
    (hr : (Builtin.append_ #[t, t] o.type #[u, v]).run P w = .ok v' w') (h : wpList P ops Q rest (a.put o.dst v') w') : wpList P ops Q (o :: rest) a w := by
  refine wpList_plain hgd fun K hK => ?_
  unfold Oper.wp execOp
  simp only [ho, resolve, invoke, builtin, Sem.run_bind, Sem.run_pure, Result.andThen_ok, List.map_toArray, List.map_cons, List.map_nil, hs, hx, hr]
  exact hK _ _ h
/-- .. as one step of a region that draws its order -/
theorem step_app {P : Program} {w : World} {ops : Array Oper} {o : Oper} {a : Act} {K : Act → World → Prop} {Q : Exit → Act → World → Prop} {E : Prop} (hgd : o.guard = none) (s x : Operand) (t : TypeId)
    (ho : o.op = .call { callee := .builtin .append, args := #[s, x], argTypes := #[t, t] }) (u v v' : Value) (w' : World) (hs : a.eval s = u) (hx : a.eval x = v)
    (hr : (Builtin.append_ #[t, t] o.type #[u, v]).run P w = .ok v' w') (h : K (a.put o.dst v') w') : if Region.wanted o (yielded ops a.tmps) = true then Oper.wp P o a w K Q else E := by
  have hw : Region.wanted o (yielded ops a.tmps) = true := by simp [Region.wanted, hgd]
  rw [if_pos hw]
  unfold Oper.wp execOp
  simp only [ho, resolve, invoke, builtin, Sem.run_bind, Sem.run_pure, Result.andThen_ok, List.map_toArray, List.map_cons, List.map_nil, hs, hx, hr]
  exact h
end Bas
end Go.Proofs.YtppikpdphcfomaaDoor
/- Rows of elements that take so many cells each: what a slice of them reads as, and what the call owns of them. -/
set_option linter.unusedVariables false
namespace Go.Proofs.YtppikpdphcfomaaDoor
open Go.RowKit
namespace Flat

/-- all old cells, all old marks read as before -/
theorem bcell {W w1 : World} (hb : Below W.heap.size W w1) : (∀ b o, b < W.heap.size → w1.cell? ⟨b, o, none⟩ = W.cell? ⟨b, o, none⟩) ∧ (∀ b o, b < W.heap.size → w1.frozen? ⟨b, o, none⟩ = W.frozen? ⟨b, o, none⟩) :=
  ⟨fun b o h => hb.cell (p := ⟨b, o, none⟩) h, fun b o h => hb.frozen (p := ⟨b, o, none⟩) h⟩

/-- how an element lies in memory -/
structure El (α : Type) where
  sz : Nat
  cells : α → List Value
  len : ∀ a, (cells a).length = sz
  one : ∀ a, ∀ v ∈ cells a, v.oneCell' = true
  pos : 0 < sz

section
variable {α : Type} {E : El α}

/-- the cells of a row -/
def fv (E : El α) (xs : List α) : List Value := xs.flatMap E.cells
theorem fv_nil : fv E [] = [] := rfl
theorem fv_cons (x : α) (r : List α) : fv E (x :: r) = E.cells x ++ fv E r := rfl
theorem fv_append (a b : List α) : fv E (a ++ b) = fv E a ++ fv E b := by simp [fv]
theorem fv_length (xs : List α) : (fv E xs).length = xs.length * E.sz := by
  induction xs with
  | nil => simp [fv]
  | cons x r ih => rw [fv_cons, List.length_append, ih, E.len, List.length_cons, Nat.succ_mul]; omega
theorem fv_one (xs : List α) : ∀ v ∈ fv E xs, v.oneCell' = true := by
  intro v hv
  obtain ⟨x, _, hx⟩ := List.mem_flatMap.1 hv
  exact E.one x v hx
theorem fv_get (xs : List α) : ∀ (j : Nat) (h : j < xs.length) (i : Nat), i < E.sz → (fv E xs)[j * E.sz + i]? = (E.cells xs[j])[i]? := by
  induction xs with
  | nil => intro j h; simp at h
  | cons x r ih =>
    intro j h i hi
    have hl := E.len x
    match j, h with
    | 0, _ => rw [fv_cons, Nat.zero_mul, Nat.zero_add, List.getElem?_append_left (by omega)]; rfl
    | j + 1, h =>
      have := ih j (by simpa using h) i hi
      rw [fv_cons, List.getElem?_append_right (by rw [Nat.succ_mul]; omega), hl, show (j + 1) * E.sz + i - E.sz = j * E.sz + i by rw [Nat.succ_mul]; omega, this]
      rfl
theorem fv_set (xs : List α) : ∀ (j : Nat) (h : j < xs.length) (i : Nat) (u : Value) (x' : α), i < E.sz → E.cells x' = (E.cells xs[j]).set i u → (fv E xs).set (j * E.sz + i) u = fv E (xs.set j x') := by
  induction xs with
  | nil => intro j h; simp at h
  | cons x r ih =>
    intro j h i u x' hi he
    have hl := E.len x
    match j, h with
    | 0, _ =>
      rw [fv_cons, Nat.zero_mul, Nat.zero_add, List.set_append_left _ _ (by omega), List.set_cons_zero, fv_cons, he]
      rfl
    | j + 1, h =>
      have := ih j (by simpa using h) i u x' hi he
      rw [fv_cons, List.set_append_right _ _ (by rw [Nat.succ_mul]; omega), hl, show (j + 1) * E.sz + i - E.sz = j * E.sz + i by rw [Nat.succ_mul]; omega, this]
      rfl

/-- the element that lies at a place -/
def At (E : El α) (w : World) (b o : Nat) (x : α) : Prop := ∀ i u, (E.cells x)[i]? = some u → w.cell? ⟨b, o + i, none⟩ = some u
theorem At.on {B b o : Nat} {w w' : World} {x : α} (h : At E w b o x) (hb : Below B w w') (hB : b < B) : At E w' b o x :=
  fun i u hu => (hb.cell (p := ⟨b, o + i, none⟩) hB).trans (h i u hu)
theorem At.keep {b o : Nat} {w w' : World} {x : α} (h : At E w b o x) (hk : w'.heap[b]? = w.heap[b]?) : At E w' b o x :=
  fun i u hu => (World.cell?_of_block (w := w) hk).trans (h i u hu)

/-- a slice of elements that lie below block B -/
def Sees (E : El α) (B : Nat) (w : World) (v : Value) (xs : List α) : Prop :=
  ∃ a cap, v = .slice a xs.length cap ∧ xs.length ≤ cap ∧ cap ≤ maxLen ∧ (xs ≠ [] → ∃ b off, a = some ⟨b, off, none⟩ ∧ b < B ∧ ∀ j (h : j < xs.length), At E w b (off + j * E.sz) xs[j])
section
variable {B B' : Nat} {w w' : World} {v : Value} {xs : List α}
theorem Sees.on (h : Sees E B w v xs) (hb : Below B' w w') (hB : B ≤ B') : Sees E B w' v xs := by
  obtain ⟨a, cap, rfl, h1, h2, h3⟩ := h
  refine ⟨a, cap, rfl, h1, h2, fun hne => ?_⟩
  obtain ⟨b, off, rfl, hlt, hc⟩ := h3 hne
  exact ⟨b, off, rfl, hlt, fun j hj => (hc j hj).on hb (by omega)⟩
theorem Sees.up (h : Sees E B w v xs) (hB : B ≤ B') : Sees E B' w v xs := by
  obtain ⟨a, cap, rfl, h1, h2, h3⟩ := h
  refine ⟨a, cap, rfl, h1, h2, fun hne => ?_⟩
  obtain ⟨b, off, rfl, hlt, hc⟩ := h3 hne
  exact ⟨b, off, rfl, by omega, hc⟩
theorem Sees.form (h : Sees E B w v xs) : ∃ a cap, v = .slice a xs.length cap := by obtain ⟨a, cap, h, -⟩ := h; exact ⟨a, cap, h⟩
theorem Sees.room (h : Sees E B w v xs) : xs.length ≤ maxLen := by obtain ⟨a, cap, -, h1, h2, -⟩ := h; omega
theorem Sees.nil (E : El α) (B : Nat) (w : World) : Sees E B w (.slice none 0 0) [] := ⟨none, 0, rfl, Nat.le_refl _, by simp, fun h => absurd rfl h⟩
theorem Sees.drew (h : Sees E B w v xs) : Sees E B w.drew v xs := h
theorem Sees.grown (h : Sees E B w v xs) {row : Option Nat} (hg : w.grownBy w' row) (hB : B ≤ w.heap.size) (hr : ∀ k, row = some k → B ≤ k) : Sees E B w' v xs :=
  h.on (B' := B) ((Below.refl B w).grown hg hB hr) (Nat.le_refl _)
/-- what the walk reads: where the row lies, and its elements -/
theorem Sees.open {a : Option Addr} {n cap : Nat} (h : Sees E B w (.slice a n cap) xs) (hn : 0 < xs.length) : ∃ b off, a = some ⟨b, off, none⟩ ∧ b < B ∧ ∀ j (h : j < xs.length), At E w b (off + j * E.sz) xs[j] := by
  obtain ⟨a', cap', e, -, -, h3⟩ := h
  simp only [Value.slice.injEq] at e
  obtain ⟨rfl, -, -⟩ := e
  exact h3 (fun h => by simp [h] at hn)
end

/-- a slice of elements that lie in blocks of which S holds -/
def SeesIn (E : El α) (S : Nat → Prop) (w : World) (v : Value) (xs : List α) : Prop :=
  ∃ a cap, v = .slice a xs.length cap ∧ xs.length ≤ cap ∧ cap ≤ maxLen ∧ (xs ≠ [] → ∃ b off, a = some ⟨b, off, none⟩ ∧ S b ∧ ∀ j (h : j < xs.length), At E w b (off + j * E.sz) xs[j])
section
variable {S S' : Nat → Prop} {B : Nat} {w w' : World} {v : Value} {xs : List α}
theorem SeesIn.keep (h : SeesIn E S w v xs) (hk : ∀ b, S b → w'.heap[b]? = w.heap[b]?) : SeesIn E S w' v xs := by
  obtain ⟨a, cap, rfl, h1, h2, h3⟩ := h
  refine ⟨a, cap, rfl, h1, h2, fun hne => ?_⟩
  obtain ⟨b, off, rfl, hs, hc⟩ := h3 hne
  exact ⟨b, off, rfl, hs, fun j hj => (hc j hj).keep (hk b hs)⟩
theorem SeesIn.form (h : SeesIn E S w v xs) : ∃ a cap, v = .slice a xs.length cap := by obtain ⟨a, cap, h, -⟩ := h; exact ⟨a, cap, h⟩
theorem SeesIn.mono (h : SeesIn E S w v xs) (hs : ∀ b, S b → S' b) : SeesIn E S' w v xs := by
  obtain ⟨a, cap, rfl, h1, h2, h3⟩ := h
  refine ⟨a, cap, rfl, h1, h2, fun hne => ?_⟩
  obtain ⟨b, off, rfl, hb, hc⟩ := h3 hne
  exact ⟨b, off, rfl, hs b hb, hc⟩
theorem SeesIn.sees (h : SeesIn E S w v xs) (hs : ∀ b, S b → b < B) : Sees E B w v xs := h.mono hs
theorem Sees.within (h : Sees E B w v xs) : SeesIn E (fun b => b < B) w v xs := h
end

/-- elements that the call owns, from block B on -/
def Owns (E : El α) (e : TypeId) (B : Nat) (w : World) (v : Value) (xs : List α) : Prop := w.ownsRow B e E.sz v xs.length (fv E xs)
section
variable {e : TypeId} {B B' : Nat} {w w' : World} {v : Value} {xs : List α}
theorem Owns.sees (h : Owns E e B w v xs) : Sees E w.heap.size w v xs := by
  obtain ⟨h1, h2⟩ := h
  rcases h2 with ⟨rfl, h0⟩ | ⟨g, cap, cur, rfl, hB, hg, hle, hm, hsz, htk⟩
  · exact ⟨none, 0, by rw [h0], by omega, by simp, fun hne => absurd (List.eq_nil_of_length_eq_zero h0) hne⟩
  · refine ⟨_, cap, rfl, hle, hm, fun _ => ⟨g, 0, rfl, (Array.getElem?_eq_some_iff.1 hg).1, fun j hj i u hu => ?_⟩⟩
    have hi : i < E.sz := by have := (List.getElem?_eq_some_iff.1 hu).1; rw [E.len] at this; exact this
    have hb : j * E.sz + i < xs.length * E.sz := by
      have : (j + 1) * E.sz ≤ xs.length * E.sz := Nat.mul_le_mul_right _ hj
      rw [Nat.succ_mul] at this; omega
    have key : w.cell? ⟨g, j * E.sz + i, none⟩ = (fv E xs)[j * E.sz + i]? := by
      rw [← htk, List.getElem?_take, if_pos hb]
      simp [World.cell?, hg]
    rw [Nat.zero_add, key, fv_get xs j hj i hi, hu]
theorem Owns.within (h : Owns E e B w v xs) : SeesIn E (fun b => B ≤ b ∧ b < w.heap.size) w v xs := by
  have hs := h.sees
  obtain ⟨h1, h2⟩ := h
  obtain ⟨a, cap, rfl, k1, k2, k3⟩ := hs
  refine ⟨a, cap, rfl, k1, k2, fun hne => ?_⟩
  obtain ⟨b, off, rfl, hb, hc⟩ := k3 hne
  refine ⟨b, off, rfl, ⟨?_, hb⟩, hc⟩
  rcases h2 with ⟨h', _⟩ | ⟨g, cap', cur, h', hB, _⟩
  · cases h'
  · simp only [Value.slice.injEq, Option.some.injEq, Addr.mk.injEq] at h'; omega
theorem Owns.form (h : Owns E e B w v xs) : ∃ a cap, v = .slice a xs.length cap := h.sees.form
theorem Owns.on (h : Owns E e B w v xs) (hb : Below B' w w') (hB : w.heap.size ≤ B') : Owns E e B w' v xs := Bas.owns_on h hb hB
theorem Owns.mono (h : Owns E e B w v xs) (hB : B' ≤ B) : Owns E e B' w v xs := by
  obtain ⟨h1, h2⟩ := h
  refine ⟨h1, ?_⟩
  rcases h2 with h2 | ⟨g, cap, cur, hv, hg, hh, r⟩
  · exact .inl h2
  · exact .inr ⟨g, cap, cur, hv, by omega, hh, r⟩
theorem Owns.keep (h : Owns E e B w v xs) (hk : ∀ k, v.ownBlock = some k → w'.heap[k]? = w.heap[k]?) : Owns E e B w' v xs := by
  obtain ⟨h1, h2⟩ := h
  refine ⟨h1, ?_⟩
  rcases h2 with h2 | ⟨g, cap, cur, rfl, hg, hh, r⟩
  · exact .inl h2
  · exact .inr ⟨g, cap, cur, rfl, hg, by rw [hk g rfl]; exact hh, r⟩
theorem Owns.at (h : Owns E e B w v xs) : ∀ k, v.ownBlock = some k → B ≤ k ∧ k < w.heap.size := by
  intro k hk
  obtain ⟨h1, h2⟩ := h
  rcases h2 with ⟨rfl, h0⟩ | ⟨g, cap, cur, rfl, hg, hh, r⟩
  · cases hk
  · cases hk; exact ⟨hg, (Array.getElem?_eq_some_iff.1 hh).1⟩
theorem Owns.grown (h : Owns E e B w v xs) {row : Option Nat} (hg : w.grownBy w' row) (hr : ∀ k, v.ownBlock = some k → some k ≠ row) : Owns E e B w' v xs :=
  h.keep fun k hk => hg.block k (h.at k hk).2 (hr k hk)
theorem Owns.nil (E : El α) (e : TypeId) (B : Nat) (w : World) : Owns E e B w (.slice none 0 0) [] := ⟨by simp [fv], .inl ⟨rfl, rfl⟩⟩
theorem Owns.drew (h : Owns E e B w v xs) : Owns E e B w.drew v xs := h
theorem Owns.other (h : Owns E e B w v xs) {p i : Nat} (hp : ∀ k, v.ownBlock = some k → k ≠ p) (u : Value) : Owns E e B (w.setCell ⟨p, i, none⟩ u) v xs :=
  h.keep fun k hk => Below.heap_setCell _ _ _ _ (hp k hk)
end

theorem Owns.off {e : TypeId} {B p : Nat} {w : World} {v : Value} {xs : List α} {cs : Array Value} {t : TypeId} (h : Owns E e B w v xs) (hb : Bas.Blk w p cs t) (hne : e ≠ t) : ∀ k, v.ownBlock = some k → k ≠ p := by
  rintro k hk rfl
  obtain ⟨h1, h2⟩ := h
  rcases h2 with ⟨rfl, h0⟩ | ⟨g, cap, cur, rfl, hg, hh, r⟩
  · cases hk
  · cases hk
    unfold Bas.Blk at hb
    rw [hh] at hb
    simp only [Option.some.injEq, Obj.cells.injEq] at hb
    exact hne hb.2.1

/-! ### a row that is not empty, at its block -/
section
variable {e : TypeId} {B g n cap : Nat} {w : World} {xs : List α}
theorem own_low (h : w.ownsRow B e E.sz (.slice (some ⟨g, 0, none⟩) n cap) n (fv E xs)) : B ≤ g ∧ g < w.heap.size := by
  rcases h.2 with ⟨h', _⟩ | ⟨g', cap', cur, h', hb, hg, _⟩
  · cases h'
  · cases h'; exact ⟨hb, (Array.getElem?_eq_some_iff.1 hg).1⟩
theorem own_len (h : w.ownsRow B e E.sz (.slice (some ⟨g, 0, none⟩) n cap) n (fv E xs)) : xs.length = n := by
  have := h.1; rw [fv_length] at this; exact Nat.eq_of_mul_eq_mul_right E.pos this
theorem own_at (h : w.ownsRow B e E.sz (.slice (some ⟨g, 0, none⟩) n cap) n (fv E xs)) (j : Nat) (hj : j < xs.length) : At E w g (j * E.sz) xs[j] := by
  intro i u hu
  have hi : i < E.sz := by have := (List.getElem?_eq_some_iff.1 hu).1; rw [E.len] at this; exact this
  have hl := own_len h
  have hb : j * E.sz + i < n * E.sz := by
    have : (j + 1) * E.sz ≤ n * E.sz := Nat.mul_le_mul_right _ (by omega)
    rw [Nat.succ_mul] at this; omega
  rw [h.cellAt _ hb, fv_get xs j hj i hi, hu]
theorem own_set (h : w.ownsRow B e E.sz (.slice (some ⟨g, 0, none⟩) n cap) n (fv E xs)) (j : Nat) (hj : j < xs.length) (i : Nat) (hi : i < E.sz) (u : Value) (x' : α) (he : E.cells x' = (E.cells xs[j]).set i u) :
    (w.setCell ⟨g, j * E.sz + i, none⟩ u).ownsRow B e E.sz (.slice (some ⟨g, 0, none⟩) n cap) n (fv E (xs.set j x')) := by
  rw [← fv_set xs j hj i u x' hi he]; exact (h.stored _ _).1
end

/-! ### the row's type -/
/-- t is the type of slices of elements of type e, whose zero value reads as z and takes so many bytes -/
structure Row (P : Program) (E : El α) (t e : TypeId) (zv : Value) (z : α) (bytes : Nat) : Prop where
  und : P.underlying t = some (.slice e)
  info : (P.info? e).map (fun i => (i.zero, i.size, i.bytes)) = some (some zv, E.sz, bytes)
  zero : zv.cells.toList = E.cells z
  small : bytes ≤ 1024
section
variable {P : Program} {t e : TypeId} {zv : Value} {z : α} {bytes : Nat}
theorem Row.zsize (R : Row P E t e zv z bytes) : zv.cells.size = E.sz := by
  have := congrArg List.length R.zero; rw [E.len] at this; simpa using this
theorem made (R : Row P E t e zv z bytes) (n : Nat) : (madeCells zv.cells (n * E.sz)).toList = fv E (List.replicate n z) := by
  have hz := R.zsize
  apply List.ext_getElem?
  intro j
  by_cases hj : j < n * E.sz
  · have hq : j / E.sz < (List.replicate n z).length := by
      rw [List.length_replicate]; exact Nat.div_lt_of_lt_mul (by rw [Nat.mul_comm]; exact hj)
    have hm : j % E.sz < E.sz := Nat.mod_lt _ E.pos
    have e1 := fv_get (E := E) (List.replicate n z) (j / E.sz) hq (j % E.sz) hm
    rw [show j / E.sz * E.sz + j % E.sz = j by rw [Nat.mul_comm]; exact Nat.div_add_mod _ _] at e1
    rw [e1, List.getElem_replicate, ← R.zero]
    simp only [madeCells, hz, Array.toList_map, Array.toList_range, List.getElem?_map]
    rw [List.getElem?_range hj]
    have hm' : j % E.sz < zv.cells.size := by omega
    simp [hm']
  · rw [List.getElem?_eq_none (by simp [madeCells]; omega), List.getElem?_eq_none (by rw [fv_length]; simp; omega)]
theorem make (R : Row P E t e zv z bytes) (n : Nat) (h : n ≤ 4194304) (w : World) (B : Nat) (hB : B ≤ w.heap.size) : ∃ w1, Below B w w1 ∧ w.heap.size < w1.heap.size ∧
    (Instr.makeSlice t (.int .i64 (n : Int)) (.int .i64 (n : Int))).run P w = .ok (.slice (some ⟨w.heap.size, 0, none⟩) n n) w1 ∧
    w1.ownsRow w.heap.size e E.sz (.slice (some ⟨w.heap.size, 0, none⟩) n n) n (fv E (List.replicate n z)) := by
  obtain ⟨i, hi, hz, hs, hb⟩ := info_parts R.info
  have hsm := R.small
  have hmul : bytes * n ≤ 1024 * 4194304 := Nat.mul_le_mul hsm h
  obtain ⟨w1, h1, h2, h3⟩ := run_make_full (P := P) w w.heap.size t e i _ E.sz R.und hi hz hs .i64 .i64 n (by rw [hb]; omega) (by unfold maxLen; omega) (Nat.le_refl _)
  refine ⟨w1, (Below.refl _ _).grown h3 hB (fun k hk => by cases hk), ?_, h1, ?_⟩
  · obtain ⟨-, h4⟩ := h2
    rcases h4 with ⟨h4, -⟩ | ⟨g, cap, cur, h4, -, hg, -⟩
    · cases h4
    · cases h4; exact (Array.getElem?_eq_some_iff.1 hg).1
  · rw [← made R]; exact h2

/-- make([]T, 0, c) -/
theorem makeRoom (R : Row P E t e zv z bytes) (c : Nat) (h : c ≤ 4194304) (w : World) (B : Nat) (hB : B ≤ w.heap.size) : ∃ w1, Below B w w1 ∧ w.heap.size < w1.heap.size ∧
    (Instr.makeSlice t (.int .i64 0) (.int .i64 (c : Int))).run P w = .ok (.slice (some ⟨w.heap.size, 0, none⟩) 0 c) w1 ∧ Owns E e w.heap.size w1 (.slice (some ⟨w.heap.size, 0, none⟩) 0 c) [] := by
  obtain ⟨i, hi, hz, hs, hb⟩ := info_parts R.info
  have hsm := R.small
  have hmul : bytes * c ≤ 1024 * 4194304 := Nat.mul_le_mul hsm h
  obtain ⟨w1, h1, h2, h3⟩ := run_make_own (P := P) w w.heap.size t e i _ E.sz R.und hi hz hs .i64 .i64 c (by rw [hb]; omega) (by unfold maxLen; omega) (Nat.le_refl _)
  refine ⟨w1, (Below.refl _ _).grown h3 hB (fun k hk => by cases hk), ?_, h1, h2⟩
  obtain ⟨-, h4⟩ := h2
  rcases h4 with ⟨h4, -⟩ | ⟨g, cap, cur, h4, -, hg, -⟩
  · cases h4
  · cases h4; exact (Array.getElem?_eq_some_iff.1 hg).1

theorem news_of {w : World} {b off : Nat} {xs : List α} (hc : ∀ j (h : j < xs.length), At E w b (off + j * E.sz) xs[j]) : ∀ j u, (fv E xs)[j]? = some u → w.cell? ((⟨b, off, none⟩ : Addr).add j) = some u := by
  intro j u hu
  have hj : j < xs.length * E.sz := by rw [← fv_length]; exact (List.getElem?_eq_some_iff.1 hu).1
  have hq : j / E.sz < xs.length := Nat.div_lt_of_lt_mul (by rw [Nat.mul_comm]; exact hj)
  have hm : j % E.sz < E.sz := Nat.mod_lt _ E.pos
  have e0 : j / E.sz * E.sz + j % E.sz = j := by rw [Nat.mul_comm]; exact Nat.div_add_mod _ _
  have e1 := fv_get (E := E) xs (j / E.sz) hq (j % E.sz) hm
  rw [e0, hu] at e1
  have ha : (⟨b, off, none⟩ : Addr).add j = ⟨b, off + j, none⟩ := by unfold Addr.add; split <;> simp_all
  have := hc (j / E.sz) hq (j % E.sz) u e1.symm
  rw [Nat.add_assoc, e0] at this
  rw [ha]; exact this

/-- append(u, v...): u is the call's own, v is read -/
theorem app (R : Row P E t e zv z bytes) (u v : Value) (ty : TypeId) (xs ys : List α) (B b0 : Nat) (w : World) (hu : Owns E e b0 w u xs) (h0 : b0 ≤ w.heap.size) (hv : Sees E B w v ys) (hlen : xs.length + ys.length ≤ 4194304) :
    ∃ v' w', (Builtin.append_ #[t, t] ty #[u, v]).run P w = .ok v' w' ∧ Owns E e b0 w' v' (xs ++ ys) ∧ w.grownBy w' u.ownBlock ∧ (∀ k, v'.ownBlock = some k → u.ownBlock = some k ∨ w.heap.size ≤ k) := by
  obtain ⟨i, hi, hz, hs, hb⟩ := info_parts R.info
  obtain ⟨a, cap, rfl, h1, h2, h3⟩ := hv
  have hsm := R.small
  by_cases hne : ys = []
  · subst hne
    have hsrc : Src P i.size t (.slice a 0 cap) 0 [] w := by
      cases a
      · exact Src.ofNil w R.und cap
      · exact Src.ofSlice w R.und _ 0 cap [] (by simp) (fun j u h => by simp at h) (fun u h => by cases h)
    obtain ⟨b, c, rfl⟩ := hu.form
    have hlc : xs.length ≤ c := by
      rcases hu.2 with ⟨h', h0⟩ | ⟨g, c', cur, h', -, -, hle, -⟩
      · simp at h'; omega
      · simp at h'; omega
    refine ⟨_, w, run_append_nothing w _ _ ty _ i R.und hi b xs.length c hlc _ hsrc, by rw [List.append_nil]; exact hu, ⟨rfl, rfl, rfl, Nat.le_refl _, fun _ _ _ => rfl⟩, fun k hk => .inl hk⟩
  · obtain ⟨b, off, rfl, -, hc⟩ := h3 hne
    have hpos : 0 < ys.length := List.length_pos_iff.2 hne
    have hmul : (xs.length + ys.length) * bytes ≤ 4194304 * 1024 := Nat.mul_le_mul hlen hsm
    obtain ⟨g, c, w', hr, ho, hg, hloc, -⟩ := run_append_lies (P := P) w t ty b0 e i _ E.sz bytes R.und hi hz hs hb R.zsize E.pos u xs.length (fv E xs) hu ⟨b, off, none⟩ ys.length cap (fv E ys) (by rw [fv_length]) (news_of hc) (fv_one ys) hpos (by unfold maxLen; omega) (by omega) h0 w.heap.size rfl
    refine ⟨_, w', hr, ?_, hg, fun k hk => ?_⟩
    · unfold Owns; rw [List.length_append, fv_append]; exact ho
    · cases hk
      rcases hloc with h | h
      · exact .inl h
      · exact .inr (Nat.le_of_eq h.symm)
end

/-! ### a row filled from its beginning -/
section
variable (z : α) (xs : List α)
def pad (k : Nat) : List α := xs.take k ++ List.replicate (xs.length - k) z
theorem pad_zero : pad z xs 0 = List.replicate xs.length z := by simp [pad]
theorem pad_full : pad z xs xs.length = xs := by simp [pad]
theorem pad_length (k : Nat) (h : k ≤ xs.length) : (pad z xs k).length = xs.length := by simp [pad]; omega
theorem pad_at (k : Nat) (h : k < xs.length) (h' : k < (pad z xs k).length) : (pad z xs k)[k] = z := by
  have hl : (xs.take k).length = k := by simp; omega
  have e : (pad z xs k)[k]? = some z := by
    unfold pad
    rw [List.getElem?_append_right (by omega), hl, Nat.sub_self, List.getElem?_replicate, if_pos (by omega)]
  rw [List.getElem?_eq_getElem h'] at e
  exact Option.some.inj e
theorem pad_set (k : Nat) (h : k < xs.length) : (pad z xs k).set k xs[k] = pad z xs (k + 1) := by
  unfold pad
  have e : List.replicate (xs.length - k) z = z :: List.replicate (xs.length - (k + 1)) z := by
    rw [show xs.length - k = (xs.length - (k + 1)) + 1 by omega, List.replicate_succ]
  have hl : (xs.take k).length = k := by simp; omega
  rw [e, List.set_append_right _ _ (by omega), hl, Nat.sub_self, List.set_cons_zero, List.take_succ_eq_append_getElem h, List.append_assoc]
  rfl
end
end
end Flat
end Go.Proofs.YtppikpdphcfomaaDoor
