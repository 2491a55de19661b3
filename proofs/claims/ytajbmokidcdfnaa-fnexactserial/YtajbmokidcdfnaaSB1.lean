/- Several texts of one proof, in build order: Base, Flat, OpL, OpRow, ProgRow, OwnProg, OpMark, ProgMark. -/
import Derived.Test.YtajbmokidcdfnaaProg
import Derived.WalkKit
import Derived.WalkLawsBesides
import Derived.WalkSpells
import Derived.Laws.OwnMore
import Derived.Laws.StructEq
import Derived.Deep.OwnRows
import Derived.Deep.AppendLies
import Derived.Deep.RegionWith
import Derived.Outline
import Derived.OpenShut
import Derived.Deep.Slices
import Derived.Deep.Upon
/- What all texts use: rows that the call owns, blocks, worlds that have grown. -/
namespace Go.Proofs.Ytajbmokidcdfnaa
open Go.RowKit
namespace Bas

theorem grownBy_trans {w w1 w2 : World} {row : Option Nat} (h : w.grownBy w1 row) (k : w1.grownBy w2 row) : w.grownBy w2 row :=
  ⟨k.os.trans h.os, k.tape.trans h.tape, k.output.trans h.output, Nat.le_trans h.size k.size, fun i hi hn => (k.block i (Nat.lt_of_lt_of_le hi h.size) hn).trans (h.block i hi hn)⟩
theorem owns_on {B n e size : Nat} {w w' : World} {v : Value} {xs : List Value} (h : w.ownsRow B e size v n xs) {B' : Nat} (hb : Below B' w w') (hB : w.heap.size ≤ B') : w'.ownsRow B e size v n xs := by
  obtain ⟨h1, h2⟩ := h
  refine ⟨h1, ?_⟩
  rcases h2 with h2 | ⟨g, cap, cur, hv, hg, hh, r⟩
  · exact .inl h2
  · have := (Array.getElem?_eq_some_iff.1 hh).1
    exact .inr ⟨g, cap, cur, hv, hg, by rw [hb.block g (by omega)]; exact hh, r⟩

/-- a block of cells that may be written -/
def Blk (W : World) (p : Nat) (cs : Array Value) (t : TypeId) : Prop := W.heap[p]? = some (.cells cs t (0, 0))
section
variable {W W' : World} {p : Nat} {cs : Array Value} {t : TypeId}
theorem Blk.cell (h : Blk W p cs t) (i : Nat) : W.cell? ⟨p, i, none⟩ = cs[i]? := cell_of_row W p i _ _ _ h
theorem Blk.froz (h : Blk W p cs t) (i : Nat) : W.frozen? ⟨p, i, none⟩ = false := frozen_of_row W p i _ _ h
theorem Blk.lt (h : Blk W p cs t) : p < W.heap.size := (Array.getElem?_eq_some_iff.1 h).1
theorem Blk.on (h : Blk W p cs t) {B : Nat} (hb : Below B W W') (hB : p < B) : Blk W' p cs t := (hb.block p hB).trans h
theorem Blk.grown (h : Blk W p cs t) {row : Option Nat} (hg : W.grownBy W' row) (hr : some p ≠ row) : Blk W' p cs t := (hg.block p h.lt hr).trans h
theorem Blk.new (w : World) (cs : Array Value) (t : TypeId) : Blk (w.alloc (.cells cs t)) w.heap.size cs t := heap_alloc_new w _
theorem Blk.drew (h : Blk W p cs t) : Blk W.drew p cs t := h
end
theorem Blk.set {W : World} {p : Nat} {cs : Array Value} {t : TypeId} (h : Blk W p cs t) (i : Nat) (u : Value) : Blk (W.setCell ⟨p, i, none⟩ u) p (cs.setIfInBounds i u) t := by
  unfold Blk at *; simp [World.setCell, Array.getElem?_modify, h]
theorem Blk.other {W : World} {p q : Nat} {cs : Array Value} {t : TypeId} (h : Blk W p cs t) (hne : p ≠ q) (i : Nat) (u : Value) : Blk (W.setCell ⟨q, i, none⟩ u) p cs t := by
  unfold Blk at *
  rw [Below.heap_setCell _ _ _ _ hne]; exact h
theorem alloc_below (w : World) (o : Obj) : Below w.heap.size w (w.alloc o) := (Below.refl _ _).alloc (Nat.le_refl _) o

/-- an append whose answer is known, at its operation in a plain region: (at_builtin; refine wpList_app _ rfl _ _ T rfl _ _ _ _ rfl rfl hr ?_) -/
theorem wpList_app {P : Program} (w : World) {ops : Array Oper} {rest : List Oper} {o : Oper} {a : Act} {Q : Exit → Act → World → Prop} (hgd : o.guard = none) (s x : Operand) (t : TypeId)
    (ho : o.op = .call { callee := .builtin .append, args := #[s, x], argTypes := #[t, t] }) (u v v' : Value) (w' : World) (hs : a.eval s = u) (hx : a.eval x = v)
    (hr : (Builtin.append_ #[t, t] o.type #[u, v]).run P w = .ok v' w') (h : wpList P ops Q rest (a.put o.dst v') w') : wpList P ops Q (o :: rest) a w := by
  refine wpList_plain hgd fun K hK => ?_
  unfold Oper.wp execOp
  simp only [ho, resolve, invoke, builtin, Sem.run_bind, Sem.run_pure, Result.andThen_ok, List.map_toArray, List.map_cons, List.map_nil, hs, hx, hr]
  exact hK _ _ h
/-- .. as one step of a region that draws its order -/
theorem step_app {P : Program} {w : World} {ops : Array Oper} {o : Oper} {a : Act} {K : Act → World → Prop} {Q : Exit → Act → World → Prop} {E : Prop} (hgd : o.guard = none) (s x : Operand) (t : TypeId)
    (ho : o.op = .call { callee := .builtin .append, args := #[s, x], argTypes := #[t, t] }) (u v v' : Value) (w' : World) (hs : a.eval s = u) (hx : a.eval x = v)
    (hr : (Builtin.append_ #[t, t] o.type #[u, v]).run P w = .ok v' w') (h : K (a.put o.dst v') w') : if Region.wanted o (yielded ops a.tmps) = true then Oper.wp P o a w K Q else E := by
  have hw : Region.wanted o (yielded ops a.tmps) = true := by simp [Region.wanted, hgd]
  rw [if_pos hw]
  unfold Oper.wp execOp
  simp only [ho, resolve, invoke, builtin, Sem.run_bind, Sem.run_pure, Result.andThen_ok, List.map_toArray, List.map_cons, List.map_nil, hs, hx, hr]
  exact h
end Bas
end Go.Proofs.Ytajbmokidcdfnaa
/- Rows of elements that take so many cells each: what a slice of them reads as, and what the call owns of them. -/
set_option linter.unusedVariables false
namespace Go.Proofs.Ytajbmokidcdfnaa
open Go.RowKit
namespace Flat

/-- all old cells, all old marks read as before -/
theorem bcell {W w1 : World} (hb : Below W.heap.size W w1) : (∀ b o, b < W.heap.size → w1.cell? ⟨b, o, none⟩ = W.cell? ⟨b, o, none⟩) ∧ (∀ b o, b < W.heap.size → w1.frozen? ⟨b, o, none⟩ = W.frozen? ⟨b, o, none⟩) :=
  ⟨fun b o h => hb.cell (p := ⟨b, o, none⟩) h, fun b o h => hb.frozen (p := ⟨b, o, none⟩) h⟩

/-- how an element lies in memory -/
structure El (α : Type) where
  sz : Nat
  cells : α → List Value
  len : ∀ a, (cells a).length = sz
  one : ∀ a, ∀ v ∈ cells a, v.oneCell' = true
  pos : 0 < sz

section
variable {α : Type} {E : El α}

/-- the cells of a row -/
def fv (E : El α) (xs : List α) : List Value := xs.flatMap E.cells
theorem fv_nil : fv E [] = [] := rfl
theorem fv_cons (x : α) (r : List α) : fv E (x :: r) = E.cells x ++ fv E r := rfl
theorem fv_append (a b : List α) : fv E (a ++ b) = fv E a ++ fv E b := by simp [fv]
theorem fv_length (xs : List α) : (fv E xs).length = xs.length * E.sz := by
  induction xs with
  | nil => simp [fv]
  | cons x r ih => rw [fv_cons, List.length_append, ih, E.len, List.length_cons, Nat.succ_mul]; omega
theorem fv_one (xs : List α) : ∀ v ∈ fv E xs, v.oneCell' = true := by
  intro v hv
  obtain ⟨x, _, hx⟩ := List.mem_flatMap.1 hv
  exact E.one x v hx
theorem fv_get (xs : List α) : ∀ (j : Nat) (h : j < xs.length) (i : Nat), i < E.sz → (fv E xs)[j * E.sz + i]? = (E.cells xs[j])[i]? := by
  induction xs with
  | nil => intro j h; simp at h
  | cons x r ih =>
    intro j h i hi
    have hl := E.len x
    match j, h with
    | 0, _ => rw [fv_cons, Nat.zero_mul, Nat.zero_add, List.getElem?_append_left (by omega)]; rfl
    | j + 1, h =>
      have := ih j (by simpa using h) i hi
      rw [fv_cons, List.getElem?_append_right (by rw [Nat.succ_mul]; omega), hl, show (j + 1) * E.sz + i - E.sz = j * E.sz + i by rw [Nat.succ_mul]; omega, this]
      rfl
theorem fv_set (xs : List α) : ∀ (j : Nat) (h : j < xs.length) (i : Nat) (u : Value) (x' : α), i < E.sz → E.cells x' = (E.cells xs[j]).set i u → (fv E xs).set (j * E.sz + i) u = fv E (xs.set j x') := by
  induction xs with
  | nil => intro j h; simp at h
  | cons x r ih =>
    intro j h i u x' hi he
    have hl := E.len x
    match j, h with
    | 0, _ =>
      rw [fv_cons, Nat.zero_mul, Nat.zero_add, List.set_append_left _ _ (by omega), List.set_cons_zero, fv_cons, he]
      rfl
    | j + 1, h =>
      have := ih j (by simpa using h) i u x' hi he
      rw [fv_cons, List.set_append_right _ _ (by rw [Nat.succ_mul]; omega), hl, show (j + 1) * E.sz + i - E.sz = j * E.sz + i by rw [Nat.succ_mul]; omega, this]
      rfl

/-- the element that lies at a place -/
def At (E : El α) (w : World) (b o : Nat) (x : α) : Prop := ∀ i u, (E.cells x)[i]? = some u → w.cell? ⟨b, o + i, none⟩ = some u
theorem At.on {B b o : Nat} {w w' : World} {x : α} (h : At E w b o x) (hb : Below B w w') (hB : b < B) : At E w' b o x :=
  fun i u hu => (hb.cell (p := ⟨b, o + i, none⟩) hB).trans (h i u hu)
theorem At.keep {b o : Nat} {w w' : World} {x : α} (h : At E w b o x) (hk : w'.heap[b]? = w.heap[b]?) : At E w' b o x :=
  fun i u hu => (World.cell?_of_block (w := w) hk).trans (h i u hu)

/-- a slice of elements that lie below block B -/
def Sees (E : El α) (B : Nat) (w : World) (v : Value) (xs : List α) : Prop :=
  ∃ a cap, v = .slice a xs.length cap ∧ xs.length ≤ cap ∧ cap ≤ maxLen ∧ (xs ≠ [] → ∃ b off, a = some ⟨b, off, none⟩ ∧ b < B ∧ ∀ j (h : j < xs.length), At E w b (off + j * E.sz) xs[j])
section
variable {B B' : Nat} {w w' : World} {v : Value} {xs : List α}
theorem Sees.on (h : Sees E B w v xs) (hb : Below B' w w') (hB : B ≤ B') : Sees E B w' v xs := by
  obtain ⟨a, cap, rfl, h1, h2, h3⟩ := h
  refine ⟨a, cap, rfl, h1, h2, fun hne => ?_⟩
  obtain ⟨b, off, rfl, hlt, hc⟩ := h3 hne
  exact ⟨b, off, rfl, hlt, fun j hj => (hc j hj).on hb (by omega)⟩
theorem Sees.up (h : Sees E B w v xs) (hB : B ≤ B') : Sees E B' w v xs := by
  obtain ⟨a, cap, rfl, h1, h2, h3⟩ := h
  refine ⟨a, cap, rfl, h1, h2, fun hne => ?_⟩
  obtain ⟨b, off, rfl, hlt, hc⟩ := h3 hne
  exact ⟨b, off, rfl, by omega, hc⟩
theorem Sees.form (h : Sees E B w v xs) : ∃ a cap, v = .slice a xs.length cap := by obtain ⟨a, cap, h, -⟩ := h; exact ⟨a, cap, h⟩
theorem Sees.room (h : Sees E B w v xs) : xs.length ≤ maxLen := by obtain ⟨a, cap, -, h1, h2, -⟩ := h; omega
theorem Sees.nil (E : El α) (B : Nat) (w : World) : Sees E B w (.slice none 0 0) [] := ⟨none, 0, rfl, Nat.le_refl _, by simp, fun h => absurd rfl h⟩
theorem Sees.drew (h : Sees E B w v xs) : Sees E B w.drew v xs := h
theorem Sees.grown (h : Sees E B w v xs) {row : Option Nat} (hg : w.grownBy w' row) (hB : B ≤ w.heap.size) (hr : ∀ k, row = some k → B ≤ k) : Sees E B w' v xs :=
  h.on (B' := B) ((Below.refl B w).grown hg hB hr) (Nat.le_refl _)
/-- what the walk reads: where the row lies, and its elements -/
theorem Sees.open {a : Option Addr} {n cap : Nat} (h : Sees E B w (.slice a n cap) xs) (hn : 0 < xs.length) : ∃ b off, a = some ⟨b, off, none⟩ ∧ b < B ∧ ∀ j (h : j < xs.length), At E w b (off + j * E.sz) xs[j] := by
  obtain ⟨a', cap', e, -, -, h3⟩ := h
  simp only [Value.slice.injEq] at e
  obtain ⟨rfl, -, -⟩ := e
  exact h3 (fun h => by simp [h] at hn)
end

/-- a slice of elements that lie in blocks of which S holds -/
def SeesIn (E : El α) (S : Nat → Prop) (w : World) (v : Value) (xs : List α) : Prop :=
  ∃ a cap, v = .slice a xs.length cap ∧ xs.length ≤ cap ∧ cap ≤ maxLen ∧ (xs ≠ [] → ∃ b off, a = some ⟨b, off, none⟩ ∧ S b ∧ ∀ j (h : j < xs.length), At E w b (off + j * E.sz) xs[j])
section
variable {S S' : Nat → Prop} {B : Nat} {w w' : World} {v : Value} {xs : List α}
theorem SeesIn.keep (h : SeesIn E S w v xs) (hk : ∀ b, S b → w'.heap[b]? = w.heap[b]?) : SeesIn E S w' v xs := by
  obtain ⟨a, cap, rfl, h1, h2, h3⟩ := h
  refine ⟨a, cap, rfl, h1, h2, fun hne => ?_⟩
  obtain ⟨b, off, rfl, hs, hc⟩ := h3 hne
  exact ⟨b, off, rfl, hs, fun j hj => (hc j hj).keep (hk b hs)⟩
theorem SeesIn.form (h : SeesIn E S w v xs) : ∃ a cap, v = .slice a xs.length cap := by obtain ⟨a, cap, h, -⟩ := h; exact ⟨a, cap, h⟩
theorem SeesIn.mono (h : SeesIn E S w v xs) (hs : ∀ b, S b → S' b) : SeesIn E S' w v xs := by
  obtain ⟨a, cap, rfl, h1, h2, h3⟩ := h
  refine ⟨a, cap, rfl, h1, h2, fun hne => ?_⟩
  obtain ⟨b, off, rfl, hb, hc⟩ := h3 hne
  exact ⟨b, off, rfl, hs b hb, hc⟩
theorem SeesIn.sees (h : SeesIn E S w v xs) (hs : ∀ b, S b → b < B) : Sees E B w v xs := h.mono hs
theorem Sees.within (h : Sees E B w v xs) : SeesIn E (fun b => b < B) w v xs := h
end

/-- elements that the call owns, from block B on -/
def Owns (E : El α) (e : TypeId) (B : Nat) (w : World) (v : Value) (xs : List α) : Prop := w.ownsRow B e E.sz v xs.length (fv E xs)
section
variable {e : TypeId} {B B' : Nat} {w w' : World} {v : Value} {xs : List α}
theorem Owns.sees (h : Owns E e B w v xs) : Sees E w.heap.size w v xs := by
  obtain ⟨h1, h2⟩ := h
  rcases h2 with ⟨rfl, h0⟩ | ⟨g, cap, cur, rfl, hB, hg, hle, hm, hsz, htk⟩
  · exact ⟨none, 0, by rw [h0], by omega, by simp, fun hne => absurd (List.eq_nil_of_length_eq_zero h0) hne⟩
  · refine ⟨_, cap, rfl, hle, hm, fun _ => ⟨g, 0, rfl, (Array.getElem?_eq_some_iff.1 hg).1, fun j hj i u hu => ?_⟩⟩
    have hi : i < E.sz := by have := (List.getElem?_eq_some_iff.1 hu).1; rw [E.len] at this; exact this
    have hb : j * E.sz + i < xs.length * E.sz := by
      have : (j + 1) * E.sz ≤ xs.length * E.sz := Nat.mul_le_mul_right _ hj
      rw [Nat.succ_mul] at this; omega
    have key : w.cell? ⟨g, j * E.sz + i, none⟩ = (fv E xs)[j * E.sz + i]? := by
      rw [← htk, List.getElem?_take, if_pos hb]
      simp [World.cell?, hg]
    rw [Nat.zero_add, key, fv_get xs j hj i hi, hu]
theorem Owns.within (h : Owns E e B w v xs) : SeesIn E (fun b => B ≤ b ∧ b < w.heap.size) w v xs := by
  have hs := h.sees
  obtain ⟨h1, h2⟩ := h
  obtain ⟨a, cap, rfl, k1, k2, k3⟩ := hs
  refine ⟨a, cap, rfl, k1, k2, fun hne => ?_⟩
  obtain ⟨b, off, rfl, hb, hc⟩ := k3 hne
  refine ⟨b, off, rfl, ⟨?_, hb⟩, hc⟩
  rcases h2 with ⟨h', _⟩ | ⟨g, cap', cur, h', hB, _⟩
  · cases h'
  · simp only [Value.slice.injEq, Option.some.injEq, Addr.mk.injEq] at h'; omega
theorem Owns.form (h : Owns E e B w v xs) : ∃ a cap, v = .slice a xs.length cap := h.sees.form
theorem Owns.on (h : Owns E e B w v xs) (hb : Below B' w w') (hB : w.heap.size ≤ B') : Owns E e B w' v xs := Bas.owns_on h hb hB
theorem Owns.mono (h : Owns E e B w v xs) (hB : B' ≤ B) : Owns E e B' w v xs := by
  obtain ⟨h1, h2⟩ := h
  refine ⟨h1, ?_⟩
  rcases h2 with h2 | ⟨g, cap, cur, hv, hg, hh, r⟩
  · exact .inl h2
  · exact .inr ⟨g, cap, cur, hv, by omega, hh, r⟩
theorem Owns.keep (h : Owns E e B w v xs) (hk : ∀ k, v.ownBlock = some k → w'.heap[k]? = w.heap[k]?) : Owns E e B w' v xs := by
  obtain ⟨h1, h2⟩ := h
  refine ⟨h1, ?_⟩
  rcases h2 with h2 | ⟨g, cap, cur, rfl, hg, hh, r⟩
  · exact .inl h2
  · exact .inr ⟨g, cap, cur, rfl, hg, by rw [hk g rfl]; exact hh, r⟩
theorem Owns.at (h : Owns E e B w v xs) : ∀ k, v.ownBlock = some k → B ≤ k ∧ k < w.heap.size := by
  intro k hk
  obtain ⟨h1, h2⟩ := h
  rcases h2 with ⟨rfl, h0⟩ | ⟨g, cap, cur, rfl, hg, hh, r⟩
  · cases hk
  · cases hk; exact ⟨hg, (Array.getElem?_eq_some_iff.1 hh).1⟩
theorem Owns.grown (h : Owns E e B w v xs) {row : Option Nat} (hg : w.grownBy w' row) (hr : ∀ k, v.ownBlock = some k → some k ≠ row) : Owns E e B w' v xs :=
  h.keep fun k hk => hg.block k (h.at k hk).2 (hr k hk)
theorem Owns.nil (E : El α) (e : TypeId) (B : Nat) (w : World) : Owns E e B w (.slice none 0 0) [] := ⟨by simp [fv], .inl ⟨rfl, rfl⟩⟩
theorem Owns.drew (h : Owns E e B w v xs) : Owns E e B w.drew v xs := h
theorem Owns.other (h : Owns E e B w v xs) {p i : Nat} (hp : ∀ k, v.ownBlock = some k → k ≠ p) (u : Value) : Owns E e B (w.setCell ⟨p, i, none⟩ u) v xs :=
  h.keep fun k hk => Below.heap_setCell _ _ _ _ (hp k hk)
end

theorem Owns.off {e : TypeId} {B p : Nat} {w : World} {v : Value} {xs : List α} {cs : Array Value} {t : TypeId} (h : Owns E e B w v xs) (hb : Bas.Blk w p cs t) (hne : e ≠ t) : ∀ k, v.ownBlock = some k → k ≠ p := by
  rintro k hk rfl
  obtain ⟨h1, h2⟩ := h
  rcases h2 with ⟨rfl, h0⟩ | ⟨g, cap, cur, rfl, hg, hh, r⟩
  · cases hk
  · cases hk
    unfold Bas.Blk at hb
    rw [hh] at hb
    simp only [Option.some.injEq, Obj.cells.injEq] at hb
    exact hne hb.2.1

/-! ### a row that is not empty, at its block -/
section
variable {e : TypeId} {B g n cap : Nat} {w : World} {xs : List α}
theorem own_low (h : w.ownsRow B e E.sz (.slice (some ⟨g, 0, none⟩) n cap) n (fv E xs)) : B ≤ g ∧ g < w.heap.size := by
  rcases h.2 with ⟨h', _⟩ | ⟨g', cap', cur, h', hb, hg, _⟩
  · cases h'
  · cases h'; exact ⟨hb, (Array.getElem?_eq_some_iff.1 hg).1⟩
theorem own_len (h : w.ownsRow B e E.sz (.slice (some ⟨g, 0, none⟩) n cap) n (fv E xs)) : xs.length = n := by
  have := h.1; rw [fv_length] at this; exact Nat.eq_of_mul_eq_mul_right E.pos this
theorem own_at (h : w.ownsRow B e E.sz (.slice (some ⟨g, 0, none⟩) n cap) n (fv E xs)) (j : Nat) (hj : j < xs.length) : At E w g (j * E.sz) xs[j] := by
  intro i u hu
  have hi : i < E.sz := by have := (List.getElem?_eq_some_iff.1 hu).1; rw [E.len] at this; exact this
  have hl := own_len h
  have hb : j * E.sz + i < n * E.sz := by
    have : (j + 1) * E.sz ≤ n * E.sz := Nat.mul_le_mul_right _ (by omega)
    rw [Nat.succ_mul] at this; omega
  rw [h.cellAt _ hb, fv_get xs j hj i hi, hu]
theorem own_set (h : w.ownsRow B e E.sz (.slice (some ⟨g, 0, none⟩) n cap) n (fv E xs)) (j : Nat) (hj : j < xs.length) (i : Nat) (hi : i < E.sz) (u : Value) (x' : α) (he : E.cells x' = (E.cells xs[j]).set i u) :
    (w.setCell ⟨g, j * E.sz + i, none⟩ u).ownsRow B e E.sz (.slice (some ⟨g, 0, none⟩) n cap) n (fv E (xs.set j x')) := by
  rw [← fv_set xs j hj i u x' hi he]; exact (h.stored _ _).1
end

/-! ### the row's type -/
/-- t is the type of slices of elements of type e, whose zero value reads as z and takes so many bytes -/
structure Row (P : Program) (E : El α) (t e : TypeId) (zv : Value) (z : α) (bytes : Nat) : Prop where
  und : P.underlying t = some (.slice e)
  info : (P.info? e).map (fun i => (i.zero, i.size, i.bytes)) = some (some zv, E.sz, bytes)
  zero : zv.cells.toList = E.cells z
  small : bytes ≤ 1024
section
variable {P : Program} {t e : TypeId} {zv : Value} {z : α} {bytes : Nat}
theorem Row.zsize (R : Row P E t e zv z bytes) : zv.cells.size = E.sz := by
  have := congrArg List.length R.zero; rw [E.len] at this; simpa using this
theorem made (R : Row P E t e zv z bytes) (n : Nat) : (madeCells zv.cells (n * E.sz)).toList = fv E (List.replicate n z) := by
  have hz := R.zsize
  apply List.ext_getElem?
  intro j
  by_cases hj : j < n * E.sz
  · have hq : j / E.sz < (List.replicate n z).length := by
      rw [List.length_replicate]; exact Nat.div_lt_of_lt_mul (by rw [Nat.mul_comm]; exact hj)
    have hm : j % E.sz < E.sz := Nat.mod_lt _ E.pos
    have e1 := fv_get (E := E) (List.replicate n z) (j / E.sz) hq (j % E.sz) hm
    rw [show j / E.sz * E.sz + j % E.sz = j by rw [Nat.mul_comm]; exact Nat.div_add_mod _ _] at e1
    rw [e1, List.getElem_replicate, ← R.zero]
    simp only [madeCells, hz, Array.toList_map, Array.toList_range, List.getElem?_map]
    rw [List.getElem?_range hj]
    have hm' : j % E.sz < zv.cells.size := by omega
    simp [hm']
  · rw [List.getElem?_eq_none (by simp [madeCells]; omega), List.getElem?_eq_none (by rw [fv_length]; simp; omega)]
theorem make (R : Row P E t e zv z bytes) (n : Nat) (h : n ≤ 4194304) (w : World) (B : Nat) (hB : B ≤ w.heap.size) : ∃ w1, Below B w w1 ∧ w.heap.size < w1.heap.size ∧
    (Instr.makeSlice t (.int .i64 (n : Int)) (.int .i64 (n : Int))).run P w = .ok (.slice (some ⟨w.heap.size, 0, none⟩) n n) w1 ∧
    w1.ownsRow w.heap.size e E.sz (.slice (some ⟨w.heap.size, 0, none⟩) n n) n (fv E (List.replicate n z)) := by
  obtain ⟨i, hi, hz, hs, hb⟩ := info_parts R.info
  have hsm := R.small
  have hmul : bytes * n ≤ 1024 * 4194304 := Nat.mul_le_mul hsm h
  obtain ⟨w1, h1, h2, h3⟩ := run_make_full (P := P) w w.heap.size t e i _ E.sz R.und hi hz hs .i64 .i64 n (by rw [hb]; omega) (by unfold maxLen; omega) (Nat.le_refl _)
  refine ⟨w1, (Below.refl _ _).grown h3 hB (fun k hk => by cases hk), ?_, h1, ?_⟩
  · obtain ⟨-, h4⟩ := h2
    rcases h4 with ⟨h4, -⟩ | ⟨g, cap, cur, h4, -, hg, -⟩
    · cases h4
    · cases h4; exact (Array.getElem?_eq_some_iff.1 hg).1
  · rw [← made R]; exact h2

/-- make([]T, 0, c) -/
theorem makeRoom (R : Row P E t e zv z bytes) (c : Nat) (h : c ≤ 4194304) (w : World) (B : Nat) (hB : B ≤ w.heap.size) : ∃ w1, Below B w w1 ∧ w.heap.size < w1.heap.size ∧
    (Instr.makeSlice t (.int .i64 0) (.int .i64 (c : Int))).run P w = .ok (.slice (some ⟨w.heap.size, 0, none⟩) 0 c) w1 ∧ Owns E e w.heap.size w1 (.slice (some ⟨w.heap.size, 0, none⟩) 0 c) [] := by
  obtain ⟨i, hi, hz, hs, hb⟩ := info_parts R.info
  have hsm := R.small
  have hmul : bytes * c ≤ 1024 * 4194304 := Nat.mul_le_mul hsm h
  obtain ⟨w1, h1, h2, h3⟩ := run_make_own (P := P) w w.heap.size t e i _ E.sz R.und hi hz hs .i64 .i64 c (by rw [hb]; omega) (by unfold maxLen; omega) (Nat.le_refl _)
  refine ⟨w1, (Below.refl _ _).grown h3 hB (fun k hk => by cases hk), ?_, h1, h2⟩
  obtain ⟨-, h4⟩ := h2
  rcases h4 with ⟨h4, -⟩ | ⟨g, cap, cur, h4, -, hg, -⟩
  · cases h4
  · cases h4; exact (Array.getElem?_eq_some_iff.1 hg).1

theorem news_of {w : World} {b off : Nat} {xs : List α} (hc : ∀ j (h : j < xs.length), At E w b (off + j * E.sz) xs[j]) : ∀ j u, (fv E xs)[j]? = some u → w.cell? ((⟨b, off, none⟩ : Addr).add j) = some u := by
  intro j u hu
  have hj : j < xs.length * E.sz := by rw [← fv_length]; exact (List.getElem?_eq_some_iff.1 hu).1
  have hq : j / E.sz < xs.length := Nat.div_lt_of_lt_mul (by rw [Nat.mul_comm]; exact hj)
  have hm : j % E.sz < E.sz := Nat.mod_lt _ E.pos
  have e0 : j / E.sz * E.sz + j % E.sz = j := by rw [Nat.mul_comm]; exact Nat.div_add_mod _ _
  have e1 := fv_get (E := E) xs (j / E.sz) hq (j % E.sz) hm
  rw [e0, hu] at e1
  have ha : (⟨b, off, none⟩ : Addr).add j = ⟨b, off + j, none⟩ := by unfold Addr.add; split <;> simp_all
  have := hc (j / E.sz) hq (j % E.sz) u e1.symm
  rw [Nat.add_assoc, e0] at this
  rw [ha]; exact this

/-- append(u, v...): u is the call's own, v is read -/
theorem app (R : Row P E t e zv z bytes) (u v : Value) (ty : TypeId) (xs ys : List α) (B b0 : Nat) (w : World) (hu : Owns E e b0 w u xs) (h0 : b0 ≤ w.heap.size) (hv : Sees E B w v ys) (hlen : xs.length + ys.length ≤ 4194304) :
    ∃ v' w', (Builtin.append_ #[t, t] ty #[u, v]).run P w = .ok v' w' ∧ Owns E e b0 w' v' (xs ++ ys) ∧ w.grownBy w' u.ownBlock ∧ (∀ k, v'.ownBlock = some k → u.ownBlock = some k ∨ w.heap.size ≤ k) := by
  obtain ⟨i, hi, hz, hs, hb⟩ := info_parts R.info
  obtain ⟨a, cap, rfl, h1, h2, h3⟩ := hv
  have hsm := R.small
  by_cases hne : ys = []
  · subst hne
    have hsrc : Src P i.size t (.slice a 0 cap) 0 [] w := by
      cases a
      · exact Src.ofNil w R.und cap
      · exact Src.ofSlice w R.und _ 0 cap [] (by simp) (fun j u h => by simp at h) (fun u h => by cases h)
    obtain ⟨b, c, rfl⟩ := hu.form
    have hlc : xs.length ≤ c := by
      rcases hu.2 with ⟨h', h0⟩ | ⟨g, c', cur, h', -, -, hle, -⟩
      · simp at h'; omega
      · simp at h'; omega
    refine ⟨_, w, run_append_nothing w _ _ ty _ i R.und hi b xs.length c hlc _ hsrc, by rw [List.append_nil]; exact hu, ⟨rfl, rfl, rfl, Nat.le_refl _, fun _ _ _ => rfl⟩, fun k hk => .inl hk⟩
  · obtain ⟨b, off, rfl, -, hc⟩ := h3 hne
    have hpos : 0 < ys.length := List.length_pos_iff.2 hne
    have hmul : (xs.length + ys.length) * bytes ≤ 4194304 * 1024 := Nat.mul_le_mul hlen hsm
    obtain ⟨g, c, w', hr, ho, hg, hloc, -⟩ := run_append_lies (P := P) w t ty b0 e i _ E.sz bytes R.und hi hz hs hb R.zsize E.pos u xs.length (fv E xs) hu ⟨b, off, none⟩ ys.length cap (fv E ys) (by rw [fv_length]) (news_of hc) (fv_one ys) hpos (by unfold maxLen; omega) (by omega) h0 w.heap.size rfl
    refine ⟨_, w', hr, ?_, hg, fun k hk => ?_⟩
    · unfold Owns; rw [List.length_append, fv_append]; exact ho
    · cases hk
      rcases hloc with h | h
      · exact .inl h
      · exact .inr (Nat.le_of_eq h.symm)
end

/-! ### a row filled from its beginning -/
section
variable (z : α) (xs : List α)
def pad (k : Nat) : List α := xs.take k ++ List.replicate (xs.length - k) z
theorem pad_zero : pad z xs 0 = List.replicate xs.length z := by simp [pad]
theorem pad_full : pad z xs xs.length = xs := by simp [pad]
theorem pad_length (k : Nat) (h : k ≤ xs.length) : (pad z xs k).length = xs.length := by simp [pad]; omega
theorem pad_at (k : Nat) (h : k < xs.length) (h' : k < (pad z xs k).length) : (pad z xs k)[k] = z := by
  have hl : (xs.take k).length = k := by simp; omega
  have e : (pad z xs k)[k]? = some z := by
    unfold pad
    rw [List.getElem?_append_right (by omega), hl, Nat.sub_self, List.getElem?_replicate, if_pos (by omega)]
  rw [List.getElem?_eq_getElem h'] at e
  exact Option.some.inj e
theorem pad_set (k : Nat) (h : k < xs.length) : (pad z xs k).set k xs[k] = pad z xs (k + 1) := by
  unfold pad
  have e : List.replicate (xs.length - k) z = z :: List.replicate (xs.length - (k + 1)) z := by
    rw [show xs.length - k = (xs.length - (k + 1)) + 1 by omega, List.replicate_succ]
  have hl : (xs.take k).length = k := by simp; omega
  rw [e, List.set_append_right _ _ (by omega), hl, Nat.sub_self, List.set_cons_zero, List.take_succ_eq_append_getElem h, List.append_assoc]
  rfl
end
end
end Flat
end Go.Proofs.Ytajbmokidcdfnaa
/- Ops: when one is right; the specification's small tests. -/
namespace Go.Proofs.Ytajbmokidcdfnaa
open Go.RowKit
namespace Ops

/-- between two numbers -/
def inn (lo hi x : Int) : Bool := decide (lo ≤ x) && decide (x ≤ hi)
/-- which spans the three fields of an op have, by its kind -/
def spans (k : Int) : Option ((Int × Int) × (Int × Int) × (Int × Int)) :=
  if k = 1 then some ((0, 3), (0, 65535), (0, 0))
  else if k = 2 ∨ k = 3 ∨ k = 4 then some ((0, 3), (0, 3), (0, 3))
  else if k = 5 then some ((0, 3), (0, 7), (0, 0))
  else if k = 6 then some ((0, 7), (0, 3), (0, 0))
  else if k = 7 then some ((0, 3), (1, 20), (0, 0))
  else if k = 8 ∨ k = 15 ∨ k = 16 then some ((0, 3), (0, 0), (0, 0))
  else if k = 9 ∨ k = 10 ∨ k = 11 then some ((0, 0), (0, 0), (0, 0))
  else if k = 12 then some ((0, 7), (0, 3), (0, 3))
  else if k = 13 then some ((0, 3), (0, 7), (0, 0))
  else if k = 14 then some ((0, 7), (0, 3), (0, 0))
  else none
/-- an op is right -/
def opOk (k a b c : Int) : Bool :=
  match spans k with
  | none => false
  | some (p, q, r) => inn p.1 p.2 a && inn q.1 q.2 b && inn r.1 r.2 c

theorem kinds (k : Int) : k = 1 ∨ k = 2 ∨ k = 3 ∨ k = 4 ∨ k = 5 ∨ k = 6 ∨ k = 7 ∨ k = 8 ∨ k = 9 ∨ k = 10 ∨ k = 11 ∨ k = 12 ∨ k = 13 ∨ k = 14 ∨ k = 15 ∨ k = 16 ∨ (k < 1 ∨ 16 < k) := by omega
theorem spans_none {k : Int} (h : k < 1 ∨ 16 < k) : spans k = none := by
  unfold spans
  repeat rw [if_neg (by omega)]
theorem inn_zero (x : Int) : inn 0 0 x = (x == 0) := by
  unfold inn
  by_cases h : x = 0
  · subst h; rfl
  · by_cases h1 : 0 ≤ x <;> by_cases h2 : x ≤ 0 <;> simp [h, h1, h2] ; omega

set_option maxRecDepth 100000 in
theorem innC (x lo hi : Int) (w : World) : Calls Try.prog 50 #[.int .i64 x, .int .i64 lo, .int .i64 hi] w fun e w' => e = .returned (.bool (inn lo hi x)) ∧ w = w' := by
  unfold inn
  by_cases h1 : lo ≤ x
  · have h1' : decide (lo ≤ x) = true := decide_eq_true h1
    go_enter Try.func50, Try.ntmps50
    go_wp2
    go_ret
    simp [h1]
  · have h1' : decide (lo ≤ x) = false := decide_eq_false h1
    go_enter Try.func50, Try.ntmps50
    go_wp2
    go_ret
    simp

set_option maxRecDepth 100000 in
theorem regC (x : Int) (w : World) : Calls Try.prog 173 #[.int .i64 x] w fun e w' => e = .returned (.bool (inn 0 3 x)) ∧ w = w' := by
  go_enter Try.func173, Try.ntmps173
  go_wp2_with fail
  refine (innC x 0 3 w).mono ?_
  rintro e w1 ⟨rfl, rfl⟩
  go_wp2
  go_ret
  exact ⟨rfl, rfl⟩
set_option maxRecDepth 100000 in
theorem valC (x : Int) (w : World) : Calls Try.prog 90 #[.int .i64 x] w fun e w' => e = .returned (.bool (inn 0 65535 x)) ∧ w = w' := by
  go_enter Try.func90, Try.ntmps90
  go_wp2_with fail
  refine (innC x 0 65535 w).mono ?_
  rintro e w1 ⟨rfl, rfl⟩
  go_wp2
  go_ret
  exact ⟨rfl, rfl⟩
set_option maxRecDepth 100000 in
theorem cellC (x : Int) (w : World) : Calls Try.prog 103 #[.int .i64 x] w fun e w' => e = .returned (.bool (inn 0 7 x)) ∧ w = w' := by
  go_enter Try.func103, Try.ntmps103
  go_wp2_with fail
  refine (innC x 0 7 w).mono ?_
  rintro e w1 ⟨rfl, rfl⟩
  go_wp2
  go_ret
  exact ⟨rfl, rfl⟩

/-- an op as a value -/
def opV (k a b c : Int) : Value := .agg #[.int .i64 k, .int .i64 a, .int .i64 b, .int .i64 c]
end Ops
end Go.Proofs.Ytajbmokidcdfnaa
/- Rows of ops in memory: the laws' own copies, comparisons and sizes. -/
set_option linter.unusedVariables false
namespace Go.Proofs.Ytajbmokidcdfnaa
open Go.RowKit
namespace Ops
open Bas Flat

/-- an op's four numbers -/
structure O4 where
  k : Int
  a : Int
  b : Int
  c : Int
def O4.val (x : O4) : Value := opV x.k x.a x.b x.c
def opEl : El O4 where
  sz := 4
  cells x := [.int .i64 x.k, .int .i64 x.a, .int .i64 x.b, .int .i64 x.c]
  len _ := rfl
  one x v hv := by simp at hv; rcases hv with rfl | rfl | rfl | rfl <;> rfl
  pos := by decide
def z4 : O4 := ⟨0, 0, 0, 0⟩
theorem rowOp : Row Try.prog opEl 59 140 (.agg #[.int .i64 0, .int .i64 0, .int .i64 0, .int .i64 0]) z4 32 :=
  ⟨Try.underlying59, by kernel_rfl, rfl, by decide⟩
abbrev Sees4 (B : Nat) (w : World) (v : Value) (xs : List O4) : Prop := Sees opEl B w v xs
abbrev Owns4 (B : Nat) (w : World) (v : Value) (xs : List O4) : Prop := Owns opEl 140 B w v xs
theorem at4 {w : World} {b o : Nat} {x : O4} (h : At opEl w b o x) : w.cell? ⟨b, o, none⟩ = some (.int .i64 x.k) ∧ w.cell? ⟨b, o + 1, none⟩ = some (.int .i64 x.a) ∧ w.cell? ⟨b, o + 2, none⟩ = some (.int .i64 x.b) ∧ w.cell? ⟨b, o + 3, none⟩ = some (.int .i64 x.c) :=
  ⟨h 0 _ rfl, h 1 _ rfl, h 2 _ rfl, h 3 _ rfl⟩
/-- the world behind an op's store -/
def set4 (w : World) (g j : Nat) (x : O4) : World := (((w.setCell ⟨g, j * 4, none⟩ (.int .i64 x.k)).setCell ⟨g, j * 4 + 1, none⟩ (.int .i64 x.a)).setCell ⟨g, j * 4 + 2, none⟩ (.int .i64 x.b)).setCell ⟨g, j * 4 + 3, none⟩ (.int .i64 x.c)
theorem below_set4 {B g : Nat} {a w : World} (h : Below B a w) (hg : B ≤ g) (j : Nat) (x : O4) : Below B a (set4 w g j x) := (((h.setCell hg _).setCell hg _).setCell hg _).setCell hg _
theorem own_set4 {B g n cap : Nat} {w : World} {xs : List O4} (h : w.ownsRow B 140 4 (.slice (some ⟨g, 0, none⟩) n cap) n (fv opEl xs)) (j : Nat) (hj : j < xs.length) (x : O4) :
    (set4 w g j x).ownsRow B 140 4 (.slice (some ⟨g, 0, none⟩) n cap) n (fv opEl (xs.set j x)) := by
  obtain ⟨y, hy⟩ : ∃ y, xs[j] = y := ⟨_, rfl⟩
  have h0 := own_set (E := opEl) h j hj 0 (by decide) (.int .i64 x.k) ⟨x.k, y.a, y.b, y.c⟩ (by rw [hy]; rfl)
  have h1 := own_set (E := opEl) h0 j (by simp; exact hj) 1 (by decide) (.int .i64 x.a) ⟨x.k, x.a, y.b, y.c⟩ (by simp; rfl)
  have h2 := own_set (E := opEl) h1 j (by simp; exact hj) 2 (by decide) (.int .i64 x.b) ⟨x.k, x.a, x.b, y.c⟩ (by simp; rfl)
  have h3 := own_set (E := opEl) h2 j (by simp; exact hj) 3 (by decide) (.int .i64 x.c) x (by simp; rfl)
  simp only [List.set_set] at h3
  exact h3

set_option maxRecDepth 100000 in
set_option maxHeartbeats 800000 in
theorem toOpE (x : O4) (w : World) : Calls Try.prog 126 #[x.val] w fun e w' => e = .returned x.val ∧ Below w.heap.size w w' := by
  obtain ⟨k, a, b, c⟩ := x
  show Calls _ _ #[.agg #[.int .i64 k, .int .i64 a, .int .i64 b, .int .i64 c]] _ (fun e w' => e = .returned (.agg #[.int .i64 k, .int .i64 a, .int .i64 b, .int .i64 c]) ∧ _)
  go_enter Try.func126, Try.ntmps126
  go_wp2
  refine bodyPost_ret (v := .agg #[.int .i64 k, .int .i64 a, .int .i64 b, .int .i64 c]) (by simp [results, Try.results126, go_sem]) rfl ⟨rfl, ?_⟩
  exact (((Below.refl _ _).alloc (Nat.le_refl _) _).alloc (by simp) _).alloc (by simp; omega) _

set_option maxRecDepth 100000 in
set_option maxHeartbeats 1600000 in
theorem toOpsC (v : Value) (xs : List O4) (B : Nat) (w : World) (hv : Sees4 B w v xs) (hB : B ≤ w.heap.size) (hlen : xs.length ≤ 1048576) :
    Calls Try.prog 96 #[v] w fun e w' => ∃ v', e = .returned v' ∧ Owns4 w.heap.size w' v' xs ∧ Below w.heap.size w w' := by
  obtain ⟨a, cap, rfl, h1, h2, h3⟩ := hv
  obtain ⟨n, hn⟩ : ∃ n, xs.length = n := ⟨_, rfl⟩
  rw [hn] at h1 hlen ⊢
  obtain ⟨w1, hB1, hs1, hmk, hO⟩ := make rowOp n (by omega) w w.heap.size (Nat.le_refl _)
  obtain ⟨g, hg⟩ : ∃ g, w.heap.size = g := ⟨_, rfl⟩
  rw [hg] at hmk hO hB1 hs1 hB ⊢
  go_enter Try.func96, Try.ntmps96
  go_wp2
  go_loopw [4] (fun i wr => ∃ k : Nat, k ≤ n ∧ i = .int .i64 k ∧ wr.ownsRow g 140 4 (.slice (some ⟨g, 0, none⟩) n n) n (fv opEl (pad z4 xs k)) ∧ Below g w wr) (fun i _ => n - (intOf i).toNat)
  case atStart => exact ⟨0, Nat.zero_le _, rfl, by rw [pad_zero, hn]; exact hO, hB1⟩
  case round =>
    obtain ⟨k, hk, rfl, hR, hb⟩ := hrel
    clear hmk hO hB1 hs1
    by_cases hlt : k < n
    · obtain ⟨b, off, rfl, hbB, hc⟩ := h3 (fun h => by simp [h] at hn; omega)
      obtain ⟨a0, a1, a2, a3⟩ := at4 ((hc k (by omega)).on hb (by omega))
      obtain ⟨hgg, hgs⟩ := own_low (E := opEl) hR
      have HP : Hid ((pad z4 xs k).set k xs[k] = pad z4 xs (k + 1)) := pad_set z4 xs k (by omega)
      have hpl : (pad z4 xs k).length = n := by rw [pad_length z4 xs k (by omega)]; exact hn
      obtain ⟨x, hx⟩ : ∃ x, xs[k] = x := ⟨_, rfl⟩
      rw [hx] at a0 a1 a2 a3 HP
      change wr.cell? ⟨b, off + k * 4, none⟩ = _ at a0
      change wr.cell? ⟨b, off + k * 4 + 1, none⟩ = _ at a1
      change wr.cell? ⟨b, off + k * 4 + 2, none⟩ = _ at a2
      change wr.cell? ⟨b, off + k * 4 + 3, none⟩ = _ at a3
      have cT := toOpE x
      have eV : x.val = .agg #[.int .i64 x.k, .int .i64 x.a, .int .i64 x.b, .int .i64 x.c] := rfl
      rw [eV] at cT
      have HT := (show Hid _ from cT)
      clear hx hc h3 hgg cT eV
      go_wp2_with (go_at_call 126; refine (HT.out _).mono ?_; rintro e w2 ⟨rfl, hb2⟩; have hR2 := owns_on hR hb2 (Nat.le_refl _); obtain ⟨c0, c1, c2, c3⟩ := at4 (own_at (E := opEl) hR2 k (by omega)); change w2.cell? ⟨g, k * 4, none⟩ = _ at c0; change w2.cell? ⟨g, k * 4 + 1, none⟩ = _ at c1; change w2.cell? ⟨g, k * 4 + 2, none⟩ = _ at c2; change w2.cell? ⟨g, k * 4 + 3, none⟩ = _ at c3; have hfz := fun j => hR2.frozenAt j)
      have hR3 := own_set4 hR2 k (by omega) x
      rw [HP.out] at hR3
      unfold set4 at hR3
      go_roundw
      case rel => exact ⟨k + 1, by omega, by go_num, hR3, ((((hb.trans (hb2.mono (by omega))).setCell (Nat.le_refl _) _).setCell (Nat.le_refl _) _).setCell (Nat.le_refl _) _).setCell (Nat.le_refl _) _⟩
      case measure => simp [intOf]; omega
    · obtain rfl : k = n := by omega
      go_wp2
      go_ret
      rw [← hn, pad_full] at hR
      exact ⟨_, rfl, hn ▸ hR, hb⟩

set_option maxRecDepth 100000 in
set_option maxHeartbeats 400000 in
theorem eqOpE (x : O4) (w : World) : Calls Try.prog 128 #[x.val, x.val] w fun e w' => e = .returned (.bool true) ∧ Below w.heap.size w w' := by
  obtain ⟨k, a, b, c⟩ := x
  show Calls _ _ #[.agg #[.int .i64 k, .int .i64 a, .int .i64 b, .int .i64 c], .agg #[.int .i64 k, .int .i64 a, .int .i64 b, .int .i64 c]] _ _
  go_enter Try.func128, Try.ntmps128
  go_wp2
  go_ret
  exact ⟨rfl, ((Below.refl _ _).alloc (Nat.le_refl _) _).alloc (by simp) _⟩

set_option maxRecDepth 100000 in
set_option maxHeartbeats 1600000 in
theorem eqOpsC (v v' : Value) (xs : List O4) (B : Nat) (w : World) (hv : Sees4 B w v xs) (hv' : Sees4 B w v' xs) (hB : B ≤ w.heap.size) :
    Calls Try.prog 98 #[v, v'] w fun e w' => e = .returned (.bool true) ∧ Below w.heap.size w w' := by
  obtain ⟨a, cap, rfl, h1, h2, h3⟩ := hv
  obtain ⟨a', cap', rfl, h1', h2', h3'⟩ := hv'
  obtain ⟨n, hn⟩ : ∃ n, xs.length = n := ⟨_, rfl⟩
  have hm : (n : Int) ≤ 9223372036854775807 := by unfold maxLen at h2; omega
  rw [hn]
  obtain ⟨g, hg⟩ : ∃ g, w.heap.size = g := ⟨_, rfl⟩
  rw [hg] at hB ⊢
  clear h1 h2 h1' h2'
  go_enter Try.func98, Try.ntmps98
  go_wp2
  go_loopw [5] (fun i wr => ∃ k : Nat, k ≤ n ∧ i = .int .i64 k ∧ Below g w wr) (fun i _ => n - (intOf i).toNat)
  case atStart => exact ⟨0, Nat.zero_le _, rfl, Below.refl _ _⟩
  case round =>
    obtain ⟨k, hk, rfl, hb⟩ := hrel
    by_cases hlt : k < n
    · obtain ⟨b, off, rfl, hbB, hc⟩ := h3 (fun h => by simp [h] at hn; omega)
      obtain ⟨b', off', rfl, hbB', hc'⟩ := h3' (fun h => by simp [h] at hn; omega)
      obtain ⟨a0, a1, a2, a3⟩ := at4 ((hc k (by omega)).on hb (by omega))
      obtain ⟨d0, d1, d2, d3⟩ := at4 ((hc' k (by omega)).on hb (by omega))
      obtain ⟨x, hx⟩ : ∃ x, xs[k] = x := ⟨_, rfl⟩
      rw [hx] at a0 a1 a2 a3 d0 d1 d2 d3
      change wr.cell? ⟨b, off + k * 4, none⟩ = _ at a0
      change wr.cell? ⟨b, off + k * 4 + 1, none⟩ = _ at a1
      change wr.cell? ⟨b, off + k * 4 + 2, none⟩ = _ at a2
      change wr.cell? ⟨b, off + k * 4 + 3, none⟩ = _ at a3
      change wr.cell? ⟨b', off' + k * 4, none⟩ = _ at d0
      change wr.cell? ⟨b', off' + k * 4 + 1, none⟩ = _ at d1
      change wr.cell? ⟨b', off' + k * 4 + 2, none⟩ = _ at d2
      change wr.cell? ⟨b', off' + k * 4 + 3, none⟩ = _ at d3
      have cT := eqOpE x
      have eV : x.val = .agg #[.int .i64 x.k, .int .i64 x.a, .int .i64 x.b, .int .i64 x.c] := rfl
      rw [eV] at cT
      have HT := (show Hid _ from cT)
      clear hx hc h3 hc' h3' cT eV
      go_wp2_with fail
      go_region_with (go_at_call 128; refine (HT.out _).mono ?_; rintro e w2 ⟨rfl, hb2⟩)
      all_goals
        go_wp2
        go_roundw
        case rel =>
          have hle : g ≤ wr.heap.size := by have := hb.size; omega
          refine ⟨k + 1, by omega, by go_num, ?_⟩
          first | exact hb.trans (hb2.mono hle) | exact hb.drew.trans (hb2.mono hle) | exact hb.drew.drew.trans (hb2.mono hle)
        case measure => simp [intOf]; omega
    · obtain rfl : k = n := by omega
      go_wp2
      go_ret
      exact ⟨rfl, hb⟩

set_option maxRecDepth 100000 in
theorem szOpsC (a : Option Addr) (n cap : Nat) (left : Int) (w : World) (h0 : 0 ≤ left) (h1 : left ≤ 1048576) (hm : n ≤ maxLen) :
    Calls Try.prog 91 #[.slice a n cap, .int .i64 left] w fun e w' => e = .returned (.int .i64 (if (n : Int) ≤ left then left - n else -1)) ∧ w = w' := by
  have hm' : (n : Int) ≤ 9223372036854775807 := by unfold maxLen at hm; omega
  clear hm
  by_cases h : (n : Int) ≤ left
  · rw [if_pos h]
    go_enter Try.func91, Try.ntmps91
    go_wp2
    go_ret
    exact ⟨rfl, rfl⟩
  · rw [if_neg h]
    have h' : left < (n : Int) := by omega
    go_enter Try.func91, Try.ntmps91
    go_wp2
    go_ret
    exact ⟨rfl, rfl⟩
end Ops
end Go.Proofs.Ytajbmokidcdfnaa
/- Programs in memory: the laws' own copies, comparisons and sizes. -/
set_option linter.unusedVariables false
namespace Go.Proofs.Ytajbmokidcdfnaa
open Go.RowKit
namespace Ops
open Bas Flat

/-- a slice as a cell -/
structure S3 where
  a : Option Addr
  n : Nat
  cap : Nat
def S3.val (s : S3) : Value := .slice s.a s.n s.cap
def slEl : El S3 where
  sz := 1
  cells s := [.slice s.a s.n s.cap]
  len _ := rfl
  one s v hv := by simp at hv; rw [hv]; rfl
  pos := by decide
def z3 : S3 := ⟨none, 0, 0⟩
theorem rowKid : Row Try.prog slEl 60 142 (.agg #[.slice none 0 0]) z3 24 := ⟨Try.underlying60, by kernel_rfl, rfl, by decide⟩
theorem at1 {w : World} {b o : Nat} {s : S3} (h : At slEl w b o s) : w.cell? ⟨b, o, none⟩ = some (.slice s.a s.n s.cap) := h 0 _ rfl

/-- kids, each with its code, in blocks of which S holds -/
def SeesKIn (S : Nat → Prop) (w : World) (v : Value) (kss : List (List O4)) : Prop :=
  ∃ ss : List S3, SeesIn slEl S w v ss ∧ ss.length = kss.length ∧ ∀ j (h : j < ss.length) (h' : j < kss.length), SeesIn opEl S w ss[j].val kss[j]
/-- .. below block B -/
def SeesK (B : Nat) (w : World) (v : Value) (kss : List (List O4)) : Prop := SeesKIn (fun b => b < B) w v kss
section
variable {B B' : Nat} {S S' : Nat → Prop} {w w' : World} {v : Value} {kss : List (List O4)}
theorem SeesKIn.keep (h : SeesKIn S w v kss) (hk : ∀ b, S b → w'.heap[b]? = w.heap[b]?) : SeesKIn S w' v kss := by
  obtain ⟨ss, h1, h2, h3⟩ := h
  exact ⟨ss, h1.keep hk, h2, fun j hj hj' => (h3 j hj hj').keep hk⟩
theorem SeesKIn.mono (h : SeesKIn S w v kss) (hs : ∀ b, S b → S' b) : SeesKIn S' w v kss := by
  obtain ⟨ss, h1, h2, h3⟩ := h
  exact ⟨ss, h1.mono hs, h2, fun j hj hj' => (h3 j hj hj').mono hs⟩
theorem SeesKIn.form (h : SeesKIn S w v kss) : ∃ a cap, v = .slice a kss.length cap := by
  obtain ⟨ss, ⟨a, cap, e, -⟩, h2, -⟩ := h
  exact ⟨a, cap, by rw [← h2]; exact e⟩
theorem SeesK.on (h : SeesK B w v kss) (hb : Below B' w w') (hB : B ≤ B') : SeesK B w' v kss := SeesKIn.keep h (fun b hs => hb.block b (by omega))
theorem SeesK.up (h : SeesK B w v kss) (hB : B ≤ B') : SeesK B' w v kss := SeesKIn.mono h (fun b hs => by omega)
theorem SeesK.form (h : SeesK B w v kss) : ∃ a cap, v = .slice a kss.length cap := SeesKIn.form h
theorem SeesK.room (h : SeesK B w v kss) : kss.length ≤ maxLen := by obtain ⟨ss, ⟨a, cap, -, k1, k2, -⟩, h2, -⟩ := h; omega
/-- where the kids lie, and each one's code -/
theorem SeesK.open {a : Option Addr} {n cap : Nat} (h : SeesK B w (.slice a n cap) kss) (hn : 0 < kss.length) :
    ∃ b off, a = some ⟨b, off, none⟩ ∧ b < B ∧ ∀ j (h : j < kss.length), ∃ s : S3, w.cell? ⟨b, off + j, none⟩ = some (.slice s.a s.n s.cap) ∧ Sees4 B w (.slice s.a s.n s.cap) kss[j] := by
  obtain ⟨ss, h1, h2, h3⟩ := h
  obtain ⟨b, off, rfl, hb, hc⟩ := Sees.open (E := slEl) (B := B) h1 (by omega)
  refine ⟨b, off, rfl, hb, fun j hj => ⟨ss[j], ?_, h3 j (by omega) hj⟩⟩
  have := at1 (hc j (by omega))
  change w.cell? ⟨b, off + j * 1, none⟩ = _ at this
  rw [Nat.mul_one] at this; exact this
end

set_option maxRecDepth 100000 in
set_option maxHeartbeats 800000 in
theorem toKidC (v : Value) (xs : List O4) (B : Nat) (w : World) (hv : Sees4 B w v xs) (hB : B ≤ w.heap.size) (hlen : xs.length ≤ 1048576) :
    Calls Try.prog 127 #[.agg #[v]] w fun e w' => ∃ v', e = .returned (.agg #[v']) ∧ Owns4 w.heap.size w' v' xs ∧ Below w.heap.size w w' := by
  obtain ⟨a, cap, rfl⟩ := hv.form
  obtain ⟨n, hn⟩ : ∃ n, xs.length = n := ⟨_, rfl⟩
  rw [hn] at hv ⊢
  have b0 := ((alloc_below w (.cells #[.slice a n cap] 150)).alloc (by simp) (.cells #[.slice none 0 0] 142)).alloc (by simp; omega) (.cells #[.slice none 0 0] 142)
  have hv0 := hv.on b0 hB
  go_enter Try.func127, Try.ntmps127
  go_wp2_with fail
  refine (toOpsC _ xs B _ hv0 (by simp; omega) (by omega)).mono ?_
  rintro e w1 ⟨v', rfl, hO, hb⟩
  obtain ⟨a', cap', rfl⟩ := hO.form
  rw [hn] at hO ⊢
  obtain ⟨hc, hf⟩ := bcell hb
  have hz : w.heap.size + 3 ≤ w1.heap.size := by have := hb.size; simp at this; omega
  have hlow := hO.at
  go_wp2_with fail
  refine bodyPost_ret (v := .agg #[.slice a' n cap']) (by simp [results, Try.results127, go_sem, hc]) rfl ⟨_, rfl, ?_, ?_⟩
  · exact ((hO.other (fun k hk => by have := hlow k hk; simp at this; omega) _).other (fun k hk => by have := hlow k hk; simp at this; omega) _).mono (by simp; omega)
  · exact ((b0.trans (hb.mono (by simp; omega))).setCell (by simp; omega) _).setCell (by simp) _

/-- the kids copied so far -/
structure KRow (g : Nat) (wr : World) (n : Nat) (kss : List (List O4)) (k : Nat) : Prop where
  ex : ∃ ss : List S3, ss.length = k ∧ wr.ownsRow g 142 1 (.slice (some ⟨g, 0, none⟩) n n) n (fv slEl (ss ++ List.replicate (n - k) z3)) ∧ ∀ j (h : j < ss.length) (h' : j < kss.length), Owns4 (g + 1) wr ss[j].val kss[j]

theorem KRow.done {g : Nat} {wr : World} {n : Nat} {kss : List (List O4)} (h : KRow g wr n kss n) (hn : kss.length = n) : SeesKIn (fun b => g ≤ b ∧ b < wr.heap.size) wr (.slice (some ⟨g, 0, none⟩) n n) kss := by
  obtain ⟨ss, h1, h2, h3⟩ := h.ex
  rw [Nat.sub_self, List.replicate_zero, List.append_nil] at h2
  have h2' : Owns slEl 142 g wr (.slice (some ⟨g, 0, none⟩) n n) ss := by unfold Owns; rw [h1]; exact h2
  exact ⟨ss, h2'.within, by omega, fun j hj hj' => (h3 j hj hj').within.mono (fun b hb => ⟨by omega, hb.2⟩)⟩
theorem KRow.on {g : Nat} {wr w' : World} {n k : Nat} {kss : List (List O4)} (h : KRow g wr n kss k) (hb : Below wr.heap.size wr w') : KRow g w' n kss k := by
  obtain ⟨ss, h1, h2, h3⟩ := h.ex
  exact ⟨ss, h1, owns_on h2 hb (Nat.le_refl _), fun j hj hj' => (h3 j hj hj').on hb (Nat.le_refl _)⟩
theorem KRow.put {g : Nat} {wr : World} {n k : Nat} {kss : List (List O4)} (h : KRow g wr n kss k) (hk : k < n) (hn : kss.length = n) (s : S3) (hs : Owns4 (g + 1) wr (.slice s.a s.n s.cap) (kss[k]'(by omega))) :
    KRow g (wr.setCell ⟨g, k, none⟩ (.slice s.a s.n s.cap)) n kss (k + 1) := by
  obtain ⟨ss, h1, h2, h3⟩ := h.ex
  have hl : (ss ++ List.replicate (n - k) z3).length = n := by simp; omega
  have h2' := own_set (E := slEl) h2 k (by omega) 0 (by decide) (.slice s.a s.n s.cap) s (by
    have : ∀ y : S3, (slEl.cells y).set 0 (.slice s.a s.n s.cap) = slEl.cells s := fun y => rfl
    exact (this _).symm)
  have e1 : (ss ++ List.replicate (n - k) z3).set k s = (ss ++ [s]) ++ List.replicate (n - (k + 1)) z3 := by
    rw [show n - k = (n - (k + 1)) + 1 by omega, List.replicate_succ, List.set_append_right _ _ (by omega), h1, Nat.sub_self, List.set_cons_zero, List.append_assoc]
    rfl
  rw [e1] at h2'
  change (wr.setCell ⟨g, k * 1 + 0, none⟩ _).ownsRow _ _ _ _ _ _ at h2'
  rw [Nat.mul_one, Nat.add_zero] at h2'
  refine ⟨ss ++ [s], by simp [h1], h2', fun j hj hj' => ?_⟩
  by_cases hjk : j < ss.length
  · have e2 : (ss ++ [s])[j] = ss[j] := List.getElem_append_left hjk
    rw [e2]
    have := h3 j hjk hj'
    exact this.other (fun k hk => by have := this.at k hk; omega) _
  · have hjk' : j = k := by simp at hj; omega
    subst hjk'
    have e2 : (ss ++ [s])[j] = s := by rw [List.getElem_append_right (by omega)]; simp [h1]
    rw [e2]
    exact hs.other (fun k hk => by have := hs.at k hk; omega) _

set_option maxRecDepth 100000 in
set_option maxHeartbeats 1600000 in
theorem toKidsC (v : Value) (kss : List (List O4)) (B : Nat) (w : World) (hv : SeesK B w v kss) (hB : B ≤ w.heap.size) (hlen : kss.length ≤ 1048576) (hall : ∀ ks ∈ kss, ks.length ≤ 1048576) :
    Calls Try.prog 97 #[v] w fun e w' => ∃ v', e = .returned v' ∧ SeesKIn (fun b => w.heap.size ≤ b ∧ b < w'.heap.size) w' v' kss ∧ Below w.heap.size w w' := by
  obtain ⟨a, cap, rfl⟩ := hv.form
  obtain ⟨n, hn⟩ : ∃ n, kss.length = n := ⟨_, rfl⟩
  rw [hn] at hv hlen ⊢
  obtain ⟨w1, hB1, hs1, hmk, hO⟩ := make rowKid n (by omega) w w.heap.size (Nat.le_refl _)
  obtain ⟨g, hg⟩ : ∃ g, w.heap.size = g := ⟨_, rfl⟩
  rw [hg] at hmk hO hB1 hs1 hB ⊢
  have HV := (show Hid _ from hv)
  have HA := (show Hid _ from hall)
  clear hv hall
  go_enter Try.func97, Try.ntmps97
  go_wp2
  go_loopw [4] (fun i wr => ∃ k : Nat, k ≤ n ∧ i = .int .i64 k ∧ KRow g wr n kss k ∧ Below g w wr ∧ g < wr.heap.size) (fun i _ => n - (intOf i).toNat)
  case atStart => exact ⟨0, Nat.zero_le _, rfl, ⟨[], rfl, hO, fun j h => by simp at h⟩, hB1, hs1⟩
  case round =>
    obtain ⟨k, hk, rfl, hR, hb, hgw⟩ := hrel
    clear hmk hO hB1 hs1
    by_cases hlt : k < n
    · obtain ⟨b, off, rfl, hbB, hc⟩ := SeesK.open HV.out (by omega)
      obtain ⟨s, hs1, hs2⟩ := hc k (by omega)
      have c0 := (hb.cell (p := ⟨b, off + k, none⟩) (by show b < g; omega)).trans hs1
      have hs3 := hs2.on hb hB
      have hsl := HA.out _ (List.getElem_mem (show k < kss.length by omega))
      have cT := toKidC _ _ B wr hs3 (by have := hb.size; omega) hsl
      have hsz := hb.size
      clear hc hs1 hs2 hs3
      go_wp2_with fail
      refine cT.mono ?_
      rintro e w2 ⟨v2, rfl, O2, hb2⟩
      obtain ⟨a2, cap2, rfl⟩ := O2.form
      have hR2 := hR.on hb2
      obtain ⟨ss2, q1, q2, q3⟩ := hR2.ex
      have hl2 : (ss2 ++ List.replicate (n - k) z3).length = n := by simp; omega
      have d0 := at1 (own_at (E := slEl) q2 k (by omega))
      change w2.cell? ⟨g, k * 1, none⟩ = _ at d0
      rw [Nat.mul_one] at d0
      have hfz := fun j => q2.frozenAt j
      clear q3
      go_wp2
      have hR3 := hR2.put hlt hn ⟨a2, _, cap2⟩ (O2.mono (by omega))
      go_roundw
      case rel => exact ⟨k + 1, by omega, by go_num, hR3, (hb.trans (hb2.mono (by omega))).setCell (Nat.le_refl _) _, by have := hb2.size; rw [show (w2.setCell _ _).heap.size = w2.heap.size by simp [World.setCell]]; omega⟩
      case measure => simp [intOf]; omega
    · obtain rfl : k = n := by omega
      go_wp2
      go_ret
      exact ⟨_, rfl, hR.done hn, hb⟩
end Ops
end Go.Proofs.Ytajbmokidcdfnaa
/- Programs that a call owns: its code, its kids' row and each kid's code, apart by their blocks' types. -/
set_option linter.unusedVariables false
set_option linter.unusedSimpArgs false
namespace Go.Proofs.Ytajbmokidcdfnaa
open Go.RowKit
namespace Ops
open Bas Flat

theorem own_block {α : Type} {E : El α} {e : TypeId} {B : Nat} {W : World} {v : Value} {xs : List α} (h : Owns E e B W v xs) : ∀ k, v.ownBlock = some k → ∃ cur, W.heap[k]? = some (.cells cur e (0, 0)) := by
  intro k hk
  obtain ⟨h1, h2⟩ := h
  rcases h2 with ⟨rfl, h0⟩ | ⟨g, cap, cur, rfl, hg, hh, r⟩
  · cases hk
  · cases hk; exact ⟨cur, hh⟩
theorem grown_alloc0 {W W' : World} {o : Obj} {row : Option Nat} (h : (W.alloc o).grownBy W' row) : W.grownBy W' row :=
  ⟨h.os, h.tape, h.output, Nat.le_trans (by simp) h.size, fun k hk hne => (h.block k (by simp; omega) hne).trans (Below.heap_alloc W o k hk)⟩
/-- a row and a block of another type lie apart -/
theorem own_ne {α : Type} {E : El α} {e t : TypeId} {B p : Nat} {W : World} {v : Value} {xs : List α} {cs : Array Value} (h : Owns E e B W v xs) (hb : Blk W p cs t) (hne : e ≠ t) : ∀ k, v.ownBlock = some k → k ≠ p := by
  rintro k hk rfl
  obtain ⟨cur, hc⟩ := own_block h k hk
  unfold Blk at hb
  rw [hc] at hb
  simp only [Option.some.injEq, Obj.cells.injEq] at hb
  exact hne hb.2.1
/-- two rows of different types lie apart -/
theorem own_apart {α β : Type} {E : El α} {F : El β} {e t : TypeId} {B B' : Nat} {W : World} {v v' : Value} {xs : List α} {ys : List β} (h : Owns E e B W v xs) (h' : Owns F t B' W v' ys) (hne : e ≠ t) : ∀ k, v.ownBlock = some k → some k ≠ v'.ownBlock := by
  intro k hk e'
  obtain ⟨cur, hc⟩ := own_block h k hk
  obtain ⟨cur', hc'⟩ := own_block h' k e'.symm
  rw [hc] at hc'
  simp only [Option.some.injEq, Obj.cells.injEq] at hc'
  exact hne hc'.2.1

/-- kids that the call owns -/
def OwnK (B : Nat) (W : World) (vk : Value) (kss : List (List O4)) : Prop :=
  ∃ ss : List S3, Owns slEl 142 B W vk ss ∧ ss.length = kss.length ∧ ∀ j (h : j < ss.length) (h' : j < kss.length), Owns4 B W ss[j].val kss[j]
section
variable {B B' g : Nat} {W W' : World} {vk : Value} {kss : List (List O4)}
theorem OwnK.keep (h : OwnK B W vk kss) (hk : ∀ b, B ≤ b → b < W.heap.size → W'.heap[b]? = W.heap[b]?) : OwnK B W' vk kss := by
  obtain ⟨ss, h1, h2, h3⟩ := h
  exact ⟨ss, h1.keep fun k e => hk k (h1.at k e).1 (h1.at k e).2, h2, fun j hj hj' => (h3 j hj hj').keep fun k e => hk k ((h3 j hj hj').at k e).1 ((h3 j hj hj').at k e).2⟩
theorem OwnK.on (h : OwnK B W vk kss) (hb : Below W.heap.size W W') : OwnK B W' vk kss := h.keep fun b _ hb' => hb.block b hb'
theorem OwnK.grown (h : OwnK B W vk kss) (hg : W.grownBy W' (some g)) (hlt : g < B) : OwnK B W' vk kss := h.keep fun b h1 h2 => hg.block b h2 (fun e => by injection e; omega)
theorem OwnK.drew (h : OwnK B W vk kss) : OwnK B W.drew vk kss := h
theorem OwnK.mono (h : OwnK B W vk kss) (hB : B' ≤ B) : OwnK B' W vk kss := by
  obtain ⟨ss, h1, h2, h3⟩ := h
  exact ⟨ss, h1.mono hB, h2, fun j hj hj' => (h3 j hj hj').mono hB⟩
theorem OwnK.form (h : OwnK B W vk kss) : ∃ a cap, vk = .slice a kss.length cap := by
  obtain ⟨ss, h1, h2, -⟩ := h
  obtain ⟨a, cap, e⟩ := h1.form
  exact ⟨a, cap, by rw [← h2]; exact e⟩
theorem OwnK.nil (B : Nat) (W : World) : OwnK B W (.slice none 0 0) [] := ⟨[], Owns.nil _ _ _ _, rfl, fun j h => by simp at h⟩
theorem OwnK.sees (h : OwnK B W vk kss) : SeesK W.heap.size W vk kss := by
  obtain ⟨ss, h1, h2, h3⟩ := h
  exact ⟨ss, h1.sees, h2, fun j hj hj' => (h3 j hj hj').sees⟩
/-- a store into a block of another type -/
theorem OwnK.other (h : OwnK B W vk kss) {p : Nat} {cs : Array Value} {t : TypeId} (hb : Blk W p cs t) (h1 : 140 ≠ t) (h2 : 142 ≠ t) (i : Nat) (u : Value) : OwnK B (W.setCell ⟨p, i, none⟩ u) vk kss := by
  obtain ⟨ss, k1, k2, k3⟩ := h
  exact ⟨ss, k1.other (own_ne k1 hb h2) u, k2, fun j hj hj' => (k3 j hj hj').other (own_ne (k3 j hj hj') hb h1) u⟩
theorem seesOneS (W : World) (s : S3) (t : TypeId) : Sees slEl (W.heap.size + 1) (W.alloc (.cells #[.slice s.a s.n s.cap] t)) (.slice (some ⟨W.heap.size, 0, none⟩) 1 1) [s] :=
  ⟨_, 1, rfl, by simp, by unfold maxLen; omega, fun _ => ⟨W.heap.size, 0, rfl, by omega, fun j hj => by
    have hj0 : j = 0 := by simpa using hj
    subst hj0
    intro i u hu
    have hb : Blk (W.alloc (.cells #[.slice s.a s.n s.cap] t)) W.heap.size #[.slice s.a s.n s.cap] t := Blk.new W _ _
    simp only [Nat.zero_mul, Nat.zero_add]
    rw [hb.cell]
    change [Value.slice s.a s.n s.cap][i]? = some u at hu
    simpa using hu⟩⟩
/-- append(kids, Kid{Code: s}) -/
theorem OwnK.push (h : OwnK B W vk kss) (hB : B ≤ W.heap.size) (s : S3) (ys : List O4) (hs : Owns4 B W s.val ys) (hlen : kss.length ≤ 1000000) :
    ∃ v' W', (Builtin.append_ #[60, 60] 60 #[vk, .slice (some ⟨W.heap.size, 0, none⟩) 1 1]).run Try.prog (W.alloc (.cells #[.slice s.a s.n s.cap] 142)) = .ok v' W' ∧ OwnK B W' v' (kss ++ [ys]) ∧ W.grownBy W' vk.ownBlock ∧ (∀ k, vk.ownBlock = some k → B ≤ k ∧ ∃ cur, W.heap[k]? = some (.cells cur 142 (0, 0))) := by
  obtain ⟨ss, k1, k2, k3⟩ := h
  have bA := alloc_below W (.cells #[.slice s.a s.n s.cap] 142)
  have k1' := k1.on bA (Nat.le_refl _)
  obtain ⟨v', W', hr, hO, hG, -⟩ := app rowKid vk _ 60 ss [s] _ B (W.alloc (.cells #[.slice s.a s.n s.cap] 142)) k1' (by simp; omega) (seesOneS W s _) (by simp; omega)
  refine ⟨v', W', hr, ⟨ss ++ [s], hO, by simp [k2], fun j hj hj' => ?_⟩, grown_alloc0 hG, fun k hk => ⟨(k1.at k hk).1, own_block k1 k hk⟩⟩
  by_cases hlt : j < ss.length
  · have := k3 j hlt (by omega)
    have h1 := (this.on bA (Nat.le_refl _)).grown hG (fun k hk => own_apart (this.on bA (Nat.le_refl _)) k1' (by decide) k hk)
    rw [List.getElem_append_left hlt, List.getElem_append_left (by omega)]; exact h1
  · have hj0 : j = ss.length := by simp at hj; omega
    subst hj0
    have h1 := (hs.on bA (Nat.le_refl _)).grown hG (fun k hk => own_apart (hs.on bA (Nat.le_refl _)) k1' (by decide) k hk)
    rw [List.getElem_append_right (Nat.le_refl _), List.getElem_append_right (by omega)]
    simp only [Nat.sub_self, List.getElem_cons_zero, k2]; exact h1
end

/-- a program that the call owns -/
structure OwnP (B : Nat) (W : World) (vc vk : Value) (xs : List O4) (kss : List (List O4)) : Prop where
  c : Owns4 B W vc xs
  k : OwnK B W vk kss
section
variable {B B' g : Nat} {W W' : World} {vc vk : Value} {xs : List O4} {kss : List (List O4)}
theorem OwnP.on (h : OwnP B W vc vk xs kss) (hb : Below W.heap.size W W') : OwnP B W' vc vk xs kss := ⟨h.c.on hb (Nat.le_refl _), h.k.on hb⟩
theorem OwnP.grown (h : OwnP B W vc vk xs kss) (hg : W.grownBy W' (some g)) (hlt : g < B) : OwnP B W' vc vk xs kss :=
  ⟨h.c.grown hg (fun k hk e => by injection e with e; have := h.c.at k hk; omega), h.k.grown hg hlt⟩
theorem OwnP.mono (h : OwnP B W vc vk xs kss) (hB : B' ≤ B) : OwnP B' W vc vk xs kss := ⟨h.c.mono hB, h.k.mono hB⟩
theorem OwnP.other (h : OwnP B W vc vk xs kss) {p : Nat} {cs : Array Value} {t : TypeId} (hb : Blk W p cs t) (h1 : 140 ≠ t) (h2 : 142 ≠ t) (i : Nat) (u : Value) : OwnP B (W.setCell ⟨p, i, none⟩ u) vc vk xs kss :=
  ⟨h.c.other (own_ne h.c hb h1) u, h.k.other hb h1 h2 i u⟩
end
end Ops
end Go.Proofs.Ytajbmokidcdfnaa
/- Marks on rows of ops: what the laws' markOpS and heldOpS do. -/
set_option linter.unusedVariables false
set_option linter.unusedSimpArgs false
namespace Go.Proofs.Ytajbmokidcdfnaa
open Go.RowKit
namespace Ops
open Bas Flat

theorem ret_k {a b : Int} (h : a = b) : Ending.returned (.int .i64 a) = .returned (.int .i64 b) := by rw [h]
def mkO (k0 : Int) (j : Nat) : O4 := ⟨k0 + 4 * j, k0 + 4 * j + 1, k0 + 4 * j + 2, k0 + 4 * j + 3⟩
def marksO (k0 : Int) (n : Nat) : List O4 := (List.range n).map (mkO k0)
theorem marksO_length (k0 : Int) (n : Nat) : (marksO k0 n).length = n := by simp [marksO]
theorem marksO_get (k0 : Int) (n j : Nat) (h : j < (marksO k0 n).length) : (marksO k0 n)[j] = mkO k0 j := by simp [marksO]
def markedO (xs : List O4) (k0 : Int) (k : Nat) : List O4 := marksO k0 k ++ xs.drop k
theorem markedO_zero (xs : List O4) (k0 : Int) : markedO xs k0 0 = xs := by simp [markedO, marksO]
theorem markedO_full (xs : List O4) (k0 : Int) : markedO xs k0 xs.length = marksO k0 xs.length := by simp [markedO]
theorem markedO_length (xs : List O4) (k0 : Int) (k : Nat) (h : k ≤ xs.length) : (markedO xs k0 k).length = xs.length := by simp [markedO, marksO_length]; omega
theorem markedO_set (xs : List O4) (k0 : Int) (k : Nat) (h : k < xs.length) : (markedO xs k0 k).set k (mkO k0 k) = markedO xs k0 (k + 1) := by
  unfold markedO
  rw [List.set_append_right _ _ (by rw [marksO_length]; exact Nat.le_refl _), marksO_length, Nat.sub_self, List.drop_eq_getElem_cons h, List.set_cons_zero]
  simp [marksO, List.range_succ]
theorem own_some' {B n cap : Nat} {w : World} {a : Option Addr} {xs : List O4} (h : Owns4 B w (.slice a n cap) xs) (hn : 0 < xs.length) : ∃ q, a = some ⟨q, 0, none⟩ ∧ B ≤ q ∧ q < w.heap.size ∧ n = xs.length := by
  obtain ⟨h1, h2⟩ := h
  rcases h2 with ⟨h', h0⟩ | ⟨q, c, cur, h', hB, hg, hle, _⟩
  · omega
  · simp only [Value.slice.injEq] at h'
    obtain ⟨rfl, rfl, rfl⟩ := h'
    exact ⟨q, rfl, hB, (Array.getElem?_eq_some_iff.1 hg).1, rfl⟩
theorem grown_set {w w' : World} {q : Nat} (h : w.grownBy w' (some q)) (i : Nat) (u : Value) : w.grownBy (w'.setCell ⟨q, i, none⟩ u) (some q) :=
  ⟨h.os, h.tape, h.output, by simpa [World.setCell] using h.size, fun k hk hne => (Below.heap_setCell w' _ _ _ (fun e => hne (by rw [e]))).trans (h.block k hk hne)⟩

set_option maxRecDepth 100000 in
set_option maxHeartbeats 3200000 in
theorem markOpsC (v : Value) (xs : List O4) (k0 : Int) (B : Nat) (w : World) (hv : Owns4 B w v xs) (h0 : 0 ≤ k0) (h1 : k0 ≤ 1000000000) (hlen : xs.length ≤ 1048576) :
    Calls Try.prog 100 #[v, .int .i64 k0] w fun e w' => e = .returned (.int .i64 (k0 + 4 * (xs.length : Int))) ∧ Owns4 B w' v (marksO k0 xs.length) ∧ w.grownBy w' v.ownBlock := by
  obtain ⟨a, cap, rfl⟩ := hv.form
  obtain ⟨n, hn⟩ : ∃ n, xs.length = n := ⟨_, rfl⟩
  rw [hn] at hv hlen ⊢
  by_cases hn0 : n = 0
  · have HF : Hid (Owns4 B w (.slice a n cap) (marksO k0 n)) := by
      subst hn0
      have : xs = [] := List.eq_nil_of_length_eq_zero hn
      subst this
      exact hv
    subst hn0
    clear hv
    go_enter Try.func100, Try.ntmps100
    go_wp2
    go_loop [1, 5] (fun kv iv => kv = .int .i64 k0 ∧ iv = .int .i64 0) (fun _ _ => 0)
    case atStart => exact ⟨rfl, rfl⟩
    case round =>
      obtain ⟨rfl, rfl⟩ := hrel
      go_wp2
      go_ret
      exact ⟨by simp, HF.out, ⟨rfl, rfl, rfl, Nat.le_refl _, fun _ _ _ => rfl⟩⟩
  obtain ⟨q, rfl, hq1, hq2, -⟩ := own_some' hv (by omega)
  have hO : w.ownsRow B 140 4 (.slice (some ⟨q, 0, none⟩) n cap) n (fv opEl (markedO xs k0 0)) := by
    rw [markedO_zero]
    have := hv
    unfold Owns4 Owns at this
    rw [hn] at this; exact this
  have hG : w.grownBy w (some q) := ⟨rfl, rfl, rfl, Nat.le_refl _, fun _ _ _ => rfl⟩
  clear hv
  go_enter Try.func100, Try.ntmps100
  go_wp2
  go_loopw [1, 5] (fun kv iv wr => ∃ (j : Nat) (k : Int), j ≤ n ∧ kv = .int .i64 k ∧ k = k0 + 4 * (j : Int) ∧ iv = .int .i64 j ∧ wr.ownsRow B 140 4 (.slice (some ⟨q, 0, none⟩) n cap) n (fv opEl (markedO xs k0 j)) ∧ w.grownBy wr (some q)) (fun _ iv _ => n - (intOf iv).toNat)
  case atStart => exact ⟨0, k0, Nat.zero_le _, rfl, by simp, rfl, hO, hG⟩
  case round =>
    obtain ⟨j, k, hj, rfl, hk, rfl, hR, hGr⟩ := hrel
    clear hO hG
    by_cases hlt : j < n
    · have hpl : (markedO xs k0 j).length = n := by rw [markedO_length xs k0 j (by omega)]; exact hn
      obtain ⟨c0, c1, c2, c3⟩ := at4 (own_at (E := opEl) hR j (by omega))
      obtain ⟨y, hy⟩ : ∃ y, (markedO xs k0 j)[j]'(by omega) = y := ⟨_, rfl⟩
      rw [hy] at c0 c1 c2 c3
      change wr.cell? ⟨q, j * 4, none⟩ = _ at c0
      change wr.cell? ⟨q, j * 4 + 1, none⟩ = _ at c1
      change wr.cell? ⟨q, j * 4 + 2, none⟩ = _ at c2
      change wr.cell? ⟨q, j * 4 + 3, none⟩ = _ at c3
      have hfz := fun j => hR.frozenAt j
      have hR3 := own_set4 hR j (by omega) (mkO k0 j)
      rw [markedO_set xs k0 j (by omega)] at hR3
      have eM : mkO k0 j = ⟨k, k + 1, k + 2, k + 3⟩ := by unfold mkO; rw [hk]
      rw [eM] at hR3
      unfold set4 at hR3
      have hG3 := grown_set (grown_set (grown_set (grown_set hGr (j * 4) (.int .i64 k)) (j * 4 + 1) (.int .i64 (k + 1))) (j * 4 + 2) (.int .i64 (k + 2))) (j * 4 + 3) (.int .i64 (k + 3))
      have HK : Hid (k = k0 + 4 * (j : Int)) := hk
      have i1 : (j : Int) < n := by omega
      have i2 : (0 : Int) ≤ j := by omega
      have k1 : 0 ≤ k := by omega
      have k2 : k ≤ 2000000000 := by omega
      have e2 : k + 1 + 1 = k + 2 := by omega
      have e3 : k + 2 + 1 = k + 3 := by omega
      have e4 : k + 3 + 1 = k + 4 := by omega
      clear hR hGr eM hk hy hpl
      go_wp2
      go_roundw
      case rel => exact ⟨j + 1, k + 4, by omega, by first | rfl | go_num, by rw [HK.out]; omega, by go_num, hR3, hG3⟩
      case measure => simp [intOf]; omega
    · obtain rfl : j = n := by omega
      have i1 : ¬ (j : Int) < j := by omega
      have HF : Hid (k = k0 + 4 * (j : Int)) := hk
      clear hk
      go_wp2
      go_ret
      refine ⟨ret_k HF.out, ?_, hGr⟩
      rw [← hn, markedO_full, hn] at hR
      unfold Owns4 Owns
      rw [marksO_length]; exact hR

end Ops
end Go.Proofs.Ytajbmokidcdfnaa
/- Marks on programs: what the laws' markProg and heldProg do. -/
set_option linter.unusedVariables false
set_option linter.unusedSimpArgs false
namespace Go.Proofs.Ytajbmokidcdfnaa
open Go.RowKit
namespace Ops
open Bas Flat

/-- two values own no block in common -/
def Dis (a b : Value) : Prop := ∀ k, a.ownBlock = some k → b.ownBlock ≠ some k
theorem Dis.symm {a b : Value} (h : Dis a b) : Dis b a := fun k hb ha => h k ha hb
/-- kids, each at its slice -/
structure OwnKs (B : Nat) (W : World) (vk : Value) (ss : List S3) (ls : List (List O4)) : Prop where
  row : Owns slEl 142 B W vk ss
  len : ss.length = ls.length
  each : ∀ j (h : j < ss.length) (h' : j < ls.length), Owns4 B W ss[j].val ls[j]
theorem OwnKs.ownK {B : Nat} {W : World} {vk : Value} {ss : List S3} {ls : List (List O4)} (h : OwnKs B W vk ss ls) : OwnK B W vk ls := ⟨ss, h.row, h.len, h.each⟩
theorem OwnKs.on {B : Nat} {W W' : World} {vk : Value} {ss : List S3} {ls : List (List O4)} (h : OwnKs B W vk ss ls) (hb : Below W.heap.size W W') : OwnKs B W' vk ss ls :=
  ⟨h.row.on hb (Nat.le_refl _), h.len, fun j h1 h2 => (h.each j h1 h2).on hb (Nat.le_refl _)⟩
/-- marks that follow each other -/
def markLs (k0 : Int) : List Nat → List (List O4)
  | [] => []
  | n :: r => marksO k0 n :: markLs (k0 + 4 * n) r
theorem markLs_length (k0 : Int) (ns : List Nat) : (markLs k0 ns).length = ns.length := by
  induction ns generalizing k0 with
  | nil => rfl
  | cons n r ih => simp [markLs, ih]
theorem markLs_get (k0 : Int) (ns : List Nat) (i : Nat) (h : i < ns.length) (h' : i < (markLs k0 ns).length) : (markLs k0 ns)[i] = marksO (k0 + 4 * ((ns.take i).sum : Nat)) ns[i] := by
  induction ns generalizing k0 i with
  | nil => simp at h
  | cons n r ih =>
    cases i with
    | zero => simp [markLs]
    | succ i =>
      have := ih (k0 + 4 * n) i (by simpa using h) (by simpa [markLs] using h')
      simp only [markLs, List.getElem_cons_succ, this, List.take_succ_cons, List.sum_cons]
      congr 1
      omega
theorem sum_take_succ (ns : List Nat) (i : Nat) (h : i < ns.length) : (ns.take (i + 1)).sum = (ns.take i).sum + ns[i] := by rw [List.take_succ_eq_append_getElem h, List.sum_append, List.sum_cons, List.sum_nil, Nat.add_zero]
theorem sum_le (ns : List Nat) (M : Nat) (h : ∀ n ∈ ns, n ≤ M) : ns.sum ≤ M * ns.length := by
  induction ns with
  | nil => simp
  | cons n r ih => have := ih (fun x hx => h x (by simp [hx])); have := h n (by simp); simp [Nat.mul_add]; omega
/-- the first i are marked -/
def mixed (k0 : Int) (ls : List (List O4)) (i : Nat) : List (List O4) := (markLs k0 (ls.map List.length)).take i ++ ls.drop i
theorem mixed_zero (k0 : Int) (ls : List (List O4)) : mixed k0 ls 0 = ls := by simp [mixed]
theorem mixed_full (k0 : Int) (ls : List (List O4)) : mixed k0 ls ls.length = markLs k0 (ls.map List.length) := by
  unfold mixed; rw [List.take_of_length_le (by rw [markLs_length]; simp), List.drop_length, List.append_nil]
theorem mixed_length (k0 : Int) (ls : List (List O4)) (i : Nat) (h : i ≤ ls.length) : (mixed k0 ls i).length = ls.length := by simp [mixed, markLs_length]; omega
theorem mixed_get (k0 : Int) (ls : List (List O4)) (i j : Nat) (hi : i ≤ ls.length) (h : j < (mixed k0 ls i).length) (hj : j < ls.length) :
    (mixed k0 ls i)[j] = if j < i then (markLs k0 (ls.map List.length))[j]'(by rw [markLs_length]; simpa using hj) else ls[j] := by
  apply Option.some.inj
  rw [← List.getElem?_eq_getElem h]
  by_cases hlt : j < i
  · rw [if_pos hlt]
    unfold mixed
    rw [List.getElem?_append_left (by simp [markLs_length]; omega), List.getElem?_take, if_pos hlt, List.getElem?_eq_getElem]
  · rw [if_neg hlt]
    unfold mixed
    have hl : ((markLs k0 (ls.map List.length)).take i).length = i := by simp [markLs_length]; omega
    rw [List.getElem?_append_right (by omega), hl, List.getElem?_drop, show i + (j - i) = j by omega, List.getElem?_eq_getElem hj]
/-- nothing but the kids' codes has changed -/
structure OnlyS (S : Nat → Prop) (w w' : World) : Prop where
  os : w'.os = w.os
  tape : w'.tape = w.tape
  output : w'.output = w.output
  size : w.heap.size ≤ w'.heap.size
  block : ∀ k, k < w.heap.size → ¬ S k → w'.heap[k]? = w.heap[k]?
theorem OnlyS.refl (S : Nat → Prop) (w : World) : OnlyS S w w := ⟨rfl, rfl, rfl, Nat.le_refl _, fun _ _ _ => rfl⟩
theorem OnlyS.step {S : Nat → Prop} {w w1 w2 : World} {row : Option Nat} (h : OnlyS S w w1) (g : w1.grownBy w2 row) (hs : ∀ k, row = some k → S k) : OnlyS S w w2 :=
  ⟨g.os.trans h.os, g.tape.trans h.tape, g.output.trans h.output, Nat.le_trans h.size g.size, fun k hk hn => (g.block k (Nat.lt_of_lt_of_le hk h.size) (fun e => hn (hs k e.symm))).trans (h.block k hk hn)⟩
def kidBlocks (ss : List S3) (k : Nat) : Prop := ∃ s ∈ ss, s.val.ownBlock = some k

set_option maxRecDepth 100000 in
set_option maxHeartbeats 3200000 in
theorem markKidsC (vk : Value) (ss : List S3) (ls : List (List O4)) (k0 : Int) (B : Nat) (w : World) (hv : OwnKs B w vk ss ls) (hd : (ss.map S3.val).Pairwise Dis) (h0 : 0 ≤ k0) (h1 : k0 ≤ 1000000) (hl : ls.length ≤ 1000) (hl2 : ∀ l ∈ ls, l.length ≤ 1000) :
    Calls Try.prog 101 #[vk, .int .i64 k0] w fun e w' => e = .returned (.int .i64 (k0 + 4 * ((ls.map List.length).sum : Nat))) ∧ OwnKs B w' vk ss (markLs k0 (ls.map List.length)) ∧ OnlyS (kidBlocks ss) w w' := by
  obtain ⟨a, cap, rfl⟩ := hv.row.form
  have hsl := hv.len
  obtain ⟨n, hn⟩ : ∃ n, ss.length = n := ⟨_, rfl⟩
  rw [hn] at hsl ⊢
  have HSL : Hid (n = ls.length) := hsl
  have hsl1 : n ≤ ls.length := by omega
  have hsl2 : ls.length ≤ n := by omega
  clear hsl
  have HD : Hid (∀ i j (hi : i < ss.length) (hj : j < ss.length), i ≠ j → Dis ss[i].val ss[j].val) := fun i j hi hj hij => by
    have key := List.pairwise_iff_getElem.1 hd
    rcases Nat.lt_or_gt_of_ne hij with h | h
    · have := key i j (by simpa using hi) (by simpa using hj) h; simpa using this
    · have := key j i (by simpa using hj) (by simpa using hi) h; exact Dis.symm (by simpa using this)
  have hst : OwnKs B w (.slice a n cap) ss (mixed k0 ls 0) := by rw [mixed_zero, ← hn]; exact hv
  have HL := (show Hid _ from hl2)
  have hsum := sum_le (ls.map List.length) 1000 (fun m hm => by obtain ⟨l, hl', rfl⟩ := List.mem_map.1 hm; exact hl2 l hl')
  have hO : OnlyS (kidBlocks ss) w w := OnlyS.refl _ _
  clear hv hd hl2
  go_enter Try.func101, Try.ntmps101
  go_wp2
  go_loopw [1, 5] (fun kv iv wr => ∃ (i : Nat) (k : Int), i ≤ n ∧ kv = .int .i64 k ∧ k = k0 + 4 * (((ls.map List.length).take i).sum : Nat) ∧ iv = .int .i64 i ∧ OwnKs B wr (.slice a n cap) ss (mixed k0 ls i) ∧ OnlyS (kidBlocks ss) w wr) (fun _ iv _ => n - (intOf iv).toNat)
  case atStart => exact ⟨0, k0, Nat.zero_le _, rfl, by simp, rfl, hst, hO⟩
  case round =>
    obtain ⟨i, k, hi, rfl, hk, rfl, K, hOn⟩ := hrel
    clear hst hO
    by_cases hlt : i < n
    · have hil : i < ls.length := by omega
      have his : i < ss.length := by omega
      obtain ⟨q, off, rfl, hq, hcc⟩ := K.row.sees.open (by omega)
      have s1 := at1 (hcc i his)
      change wr.cell? ⟨q, off + i * 1, none⟩ = _ at s1
      rw [Nat.mul_one] at s1
      have hml := mixed_length k0 ls i (by omega)
      have E := K.each i his (by omega)
      rw [mixed_get k0 ls i i (by omega) (by omega) hil, if_neg (by omega)] at E
      have hb : ((ls.map List.length).take i).sum ≤ (ls.map List.length).sum := by
        have := congrArg List.sum (List.take_append_drop i (ls.map List.length))
        rw [List.sum_append] at this; omega
      have hlen1 := HL.out _ (List.getElem_mem hil)
      have hkk : 0 ≤ k ∧ k ≤ 1000000000 := by simp at hsum; omega
      have cM := markOpsC _ ls[i] k B wr E hkk.1 hkk.2 (by omega)
      have HS : Hid (k + 4 * (ls[i].length : Int) = k0 + 4 * (((ls.map List.length).take (i + 1)).sum : Nat)) := by
        show _ = _
        rw [sum_take_succ _ i (by simpa using hil), hk]
        simp
        omega
      have HM : Hid (∀ j (h : j < ls.length) (h' : j < (mixed k0 ls (i + 1)).length) (h'' : j < (mixed k0 ls i).length), j ≠ i → (mixed k0 ls (i + 1))[j] = (mixed k0 ls i)[j]) := fun j h h' h'' hne => by
        rw [mixed_get k0 ls (i + 1) j (by omega) h' h, mixed_get k0 ls i j (by omega) h'' h]
        by_cases hji : j < i
        · rw [if_pos (by omega), if_pos hji]
        · rw [if_neg (by omega), if_neg hji]
      have HI : Hid (∀ (h' : i < (mixed k0 ls (i + 1)).length), (mixed k0 ls (i + 1))[i] = marksO k ls[i].length) := fun h' => by
        rw [mixed_get k0 ls (i + 1) i (by omega) h' hil, if_pos (by omega), markLs_get k0 _ i (by simpa using hil), hk]
        simp
      have hml2 := mixed_length k0 ls (i + 1) (by omega)
      obtain ⟨s, hs⟩ : ∃ s, ss[i] = s := ⟨_, rfl⟩
      have HSS : Hid (ss[i] = s) := hs
      rw [hs] at s1 cM
      have eS : s.val = .slice s.a s.n s.cap := rfl
      rw [eS] at cM
      obtain ⟨kn, hkn⟩ : ∃ kn, k + 4 * (ls[i].length : Int) = kn := ⟨_, rfl⟩
      rw [hkn] at cM HS
      have i1 : (i : Int) < n := by omega
      have i2 : (0 : Int) ≤ i := by omega
      clear hcc hk hb hkn hs E eS
      go_wp2_with fail
      refine cM.mono ?_
      rintro e w2 ⟨rfl, M2, G2⟩
      clear cM s1
      have O2 := hOn.step G2 (fun b hb => ⟨s, by rw [← HSS.out]; exact List.getElem_mem his, hb⟩)
      have K2 : OwnKs B w2 (.slice (some ⟨q, off, none⟩) n cap) ss (mixed k0 ls (i + 1)) := by
        refine ⟨K.row.grown G2 (fun b hb e => ?_), by rw [hml2]; omega, fun j h1 h2 => ?_⟩
        · have E := K.each i his (by omega)
          rw [HSS.out] at E
          exact own_apart K.row E (by decide) b hb e
        · by_cases hji : j = i
          · subst hji
            rw [HI.out h2, HSS.out]
            exact M2
          · rw [HM.out j (by omega) h2 (by omega) hji]
            refine (K.each j h1 (by omega)).grown G2 (fun b hb e => ?_)
            have := HD.out j i h1 his hji b hb
            rw [HSS.out] at this
            exact this e.symm
      go_wp2
      go_roundw
      case rel => exact ⟨i + 1, kn, by omega, rfl, HS.out, by go_num, K2, O2⟩
      case measure => simp [intOf]; omega
    · obtain rfl : i = n := by omega
      have i1 : ¬ (i : Int) < i := by omega
      have HF : Hid (k = k0 + 4 * ((ls.map List.length).sum : Nat)) := by show _ = _; rw [hk, List.take_of_length_le (by simp; omega)]
      clear hk
      go_wp2
      go_ret
      refine ⟨ret_k HF.out, ?_, hOn⟩
      rw [show mixed k0 ls i = markLs k0 (ls.map List.length) by rw [HSL.out]; exact mixed_full k0 ls] at K
      exact K
end Ops
end Go.Proofs.Ytajbmokidcdfnaa
