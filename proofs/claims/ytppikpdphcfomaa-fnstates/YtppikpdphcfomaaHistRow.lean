/- Entries of a history in memory: the laws' own copies, comparisons, sizes and marks. -/
import Derived.Test.YtppikpdphcfomaaHistL
import Derived.Test.YtppikpdphcfomaaIntRow
set_option linter.unusedVariables false
set_option linter.unusedSimpArgs false
namespace Go.Proofs.Ytppikpdphcfomaa
open Go.RowKit
namespace Hist
open Bas Flat Logs

/-- an entry as it lies in memory, with what its slice holds -/
structure Wx where
  s : Int
  who : Int
  a : Option Addr
  n : Nat
  cap : Nat
  ps : List R2
def Wx.wr (x : Wx) : Wr := ⟨x.s, x.who, x.ps⟩
def Wx.sl (x : Wx) : Value := .slice x.a x.n x.cap
def wxEl : El Wx where
  sz := 3
  cells x := [.int .i64 x.s, .int .i64 x.who, .slice x.a x.n x.cap]
  len _ := rfl
  one x v hv := by simp at hv; rcases hv with rfl | rfl | rfl <;> rfl
  pos := by decide
def zx : Wx := ⟨0, 0, none, 0, 0, []⟩
theorem rowWx : Row Try.prog wxEl 25 33 (.agg #[.int .i64 0, .int .i64 0, .slice none 0 0]) zx 40 :=
  ⟨Try.underlying25, by kernel_rfl, rfl, by decide⟩
theorem at3 {w : World} {b o : Nat} {x : Wx} (h : At wxEl w b o x) : w.cell? ⟨b, o, none⟩ = some (.int .i64 x.s) ∧ w.cell? ⟨b, o + 1, none⟩ = some (.int .i64 x.who) ∧ w.cell? ⟨b, o + 2, none⟩ = some (.slice x.a x.n x.cap) :=
  ⟨h 0 _ rfl, h 1 _ rfl, h 2 _ rfl⟩

/-! ### helpers on blocks -/
theorem own_blk {α : Type} {E : El α} {e : TypeId} {B : Nat} {W : World} {v : Value} {xs : List α} (h : Owns E e B W v xs) : ∀ k, v.ownBlock = some k → ∃ cur, W.heap[k]? = some (.cells cur e (0, 0)) := by
  intro k hk
  obtain ⟨h1, h2⟩ := h
  rcases h2 with ⟨rfl, h0⟩ | ⟨g, cap, cur, rfl, hg, hh, r⟩
  · cases hk
  · cases hk; exact ⟨cur, hh⟩
/-- two rows of different types lie apart -/
theorem own_apt {α β : Type} {E : El α} {F : El β} {e t : TypeId} {B B' : Nat} {W : World} {v v' : Value} {xs : List α} {ys : List β} (h : Owns E e B W v xs) (h' : Owns F t B' W v' ys) (hne : e ≠ t) : ∀ k, v.ownBlock = some k → some k ≠ v'.ownBlock := by
  intro k hk e'
  obtain ⟨cur, hc⟩ := own_blk h k hk
  obtain ⟨cur', hc'⟩ := own_blk h' k e'.symm
  rw [hc] at hc'
  simp only [Option.some.injEq, Obj.cells.injEq] at hc'
  exact hne hc'.2.1
/-- what has changed lies from block lo on and below block hi -/
structure ChgIn (lo hi : Nat) (w w' : World) : Prop where
  os : w'.os = w.os
  tape : w'.tape = w.tape
  output : w'.output = w.output
  size : w.heap.size ≤ w'.heap.size
  block : ∀ k, k < w.heap.size → k < lo ∨ hi ≤ k → w'.heap[k]? = w.heap[k]?
section
variable {lo hi lo' hi' : Nat} {w w' w'' : World}
theorem ChgIn.refl (lo hi : Nat) (w : World) : ChgIn lo hi w w := ⟨rfl, rfl, rfl, Nat.le_refl _, fun _ _ _ => rfl⟩
theorem ChgIn.trans (h : ChgIn lo hi w w') (h' : ChgIn lo hi w' w'') : ChgIn lo hi w w'' :=
  ⟨h'.os.trans h.os, h'.tape.trans h.tape, h'.output.trans h.output, Nat.le_trans h.size h'.size, fun k hk hn => (h'.block k (Nat.lt_of_lt_of_le hk h.size) hn).trans (h.block k hk hn)⟩
theorem ChgIn.grown {r : Option Nat} (h : w.grownBy w' r) (hr : ∀ k, r = some k → lo ≤ k ∧ k < hi) : ChgIn lo hi w w' :=
  ⟨h.os, h.tape, h.output, h.size, fun k hk hn => h.block k hk (fun e => by have := hr k e.symm; omega)⟩
theorem ChgIn.below (h : Below w.heap.size w w') : ChgIn lo hi w w' := ⟨h.os, h.tape, h.output, h.size, fun k hk _ => h.block k hk⟩
theorem ChgIn.set (h : ChgIn lo hi w w') {q : Nat} (h1 : lo ≤ q) (h2 : q < hi) (i : Nat) (u : Value) : ChgIn lo hi w (w'.setCell ⟨q, i, none⟩ u) :=
  ⟨h.os, h.tape, h.output, by have := h.size; simpa [World.setCell] using this, fun k hk hn => (Below.heap_setCell _ _ _ _ (by show k ≠ q; omega)).trans (h.block k hk hn)⟩
/-- Below, out of it -/
theorem ChgIn.toBelow {B : Nat} (h : ChgIn lo hi w w') (hB : B ≤ w.heap.size) (hlo : B ≤ lo) : Below B w w' :=
  ⟨h.os, h.tape, h.output, h.size, fun k hk => h.block k (by omega) (.inl (by omega))⟩
theorem owns_chg {α : Type} {E : El α} {e : TypeId} {B : Nat} {v : Value} {xs : List α} (h : Owns E e B w v xs) (hc : ChgIn lo hi w w') (hd : ∀ k, v.ownBlock = some k → k < lo ∨ hi ≤ k) : Owns E e B w' v xs :=
  h.keep fun k hk => hc.block k (h.at k hk).2 (hd k hk)
theorem ints_chg {B : Nat} {v : Value} {xs : List Int} (h : Ints.Owns B w v xs) (hc : ChgIn lo hi w w') (hd : ∀ k, v.ownBlock = some k → k < lo ∨ hi ≤ k) : Ints.Owns B w' v xs :=
  h.keep fun k hk => hc.block k (h.at k hk).2 (hd k hk)
end

/-! ### histories that are read -/
def SeesW (B : Nat) (w : World) (v : Value) (ls : List Wr) : Prop :=
  ∃ xs : List Wx, Sees wxEl B w v xs ∧ (∀ x ∈ xs, Sees2 B w x.sl x.ps) ∧ xs.map Wx.wr = ls
section
variable {B B' : Nat} {w w' : World} {v : Value} {ls : List Wr}
theorem SeesW.on (h : SeesW B w v ls) (hb : Below B' w w') (hB : B ≤ B') : SeesW B w' v ls := by
  obtain ⟨xs, h1, h2, h3⟩ := h
  exact ⟨xs, h1.on hb hB, fun x hx => (h2 x hx).on hb hB, h3⟩
theorem SeesW.up (h : SeesW B w v ls) (hB : B ≤ B') : SeesW B' w v ls := by
  obtain ⟨xs, h1, h2, h3⟩ := h
  exact ⟨xs, h1.up hB, fun x hx => (h2 x hx).up hB, h3⟩
theorem SeesW.drew (h : SeesW B w v ls) : SeesW B w.drew v ls := h
theorem SeesW.form (h : SeesW B w v ls) : ∃ a cap, v = .slice a ls.length cap := by
  obtain ⟨xs, h1, h2, rfl⟩ := h
  obtain ⟨a, cap, e⟩ := h1.form
  exact ⟨a, cap, by rw [List.length_map]; exact e⟩
theorem SeesW.room (h : SeesW B w v ls) : ls.length ≤ maxLen := by
  obtain ⟨xs, h1, h2, rfl⟩ := h
  rw [List.length_map]; exact h1.room
/-- where the entries lie, each with its rows -/
theorem SeesW.open {a : Option Addr} {n cap : Nat} (h : SeesW B w (.slice a n cap) ls) (hn : 0 < ls.length) :
    ∃ b off, a = some ⟨b, off, none⟩ ∧ b < B ∧ ∀ j (h : j < ls.length), ∃ p c, w.cell? ⟨b, off + j * 3, none⟩ = some (.int .i64 ls[j].s) ∧ w.cell? ⟨b, off + j * 3 + 1, none⟩ = some (.int .i64 ls[j].who) ∧ w.cell? ⟨b, off + j * 3 + 2, none⟩ = some (.slice p ls[j].ps.length c) ∧ Sees2 B w (.slice p ls[j].ps.length c) ls[j].ps := by
  obtain ⟨xs, h1, h2, rfl⟩ := h
  obtain ⟨b, off, rfl, hb, hc⟩ := h1.open (by simpa using hn)
  refine ⟨b, off, rfl, hb, fun j hj => ?_⟩
  have hj' : j < xs.length := by simpa using hj
  have c0 := at3 (hc j hj')
  have hs := h2 xs[j] (List.getElem_mem hj')
  obtain ⟨a', c', e⟩ := hs.form
  unfold Wx.sl at e hs
  simp only [Value.slice.injEq] at e
  rw [e.2.1] at hs c0
  rw [List.getElem_map]
  exact ⟨_, _, c0.1, c0.2.1, c0.2.2, hs⟩
end

/-! ### histories that a call owns: each entry's rows in a block of their own, from block lo on and below block hi -/
def Dis (a b : Value) : Prop := ∀ q, a.ownBlock = some q → b.ownBlock ≠ some q
theorem Dis.symm {a b : Value} (h : Dis a b) : Dis b a := fun q h1 h2 => h q h2 h1
structure OwnX (lo hi : Nat) (w : World) (v : Value) (xs : List Wx) : Prop where
  row : Owns wxEl 33 lo w v xs
  top : ∀ k, v.ownBlock = some k → k < hi
  each : ∀ x ∈ xs, Owns2 lo w x.sl x.ps ∧ ∀ k, x.sl.ownBlock = some k → k < hi
  dis : (xs.map Wx.sl).Pairwise Dis
def OwnW (lo hi : Nat) (w : World) (v : Value) (ls : List Wr) : Prop := ∃ xs, OwnX lo hi w v xs ∧ xs.map Wx.wr = ls
section
variable {lo hi lo' hi' : Nat} {w w' : World} {v : Value} {ls : List Wr} {xs : List Wx}
theorem OwnX.keep (h : OwnX lo hi w v xs) (hk : ∀ k, lo ≤ k → k < hi → k < w.heap.size → w'.heap[k]? = w.heap[k]?) : OwnX lo hi w' v xs :=
  ⟨h.row.keep fun k e => hk k (h.row.at k e).1 (h.top k e) (h.row.at k e).2, h.top, fun x hx => ⟨(h.each x hx).1.keep fun k e => hk k ((h.each x hx).1.at k e).1 ((h.each x hx).2 k e) ((h.each x hx).1.at k e).2, (h.each x hx).2⟩, h.dis⟩
theorem OwnW.keep (h : OwnW lo hi w v ls) (hk : ∀ k, lo ≤ k → k < hi → k < w.heap.size → w'.heap[k]? = w.heap[k]?) : OwnW lo hi w' v ls := by
  obtain ⟨xs, h1, h2⟩ := h
  exact ⟨xs, h1.keep hk, h2⟩
theorem OwnW.on (h : OwnW lo hi w v ls) (hb : Below w.heap.size w w') : OwnW lo hi w' v ls := h.keep fun k _ _ hk => hb.block k hk
theorem OwnW.chg (h : OwnW lo hi w v ls) (hc : ChgIn lo' hi' w w') (hd : hi ≤ lo' ∨ hi' ≤ lo) : OwnW lo hi w' v ls := h.keep fun k h1 h2 h3 => hc.block k h3 (by omega)
theorem OwnW.grown (h : OwnW lo hi w v ls) {r : Option Nat} (hg : w.grownBy w' r) (hd : ∀ k, r = some k → k < lo ∨ hi ≤ k) : OwnW lo hi w' v ls := h.keep fun k h1 h2 h3 => hg.block k h3 (fun e => by have := hd k e.symm; omega)
theorem OwnW.form (h : OwnW lo hi w v ls) : ∃ a cap, v = .slice a ls.length cap := by
  obtain ⟨xs, h1, rfl⟩ := h
  obtain ⟨a, cap, e⟩ := h1.row.form
  exact ⟨a, cap, by rw [List.length_map]; exact e⟩
theorem OwnW.sees (h : OwnW lo hi w v ls) : SeesW w.heap.size w v ls := by
  obtain ⟨xs, h1, rfl⟩ := h
  exact ⟨xs, h1.row.sees, fun x hx => (h1.each x hx).1.sees, rfl⟩
theorem OwnW.nil (lo hi : Nat) (w : World) : OwnW lo hi w (.slice none 0 0) [] :=
  ⟨[], ⟨Owns.nil _ _ _ _, fun k h => absurd h (by simp [Value.ownBlock]), fun x h => absurd h List.not_mem_nil, List.Pairwise.nil⟩, rfl⟩
end

/-! ### the laws' own copies -/
set_option maxRecDepth 100000 in
set_option maxHeartbeats 1600000 in
theorem toWroteE (s who : Int) (p : Option Addr) (n c : Nat) (ps : List R2) (B : Nat) (w : World) (hv : Sees2 B w (.slice p n c) ps) (hn : ps.length = n) (hB : B ≤ w.heap.size) (hlen : n ≤ 1048576) :
    Calls Try.prog 51 #[.agg #[.int .i64 s, .int .i64 who, .slice p n c]] w fun e w' => ∃ a' c', e = .returned (.agg #[.int .i64 s, .int .i64 who, .slice a' n c']) ∧ Owns2 w.heap.size w' (.slice a' n c') ps ∧ Below w.heap.size w w' := by
  have b0 := ((alloc_below w (.cells #[.int .i64 s, .int .i64 who, .slice p n c] 91)).alloc (by simp) (.cells #[.int .i64 0, .int .i64 0, .slice none 0 0] 33)).alloc (by simp; omega) (.cells #[.int .i64 s, .int .i64 who, .slice none 0 0] 33)
  have hv0 := hv.on b0 hB
  go_enter Try.func51, Try.ntmps51
  go_wp2_with fail
  refine (toRowsC _ ps B _ hv0 (by simp; omega) (by omega)).mono ?_
  rintro e w1 ⟨v', rfl, hO, hb⟩
  obtain ⟨a', cap', rfl⟩ := hO.form
  rw [hn] at hO ⊢
  obtain ⟨hc, hf⟩ := bcell hb
  have hz : w.heap.size + 3 ≤ w1.heap.size := by have := hb.size; simp at this; omega
  have hlow := hO.at
  go_wp2_with fail
  refine bodyPost_ret (v := .agg #[.int .i64 s, .int .i64 who, .slice a' n cap']) (by simp [results, Try.results51, go_sem, hc]) rfl ⟨_, _, rfl, ?_, ?_⟩
  · exact ((((hO.other (fun k hk => by have := hlow k hk; simp at this; omega) _).other (fun k hk => by have := hlow k hk; simp at this; omega) _).other (fun k hk => by have := hlow k hk; simp at this; omega) _).other (fun k hk => by have := hlow k hk; simp at this; omega) _).mono (by simp; omega)
  · exact ((((b0.trans (hb.mono (by simp; omega))).setCell (by simp; omega) _).setCell (by simp) _).setCell (by simp) _).setCell (by simp) _

/-- the entries copied so far, each with rows of its own -/
structure WRow (g : Nat) (wr : World) (n : Nat) (ls : List Wr) (k : Nat) : Prop where
  ex : ∃ xs : List Wx, xs.length = k ∧ wr.ownsRow g 33 3 (.slice (some ⟨g, 0, none⟩) n n) n (fv wxEl (xs ++ List.replicate (n - k) zx)) ∧ (∀ x ∈ xs, Owns2 (g + 1) wr x.sl x.ps) ∧ (xs.map Wx.sl).Pairwise Dis ∧ xs.map Wx.wr = ls.take k
theorem WRow.on {g : Nat} {wr w' : World} {n k : Nat} {ls : List Wr} (h : WRow g wr n ls k) (hb : Below wr.heap.size wr w') : WRow g w' n ls k := by
  obtain ⟨xs, h1, h2, h3, h4, h5⟩ := h.ex
  exact ⟨xs, h1, owns_on h2 hb (Nat.le_refl _), fun x hx => (h3 x hx).on hb (Nat.le_refl _), h4, h5⟩
theorem WRow.done {g : Nat} {wr : World} {n : Nat} {ls : List Wr} (h : WRow g wr n ls n) (hn : ls.length = n) : OwnW g wr.heap.size wr (.slice (some ⟨g, 0, none⟩) n n) ls := by
  obtain ⟨xs, h1, h2, h3, h4, h5⟩ := h.ex
  rw [Nat.sub_self, List.replicate_zero, List.append_nil] at h2
  have h2' : Owns wxEl 33 g wr (.slice (some ⟨g, 0, none⟩) n n) xs := by unfold Owns; rw [h1]; exact h2
  exact ⟨xs, ⟨h2', fun k hk => (h2'.at k hk).2, fun x hx => ⟨(h3 x hx).mono (by omega), fun k hk => ((h3 x hx).at k hk).2⟩, h4⟩, by rw [h5, List.take_of_length_le (by omega)]⟩
/-- an entry's store -/
def setX (w : World) (g j : Nat) (x : Wx) : World := ((w.setCell ⟨g, j * 3, none⟩ (.int .i64 x.s)).setCell ⟨g, j * 3 + 1, none⟩ (.int .i64 x.who)).setCell ⟨g, j * 3 + 2, none⟩ (.slice x.a x.n x.cap)
theorem own_setX {B g n cap : Nat} {w : World} {xs : List Wx} (h : w.ownsRow B 33 3 (.slice (some ⟨g, 0, none⟩) n cap) n (fv wxEl xs)) (j : Nat) (hj : j < xs.length) (x : Wx) :
    (setX w g j x).ownsRow B 33 3 (.slice (some ⟨g, 0, none⟩) n cap) n (fv wxEl (xs.set j x)) := by
  obtain ⟨y, hy⟩ : ∃ y, xs[j] = y := ⟨_, rfl⟩
  have h0 := own_set (E := wxEl) h j hj 0 (by decide) (.int .i64 x.s) ⟨x.s, y.who, y.a, y.n, y.cap, []⟩ (by rw [hy]; rfl)
  have h1 := own_set (E := wxEl) h0 j (by simp; exact hj) 1 (by decide) (.int .i64 x.who) ⟨x.s, x.who, y.a, y.n, y.cap, []⟩ (by simp; rfl)
  have h2 := own_set (E := wxEl) h1 j (by simp; exact hj) 2 (by decide) (.slice x.a x.n x.cap) x (by simp; rfl)
  simp only [List.set_set] at h2
  exact h2
theorem setX_other {B g j : Nat} {w : World} {v : Value} {x : Wx} {α : Type} {E : El α} {e : TypeId} {ys : List α} (h : Owns E e B w v ys) (hne : ∀ k, v.ownBlock = some k → k ≠ g) : Owns E e B (setX w g j x) v ys :=
  ((h.other hne _).other hne _).other hne _
theorem WRow.step {g : Nat} {wr w2 : World} {n k : Nat} {ls : List Wr} (h : WRow g wr n ls k) (hb : Below wr.heap.size wr w2) (hg : g < wr.heap.size) (hk : k < n) (hn : ls.length = n) (x : Wx) (hx : x.wr = ls[k]'(by omega)) (hs : Owns2 wr.heap.size w2 x.sl x.ps) :
    WRow g (setX w2 g k x) n ls (k + 1) := by
  obtain ⟨xs, h1, h2, h3, h4, h5⟩ := h.ex
  have hd : (xs.map Wx.sl ++ [x.sl]).Pairwise Dis := by
    refine List.pairwise_append.2 ⟨h4, List.pairwise_singleton _ _, fun a ha b hb' q hq1 hq2 => ?_⟩
    obtain ⟨t, ht, rfl⟩ := List.mem_map.1 ha
    have e : b = x.sl := by simpa using hb'
    subst e
    have l1 := ((h3 t ht).at q hq1).2
    have l2 := (hs.at q hq2).1
    omega
  have h2b := owns_on h2 hb (Nat.le_refl _)
  have h3b : ∀ y ∈ xs, Owns2 (g + 1) w2 y.sl y.ps := fun y hy => (h3 y hy).on hb (Nat.le_refl _)
  have hl : (xs ++ List.replicate (n - k) zx).length = n := by simp; omega
  have h2' := own_setX h2b k (by omega) x
  have e1 : (xs ++ List.replicate (n - k) zx).set k x = (xs ++ [x]) ++ List.replicate (n - (k + 1)) zx := by
    rw [show n - k = (n - (k + 1)) + 1 by omega, List.replicate_succ, List.set_append_right _ _ (by omega), h1, Nat.sub_self, List.set_cons_zero, List.append_assoc]
    rfl
  rw [e1] at h2'
  have hs' := hs.mono (show g + 1 ≤ wr.heap.size by omega)
  refine ⟨xs ++ [x], by simp [h1], h2', fun y hy => ?_, by rw [List.map_append]; exact hd, by rw [List.map_append, h5, List.take_succ_eq_append_getElem (by omega), ← hx]; rfl⟩
  rcases List.mem_append.1 hy with hy | hy
  · exact setX_other (h3b y hy) (fun q hq => by have := (h3b y hy).at q hq; omega)
  · rw [List.mem_singleton.1 hy]
    exact setX_other hs' (fun q hq => by have := hs'.at q hq; omega)
/-- how much a law counts -/
def total (ls : List Wr) : Nat := ls.length + (ls.map (fun e => e.ps.length)).sum
theorem sum_take_le (l : List Nat) (k : Nat) : (l.take k).sum ≤ l.sum := by
  have := congrArg List.sum (List.take_append_drop k l)
  rw [List.sum_append] at this; omega
theorem sum_get (l : List Nat) (k : Nat) (h : k < l.length) : (l.take (k + 1)).sum = (l.take k).sum + l[k] := by
  rw [List.take_succ_eq_append_getElem h, List.sum_append]; simp
theorem total_at {ls : List Wr} {k : Nat} (h : k < ls.length) : ls[k].ps.length ≤ total ls := by
  have h1 := sum_take_le (ls.map (fun e => e.ps.length)) (k + 1)
  rw [sum_get _ k (by simpa using h)] at h1
  simp at h1
  unfold total; omega

set_option maxRecDepth 100000 in
set_option maxHeartbeats 3200000 in
theorem toWrotesC (v : Value) (ls : List Wr) (B : Nat) (w : World) (hv : SeesW B w v ls) (hB : B ≤ w.heap.size) (hlen : total ls ≤ 1048576) :
    Calls Try.prog 19 #[v] w fun e w' => ∃ v', e = .returned v' ∧ OwnW w.heap.size w'.heap.size w' v' ls ∧ Below w.heap.size w w' := by
  obtain ⟨a, cap, rfl⟩ := hv.form
  obtain ⟨n, hn⟩ : ∃ n, ls.length = n := ⟨_, rfl⟩
  have hln : n ≤ 1048576 := by unfold total at hlen; omega
  rw [hn] at hv ⊢
  obtain ⟨w1, hB1, hs1, hmk, hO⟩ := make rowWx n (by omega) w w.heap.size (Nat.le_refl _)
  obtain ⟨g, hg⟩ : ∃ g, w.heap.size = g := ⟨_, rfl⟩
  rw [hg] at hmk hO hB1 hs1 hB ⊢
  have HV := (show Hid _ from hv)
  have HA := (show Hid (∀ k (h : k < ls.length), ls[k].ps.length ≤ 1048576) from fun k h => Nat.le_trans (total_at h) hlen)
  clear hv hlen
  go_enter Try.func19, Try.ntmps19
  go_wp2
  go_loopw [4] (fun i wr => ∃ k : Nat, k ≤ n ∧ i = .int .i64 k ∧ WRow g wr n ls k ∧ Below g w wr ∧ g < wr.heap.size) (fun i _ => n - (intOf i).toNat)
  case atStart => exact ⟨0, Nat.zero_le _, rfl, ⟨[], rfl, hO, fun x h => absurd h List.not_mem_nil, List.Pairwise.nil, rfl⟩, hB1, hs1⟩
  case round =>
    obtain ⟨k, hk, rfl, hR, hb, hgw⟩ := hrel
    clear hmk hO hB1 hs1
    by_cases hlt : k < n
    · obtain ⟨b, off, rfl, hbB, hc⟩ := SeesW.open HV.out (by omega)
      obtain ⟨p, c, e0, e1, e2, hs2⟩ := hc k (by omega)
      have c0 := (hb.cell (p := ⟨b, off + k * 3, none⟩) (by show b < g; omega)).trans e0
      have c1 := (hb.cell (p := ⟨b, off + k * 3 + 1, none⟩) (by show b < g; omega)).trans e1
      have c2 := (hb.cell (p := ⟨b, off + k * 3 + 2, none⟩) (by show b < g; omega)).trans e2
      have hs3 := hs2.on hb hB
      have hsl := HA.out k (by omega)
      obtain ⟨x, hx⟩ : ∃ x, ls[k] = x := ⟨_, rfl⟩
      have HX : Hid (ls[k] = x) := hx
      rw [hx] at c0 c1 c2 hs3 hsl
      obtain ⟨m, hm⟩ : ∃ m, x.ps.length = m := ⟨_, rfl⟩
      have HM : Hid (x.ps.length = m) := hm
      rw [hm] at c2 hs3 hsl
      have cT := toWroteE x.s x.who p m c x.ps B wr hs3 hm (by have := hb.size; omega) hsl
      have hsz := hb.size
      clear hc e0 e1 e2 hs2 hs3 hx hm
      go_wp2_with fail
      refine cT.mono ?_
      rintro e w2 ⟨a2, cap2, rfl, O2, hb2⟩
      have hR2 := hR.on hb2
      obtain ⟨xs2, q1, q2, q3⟩ := hR2.ex
      have hl2 : (xs2 ++ List.replicate (n - k) zx).length = n := by simp; omega
      obtain ⟨d0, d1, d2⟩ := at3 (own_at (E := wxEl) q2 k (by omega))
      obtain ⟨y, hy⟩ : ∃ y, (xs2 ++ List.replicate (n - k) zx)[k]'(by omega) = y := ⟨_, rfl⟩
      rw [hy] at d0 d1 d2
      change w2.cell? ⟨g, k * 3, none⟩ = _ at d0
      change w2.cell? ⟨g, k * 3 + 1, none⟩ = _ at d1
      change w2.cell? ⟨g, k * 3 + 2, none⟩ = _ at d2
      have hfz := fun j => q2.frozenAt j
      have hR3 := hR.step hb2 hgw hlt hn ⟨x.s, x.who, a2, m, cap2, x.ps⟩ HX.out.symm O2
      unfold setX at hR3
      have bz := (((hb.trans (hb2.mono (by omega))).setCell (p := ⟨g, k * 3, none⟩) (Nat.le_refl _) (.int .i64 x.s)).setCell (p := ⟨g, k * 3 + 1, none⟩) (Nat.le_refl _) (.int .i64 x.who)).setCell (p := ⟨g, k * 3 + 2, none⟩) (Nat.le_refl _) (.slice a2 m cap2)
      have hg2 : g < w2.heap.size := by have := hb2.size; omega
      clear hy q3 cT q1 q2 hl2 hR2
      go_wp2
      go_roundw
      case rel => exact ⟨k + 1, by omega, by go_num, hR3, bz, by simpa [World.setCell] using hg2⟩
      case measure => simp [intOf]; omega
    · obtain rfl : k = n := by omega
      go_wp2
      go_ret
      exact ⟨_, rfl, hR.done hn, hb⟩

set_option maxRecDepth 100000 in
set_option maxHeartbeats 800000 in
theorem eqWroteE (s who : Int) (p p' : Option Addr) (n c c' : Nat) (ps : List R2) (B : Nat) (w : World) (hv : Sees2 B w (.slice p n c) ps) (hv' : Sees2 B w (.slice p' n c') ps) (hB : B ≤ w.heap.size) :
    Calls Try.prog 52 #[.agg #[.int .i64 s, .int .i64 who, .slice p n c], .agg #[.int .i64 s, .int .i64 who, .slice p' n c']] w fun e w' => e = .returned (.bool true) ∧ Below w.heap.size w w' := by
  have hb0 := (alloc_below w (.cells #[.int .i64 s, .int .i64 who, .slice p n c] 33)).alloc (by simp) (.cells #[.int .i64 s, .int .i64 who, .slice p' n c'] 33)
  have c0 := eqRowsC _ _ ps B _ (hv.on hb0 hB) (hv'.on hb0 hB) (by simp; omega)
  go_enter Try.func52, Try.ntmps52
  go_wp2_with fail
  refine c0.mono ?_
  rintro e w1 ⟨rfl, hb⟩
  go_wp2
  go_ret
  exact ⟨rfl, hb0.trans (hb.mono (by simp; omega))⟩

set_option maxRecDepth 100000 in
set_option maxHeartbeats 1600000 in
theorem eqWrotesC (v v' : Value) (ls : List Wr) (B : Nat) (w : World) (hv : SeesW B w v ls) (hv' : SeesW B w v' ls) (hB : B ≤ w.heap.size) :
    Calls Try.prog 21 #[v, v'] w fun e w' => e = .returned (.bool true) ∧ Below w.heap.size w w' := by
  have hroom := hv.room
  obtain ⟨a, cap, rfl⟩ := hv.form
  obtain ⟨a', cap', rfl⟩ := hv'.form
  obtain ⟨n, hn⟩ : ∃ n, ls.length = n := ⟨_, rfl⟩
  rw [hn] at hv hv' hroom ⊢
  have hm : (n : Int) ≤ 9223372036854775807 := by unfold maxLen at hroom; omega
  have HV := (show Hid _ from hv)
  have HV' := (show Hid _ from hv')
  clear hv hv' hroom
  obtain ⟨g, hg⟩ : ∃ g, w.heap.size = g := ⟨_, rfl⟩
  rw [hg] at hB ⊢
  go_enter Try.func21, Try.ntmps21
  go_wp2
  go_loopw [5] (fun i wr => ∃ k : Nat, k ≤ n ∧ i = .int .i64 k ∧ Below g w wr) (fun i _ => n - (intOf i).toNat)
  case atStart => exact ⟨0, Nat.zero_le _, rfl, Below.refl _ _⟩
  case round =>
    obtain ⟨k, hk, rfl, hb⟩ := hrel
    by_cases hlt : k < n
    · obtain ⟨b, off, rfl, hbB, hc⟩ := SeesW.open HV.out (by omega)
      obtain ⟨b', off', rfl, hbB', hc'⟩ := SeesW.open HV'.out (by omega)
      obtain ⟨p, c, e0, e1, e2, p2⟩ := hc k (by omega)
      obtain ⟨p', c', e0', e1', e2', p2'⟩ := hc' k (by omega)
      have a0 := (hb.cell (p := ⟨b, off + k * 3, none⟩) (by show b < g; omega)).trans e0
      have a1 := (hb.cell (p := ⟨b, off + k * 3 + 1, none⟩) (by show b < g; omega)).trans e1
      have a2 := (hb.cell (p := ⟨b, off + k * 3 + 2, none⟩) (by show b < g; omega)).trans e2
      have d0 := (hb.cell (p := ⟨b', off' + k * 3, none⟩) (by show b' < g; omega)).trans e0'
      have d1 := (hb.cell (p := ⟨b', off' + k * 3 + 1, none⟩) (by show b' < g; omega)).trans e1'
      have d2 := (hb.cell (p := ⟨b', off' + k * 3 + 2, none⟩) (by show b' < g; omega)).trans e2'
      have hsz : g ≤ wr.heap.size := by have := hb.size; omega
      obtain ⟨x, hx⟩ : ∃ x, ls[k] = x := ⟨_, rfl⟩
      rw [hx] at a0 a1 a2 d0 d1 d2 p2 p2'
      obtain ⟨m, hm'⟩ : ∃ m, x.ps.length = m := ⟨_, rfl⟩
      rw [hm'] at a2 d2 p2 p2'
      have cT := fun W (h : Below g w W) => eqWroteE x.s x.who p p' m c c' x.ps B W (p2.on h hB) (p2'.on h hB) (by have := h.size; omega)
      have HT := (show Hid _ from cT)
      have HB := (show Hid _ from hb)
      clear hc hc' e0 e1 e2 e0' e1' e2' p2 p2' cT hx hm'
      go_wp2_with fail
      go_region_with (go_at_call 52; refine (HT.out _ ?_).mono ?_; (first | exact HB.out | exact HB.out.drew | exact HB.out.drew.drew); rintro e w2 ⟨rfl, hb2⟩)
      all_goals
        go_wp2
        go_roundw
        case rel =>
          refine ⟨k + 1, by omega, by go_num, ?_⟩
          first | exact hb.trans (hb2.mono hsz) | exact hb.drew.trans (hb2.mono hsz) | exact hb.drew.drew.trans (hb2.mono hsz)
        case measure => simp [intOf]; omega
    · obtain rfl : k = n := by omega
      go_wp2
      go_ret
      exact ⟨rfl, hb⟩

set_option maxRecDepth 100000 in
theorem szWroteE (s who : Int) (p : Option Addr) (n c : Nat) (left : Int) (w : World) (h0 : 0 ≤ left) (h1 : left ≤ 1048576) (hm : n ≤ maxLen) :
    Calls Try.prog 50 #[.agg #[.int .i64 s, .int .i64 who, .slice p n c], .int .i64 left] w fun e w' => e = .returned (.int .i64 (if (n : Int) ≤ left then left - n else -1)) ∧ Below w.heap.size w w' := by
  have c0 := fun W => szRowsC p n c left W h0 h1 hm
  have b0 := alloc_below w (.cells #[.int .i64 s, .int .i64 who, .slice p n c] 91)
  by_cases h : (n : Int) ≤ left
  · rw [if_pos h] at c0 ⊢
    obtain ⟨r, hr⟩ : ∃ r, left - (n : Int) = r := ⟨_, rfl⟩
    have hr0 : 0 ≤ r := by omega
    rw [hr] at c0 ⊢
    clear hr
    go_enter Try.func50, Try.ntmps50
    go_wp2_with fail
    refine (c0 _).mono ?_
    rintro e w1 ⟨rfl, rfl⟩
    go_wp2
    go_ret
    exact ⟨rfl, b0⟩
  · rw [if_neg h] at c0 ⊢
    go_enter Try.func50, Try.ntmps50
    go_wp2_with fail
    refine (c0 _).mono ?_
    rintro e w1 ⟨rfl, rfl⟩
    go_wp2
    go_ret
    exact ⟨rfl, b0⟩

set_option maxRecDepth 100000 in
set_option maxHeartbeats 1600000 in
theorem szWrotesC (v : Value) (ls : List Wr) (B : Nat) (w : World) (hv : SeesW B w v ls) (hB : B ≤ w.heap.size) :
    Calls Try.prog 18 #[v, .int .i64 1048576] w fun e w' => ∃ r : Int, e = .returned (.int .i64 r) ∧ Below w.heap.size w w' ∧ (r = -1 ∨ (0 ≤ r ∧ r + total ls = 1048576)) := by
  have hroom := hv.room
  obtain ⟨a, cap, rfl⟩ := hv.form
  obtain ⟨n, hn⟩ : ∃ n, ls.length = n := ⟨_, rfl⟩
  have hm : (n : Int) ≤ 9223372036854775807 := by unfold maxLen at hroom; omega
  have HT : Hid (total ls = n + ((ls.map (fun e => e.ps.length)).take n).sum) := by
    show _ = _
    unfold total
    rw [List.take_of_length_le (by simp; omega), hn]
  rw [hn] at hv ⊢
  obtain ⟨g, hg⟩ : ∃ g, w.heap.size = g := ⟨_, rfl⟩
  rw [hg] at hB ⊢
  clear hroom
  by_cases h : (n : Int) ≤ 1048576
  · have HV := (show Hid _ from hv)
    have b0 : Below g w w := Below.refl _ _
    clear hv
    go_enter Try.func18, Try.ntmps18
    go_wp2
    go_loopw [1, 5] (fun lv iv wr => ∃ (k : Nat) (l : Int), k ≤ n ∧ iv = .int .i64 k ∧ lv = .int .i64 l ∧ 0 ≤ l ∧ l + n + ((ls.map (fun e => e.ps.length)).take k).sum = 1048576 ∧ Below g w wr) (fun _ iv _ => n - (intOf iv).toNat)
    case atStart => exact ⟨0, 1048576 - n, Nat.zero_le _, rfl, by first | rfl | go_num, by omega, by simp, b0⟩
    case round =>
      obtain ⟨k, l, hk, rfl, rfl, hl0, hl, hb⟩ := hrel
      clear b0
      by_cases hlt : k < n
      · obtain ⟨b, off, rfl, hbB, hc⟩ := SeesW.open HV.out (by omega)
        obtain ⟨p, c, e0, e1, e2, p2⟩ := hc k (by omega)
        have a0 := (hb.cell (p := ⟨b, off + k * 3, none⟩) (by show b < g; omega)).trans e0
        have a1 := (hb.cell (p := ⟨b, off + k * 3 + 1, none⟩) (by show b < g; omega)).trans e1
        have a2 := (hb.cell (p := ⟨b, off + k * 3 + 2, none⟩) (by show b < g; omega)).trans e2
        have hsz : g ≤ wr.heap.size := by have := hb.size; omega
        have hrm := p2.room
        have HS : Hid (((ls.map (fun e => e.ps.length)).take (k + 1)).sum = ((ls.map (fun e => e.ps.length)).take k).sum + ls[k].ps.length) := by
          show _ = _
          rw [sum_get _ k (by simpa using (by omega : k < ls.length))]; simp
        obtain ⟨x, hx⟩ : ∃ x, ls[k] = x := ⟨_, rfl⟩
        rw [hx] at a0 a1 a2 hrm HS
        obtain ⟨m, hm'⟩ : ∃ m, x.ps.length = m := ⟨_, rfl⟩
        rw [hm'] at a2 hrm HS
        have cT := szWroteE x.s x.who p m c l wr hl0 (by omega) hrm
        have HL : Hid (l + n + ((ls.map (fun e => e.ps.length)).take k).sum = 1048576) := hl
        clear hc e0 e1 e2 p2 hx hm' hl
        by_cases hml : (m : Int) ≤ l
        · rw [if_pos hml] at cT
          obtain ⟨r, hr⟩ : ∃ r, l - (m : Int) = r := ⟨_, rfl⟩
          have hr0 : 0 ≤ r := by omega
          have HR : Hid (l - (m : Int) = r) := hr
          rw [hr] at cT
          clear hr
          go_wp2_with fail
          refine cT.mono ?_
          rintro e w2 ⟨rfl, hb2⟩
          go_wp2
          go_roundw
          case rel => exact ⟨k + 1, r, by omega, by go_num, rfl, hr0, by have := HL.out; have := HS.out; have := HR.out; omega, hb.trans (hb2.mono hsz)⟩
          case measure => simp [intOf]; omega
        · rw [if_neg hml] at cT
          go_wp2_with fail
          refine cT.mono ?_
          rintro e w2 ⟨rfl, hb2⟩
          go_wp2
          go_ret
          exact ⟨_, rfl, hb.trans (hb2.mono hsz), .inl rfl⟩
      · obtain rfl : k = n := by omega
        have HL : Hid (l + k + ((ls.map (fun e => e.ps.length)).take k).sum = 1048576) := hl
        clear hl
        go_wp2
        go_ret
        exact ⟨l, rfl, hb, .inr ⟨hl0, by have := HT.out; have := HL.out; omega⟩⟩
  · have h' : (1048576 : Int) < n := by omega
    go_enter Try.func18, Try.ntmps18
    go_wp2
    go_ret
    exact ⟨_, rfl, Below.refl _ _, .inl rfl⟩
end Hist
end Go.Proofs.Ytppikpdphcfomaa
