/- Where the machine's registers, things and marks lie while the specification's l7Walk goes on. -/
import Derived.Test.YtppkohkcffnghaaThRow
import Derived.Test.YtppkohkcffnghaaProgRow
import Derived.Test.YtppkohkcffnghaaSerialInv
set_option linter.unusedVariables false
set_option linter.unusedSimpArgs false
namespace Go.Proofs.Ytppkohkcffnghaa
open Go.RowKit
namespace Ops
open Bas Flat

/-- a mark in memory: five cells -/
structure M5 where
  pc : Int
  r : S3
  c : S3
  m : S3
  n : Int
def mkEl : El M5 where
  sz := 5
  cells x := [.int .i64 x.pc, x.r.val, x.c.val, x.m.val, .int .i64 x.n]
  len _ := rfl
  one x v hv := by simp [S3.val] at hv; rcases hv with rfl | rfl | rfl | rfl | rfl <;> rfl
  pos := by decide
def zM : M5 := ⟨0, z3, z3, z3, 0⟩
theorem rowMk : Row Try.prog mkEl 131 133 (.agg #[.int .i64 0, .slice none 0 0, .slice none 0 0, .slice none 0 0, .int .i64 0]) zM 88 := ⟨Try.underlying131, by kernel_rfl, rfl, by decide⟩
abbrev OwnsM (B : Nat) (W : World) (v : Value) (ms : List M5) : Prop := Owns mkEl 133 B W v ms
/-- the rows of a mark, and what they hold -/
def rowsOf (x : M5) (y : Mk) : List (Value × List Int) := [(x.r.val, y.r), (x.c.val, y.t.c), (x.m.val, y.t.m)]
/-- a mark in memory says what the mark is -/
def MkIs (x : M5) (y : Mk) : Prop := x.pc = (y.pc : Int) ∧ x.n = y.t.n
/-- rows that nobody writes into while the machine writes into its registers, cells and map -/
structure RowsIm (B : Nat) (W : World) (vr vc vm : Value) (l : List (Value × List Int)) : Prop where
  o : ∀ p ∈ l, Ints.Owns B W p.1 p.2
  d : ∀ p ∈ l, Dj vr p.1 ∧ Dj vc p.1 ∧ Dj vm p.1
/-- the rows of all marks, the outermost first -/
def marksIm : List M5 → List Mk → List (Value × List Int)
  | x :: ms, y :: ks => rowsOf x y ++ marksIm ms ks
  | _, _ => []
def MarksIs : List M5 → List Mk → Prop
  | [], [] => True
  | x :: ms, y :: ks => MkIs x y ∧ MarksIs ms ks
  | _, _ => False
theorem marksIm_snoc : ∀ (ms : List M5) (ks : List Mk) (x : M5) (y : Mk), ms.length = ks.length → marksIm (ms ++ [x]) (ks ++ [y]) = marksIm ms ks ++ rowsOf x y
  | [], [], x, y, _ => by simp [marksIm]
  | a :: ms, b :: ks, x, y, h => by
    have := marksIm_snoc ms ks x y (by simpa using h)
    simp [marksIm, this]
  | [], _ :: _, _, _, h => by simp at h
  | _ :: _, [], _, _, h => by simp at h
theorem marksIs_snoc : ∀ (ms : List M5) (ks : List Mk) (x : M5) (y : Mk), MarksIs (ms ++ [x]) (ks ++ [y]) ↔ MarksIs ms ks ∧ MkIs x y
  | [], [], x, y => by simp [MarksIs]
  | a :: ms, b :: ks, x, y => by
    have := marksIs_snoc ms ks x y
    simp only [List.cons_append, MarksIs, this, and_assoc]
  | [], b :: ks, x, y => by
    cases ks <;> simp [MarksIs]
  | a :: ms, [], x, y => by
    cases ms <;> simp [MarksIs]
theorem marksIs_len : ∀ (ms : List M5) (ks : List Mk), MarksIs ms ks → ms.length = ks.length
  | [], [], _ => rfl
  | _ :: ms, _ :: ks, h => by have := marksIs_len ms ks h.2; simp [this]
  | [], _ :: _, h => by simp [MarksIs] at h
  | _ :: _, [], h => by simp [MarksIs] at h
section
variable {B : Nat} {W W' : World} {vr vc vm v : Value} {l l' : List (Value × List Int)}
theorem RowsIm.keep (h : RowsIm B W vr vc vm l) (hk : ∀ k, vr.ownBlock ≠ some k → vc.ownBlock ≠ some k → vm.ownBlock ≠ some k → k < W.heap.size → B ≤ k → W'.heap[k]? = W.heap[k]?) : RowsIm B W' vr vc vm l :=
  { o := fun p hp => (h.o p hp).keep fun k e => hk k (fun e' => (h.d p hp).1 k e' e) (fun e' => (h.d p hp).2.1 k e' e) (fun e' => (h.d p hp).2.2 k e' e) ((h.o p hp).at k e).2 ((h.o p hp).at k e).1
    d := h.d }
theorem RowsIm.on (h : RowsIm B W vr vc vm l) (hb : Below W.heap.size W W') : RowsIm B W' vr vc vm l := h.keep fun k _ _ _ hk _ => hb.block k hk
/-- registers of another block, made later -/
theorem RowsIm.regs (h : RowsIm B W vr vc vm l) (hn : ∀ k, v.ownBlock = some k → W.heap.size ≤ k) : RowsIm B W v vc vm l :=
  { o := h.o, d := fun p hp => ⟨fun k e e' => by have := hn k e; have := ((h.o p hp).at k e').2; omega, (h.d p hp).2⟩ }
theorem RowsIm.app (h : RowsIm B W vr vc vm l) (h' : RowsIm B W vr vc vm l') : RowsIm B W vr vc vm (l ++ l') :=
  { o := fun p hp => (List.mem_append.1 hp).elim (h.o p) (h'.o p), d := fun p hp => (List.mem_append.1 hp).elim (h.d p) (h'.d p) }
theorem RowsIm.sub (h : RowsIm B W vr vc vm l) (hs : ∀ p ∈ l', p ∈ l) : RowsIm B W vr vc vm l' := { o := fun p hp => h.o p (hs p hp), d := fun p hp => h.d p (hs p hp) }
end

theorem own_blk {α : Type} {E : El α} {e : TypeId} {B : Nat} {W : World} {v : Value} {xs : List α} (h : Owns E e B W v xs) : ∀ k, v.ownBlock = some k → ∃ cur, W.heap[k]? = some (.cells cur e (0, 0)) := by
  intro k hk
  obtain ⟨h1, h2⟩ := h
  rcases h2 with ⟨rfl, h0⟩ | ⟨g, cap, cur, rfl, hg, hh, r⟩
  · cases hk
  · cases hk; exact ⟨cur, hh⟩
/-- where all lies -/
structure WSt (w W : World) (pR pS pT : Nat) (vr vc vm vk vc0 vm0 : Value) (ms : List M5) (s : Cf) (t0 : Th) : Prop where
  R : Blk W pR #[.int .i64 0, .slice none 0 0, .slice none 0 0, .slice none 0 0, .int .i64 0] 45
  S : Blk W pS #[vc, vm, .int .i64 s.t.n] 37
  T : Blk W pT #[vc0, vm0, .int .i64 t0.n] 37
  r : Ints.Owns w.heap.size W vr s.r
  c : Ints.Owns w.heap.size W vc s.t.c
  m : Ints.Owns w.heap.size W vm s.t.m
  d : Dj vr vc ∧ Dj vr vm ∧ Dj vc vm
  d0 : Dj vc0 vm0
  im : RowsIm w.heap.size W vr vc vm ((vc0, t0.c) :: (vm0, t0.m) :: marksIm ms s.k.reverse)
  k : OwnsM w.heap.size W vk ms
  is : MarksIs ms s.k.reverse
  b : Below w.heap.size w W
  p : w.heap.size ≤ pR ∧ w.heap.size ≤ pS ∧ w.heap.size ≤ pT ∧ pS ≠ pT
section
variable {w W W' : World} {pR pS pT : Nat} {vr vc vm vk vc0 vm0 : Value} {ms : List M5} {s : Cf} {t0 : Th}
theorem WSt.on (h : WSt w W pR pS pT vr vc vm vk vc0 vm0 ms s t0) (hb : Below W.heap.size W W') : WSt w W' pR pS pT vr vc vm vk vc0 vm0 ms s t0 :=
  { R := h.R.on hb h.R.lt, S := h.S.on hb h.S.lt, T := h.T.on hb h.T.lt, r := h.r.on hb (Nat.le_refl _), c := h.c.on hb (Nat.le_refl _), m := h.m.on hb (Nat.le_refl _), d := h.d, im := h.im.on hb, k := h.k.on hb (Nat.le_refl _), is := h.is, d0 := h.d0, b := h.b.trans (hb.mono h.b.size), p := h.p }
theorem WSt.pc (h : WSt w W pR pS pT vr vc vm vk vc0 vm0 ms s t0) (q : Nat) : WSt w W pR pS pT vr vc vm vk vc0 vm0 ms { s with pc := q } t0 :=
  { R := h.R, S := h.S, T := h.T, r := h.r, c := h.c, m := h.m, d := h.d, im := h.im, k := h.k, is := h.is, d0 := h.d0, b := h.b, p := h.p }
/-- a row of numbers does not lie in a block of another type -/
theorem int_off {B p : Nat} {v : Value} {zs : List Int} {cs : Array Value} {t : TypeId} (h : Ints.Owns B W v zs) (hb : Blk W p cs t) (hne : 3 ≠ t) : ∀ k, v.ownBlock = some k → k ≠ p := Owns.off (Ints.owns_iff.2 h) hb hne
theorem blk_set {p q i : Nat} {cs : Array Value} {t : TypeId} (h : Blk W p cs t) (hne : p ≠ q) (u : Value) : Blk (W.setCell ⟨q, i, none⟩ u) p cs t := h.other hne i u
/-- a store into the registers -/
theorem WSt.setR {g n cap : Nat} (h : WSt w W pR pS pT (.slice (some ⟨g, 0, none⟩) n cap) vc vm vk vc0 vm0 ms s t0) (i : Nat) (x : Int) : WSt w (W.setCell ⟨g, i, none⟩ (.int .i64 x)) pR pS pT (.slice (some ⟨g, 0, none⟩) n cap) vc vm vk vc0 vm0 ms { s with r := s.r.set i x } t0 := by
  have hg := h.r.at g rfl
  have oR := int_off h.r h.R (by decide) g rfl
  have oS := int_off h.r h.S (by decide) g rfl
  have oT := int_off h.r h.T (by decide) g rfl
  have hk : ∀ k, k ≠ g → (W.setCell ⟨g, i, none⟩ (.int .i64 x)).heap[k]? = W.heap[k]? := fun k hk => Below.heap_setCell W ⟨g, i, none⟩ _ k hk
  exact
  { R := h.R.other (by omega) i _, S := h.S.other (by omega) i _, T := h.T.other (by omega) i _
    r := by
      have := h.r
      unfold Ints.Owns at this ⊢
      have hl : s.r.length = n := by obtain ⟨a', c', e⟩ := h.r.form; injection e with _ e _; exact e.symm
      rw [hl] at this
      have h2 := Ints.owns_set this i x
      show World.ownsRow _ _ _ _ _ (s.r.set i x).length (Ints.iv (s.r.set i x))
      rw [List.length_set, hl]
      exact h2
    c := h.c.keep fun k e => hk k (fun e' => h.d.1 g rfl (by rw [← e']; exact e))
    m := h.m.keep fun k e => hk k (fun e' => h.d.2.1 g rfl (by rw [← e']; exact e))
    d := h.d
    im := h.im.keep fun k e _ _ _ _ => hk k (fun e' => e (by rw [e']; rfl))
    k := h.k.keep fun k e => hk k (fun e' => by
      obtain ⟨cur, hc⟩ := own_blk h.k k e
      obtain ⟨cur', hc'⟩ := own_blk (Ints.owns_iff.2 h.r) g rfl
      rw [e', hc'] at hc
      simp only [Option.some.injEq, Obj.cells.injEq] at hc
      exact absurd hc.2.1 (by decide))
    is := h.is
    d0 := h.d0
    b := h.b.setCell (by show w.heap.size ≤ g; omega) _
    p := h.p }
/-- a store into the cells -/
theorem WSt.setC {g n cap : Nat} (h : WSt w W pR pS pT vr (.slice (some ⟨g, 0, none⟩) n cap) vm vk vc0 vm0 ms s t0) (i : Nat) (x : Int) : WSt w (W.setCell ⟨g, i, none⟩ (.int .i64 x)) pR pS pT vr (.slice (some ⟨g, 0, none⟩) n cap) vm vk vc0 vm0 ms { s with t := { s.t with c := s.t.c.set i x } } t0 := by
  have hg := h.c.at g rfl
  have oR := int_off h.c h.R (by decide) g rfl
  have oS := int_off h.c h.S (by decide) g rfl
  have oT := int_off h.c h.T (by decide) g rfl
  have hk : ∀ k, k ≠ g → (W.setCell ⟨g, i, none⟩ (.int .i64 x)).heap[k]? = W.heap[k]? := fun k hk => Below.heap_setCell W ⟨g, i, none⟩ _ k hk
  exact
  { R := h.R.other (by omega) i _, S := h.S.other (by omega) i _, T := h.T.other (by omega) i _
    c := by
      have := h.c
      unfold Ints.Owns at this ⊢
      have hl : s.t.c.length = n := by obtain ⟨a', c', e⟩ := h.c.form; injection e with _ e _; exact e.symm
      rw [hl] at this
      have h2 := Ints.owns_set this i x
      show World.ownsRow _ _ _ _ _ (s.t.c.set i x).length (Ints.iv (s.t.c.set i x))
      rw [List.length_set, hl]
      exact h2
    r := h.r.keep fun k e => hk k (fun e' => h.d.1 k e (by rw [e']; rfl))
    m := h.m.keep fun k e => hk k (fun e' => h.d.2.2 g rfl (by rw [← e']; exact e))
    d := h.d
    im := h.im.keep fun k e1 e2 e3 _ _ => hk k (fun e' => e2 (by rw [e']; rfl))
    k := h.k.keep fun k e => hk k (fun e' => by
      obtain ⟨cur, hc⟩ := own_blk h.k k e
      obtain ⟨cur', hc'⟩ := own_blk (Ints.owns_iff.2 h.c) g rfl
      rw [e', hc'] at hc
      simp only [Option.some.injEq, Obj.cells.injEq] at hc
      exact absurd hc.2.1 (by decide))
    is := h.is
    d0 := h.d0
    b := h.b.setCell (by show w.heap.size ≤ g; omega) _
    p := h.p }
/-- a store into the map -/
theorem WSt.setM {g n cap : Nat} (h : WSt w W pR pS pT vr vc (.slice (some ⟨g, 0, none⟩) n cap) vk vc0 vm0 ms s t0) (i : Nat) (x : Int) : WSt w (W.setCell ⟨g, i, none⟩ (.int .i64 x)) pR pS pT vr vc (.slice (some ⟨g, 0, none⟩) n cap) vk vc0 vm0 ms { s with t := { s.t with m := s.t.m.set i x } } t0 := by
  have hg := h.m.at g rfl
  have oR := int_off h.m h.R (by decide) g rfl
  have oS := int_off h.m h.S (by decide) g rfl
  have oT := int_off h.m h.T (by decide) g rfl
  have hk : ∀ k, k ≠ g → (W.setCell ⟨g, i, none⟩ (.int .i64 x)).heap[k]? = W.heap[k]? := fun k hk => Below.heap_setCell W ⟨g, i, none⟩ _ k hk
  exact
  { R := h.R.other (by omega) i _, S := h.S.other (by omega) i _, T := h.T.other (by omega) i _
    m := by
      have := h.m
      unfold Ints.Owns at this ⊢
      have hl : s.t.m.length = n := by obtain ⟨a', c', e⟩ := h.m.form; injection e with _ e _; exact e.symm
      rw [hl] at this
      have h2 := Ints.owns_set this i x
      show World.ownsRow _ _ _ _ _ (s.t.m.set i x).length (Ints.iv (s.t.m.set i x))
      rw [List.length_set, hl]
      exact h2
    r := h.r.keep fun k e => hk k (fun e' => h.d.2.1 k e (by rw [e']; rfl))
    c := h.c.keep fun k e => hk k (fun e' => h.d.2.2 k e (by rw [e']; rfl))
    d := h.d
    im := h.im.keep fun k e1 e2 e3 _ _ => hk k (fun e' => e3 (by rw [e']; rfl))
    k := h.k.keep fun k e => hk k (fun e' => by
      obtain ⟨cur, hc⟩ := own_blk h.k k e
      obtain ⟨cur', hc'⟩ := own_blk (Ints.owns_iff.2 h.m) g rfl
      rw [e', hc'] at hc
      simp only [Option.some.injEq, Obj.cells.injEq] at hc
      exact absurd hc.2.1 (by decide))
    is := h.is
    d0 := h.d0
    b := h.b.setCell (by show w.heap.size ≤ g; omega) _
    p := h.p }
/-- other registers, made behind what lies there -/
theorem WSt.newR (h : WSt w W pR pS pT vr vc vm vk vc0 vm0 ms s t0) (hb : Below W.heap.size W W') {v : Value} {r' : List Int} (hv : Ints.Owns W.heap.size W' v r') : WSt w W' pR pS pT v vc vm vk vc0 vm0 ms { s with r := r' } t0 := by
  have h' := h.on hb
  have hn := fun k e => (hv.at k e).1
  exact
  { R := h'.R, S := h'.S, T := h'.T, r := hv.mono h.b.size, c := h'.c, m := h'.m
    d := ⟨fun k e e' => by have := hn k e; have := (h.c.at k e').2; omega, fun k e e' => by have := hn k e; have := (h.m.at k e').2; omega, h.d.2.2⟩
    im := { o := h'.im.o, d := fun q hq => ⟨fun k e e' => by have := hn k e; have := ((h.im.o q hq).at k e').2; omega, (h.im.d q hq).2⟩ }
    k := h'.k, is := h.is, d0 := h.d0, b := h'.b, p := h.p }
/-- the counter -/
theorem WSt.setN (h : WSt w W pR pS pT vr vc vm vk vc0 vm0 ms s t0) (x : Int) : WSt w (W.setCell ⟨pS, 2, none⟩ (.int .i64 x)) pR pS pT vr vc vm vk vc0 vm0 ms { s with t := { s.t with n := x } } t0 := by
  have hk : ∀ k, k ≠ pS → (W.setCell ⟨pS, 2, none⟩ (.int .i64 x)).heap[k]? = W.heap[k]? := fun k hk => Below.heap_setCell W ⟨pS, 2, none⟩ _ k hk
  have hp := h.p
  have hRS : pR ≠ pS := by
    intro e
    have a := h.R
    have b := h.S
    unfold Blk at a b
    rw [e, b] at a
    simp only [Option.some.injEq, Obj.cells.injEq] at a
    exact absurd a.2.1 (by decide)
  exact
  { R := h.R.other hRS 2 _, S := h.S.set 2 _, T := h.T.other (by omega) 2 _
    r := h.r.keep fun k e => hk k (int_off h.r h.S (by decide) k e)
    c := h.c.keep fun k e => hk k (int_off h.c h.S (by decide) k e)
    m := h.m.keep fun k e => hk k (int_off h.m h.S (by decide) k e)
    d := h.d
    im := { o := fun q hq => (h.im.o q hq).keep fun k e => hk k (int_off (h.im.o q hq) h.S (by decide) k e), d := h.im.d }
    k := h.k.keep fun k e => hk k (h.k.off h.S (by decide) k e)
    is := h.is
    d0 := h.d0
    b := h.b.setCell (by show w.heap.size ≤ pS; omega) _
    p := h.p }
/-- other things, made behind what lies there, and stored -/
theorem WSt.newT (h : WSt w W pR pS pT vr vc vm vk vc0 vm0 ms s t0) (hb : Below W.heap.size W W') {vc' vm' : Value} {t' : Th} (ho : OwnT W.heap.size W' vc' vm' t') :
    WSt w (((W'.setCell ⟨pS, 0, none⟩ vc').setCell ⟨pS, 1, none⟩ vm').setCell ⟨pS, 2, none⟩ (.int .i64 t'.n)) pR pS pT vr vc' vm' vk vc0 vm0 ms { s with t := t' } t0 := by
  have h' := h.on hb
  have hc := fun k e => (ho.c.at k e).1
  have hm := fun k e => (ho.m.at k e).1
  have hp := h.p
  have hlt := h.S.lt
  have hRS : pR ≠ pS := by
    intro e
    have a := h.R
    have b := h.S
    unfold Blk at a b
    rw [e, b] at a
    simp only [Option.some.injEq, Obj.cells.injEq] at a
    exact absurd a.2.1 (by decide)
  have hk : ∀ k, k ≠ pS → (((W'.setCell ⟨pS, 0, none⟩ vc').setCell ⟨pS, 1, none⟩ vm').setCell ⟨pS, 2, none⟩ (.int .i64 t'.n)).heap[k]? = W'.heap[k]? := fun k hk => by
    rw [Below.heap_setCell _ ⟨pS, 2, none⟩ _ k hk, Below.heap_setCell _ ⟨pS, 1, none⟩ _ k hk, Below.heap_setCell _ ⟨pS, 0, none⟩ _ k hk]
  exact
  { R := ((h'.R.other hRS 0 _).other hRS 1 _).other hRS 2 _
    S := ((h'.S.set 0 _).set 1 _).set 2 _
    T := ((h'.T.other (by omega) 0 _).other (by omega) 1 _).other (by omega) 2 _
    r := h'.r.keep fun k e => hk k (int_off h'.r h'.S (by decide) k e)
    c := (ho.c.keep fun k e => hk k (by have := hc k e; omega)).mono h.b.size
    m := (ho.m.keep fun k e => hk k (by have := hm k e; omega)).mono h.b.size
    d := ⟨fun k e e' => by have := (h.r.at k e).2; have := hc k e'; omega, fun k e e' => by have := (h.r.at k e).2; have := hm k e'; omega, ho.d⟩
    im := { o := fun q hq => (h'.im.o q hq).keep fun k e => hk k (int_off (h'.im.o q hq) h'.S (by decide) k e)
            d := fun q hq => ⟨(h.im.d q hq).1, fun k e e' => by have := hc k e; have := ((h.im.o q hq).at k e').2; omega, fun k e e' => by have := hm k e; have := ((h.im.o q hq).at k e').2; omega⟩ }
    k := h'.k.keep fun k e => hk k (h'.k.off h'.S (by decide) k e)
    is := h.is
    d0 := h.d0
    b := ((h'.b.setCell (p := ⟨pS, 0, none⟩) (by show w.heap.size ≤ pS; omega) _).setCell (p := ⟨pS, 1, none⟩) (by show w.heap.size ≤ pS; omega) _).setCell (p := ⟨pS, 2, none⟩) (by show w.heap.size ≤ pS; omega) _
    p := h.p }
/-- the innermost mark is taken away -/
theorem popM {B g n cap : Nat} {W : World} {xs : List M5} {x : M5} (h : OwnsM B W (.slice (some ⟨g, 0, none⟩) (n + 1) cap) (xs ++ [x])) (hn : xs.length = n) : OwnsM B W (.slice (some ⟨g, 0, none⟩) n cap) xs := by
  obtain ⟨h1, h2⟩ := h
  rcases h2 with ⟨e, -⟩ | ⟨g', cap', cur, e, hg, hh, r1, r2, r3, r4⟩
  · cases e
  · injection e with e1 e2 e3
    injection e1 with e1
    injection e1 with e1 _ _
    subst e1
    subst e3
    refine ⟨by rw [fv_length], .inr ⟨g, cap, cur, by rw [hn], hg, hh, by rw [hn]; omega, r2, r3, ?_⟩⟩
    have h5 : cur.toList.take (xs.length * mkEl.sz) = (cur.toList.take ((xs ++ [x]).length * mkEl.sz)).take (xs.length * mkEl.sz) := by
      rw [List.take_take, Nat.min_eq_left (Nat.mul_le_mul_right _ (by simp))]
    rw [h5, r4, fv_append, List.take_left' (fv_length xs)]
theorem WSt.pop {g n cap : Nat} {x : M5} {y : Mk} {ks : List Mk} (h : WSt w W pR pS pT vr vc vm (.slice (some ⟨g, 0, none⟩) (n + 1) cap) vc0 vm0 (ms ++ [x]) s t0) (hn : ms.length = n) (hk : s.k = y :: ks) :
    WSt w W pR pS pT vr vc vm (.slice (some ⟨g, 0, none⟩) n cap) vc0 vm0 ms { s with k := ks } t0 ∧ MkIs x y ∧ RowsIm w.heap.size W vr vc vm (rowsOf x y) := by
  have hrev : s.k.reverse = ks.reverse ++ [y] := by rw [hk]; simp
  have his := h.is
  rw [hrev, marksIs_snoc] at his
  have hl := marksIs_len _ _ his.1
  have him := h.im
  rw [hrev, marksIm_snoc _ _ _ _ hl] at him
  refine ⟨{ R := h.R, S := h.S, T := h.T, r := h.r, c := h.c, m := h.m, d := h.d, im := him.sub (fun q hq => ?_), k := popM h.k hn, is := his.1, d0 := h.d0, b := h.b, p := h.p }, his.2, him.sub (fun q hq => ?_)⟩
  · simp only [List.mem_cons, List.mem_append] at hq ⊢
    rcases hq with hq | hq | hq
    · exact .inl hq
    · exact .inr (.inl hq)
    · exact .inr (.inr (.inl hq))
  · simp only [List.mem_cons, List.mem_append]
    exact .inr (.inr (.inr hq))
theorem seesOneM (W : World) (x : M5) (t : TypeId) : Sees mkEl (W.heap.size + 1) (W.alloc (.cells #[.int .i64 x.pc, x.r.val, x.c.val, x.m.val, .int .i64 x.n] t)) (.slice (some ⟨W.heap.size, 0, none⟩) 1 1) [x] :=
  ⟨_, 1, rfl, by simp, by unfold maxLen; omega, fun _ => ⟨W.heap.size, 0, rfl, by omega, fun j hj => by
    have hj0 : j = 0 := by simpa using hj
    subst hj0
    intro i u hu
    have hb : Blk (W.alloc (.cells #[.int .i64 x.pc, x.r.val, x.c.val, x.m.val, .int .i64 x.n] t)) W.heap.size #[.int .i64 x.pc, x.r.val, x.c.val, x.m.val, .int .i64 x.n] t := Blk.new W _ _
    simp only [Nat.zero_mul, Nat.zero_add]
    rw [hb.cell]
    change [Value.int .i64 x.pc, x.r.val, x.c.val, x.m.val, .int .i64 x.n][i]? = some u at hu
    simpa using hu⟩⟩
/-- append(marks, mark): the copies were made behind what lay there -/
theorem WSt.push (h : WSt w W pR pS pT vr vc vm vk vc0 vm0 ms s t0) (hb : Below W.heap.size W W') (hlen : ms.length ≤ 1000) (x : M5) (hx : x.pc = (s.pc : Int) ∧ x.n = s.t.n) (h1 : Ints.Owns W.heap.size W' x.r.val s.r) (h2 : Ints.Owns W.heap.size W' x.c.val s.t.c) (h3 : Ints.Owns W.heap.size W' x.m.val s.t.m) :
    ∃ v' W'', (Builtin.append_ #[131, 131] 131 #[vk, .slice (some ⟨W'.heap.size, 0, none⟩) 1 1]).run Try.prog (W'.alloc (.cells #[.int .i64 x.pc, x.r.val, x.c.val, x.m.val, .int .i64 x.n] 133)) = .ok v' W'' ∧ WSt w W'' pR pS pT vr vc vm v' vc0 vm0 (ms ++ [x]) { s with k := ⟨s.pc, s.r, s.t⟩ :: s.k } t0 := by
  have h' := h.on hb
  have bA := alloc_below W' (.cells #[.int .i64 x.pc, x.r.val, x.c.val, x.m.val, .int .i64 x.n] 133)
  have hA := h'.on bA
  have hs : w.heap.size ≤ (W'.alloc (.cells #[.int .i64 x.pc, x.r.val, x.c.val, x.m.val, .int .i64 x.n] 133)).heap.size := by have := hA.b.size; exact this
  obtain ⟨v', W'', hr, hO, hG, -⟩ := app rowMk vk _ 131 ms [x] _ w.heap.size _ hA.k hs (seesOneM W' x _) (by simp; omega)
  refine ⟨v', W'', hr, ?_⟩
  have hk : ∀ k, vk.ownBlock ≠ some k → k < (W'.alloc (.cells #[.int .i64 x.pc, x.r.val, x.c.val, x.m.val, .int .i64 x.n] 133)).heap.size → W''.heap[k]? = (W'.alloc (.cells #[.int .i64 x.pc, x.r.val, x.c.val, x.m.val, .int .i64 x.n] 133)).heap[k]? := fun k hne hlt => hG.block k hlt (fun e => hne e.symm)
  have ne : ∀ {v : Value} {zs : List Int} {B : Nat}, Ints.Owns B (W'.alloc (.cells #[.int .i64 x.pc, x.r.val, x.c.val, x.m.val, .int .i64 x.n] 133)) v zs → ∀ k, v.ownBlock = some k → vk.ownBlock ≠ some k := fun ho k e e' => by
    obtain ⟨cur, hc⟩ := own_blk hA.k k e'
    obtain ⟨cur', hc'⟩ := own_blk (Ints.owns_iff.2 ho) k e
    rw [hc'] at hc
    simp only [Option.some.injEq, Obj.cells.injEq] at hc
    exact absurd hc.2.1 (by decide)
  have own : ∀ {v : Value} {zs : List Int} {B : Nat}, Ints.Owns B (W'.alloc (.cells #[.int .i64 x.pc, x.r.val, x.c.val, x.m.val, .int .i64 x.n] 133)) v zs → Ints.Owns B W'' v zs := fun ho => ho.keep fun k e => hk k (ne ho k e) (ho.at k e).2
  have blk : ∀ {p : Nat} {cs : Array Value} {t : TypeId}, Blk (W'.alloc (.cells #[.int .i64 x.pc, x.r.val, x.c.val, x.m.val, .int .i64 x.n] 133)) p cs t → 133 ≠ t → Blk W'' p cs t := fun hB ht => hB.grown hG (fun e => hA.k.off hB ht _ e.symm rfl)
  have h1' := own (h1.on bA (Nat.le_refl _))
  have h2' := own (h2.on bA (Nat.le_refl _))
  have h3' := own (h3.on bA (Nat.le_refl _))
  have dj : ∀ {v u : Value} {zs ys : List Int}, Ints.Owns w.heap.size W v zs → Ints.Owns W.heap.size W'' u ys → Dj v u := fun a b k e e' => by
    have := (a.at k e).2
    have := (b.at k e').1
    omega
  have hrev : ({ s with k := ⟨s.pc, s.r, s.t⟩ :: s.k } : Cf).k.reverse = s.k.reverse ++ [⟨s.pc, s.r, s.t⟩] := by simp
  have hl := marksIs_len _ _ h.is
  exact
  { R := blk hA.R (by decide), S := blk hA.S (by decide), T := blk hA.T (by decide), r := own hA.r, c := own hA.c, m := own hA.m, d := h.d
    im := by
      rw [hrev, marksIm_snoc _ _ _ _ hl]
      have e : (vc0, t0.c) :: (vm0, t0.m) :: (marksIm ms s.k.reverse ++ rowsOf x ⟨s.pc, s.r, s.t⟩) = ((vc0, t0.c) :: (vm0, t0.m) :: marksIm ms s.k.reverse) ++ rowsOf x ⟨s.pc, s.r, s.t⟩ := rfl
      rw [e]
      refine RowsIm.app { o := fun q hq => own (hA.im.o q hq), d := h.im.d } { o := fun q hq => ?_, d := fun q hq => ?_ }
      · simp only [rowsOf, List.mem_cons, List.not_mem_nil, or_false] at hq
        rcases hq with rfl | rfl | rfl
        · exact h1'.mono h.b.size
        · exact h2'.mono h.b.size
        · exact h3'.mono h.b.size
      · simp only [rowsOf, List.mem_cons, List.not_mem_nil, or_false] at hq
        rcases hq with rfl | rfl | rfl
        · exact ⟨dj h.r h1', dj h.c h1', dj h.m h1'⟩
        · exact ⟨dj h.r h2', dj h.c h2', dj h.m h2'⟩
        · exact ⟨dj h.r h3', dj h.c h3', dj h.m h3'⟩
    k := hO
    is := by rw [hrev, marksIs_snoc]; exact ⟨h.is, hx⟩
    d0 := h.d0
    b := hA.b.grown hG hs (fun k hk => (hA.k.at k hk).1)
    p := h.p }
/-- where all lies at first: the copies of the registers and of the things, the latter stored -/
theorem WSt.start {pc : Nat} {r : List Int} {t : Th} {u0 u1 u2 : Value} (hR : Blk W pR #[.int .i64 0, .slice none 0 0, .slice none 0 0, .slice none 0 0, .int .i64 0] 45) (hS : Blk W pS #[u0, u1, u2] 37) (hT : Blk W pT #[vc0, vm0, .int .i64 t.n] 37)
    (hr : Ints.Owns w.heap.size W vr r) (h0 : OwnT w.heap.size W vc0 vm0 t) (h1 : OwnT w.heap.size W vc vm t) (hd : Dj vr vc ∧ Dj vr vm) (hd0 : Dj vr vc0 ∧ Dj vr vm0 ∧ Dj vc vc0 ∧ Dj vc vm0 ∧ Dj vm vc0 ∧ Dj vm vm0) (hb : Below w.heap.size w W) (hp : w.heap.size ≤ pR ∧ w.heap.size ≤ pS ∧ w.heap.size ≤ pT ∧ pS ≠ pT) :
    WSt w (((W.setCell ⟨pS, 0, none⟩ vc).setCell ⟨pS, 1, none⟩ vm).setCell ⟨pS, 2, none⟩ (.int .i64 t.n)) pR pS pT vr vc vm (.slice none 0 0) vc0 vm0 [] ⟨pc, r, t, []⟩ t := by
  have hRS : pR ≠ pS := by
    intro e
    have a := hR
    have b := hS
    unfold Blk at a b
    rw [e, b] at a
    simp only [Option.some.injEq, Obj.cells.injEq] at a
    exact absurd a.2.1 (by decide)
  have hk : ∀ k, k ≠ pS → (((W.setCell ⟨pS, 0, none⟩ vc).setCell ⟨pS, 1, none⟩ vm).setCell ⟨pS, 2, none⟩ (.int .i64 t.n)).heap[k]? = W.heap[k]? := fun k hk => by
    rw [Below.heap_setCell _ ⟨pS, 2, none⟩ _ k hk, Below.heap_setCell _ ⟨pS, 1, none⟩ _ k hk, Below.heap_setCell _ ⟨pS, 0, none⟩ _ k hk]
  have own : ∀ {v : Value} {zs : List Int} {B : Nat}, Ints.Owns B W v zs → Ints.Owns B (((W.setCell ⟨pS, 0, none⟩ vc).setCell ⟨pS, 1, none⟩ vm).setCell ⟨pS, 2, none⟩ (.int .i64 t.n)) v zs := fun ho => ho.keep fun k e => hk k (int_off ho hS (by decide) k e)
  exact
  { R := ((hR.other hRS 0 _).other hRS 1 _).other hRS 2 _
    S := ((hS.set 0 _).set 1 _).set 2 _
    T := ((hT.other (by omega) 0 _).other (by omega) 1 _).other (by omega) 2 _
    r := own hr, c := own h1.c, m := own h1.m, d := ⟨hd.1, hd.2, h1.d⟩
    im := { o := fun q hq => by
              simp only [marksIm, List.reverse_nil, List.mem_cons, List.not_mem_nil, or_false] at hq
              rcases hq with rfl | rfl
              · exact own h0.c
              · exact own h0.m
            d := fun q hq => by
              simp only [marksIm, List.reverse_nil, List.mem_cons, List.not_mem_nil, or_false] at hq
              rcases hq with rfl | rfl
              · exact ⟨hd0.1, hd0.2.2.1, hd0.2.2.2.2.1⟩
              · exact ⟨hd0.2.1, hd0.2.2.2.1, hd0.2.2.2.2.2⟩ }
    k := Owns.nil _ _ _ _
    is := trivial
    d0 := h0.d
    b := ((hb.setCell (p := ⟨pS, 0, none⟩) (by show w.heap.size ≤ pS; omega) _).setCell (p := ⟨pS, 1, none⟩) (by show w.heap.size ≤ pS; omega) _).setCell (p := ⟨pS, 2, none⟩) (by show w.heap.size ≤ pS; omega) _
    p := hp }
theorem WSt.marks0 (h : WSt w W pR pS pT vr vc vm vk vc0 vm0 [] s t0) : WSt w (W.alloc (.cells #[] 133)) pR pS pT vr vc vm (.slice (some ⟨W.heap.size, 0, none⟩) 0 0) vc0 vm0 [] s t0 :=
  { h.on (alloc_below W _) with k := World.ownsRow_lit W #[] 0 h.b.size (by simp [maxLen]) rfl }
/-- a number of a row that is owned: its cell, which may be written -/
theorem int_cell {B g n cap : Nat} {zs : List Int} (h : Ints.Owns B W (.slice (some ⟨g, 0, none⟩) n cap) zs) (j : Nat) (hj : j < zs.length) : W.cell? ⟨g, j, none⟩ = some (.int .i64 (rd zs (j : Int))) ∧ W.frozen? ⟨g, j, none⟩ = false := by
  have hl : zs.length = n := by obtain ⟨a', c', e⟩ := h.form; injection e with _ e _; exact e.symm
  have h' : W.ownsRow B 3 1 (.slice (some ⟨g, 0, none⟩) n cap) n (Ints.iv zs) := by unfold Ints.Owns at h; rw [hl] at h; exact h
  have e : rd zs (j : Int) = zs[j] := by unfold rd; rw [Int.toNat_natCast, List.getD_eq_getElem?_getD, List.getElem?_eq_getElem hj]; rfl
  rw [e]
  exact ⟨Ints.owns_at h' j hj, h'.frozenAt j⟩
theorem WSt.drew (h : WSt w W pR pS pT vr vc vm vk vc0 vm0 ms s t0) : WSt w W.drew pR pS pT vr vc vm vk vc0 vm0 ms s t0 := h.on ⟨rfl, rfl, rfl, Nat.le_refl _, fun _ _ => rfl⟩
/-- the innermost mark -/
theorem marks_last {ms : List M5} {y : Mk} {ks : List Mk} (h : MarksIs ms (y :: ks).reverse) : ∃ ms' x, ms = ms' ++ [x] ∧ ms'.length = ks.length := by
  have hl := marksIs_len _ _ h
  rcases List.eq_nil_or_concat ms with rfl | ⟨ms', x, rfl⟩
  · simp at hl
  · exact ⟨ms', x, by rw [List.concat_eq_append], by simp at hl; exact hl⟩
theorem mark_cells {B g n cap : Nat} {xs : List M5} {x : M5} (h : OwnsM B W (.slice (some ⟨g, 0, none⟩) (n + 1) cap) (xs ++ [x])) (hn : xs.length = n) :
    (W.cell? ⟨g, n * 5, none⟩ = some (.int .i64 x.pc) ∧ W.cell? ⟨g, n * 5 + 1, none⟩ = some x.r.val ∧ W.cell? ⟨g, n * 5 + 2, none⟩ = some x.c.val ∧ W.cell? ⟨g, n * 5 + 3, none⟩ = some x.m.val ∧ W.cell? ⟨g, n * 5 + 4, none⟩ = some (.int .i64 x.n)) ∧ n + 1 ≤ cap := by
  have h' : W.ownsRow B 133 mkEl.sz (.slice (some ⟨g, 0, none⟩) (n + 1) cap) (n + 1) (fv mkEl (xs ++ [x])) := by
    have : (xs ++ [x]).length = n + 1 := by simp [hn]
    have h2 : W.ownsRow B 133 mkEl.sz (.slice (some ⟨g, 0, none⟩) (n + 1) cap) (xs ++ [x]).length (fv mkEl (xs ++ [x])) := h
    rw [this] at h2; exact h2
  have ha := own_at h' n (by simp [hn])
  have e : (xs ++ [x])[n]'(by simp [hn]) = x := by
    subst hn
    rw [List.getElem_append_right (Nat.le_refl _)]; simp
  rw [e] at ha
  refine ⟨⟨ha 0 _ rfl, ha 1 _ rfl, ha 2 _ rfl, ha 3 _ rfl, ha 4 _ rfl⟩, ?_⟩
  rcases h'.2 with ⟨e, -⟩ | ⟨g', cap', cur, e, -, -, r1, -⟩
  · cases e
  · injection e with _ _ e; rw [e]; exact r1
end
end Ops
end Go.Proofs.Ytppkohkcffnghaa
