/- Several texts of one proof, in build order: SerLawSt, SerLawSt2. -/
import Derived.Test.YtajbmokidcdfnaaSB2
import Derived.Test.YtajbmokidcdfnaaSB4
import Derived.Test.YtajbmokidcdfnaaSB19
/- What the law of Serial holds of its arguments. -/
set_option linter.unusedVariables false
set_option linter.unusedSimpArgs false
namespace Go.Proofs.Ytajbmokidcdfnaa
open Go.RowKit
namespace Ops
open Bas Flat

/-- what the law holds of its arguments: a program, an order, things -/
structure LSr (w W : World) (vC vK vO vc vm : Value) (xs : List O4) (kss : List (List O4)) (zs : List Int) (t : Th) : Prop where
  p : Blk W w.heap.size #[vC, vK] 70
  s : Blk W (w.heap.size + 1) #[vc, vm, .int .i64 t.n] 71
  P : SeesP w.heap.size W vC vK xs kss
  O : Ints.Sees w.heap.size W vO zs
  T : SeeT w.heap.size W vc vm t
  b : Below w.heap.size w W
section
variable {w W W' : World} {vC vK vO vc vm : Value} {xs : List O4} {kss : List (List O4)} {zs : List Int} {t : Th}
theorem LSr.onG (h : LSr w W vC vK vO vc vm xs kss zs t) (hb : Below w.heap.size W W') (h0 : W'.heap[w.heap.size]? = W.heap[w.heap.size]?) (h1 : W'.heap[w.heap.size + 1]? = W.heap[w.heap.size + 1]?) : LSr w W' vC vK vO vc vm xs kss zs t :=
  { p := h0.trans h.p, s := h1.trans h.s, P := h.P.on hb (Nat.le_refl _), O := h.O.on hb (Nat.le_refl _), T := h.T.on hb (Nat.le_refl _), b := h.b.trans hb }
theorem LSr.big (h : LSr w W vC vK vO vc vm xs kss zs t) : w.heap.size + 1 < W.heap.size := h.s.lt
theorem LSr.on (h : LSr w W vC vK vO vc vm xs kss zs t) (hb : Below W.heap.size W W') : LSr w W' vC vK vO vc vm xs kss zs t :=
  h.onG (hb.mono h.b.size) (hb.block _ (by have := h.big; omega)) (hb.block _ h.big)
theorem LSr.drew (h : LSr w W vC vK vO vc vm xs kss zs t) : LSr w W.drew vC vK vO vc vm xs kss zs t := h.on ⟨rfl, rfl, rfl, Nat.le_refl _, fun _ _ => rfl⟩
theorem LSr.cell (h : LSr w W vC vK vO vc vm xs kss zs t) {N : Nat} (hN : w.heap.size + 1 < N) (i : Nat) (u : Value) : LSr w (W.setCell ⟨N, i, none⟩ u) vC vK vO vc vm xs kss zs t :=
  h.onG ((Below.refl w.heap.size W).setCell (by show w.heap.size ≤ N; omega) _) (Below.heap_setCell _ _ _ _ (by show w.heap.size ≠ N; omega)) (Below.heap_setCell _ _ _ _ (by show w.heap.size + 1 ≠ N; omega))
theorem LSr.new (w : World) (vC vK vO vc vm : Value) (xs : List O4) (kss : List (List O4)) (zs : List Int) (t : Th) (hP : SeesP w.heap.size w vC vK xs kss) (hO : Ints.Sees w.heap.size w vO zs) (hT : SeeT w.heap.size w vc vm t) :
    LSr w ((w.alloc (.cells #[vC, vK] 70)).alloc (.cells #[vc, vm, .int .i64 t.n] 71)) vC vK vO vc vm xs kss zs t := by
  have a1 := alloc_below w (.cells #[vC, vK] 70)
  have M1 := Blk.new w #[vC, vK] 70
  have z1 : (w.alloc (.cells #[vC, vK] 70)).heap.size = w.heap.size + 1 := by simp
  obtain ⟨w1, hw1⟩ : ∃ W, w.alloc (.cells #[vC, vK] 70) = W := ⟨_, rfl⟩
  rw [hw1] at a1 M1 z1 ⊢
  have a2 := alloc_below w1 (.cells #[vc, vm, .int .i64 t.n] 71)
  have P2 := Blk.new w1 #[vc, vm, .int .i64 t.n] 71
  rw [z1] at P2
  have b2 := a1.trans (a2.mono (by omega))
  exact { p := M1.on a2 M1.lt, s := P2, P := hP.on b2 (Nat.le_refl _), O := hO.on b2 (Nat.le_refl _), T := hT.on b2 (Nat.le_refl _), b := b2 }
theorem LSr.cells (h : LSr w W vC vK vO vc vm xs kss zs t) : W.cell? ⟨w.heap.size, 0, none⟩ = some vC ∧ W.cell? ⟨w.heap.size, 1, none⟩ = some vK ∧ W.cell? ⟨w.heap.size + 1, 0, none⟩ = some vc ∧ W.cell? ⟨w.heap.size + 1, 1, none⟩ = some vm ∧ W.cell? ⟨w.heap.size + 1, 2, none⟩ = some (.int .i64 t.n) :=
  ⟨h.p.cell 0, h.p.cell 1, h.s.cell 0, h.s.cell 1, h.s.cell 2⟩
end
/-- a row of numbers lies in no block of another type -/
theorem offI {B p : Nat} {w : World} {v : Value} {zs : List Int} {cs : Array Value} {t : TypeId} (h : Ints.Owns B w v zs) (hb : Blk w p cs t) (hne : 3 ≠ t) : ∀ k, v.ownBlock = some k → k ≠ p := by
  rintro k hk rfl
  obtain ⟨h1, h2⟩ := h
  rcases h2 with ⟨rfl, h0⟩ | ⟨g, cap, cur, rfl, hg, hh, r⟩
  · cases hk
  · cases hk
    unfold Blk at hb
    rw [hb] at hh
    simp at hh
    exact hne hh.2.symm
/-- a run in a block of its own -/
structure RunAt (B : Nat) (W : World) (N : Nat) (q : Rn) (vr vc vm : Value) : Prop where
  y : Blk W N #[.int .i64 q.out, vr, vc, vm, .int .i64 q.t.n] 57
  r : Ints.Owns B W vr q.r
  t : OwnT B W vc vm q.t
  d1 : Dj vr vc
  d2 : Dj vr vm
theorem RunAt.on {B N : Nat} {W W' : World} {q : Rn} {vr vc vm : Value} (h : RunAt B W N q vr vc vm) (hb : Below W.heap.size W W') : RunAt B W' N q vr vc vm :=
  { y := h.y.on hb h.y.lt, r := h.r.on hb (Nat.le_refl _), t := h.t.on hb, d1 := h.d1, d2 := h.d2 }
theorem RunAt.drew {B N : Nat} {W : World} {q : Rn} {vr vc vm : Value} (h : RunAt B W N q vr vc vm) : RunAt B W.drew N q vr vc vm := h.on ⟨rfl, rfl, rfl, Nat.le_refl _, fun _ _ => rfl⟩
theorem ownI_cell {B N i : Nat} {W : World} {v : Value} {zs : List Int} (h : Ints.Owns B W v zs) (hp : ∀ k, v.ownBlock = some k → k ≠ N) (u : Value) : Ints.Owns B (W.setCell ⟨N, i, none⟩ u) v zs :=
  h.keep fun k hk => Below.heap_setCell _ _ _ _ (hp k hk)
theorem RunAt.stored {B N : Nat} {W : World} {q : Rn} {vr vc vm u0 u1 u2 u3 u4 : Value} (hY : Blk W N #[u0, u1, u2, u3, u4] 57) (r : Ints.Owns B W vr q.r) (t : OwnT B W vc vm q.t) (d1 : Dj vr vc) (d2 : Dj vr vm) :
    RunAt B (((((W.setCell ⟨N, 0, none⟩ (.int .i64 q.out)).setCell ⟨N, 1, none⟩ vr).setCell ⟨N, 2, none⟩ vc).setCell ⟨N, 3, none⟩ vm).setCell ⟨N, 4, none⟩ (.int .i64 q.t.n)) N q vr vc vm := by
  have o1 := offI r hY (by decide)
  have o2 := offI t.c hY (by decide)
  have o3 := offI t.m hY (by decide)
  exact { y := ((((hY.set 0 _).set 1 _).set 2 _).set 3 _).set 4 _
          r := ownI_cell (ownI_cell (ownI_cell (ownI_cell (ownI_cell r o1 _) o1 _) o1 _) o1 _) o1 _
          t := ⟨ownI_cell (ownI_cell (ownI_cell (ownI_cell (ownI_cell t.c o2 _) o2 _) o2 _) o2 _) o2 _, ownI_cell (ownI_cell (ownI_cell (ownI_cell (ownI_cell t.m o3 _) o3 _) o3 _) o3 _) o3 _, t.d⟩
          d1 := d1, d2 := d2 }
theorem LSr.five {w W : World} {vC vK vO vc vm : Value} {xs : List O4} {kss : List (List O4)} {zs : List Int} {t : Th} (h : LSr w W vC vK vO vc vm xs kss zs t) {N : Nat} (hN : w.heap.size + 1 < N) (u0 u1 u2 u3 u4 : Value) :
    LSr w (((((W.setCell ⟨N, 0, none⟩ u0).setCell ⟨N, 1, none⟩ u1).setCell ⟨N, 2, none⟩ u2).setCell ⟨N, 3, none⟩ u3).setCell ⟨N, 4, none⟩ u4) vC vK vO vc vm xs kss zs t :=
  ((((h.cell hN 0 u0).cell hN 1 u1).cell hN 2 u2).cell hN 3 u3).cell hN 4 u4
theorem OwnQ.mono {B B' : Nat} {W : World} {vc vk : Value} {ss : List S3} {xs : List O4} {kss : List (List O4)} (h : OwnQ B W vc vk ss xs kss) (hB : B' ≤ B) : OwnQ B' W vc vk ss xs kss :=
  ⟨h.c.mono hB, ⟨h.k.row.mono hB, h.k.len, fun j h1 h2 => (h.k.each j h1 h2).mono hB⟩, h.d⟩
theorem djR {B B' : Nat} {W W' : World} {a b : Value} {xs ys : List Int} (ha : Ints.Owns B W a xs) (hb : Ints.Owns B' W' b ys) (h : W.heap.size ≤ B') : Dj a b := fun k h1 h2 => by
  have := (ha.at k h1).2
  have := (hb.at k h2).1
  omega
end Ops
end Go.Proofs.Ytajbmokidcdfnaa
/- What the law of Serial keeps while it marks. -/
set_option linter.unusedVariables false
set_option linter.unusedSimpArgs false
namespace Go.Proofs.Ytajbmokidcdfnaa
open Go.RowKit
namespace Ops
open Bas Flat

/-- the block of one row -/
def One (v : Value) (i : Nat) : Prop := v.ownBlock = some i
/-- the block of a row of numbers -/
theorem intBlk {B k : Nat} {W : World} {v : Value} {zs : List Int} (h : Ints.Owns B W v zs) (hk : v.ownBlock = some k) : (∃ cur, Blk W k cur 3) ∧ B ≤ k ∧ k < W.heap.size := by
  refine ⟨?_, h.at k hk⟩
  obtain ⟨h1, h2⟩ := h
  rcases h2 with ⟨rfl, h0⟩ | ⟨g, cap, cur, rfl, hg, hh, r⟩
  · cases hk
  · cases hk
    exact ⟨cur, hh⟩
theorem ownsKeepB {B : Nat} {W W' : World} {v : Value} {zs : List Int} (h : Ints.Owns B W v zs) (hk : ∀ q cs t, t ≠ 140 → Blk W q cs t → Blk W' q cs t) : Ints.Owns B W' v zs :=
  h.keep fun k hk' => by
    obtain ⟨⟨cur, hb⟩, -⟩ := intBlk h hk'
    exact (hk k cur _ (by decide) hb).trans hb.symm
theorem RunAt.rows {B N : Nat} {W : World} {q : Rn} {vr vc vm : Value} (h : RunAt B W N q vr vc vm) : ∀ k, Three vr vc vm k → (∃ cur, Blk W k cur 3) ∧ B ≤ k ∧ k < W.heap.size := by
  rintro k (hk | hk | hk)
  · exact intBlk h.r hk
  · exact intBlk h.t.c hk
  · exact intBlk h.t.m hk
theorem OwnT.rows {B : Nat} {W : World} {vc vm : Value} {t : Th} (h : OwnT B W vc vm t) : ∀ k, Two vc vm k → (∃ cur, Blk W k cur 3) ∧ B ≤ k ∧ k < W.heap.size := by
  rintro k (hk | hk)
  · exact intBlk h.c hk
  · exact intBlk h.m hk
theorem RunAt.keepB {B N : Nat} {W W' : World} {q : Rn} {vr vc vm : Value} (h : RunAt B W N q vr vc vm) (hk : ∀ q cs t, t ≠ 140 → Blk W q cs t → Blk W' q cs t) : RunAt B W' N q vr vc vm :=
  { y := hk _ _ _ (by decide) h.y, r := ownsKeepB h.r hk, t := ⟨ownsKeepB h.t.c hk, ownsKeepB h.t.m hk, h.t.d⟩, d1 := h.d1, d2 := h.d2 }
theorem OwnT.keepB {B : Nat} {W W' : World} {vc vm : Value} {t : Th} (h : OwnT B W vc vm t) (hk : ∀ q cs t, t ≠ 140 → Blk W q cs t → Blk W' q cs t) : OwnT B W' vc vm t := ⟨ownsKeepB h.c hk, ownsKeepB h.m hk, h.d⟩
section
variable {w W W' : World} {vC vK vO vc vm : Value} {xs : List O4} {kss : List (List O4)} {zs : List Int} {t : Th}
theorem LSr.keepB (h : LSr w W vC vK vO vc vm xs kss zs t) (hb : Below w.heap.size W W') (hk : ∀ q cs t, t ≠ 140 → Blk W q cs t → Blk W' q cs t) : LSr w W' vC vK vO vc vm xs kss zs t :=
  h.onG hb ((hk _ _ _ (by decide) h.p).trans h.p.symm) ((hk _ _ _ (by decide) h.s).trans h.s.symm)
theorem blk_ne {W : World} {p k : Nat} {cs cur : Array Value} {t e : TypeId} (h : Blk W p cs t) (h' : Blk W k cur e) (hne : t ≠ e) : k ≠ p := by
  rintro rfl
  unfold Blk at h h'
  rw [h] at h'
  simp at h'
  exact hne h'.2
theorem Chg.blkI {S : Nat → Prop} {p : Nat} {cs : Array Value} {t : TypeId} (hc : Chg S W W') (hS : ∀ k, S k → ∃ cur, Blk W k cur 3) (h : Blk W p cs t) (hne : t ≠ 3) : Blk W' p cs t :=
  (hc.block p h.lt (fun hs => by
    obtain ⟨cur, hb⟩ := hS p hs
    exact blk_ne h hb hne rfl)).trans h
theorem LSr.chg {S : Nat → Prop} (h : LSr w W vC vK vO vc vm xs kss zs t) (hc : Chg S W W') (hS : ∀ k, S k → (∃ cur, Blk W k cur 3) ∧ w.heap.size ≤ k ∧ k < W.heap.size) : LSr w W' vC vK vO vc vm xs kss zs t :=
  h.onG (hc.below h.b.size fun i hi => (hS i hi).2.1) ((hc.blkI (fun k hk => (hS k hk).1) h.p (by decide)).trans h.p.symm) ((hc.blkI (fun k hk => (hS k hk).1) h.s (by decide)).trans h.s.symm)
end
theorem RunAt.chg {S : Nat → Prop} {B N : Nat} {W W' : World} {q : Rn} {vr vc vm : Value} (h : RunAt B W N q vr vc vm) (hc : Chg S W W') (hS : ∀ k, S k → ∃ cur, Blk W k cur 3) (hd : ∀ k, Three vr vc vm k → ¬ S k) : RunAt B W' N q vr vc vm :=
  { y := hc.blkI hS h.y (by decide), r := hc.owns h.r fun k hk => hd k (.inl hk), t := ⟨hc.owns h.t.c fun k hk => hd k (.inr (.inl hk)), hc.owns h.t.m fun k hk => hd k (.inr (.inr hk)), h.t.d⟩, d1 := h.d1, d2 := h.d2 }
theorem OwnT.chg {S : Nat → Prop} {B : Nat} {W W' : World} {vc vm : Value} {t : Th} (h : OwnT B W vc vm t) (hc : Chg S W W') (hd : ∀ k, Two vc vm k → ¬ S k) : OwnT B W' vc vm t :=
  ⟨hc.owns h.c fun k hk => hd k (.inl hk), hc.owns h.m fun k hk => hd k (.inr hk), h.d⟩
/-- a run that is marked -/
structure RunMk (B : Nat) (W : World) (N : Nat) (out n : Int) (a0 a1 a2 : Option Addr) (n0 n1 n2 c0 c1 c2 : Nat) : Prop where
  y : Blk W N #[.int .i64 out, .slice a0 n0 c0, .slice a1 n1 c1, .slice a2 n2 c2, .int .i64 n] 57
  r : Ints.Owns B W (.slice a0 n0 c0) (Ints.marksK 1 n0)
  c : Ints.Owns B W (.slice a1 n1 c1) (Ints.marksK (1 + (n0 : Int)) n1)
  m : Ints.Owns B W (.slice a2 n2 c2) (Ints.marksK (1 + (n0 : Int) + (n1 : Int)) n2)
theorem RunMk.on {B N : Nat} {W W' : World} {out n : Int} {a0 a1 a2 : Option Addr} {n0 n1 n2 c0 c1 c2 : Nat} (h : RunMk B W N out n a0 a1 a2 n0 n1 n2 c0 c1 c2) (hb : Below W.heap.size W W') : RunMk B W' N out n a0 a1 a2 n0 n1 n2 c0 c1 c2 :=
  { y := h.y.on hb h.y.lt, r := h.r.on hb (Nat.le_refl _), c := h.c.on hb (Nat.le_refl _), m := h.m.on hb (Nat.le_refl _) }
theorem RunMk.drew {B N : Nat} {W : World} {out n : Int} {a0 a1 a2 : Option Addr} {n0 n1 n2 c0 c1 c2 : Nat} (h : RunMk B W N out n a0 a1 a2 n0 n1 n2 c0 c1 c2) : RunMk B W.drew N out n a0 a1 a2 n0 n1 n2 c0 c1 c2 := h.on ⟨rfl, rfl, rfl, Nat.le_refl _, fun _ _ => rfl⟩
theorem own_one {B : Nat} {W : World} {v : Value} {zs : List Int} (h : Ints.Owns B W v zs) : ∀ k, One v k → (∃ cur, Blk W k cur 3) ∧ B ≤ k ∧ k < W.heap.size := fun k hk => intBlk h hk
theorem sum_leN {ls : List Nat} {M : Nat} (h : ∀ l ∈ ls, l ≤ M) : ls.sum ≤ ls.length * M := by
  induction ls with
  | nil => simp
  | cons a r ih =>
    have h1 := h a (by simp)
    have h2 := ih fun l hl => h l (by simp [hl])
    rw [List.sum_cons, List.length_cons, Nat.succ_mul]
    omega
theorem markEnd_le {xs : List O4} {kss : List (List O4)} (h : Fits xs kss) : 1 ≤ markEnd xs kss ∧ markEnd xs kss ≤ 10000000000000 := by
  obtain ⟨h1, h2, h3⟩ := h
  have hs : (kss.map List.length).sum ≤ (kss.map List.length).length * 1048576 := sum_leN fun l hl => by
    obtain ⟨ks, hk, rfl⟩ := List.mem_map.1 hl
    exact h3 ks hk
  rw [List.length_map] at hs
  have : kss.length * 1048576 ≤ 1048576 * 1048576 := Nat.mul_le_mul_right _ h2
  unfold markEnd
  omega
theorem drew_below (w : World) : Below w.heap.size w w.drew := ⟨rfl, rfl, rfl, Nat.le_refl _, fun _ _ => rfl⟩
theorem told_small {xs : List O4} {kss : List (List O4)} {zs : List Int} {t : Th} {q : Rn} (h : RunTold xs kss zs t q) : q.r.length ≤ 8 ∧ q.t.c.length ≤ 8 ∧ q.t.m.length ≤ 8 := by
  rcases h with ⟨-, -, -, h1, h2⟩ | ⟨-, rfl⟩
  · have h3 := (regsOk_out h1).1
    unfold thOk at h2
    simp only [Bool.and_eq_true] at h2
    have h4 := (cellsOk_out h2.1.1).1
    have h5 := (mapOk_out h2.1.2).1
    omega
  · simp
theorem five_heap {W : World} {N k : Nat} (hk : k ≠ N) (u0 u1 u2 u3 u4 : Value) : (((((W.setCell ⟨N, 0, none⟩ u0).setCell ⟨N, 1, none⟩ u1).setCell ⟨N, 2, none⟩ u2).setCell ⟨N, 3, none⟩ u3).setCell ⟨N, 4, none⟩ u4).heap[k]? = W.heap[k]? := by
  rw [Below.heap_setCell _ _ _ _ hk, Below.heap_setCell _ _ _ _ hk, Below.heap_setCell _ _ _ _ hk, Below.heap_setCell _ _ _ _ hk, Below.heap_setCell _ _ _ _ hk]
theorem RunAt.five {B N N' : Nat} {W : World} {q : Rn} {vr vc vm v0 v1 v2 v3 v4 : Value} (h : RunAt B W N q vr vc vm) (hY : Blk W N' #[v0, v1, v2, v3, v4] 57) (hne : N ≠ N') (u0 u1 u2 u3 u4 : Value) :
    RunAt B (((((W.setCell ⟨N', 0, none⟩ u0).setCell ⟨N', 1, none⟩ u1).setCell ⟨N', 2, none⟩ u2).setCell ⟨N', 3, none⟩ u3).setCell ⟨N', 4, none⟩ u4) N q vr vc vm := by
  have hr : ∀ k, Three vr vc vm k → k ≠ N' := fun k hk => by
    obtain ⟨⟨cur, hb⟩, -⟩ := h.rows k hk
    exact blk_ne hY hb (by decide)
  exact { y := (five_heap hne u0 u1 u2 u3 u4).trans h.y
          r := h.r.keep fun k hk => five_heap (hr k (.inl hk)) u0 u1 u2 u3 u4
          t := ⟨h.t.c.keep fun k hk => five_heap (hr k (.inr (.inl hk))) u0 u1 u2 u3 u4, h.t.m.keep fun k hk => five_heap (hr k (.inr (.inr hk))) u0 u1 u2 u3 u4, h.t.d⟩
          d1 := h.d1, d2 := h.d2 }
theorem RunMk.five {B N N' : Nat} {W : World} {out n : Int} {a0 a1 a2 : Option Addr} {n0 n1 n2 c0 c1 c2 : Nat} {v0 v1 v2 v3 v4 : Value} (h : RunMk B W N out n a0 a1 a2 n0 n1 n2 c0 c1 c2) (hY : Blk W N' #[v0, v1, v2, v3, v4] 57) (hne : N ≠ N') (u0 u1 u2 u3 u4 : Value) :
    RunMk B (((((W.setCell ⟨N', 0, none⟩ u0).setCell ⟨N', 1, none⟩ u1).setCell ⟨N', 2, none⟩ u2).setCell ⟨N', 3, none⟩ u3).setCell ⟨N', 4, none⟩ u4) N out n a0 a1 a2 n0 n1 n2 c0 c1 c2 := by
  have hr : ∀ {v : Value} {zs : List Int}, Ints.Owns B W v zs → ∀ k, v.ownBlock = some k → k ≠ N' := fun ho k hk => by
    obtain ⟨⟨cur, hb⟩, -⟩ := intBlk ho hk
    exact blk_ne hY hb (by decide)
  exact { y := (five_heap hne u0 u1 u2 u3 u4).trans h.y
          r := h.r.keep fun k hk => five_heap (hr h.r k hk) u0 u1 u2 u3 u4
          c := h.c.keep fun k hk => five_heap (hr h.c k hk) u0 u1 u2 u3 u4
          m := h.m.keep fun k hk => five_heap (hr h.m k hk) u0 u1 u2 u3 u4 }
end Ops
end Go.Proofs.Ytajbmokidcdfnaa
