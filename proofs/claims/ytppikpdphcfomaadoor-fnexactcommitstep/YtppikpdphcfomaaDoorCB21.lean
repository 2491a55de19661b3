/- Several texts of one proof, in build order: WordSt, CommitLawSt. -/
import Derived.Test.YtppikpdphcfomaaDoorCB7
import Derived.Test.YtppikpdphcfomaaDoorCB12
import Derived.Test.YtppikpdphcfomaaDoorCB20
/- Marks in whole memories; what the laws hold of their four memories as they go on. -/
namespace Go.Proofs.YtppikpdphcfomaaDoor
open Go.RowKit
namespace Words

theorem grownBy_alloc' {w w' : World} {o : Obj} {row : Option Nat} (h : (w.alloc o).grownBy w' row) : w.grownBy w' row :=
  ⟨h.os, h.tape, h.output, Nat.le_trans (by simp) h.size, fun k hk hne => (h.block k (by simp; omega) hne).trans (Below.heap_alloc w o k hk)⟩

set_option maxRecDepth 100000 in
set_option maxHeartbeats 400000 in
theorem markMemC (c : Int) (v : Value) (ws : List W3) (B : Nat) (w : World) (hv : Owns B w v ws) (hlen : ws.length ≤ 1048576) :
    Calls Tryd.prog 12 #[.agg #[.int .i64 c, v], .int .i64 1] w fun e w' => e = .returned (.int .i64 (1 + 3 * (ws.length : Int))) ∧ Owns B w' v (marks ws.length) ∧ w.grownBy w' v.ownBlock := by
  obtain ⟨a, cap, rfl⟩ := hv.form
  have hv0 := hv.on ((Below.refl w.heap.size w).alloc (Nat.le_refl _) (.cells #[.int .i64 c, .slice a ws.length cap] 33)) (Nat.le_refl _)
  obtain ⟨n, hn⟩ : ∃ n, ws.length = n := ⟨_, rfl⟩
  have c0 := markWordsC _ ws B _ hv0 hlen
  rw [hn] at c0 ⊢
  go_enter Tryd.func12, Tryd.ntmps12
  go_wp2_with fail
  refine c0.mono ?_
  rintro e w1 ⟨rfl, O1, hg⟩
  clear c0
  go_wp2
  go_ret
  exact ⟨rfl, O1, grownBy_alloc' hg⟩

set_option maxRecDepth 100000 in
set_option maxHeartbeats 400000 in
theorem heldMemC (c : Int) (v : Value) (n : Nat) (B : Nat) (w : World) (hv : Owns B w v (marks n)) (hlen : n ≤ 1048576) :
    Calls Tryd.prog 14 #[.agg #[.int .i64 c, v], .int .i64 1] w fun e w' => e = .returned (.int .i64 (1 + 3 * (n : Int))) ∧ Below w.heap.size w w' := by
  obtain ⟨a, cap, rfl⟩ := hv.form
  have hv0 := (hv.on ((Below.refl w.heap.size w).alloc (Nat.le_refl _) (.cells #[.int .i64 c, .slice a (marks n).length cap] 33)) (Nat.le_refl _)).sees
  have c0 := heldWordsC _ n _ _ hv0 hlen
  rw [marks_length] at c0 ⊢
  go_enter Tryd.func14, Tryd.ntmps14
  go_wp2_with fail
  refine c0.mono ?_
  rintro e w1 ⟨rfl, rfl⟩
  clear c0
  go_wp2
  go_ret
  exact ⟨rfl, (Below.refl _ _).alloc (Nat.le_refl _) _⟩

/-- what a law holds: its argument; what the specification answered; the argument's copy; what the program answered -/
structure St (w W : World) (c C : Int) (v v3 v4 v6 : Value) (p1 p2 p3 : Nat) (ws wr wx wg : List W3) : Prop where
  bel : Below w.heap.size w W
  X : Box W w.heap.size c v 24
  see : Sees w.heap.size W v ws
  P : Box W p1 C v3 33
  O3 : Owns w.heap.size W v3 wr
  Q : Box W p2 c v4 33
  O4 : Owns w.heap.size W v4 wx
  G : Box W p3 C v6 33
  O6 : Owns w.heap.size W v6 wg
  d3 : ∀ k, v3.ownBlock = some k → w.heap.size < k ∧ k < p1
  d4 : ∀ k, v4.ownBlock = some k → p1 < k ∧ k < p2
  d6 : ∀ k, v6.ownBlock = some k → p2 < k ∧ k < p3
  q1 : w.heap.size < p1
  q2 : p1 < p2
  q3 : p2 < p3

section
variable {w W W' : World} {c C : Int} {v v3 v4 v6 : Value} {p1 p2 p3 : Nat} {ws wr wx wg : List W3}
theorem St.on (h : St w W c C v v3 v4 v6 p1 p2 p3 ws wr wx wg) (hb : Below W.heap.size W W') : St w W' c C v v3 v4 v6 p1 p2 p3 ws wr wx wg :=
  { bel := h.bel.trans (hb.mono h.bel.size), X := h.X.on hb h.X.lt, see := h.see.on hb h.bel.size, P := h.P.on hb h.P.lt, O3 := h.O3.on hb (Nat.le_refl _), Q := h.Q.on hb h.Q.lt, O4 := h.O4.on hb (Nat.le_refl _),
    G := h.G.on hb h.G.lt, O6 := h.O6.on hb (Nat.le_refl _), d3 := h.d3, d4 := h.d4, d6 := h.d6, q1 := h.q1, q2 := h.q2, q3 := h.q3 }
theorem St.drew (h : St w W c C v v3 v4 v6 p1 p2 p3 ws wr wx wg) : St w W.drew c C v v3 v4 v6 p1 p2 p3 ws wr wx wg :=
  { h with bel := h.bel.drew }
theorem Sees.grown {B : Nat} (h : Sees B W v ws) {row : Option Nat} (hg : W.grownBy W' row) (hB : B ≤ W.heap.size) (hr : ∀ k, row = some k → B ≤ k) : Sees B W' v ws :=
  h.on (B' := B) ((Below.refl B W).grown hg hB hr) (Nat.le_refl _)
theorem St.mark4 (h : St w W c C v v3 v4 v6 p1 p2 p3 ws wr wx wg) (hg : W.grownBy W' v4.ownBlock) {wx' : List W3} (hO : Owns w.heap.size W' v4 wx') : St w W' c C v v3 v4 v6 p1 p2 p3 ws wr wx' wg :=
  have a1 := h.q1; have a2 := h.q2; have a3 := h.q3
  { bel := h.bel.grown hg h.bel.size (fun k hk => by have := h.d4 k hk; omega), X := h.X.grown hg (fun e => by have := h.d4 _ e.symm; omega),
    see := h.see.grown hg h.bel.size (fun k hk => by have := h.d4 k hk; omega),
    P := h.P.grown hg (fun e => by have := h.d4 _ e.symm; omega), O3 := h.O3.grown hg (fun k hk e => by have := h.d4 _ e.symm; have := h.d3 k hk; omega), Q := h.Q.grown hg (fun e => by have := h.d4 _ e.symm; omega), O4 := hO,
    G := h.G.grown hg (fun e => by have := h.d4 _ e.symm; omega), O6 := h.O6.grown hg (fun k hk e => by have := h.d4 _ e.symm; have := h.d6 k hk; omega), d3 := h.d3, d4 := h.d4, d6 := h.d6, q1 := h.q1, q2 := h.q2, q3 := h.q3 }
theorem St.mark6 (h : St w W c C v v3 v4 v6 p1 p2 p3 ws wr wx wg) (hg : W.grownBy W' v6.ownBlock) {wg' : List W3} (hO : Owns w.heap.size W' v6 wg') : St w W' c C v v3 v4 v6 p1 p2 p3 ws wr wx wg' :=
  have a1 := h.q1; have a2 := h.q2; have a3 := h.q3
  { bel := h.bel.grown hg h.bel.size (fun k hk => by have := h.d6 k hk; omega), X := h.X.grown hg (fun e => by have := h.d6 _ e.symm; omega),
    see := h.see.grown hg h.bel.size (fun k hk => by have := h.d6 k hk; omega),
    P := h.P.grown hg (fun e => by have := h.d6 _ e.symm; omega), O3 := h.O3.grown hg (fun k hk e => by have := h.d6 _ e.symm; have := h.d3 k hk; omega), Q := h.Q.grown hg (fun e => by have := h.d6 _ e.symm; omega),
    O4 := h.O4.grown hg (fun k hk e => by have := h.d6 _ e.symm; have := h.d4 k hk; omega),
    G := h.G.grown hg (fun e => by have := h.d6 _ e.symm; omega), O6 := hO, d3 := h.d3, d4 := h.d4, d6 := h.d6, q1 := h.q1, q2 := h.q2, q3 := h.q3 }
end
end Words
end Go.Proofs.YtppikpdphcfomaaDoor
/- What the law of CommitStep holds: its arguments, and an answer in two boxes. -/
set_option linter.unusedVariables false
set_option linter.unusedSimpArgs false
namespace Go.Proofs.YtppikpdphcfomaaDoor
open Go.RowKit
namespace Commits
open Bas Flat Logs
open Words (W3 Err)

/-- what the law holds of its arguments -/
structure LA (w W : World) (mc who rv ph at' wv : Int) (vM vP vR : Value) (ws : List W3) (ps : List R2) (rs : List Int) (bE : Addr) : Prop where
  x : Blk W w.heap.size #[.int .i64 mc, vM] 24
  y : Blk W (w.heap.size + 1) #[.int .i64 who, .int .i64 rv, .int .i64 ph, .int .i64 at', .int .i64 wv, vP, vR] 28
  m : Words.Sees w.heap.size W vM ws
  c : SeeC w.heap.size W vP vR ps rs
  e : Err W bE
  b : Below w.heap.size w W
  eg : 0 < w.heap.size
section
variable {w W W' : World} {mc who rv ph at' wv : Int} {vM vP vR : Value} {ws : List W3} {ps : List R2} {rs : List Int} {bE : Addr}
theorem LA.big (h : LA w W mc who rv ph at' wv vM vP vR ws ps rs bE) : w.heap.size + 2 ≤ W.heap.size := h.y.lt
theorem LA.low (h : LA w W mc who rv ph at' wv vM vP vR ws ps rs bE) (hb : Below (w.heap.size + 2) W W') : LA w W' mc who rv ph at' wv vM vP vR ws ps rs bE :=
  { x := h.x.on hb (by omega), y := h.y.on hb (by omega), m := h.m.on hb (by omega), c := h.c.on hb (by omega), e := (hb.cell (p := ⟨0, 0, none⟩) (by have := h.eg; show 0 < _; omega)).trans h.e, b := h.b.trans (hb.mono (by omega)), eg := h.eg }
theorem LA.on (h : LA w W mc who rv ph at' wv vM vP vR ws ps rs bE) (hb : Below W.heap.size W W') : LA w W' mc who rv ph at' wv vM vP vR ws ps rs bE := h.low (hb.mono h.big)
theorem LA.drew (h : LA w W mc who rv ph at' wv vM vP vR ws ps rs bE) : LA w W.drew mc who rv ph at' wv vM vP vR ws ps rs bE := h.on ⟨rfl, rfl, rfl, Nat.le_refl _, fun _ _ => rfl⟩
theorem LA.chg {S : Nat → Prop} (h : LA w W mc who rv ph at' wv vM vP vR ws ps rs bE) (hc : Chg S W W') (hs : ∀ k, S k → w.heap.size + 2 ≤ k) : LA w W' mc who rv ph at' wv vM vP vR ws ps rs bE := h.low (hc.below h.big hs)
theorem LA.cells (h : LA w W mc who rv ph at' wv vM vP vR ws ps rs bE) : (W.cell? ⟨w.heap.size, 0, none⟩ = some (.int .i64 mc) ∧ W.cell? ⟨w.heap.size, 1, none⟩ = some vM) ∧ W.cell? ⟨w.heap.size + 1, 0, none⟩ = some (.int .i64 who) ∧ W.cell? ⟨w.heap.size + 1, 1, none⟩ = some (.int .i64 rv) ∧ W.cell? ⟨w.heap.size + 1, 2, none⟩ = some (.int .i64 ph) ∧ W.cell? ⟨w.heap.size + 1, 3, none⟩ = some (.int .i64 at') ∧ W.cell? ⟨w.heap.size + 1, 4, none⟩ = some (.int .i64 wv) ∧ W.cell? ⟨w.heap.size + 1, 5, none⟩ = some vP ∧ W.cell? ⟨w.heap.size + 1, 6, none⟩ = some vR :=
  ⟨⟨h.x.cell 0, h.x.cell 1⟩, h.y.cell 0, h.y.cell 1, h.y.cell 2, h.y.cell 3, h.y.cell 4, h.y.cell 5, h.y.cell 6⟩
theorem LA.new (w : World) (mc who rv ph at' wv : Int) (vM vP vR : Value) (ws : List W3) (ps : List R2) (rs : List Int) (bE : Addr) (hM : Words.Sees w.heap.size w vM ws) (hC : SeeC w.heap.size w vP vR ps rs) (hE : Err w bE) :
    LA w ((w.alloc (.cells #[.int .i64 mc, vM] 24)).alloc (.cells #[.int .i64 who, .int .i64 rv, .int .i64 ph, .int .i64 at', .int .i64 wv, vP, vR] 28)) mc who rv ph at' wv vM vP vR ws ps rs bE := by
  have a1 := alloc_below w (.cells #[.int .i64 mc, vM] 24)
  have M1 := Blk.new w #[.int .i64 mc, vM] 24
  have z1 : (w.alloc (.cells #[.int .i64 mc, vM] 24)).heap.size = w.heap.size + 1 := by simp
  obtain ⟨w1, hw1⟩ : ∃ W, w.alloc (.cells #[.int .i64 mc, vM] 24) = W := ⟨_, rfl⟩
  rw [hw1] at a1 M1 z1 ⊢
  have a2 := alloc_below w1 (.cells #[.int .i64 who, .int .i64 rv, .int .i64 ph, .int .i64 at', .int .i64 wv, vP, vR] 28)
  have P2 := Blk.new w1 #[.int .i64 who, .int .i64 rv, .int .i64 ph, .int .i64 at', .int .i64 wv, vP, vR] 28
  rw [z1] at P2
  have b2 := a1.trans (a2.mono (by omega))
  exact { x := M1.on a2 M1.lt, y := P2, m := hM.on b2 (Nat.le_refl _), c := hC.on b2 (Nat.le_refl _), e := hE.on b2 (Nat.le_refl _), b := b2, eg := hE.lt }
theorem LA.toM (h : LA w W mc who rv ph at' wv vM vP vR ws ps rs bE) (f : ws.length ≤ 1048576) :
    Calls Tryd.prog 7 #[.agg #[.int .i64 mc, vM]] W fun e w' => ∃ a k, e = .returned (.agg #[.int .i64 mc, .slice a ws.length k]) ∧ Words.Owns W.heap.size w' (.slice a ws.length k) ws ∧ Below W.heap.size W w' := by
  refine (Words.toMemC mc vM ws _ W h.m h.b.size f).mono ?_
  rintro e w' ⟨v, rfl, O, b⟩
  obtain ⟨a, k, rfl⟩ := O.form
  exact ⟨a, k, rfl, O, b⟩
theorem LA.toC (h : LA w W mc who rv ph at' wv vM vP vR ws ps rs bE) (f1 : ps.length ≤ 1048576) (f2 : rs.length ≤ 1048576) :
    Calls Tryd.prog 8 #[.agg #[.int .i64 who, .int .i64 rv, .int .i64 ph, .int .i64 at', .int .i64 wv, vP, vR]] W fun e w' => ∃ a k a' k', e = .returned (.agg #[.int .i64 who, .int .i64 rv, .int .i64 ph, .int .i64 at', .int .i64 wv, .slice a ps.length k, .slice a' rs.length k']) ∧ OwnC W.heap.size w' (.slice a ps.length k) (.slice a' rs.length k') ps rs ∧ Below W.heap.size W w' :=
  Commits.toE who rv ph at' wv ps rs vP vR _ W h.c h.b.size f1 f2
end

theorem blkNe {W : World} {p q : Nat} {cs cs' : Array Value} {t t' : TypeId} (h : Blk W p cs t) (h' : Blk W q cs' t') (hne : t ≠ t') : p ≠ q := fun e => by
  subst e
  unfold Blk at h h'
  rw [h] at h'
  simp at h'
  exact hne h'.2
/-- what a slot holds -/
def dd (a : Act) (i : Nat) : Value := a.tmps.getD i undef
theorem wordsBlk {B k : Nat} {w : World} {v : Value} {ws : List W3} (h : Words.Owns B w v ws) (hk : v.ownBlock = some k) : ∃ cur, Blk w k cur 61 := by
  unfold Words.Owns at h
  obtain ⟨k1, k2⟩ := h
  rcases k2 with ⟨rfl, h0⟩ | ⟨g, cap, cur, rfl, hg, hh, r⟩
  · cases hk
  · cases hk; exact ⟨_, hh⟩
theorem wordsTwo {B B' k : Nat} {w : World} {v a b : Value} {ws : List W3} {ps : List R2} {rs : List Int} (h : Words.Owns B w v ws) (hc : OwnC B' w a b ps rs) (hk : v.ownBlock = some k) : ¬ Two a b k := by
  obtain ⟨cur, hb⟩ := wordsBlk h hk
  exact fun h2 => twoOff hc hb (by decide) (by decide) k h2 rfl

/-- an answer in two boxes: all its blocks lie from lo up to hi -/
structure RP (lo hi : Nat) (W : World) (N1 N2 : Nat) (who rv : Int) (ps : List R2) (rs : List Int) (Z : Ot) (mv va vb : Value) : Prop where
  x : Blk W N1 #[.int .i64 Z.mc, mv] 33
  y : Blk W N2 #[.int .i64 who, .int .i64 rv, .int .i64 Z.ph, .int .i64 Z.at', .int .i64 Z.wv, va, vb] 36
  m : Words.Owns lo W mv Z.ws
  c : OwnC lo W va vb ps rs
  hm : ∀ k, mv.ownBlock = some k → k < hi
  hc : ∀ k, Two va vb k → k < hi
  l1 : lo ≤ N1
  l2 : lo ≤ N2
  u1 : N1 < hi
  u2 : N2 < hi
  hh : hi ≤ W.heap.size
section
variable {lo hi N1 N2 : Nat} {W W' : World} {who rv : Int} {ps : List R2} {rs : List Int} {Z : Ot} {mv va vb : Value}
theorem RP.keep (h : RP lo hi W N1 N2 who rv ps rs Z mv va vb) (hz : hi ≤ W'.heap.size) (hk : ∀ k, lo ≤ k → k < hi → W'.heap[k]? = W.heap[k]?) : RP lo hi W' N1 N2 who rv ps rs Z mv va vb :=
  { x := (hk _ h.l1 h.u1).trans h.x, y := (hk _ h.l2 h.u2).trans h.y, m := h.m.keep fun k e => hk k (h.m.at k e).1 (h.hm k e)
    c := ⟨h.c.p.keep fun k e => hk k (h.c.p.at k e).1 (h.hc k (.inl e)), h.c.r.keep fun k e => hk k (h.c.r.at k e).1 (h.hc k (.inr e))⟩
    hm := h.hm, hc := h.hc, l1 := h.l1, l2 := h.l2, u1 := h.u1, u2 := h.u2, hh := hz }
theorem RP.on (h : RP lo hi W N1 N2 who rv ps rs Z mv va vb) (hb : Below W.heap.size W W') : RP lo hi W' N1 N2 who rv ps rs Z mv va vb := h.keep (Nat.le_trans h.hh hb.size) fun k _ h2 => hb.block k (Nat.lt_of_lt_of_le h2 h.hh)
theorem RP.drew (h : RP lo hi W N1 N2 who rv ps rs Z mv va vb) : RP lo hi W.drew N1 N2 who rv ps rs Z mv va vb := h.on ⟨rfl, rfl, rfl, Nat.le_refl _, fun _ _ => rfl⟩
theorem RP.chg {S : Nat → Prop} (h : RP lo hi W N1 N2 who rv ps rs Z mv va vb) (hc : Chg S W W') (hs : ∀ k, S k → hi ≤ k ∨ k < lo) : RP lo hi W' N1 N2 who rv ps rs Z mv va vb :=
  h.keep (Nat.le_trans h.hh hc.size) fun k h1 h2 => hc.block k (Nat.lt_of_lt_of_le h2 h.hh) fun e => by have := hs k e; omega
theorem RP.ne (h : RP lo hi W N1 N2 who rv ps rs Z mv va vb) : N1 ≠ N2 := fun e => by
  have hx := h.x; have hy := h.y
  subst e
  unfold Blk at hx hy
  rw [hx] at hy
  simp at hy
/-- all its rows lie in it -/
theorem RP.inM (h : RP lo hi W N1 N2 who rv ps rs Z mv va vb) : ∀ k, mv.ownBlock = some k → lo ≤ k ∧ k < hi := fun k hk => ⟨(h.m.at k hk).1, h.hm k hk⟩
theorem RP.inC (h : RP lo hi W N1 N2 who rv ps rs Z mv va vb) : ∀ k, Two va vb k → lo ≤ k ∧ k < hi := fun k hk => ⟨(h.c.two k hk).1, h.hc k hk⟩
theorem RP.markM (h : RP lo hi W N1 N2 who rv ps rs Z mv va vb) {ws' : List W3} (hg : W.grownBy W' mv.ownBlock) (hO : Words.Owns lo W' mv ws') : RP lo hi W' N1 N2 who rv ps rs ⟨Z.mc, ws', Z.ph, Z.at', Z.wv⟩ mv va vb :=
  { x := h.x.grown hg (fun e => Commits.wordsOff h.m h.x (by decide) _ e.symm rfl), y := h.y.grown hg (fun e => Commits.wordsOff h.m h.y (by decide) _ e.symm rfl), m := hO
    c := ⟨h.c.p.keep fun k e => hg.block k (h.c.p.at k e).2 (fun e' => wordsTwo h.m h.c e'.symm (.inl e)), h.c.r.keep fun k e => hg.block k (h.c.r.at k e).2 (fun e' => wordsTwo h.m h.c e'.symm (.inr e))⟩
    hm := h.hm, hc := h.hc, l1 := h.l1, l2 := h.l2, u1 := h.u1, u2 := h.u2, hh := Nat.le_trans h.hh hg.size }
theorem RP.markC (h : RP lo hi W N1 N2 who rv ps rs Z mv va vb) {ps' : List R2} {rs' : List Int} (hc : Chg (Two va vb) W W') (hO : OwnC lo W' va vb ps' rs') : RP lo hi W' N1 N2 who rv ps' rs' Z mv va vb :=
  { x := hc.blk h.c h.x (by decide) (by decide), y := hc.blk h.c h.y (by decide) (by decide), m := h.m.keep fun k e => hc.block k (h.m.at k e).2 (wordsTwo h.m h.c e), c := hO
    hm := h.hm, hc := h.hc, l1 := h.l1, l2 := h.l2, u1 := h.u1, u2 := h.u2, hh := Nat.le_trans h.hh hc.size }
/-- nine cells written into two boxes -/
def nine (W : World) (N1 N2 : Nat) (a b c0 c1 c2 c3 c4 c5 c6 : Value) : World :=
  ((((((((W.setCell ⟨N1, 0, none⟩ a).setCell ⟨N1, 1, none⟩ b).setCell ⟨N2, 0, none⟩ c0).setCell ⟨N2, 1, none⟩ c1).setCell ⟨N2, 2, none⟩ c2).setCell ⟨N2, 3, none⟩ c3).setCell ⟨N2, 4, none⟩ c4).setCell ⟨N2, 5, none⟩ c5).setCell ⟨N2, 6, none⟩ c6
theorem nine_heap {W : World} {N1 N2 k : Nat} (h1 : k ≠ N1) (h2 : k ≠ N2) (a b c0 c1 c2 c3 c4 c5 c6 : Value) : (nine W N1 N2 a b c0 c1 c2 c3 c4 c5 c6).heap[k]? = W.heap[k]? := by
  unfold nine
  rw [Below.heap_setCell _ _ _ _ h2, Below.heap_setCell _ _ _ _ h2, Below.heap_setCell _ _ _ _ h2, Below.heap_setCell _ _ _ _ h2, Below.heap_setCell _ _ _ _ h2, Below.heap_setCell _ _ _ _ h2, Below.heap_setCell _ _ _ _ h2, Below.heap_setCell _ _ _ _ h1, Below.heap_setCell _ _ _ _ h1]
theorem nine_below {B : Nat} {A : World} (h : Below B A W) (h1 : B ≤ N1) (h2 : B ≤ N2) (a b c0 c1 c2 c3 c4 c5 c6 : Value) : Below B A (nine W N1 N2 a b c0 c1 c2 c3 c4 c5 c6) :=
  ((((((((h.setCell (p := ⟨N1, 0, none⟩) h1 a).setCell (p := ⟨N1, 1, none⟩) h1 b).setCell (p := ⟨N2, 0, none⟩) h2 c0).setCell (p := ⟨N2, 1, none⟩) h2 c1).setCell (p := ⟨N2, 2, none⟩) h2 c2).setCell (p := ⟨N2, 3, none⟩) h2 c3).setCell (p := ⟨N2, 4, none⟩) h2 c4).setCell (p := ⟨N2, 5, none⟩) h2 c5).setCell (p := ⟨N2, 6, none⟩) h2 c6
theorem nine_size (a b c0 c1 c2 c3 c4 c5 c6 : Value) : (nine W N1 N2 a b c0 c1 c2 c3 c4 c5 c6).heap.size = W.heap.size := by simp [nine]
theorem RP.stored {u0 u1 v0 v1 v2 v3 v4 v5 v6 : Value} (hY1 : Blk W N1 #[u0, u1] 33) (hY2 : Blk W N2 #[v0, v1, v2, v3, v4, v5, v6] 36) (hm : Words.Owns lo W mv Z.ws) (hc : OwnC lo W va vb ps rs) (l1 : lo ≤ N1) (l2 : lo ≤ N2) :
    RP lo W.heap.size (nine W N1 N2 (.int .i64 Z.mc) mv (.int .i64 who) (.int .i64 rv) (.int .i64 Z.ph) (.int .i64 Z.at') (.int .i64 Z.wv) va vb) N1 N2 who rv ps rs Z mv va vb := by
  have hne : N1 ≠ N2 := fun e => by
    subst e
    unfold Blk at hY1 hY2
    rw [hY1] at hY2
    simp at hY2
  have o1 := Commits.wordsOff hm hY1 (by decide)
  have o2 := Commits.wordsOff hm hY2 (by decide)
  have t1 := twoOff hc hY1 (by decide) (by decide)
  have t2 := twoOff hc hY2 (by decide) (by decide)
  have k0 : Blk _ N1 #[.int .i64 Z.mc, u1] 33 := hY1.set 0 (.int .i64 Z.mc)
  have k1 : Blk _ N1 #[.int .i64 Z.mc, mv] 33 := k0.set 1 mv
  have q0 := (hY2.other (Ne.symm hne) 0 (.int .i64 Z.mc)).other (Ne.symm hne) 1 mv
  have q1 : Blk _ N2 #[.int .i64 who, v1, v2, v3, v4, v5, v6] 36 := q0.set 0 (.int .i64 who)
  have q2 : Blk _ N2 #[.int .i64 who, .int .i64 rv, v2, v3, v4, v5, v6] 36 := q1.set 1 (.int .i64 rv)
  have q3 : Blk _ N2 #[.int .i64 who, .int .i64 rv, .int .i64 Z.ph, v3, v4, v5, v6] 36 := q2.set 2 (.int .i64 Z.ph)
  have q4 : Blk _ N2 #[.int .i64 who, .int .i64 rv, .int .i64 Z.ph, .int .i64 Z.at', v4, v5, v6] 36 := q3.set 3 (.int .i64 Z.at')
  have q5 : Blk _ N2 #[.int .i64 who, .int .i64 rv, .int .i64 Z.ph, .int .i64 Z.at', .int .i64 Z.wv, v5, v6] 36 := q4.set 4 (.int .i64 Z.wv)
  have q6 : Blk _ N2 #[.int .i64 who, .int .i64 rv, .int .i64 Z.ph, .int .i64 Z.at', .int .i64 Z.wv, va, v6] 36 := q5.set 5 (va)
  have q7 : Blk _ N2 #[.int .i64 who, .int .i64 rv, .int .i64 Z.ph, .int .i64 Z.at', .int .i64 Z.wv, va, vb] 36 := q6.set 6 (vb)
  exact
  { x := (((((((k1.other hne 0 _).other hne 1 _).other hne 2 _).other hne 3 _).other hne 4 _).other hne 5 _).other hne 6 _)
    y := q7
    m := hm.keep fun k e => nine_heap (o1 k e) (o2 k e) _ _ _ _ _ _ _ _ _
    c := ⟨hc.p.keep fun k e => nine_heap (t1 k (.inl e)) (t2 k (.inl e)) _ _ _ _ _ _ _ _ _, hc.r.keep fun k e => nine_heap (t1 k (.inr e)) (t2 k (.inr e)) _ _ _ _ _ _ _ _ _⟩
    hm := fun k e => (hm.at k e).2, hc := fun k e => (hc.two k e).2, l1 := l1, l2 := l2, u1 := hY1.lt, u2 := hY2.lt, hh := by rw [nine_size]; exact Nat.le_refl _ }
/-- made one box after the other, the rows of each ahead of it -/
theorem RP.two {w4 w6 : World} {mc ph at' wv : Int} {ws : List W3} (O4 : Words.Owns lo w4 mv ws) (h0 : lo ≤ w4.heap.size)
    (O6 : OwnC (w4.heap.size + 1) w6 va vb ps rs) (b6 : Below (w4.heap.size + 1) (w4.alloc (.cells #[.int .i64 mc, mv] 33)) w6) :
    RP lo (w6.heap.size + 1) (w6.alloc (.cells #[.int .i64 who, .int .i64 rv, .int .i64 ph, .int .i64 at', .int .i64 wv, va, vb] 36)) w4.heap.size w6.heap.size who rv ps rs ⟨mc, ws, ph, at', wv⟩ mv va vb := by
  have a5 := alloc_below w4 (.cells #[.int .i64 mc, mv] 33)
  have a7 := alloc_below w6 (.cells #[.int .i64 who, .int .i64 rv, .int .i64 ph, .int .i64 at', .int .i64 wv, va, vb] 36)
  have X := Blk.new w4 #[.int .i64 mc, mv] 33
  have z5 : (w4.alloc (.cells #[.int .i64 mc, mv] 33)).heap.size = w4.heap.size + 1 := by simp
  have hz := b6.size
  rw [z5] at hz
  exact
  { x := (X.on b6 (by omega)).on a7 (by omega), y := Blk.new _ _ _, m := ((O4.on a5 (Nat.le_refl _)).on b6 (by omega)).on a7 (Nat.le_refl _), c := (O6.on a7 (Nat.le_refl _)).mono (by omega)
    hm := fun k e => by have := (O4.at k e).2; omega
    hc := fun k e => by have := (O6.two k e).2; omega
    l1 := h0, l2 := by omega, u1 := by omega, u2 := by omega, hh := by simp }
/-- made side by side, the rows of both ahead of them -/
theorem RP.pair {w8 : World} (OG : Words.Owns lo w8 mv Z.ws) (OC : OwnC lo w8 va vb ps rs) (h0 : lo ≤ w8.heap.size) :
    RP lo (w8.heap.size + 2) ((w8.alloc (.cells #[.int .i64 Z.mc, mv] 33)).alloc (.cells #[.int .i64 who, .int .i64 rv, .int .i64 Z.ph, .int .i64 Z.at', .int .i64 Z.wv, va, vb] 36)) w8.heap.size (w8.heap.size + 1) who rv ps rs Z mv va vb := by
  have a5 := alloc_below w8 (.cells #[.int .i64 Z.mc, mv] 33)
  have X := Blk.new w8 #[.int .i64 Z.mc, mv] 33
  have z5 : (w8.alloc (.cells #[.int .i64 Z.mc, mv] 33)).heap.size = w8.heap.size + 1 := by simp
  obtain ⟨w5, hw5⟩ : ∃ W, w8.alloc (.cells #[.int .i64 Z.mc, mv] 33) = W := ⟨_, rfl⟩
  rw [hw5] at a5 X z5 ⊢
  have a7 := alloc_below w5 (.cells #[.int .i64 who, .int .i64 rv, .int .i64 Z.ph, .int .i64 Z.at', .int .i64 Z.wv, va, vb] 36)
  have Y := Blk.new w5 #[.int .i64 who, .int .i64 rv, .int .i64 Z.ph, .int .i64 Z.at', .int .i64 Z.wv, va, vb] 36
  rw [z5] at Y
  exact
  { x := X.on a7 X.lt, y := Y, m := (OG.on a5 (Nat.le_refl _)).on a7 (Nat.le_refl _), c := (OC.on a5 (Nat.le_refl _)).on a7 (Nat.le_refl _)
    hm := fun k e => by have := (OG.at k e).2; omega
    hc := fun k e => by have := (OC.two k e).2; omega
    l1 := h0, l2 := by omega, u1 := by omega, u2 := by omega, hh := by simp; omega }
end
end Commits
end Go.Proofs.YtppikpdphcfomaaDoor
