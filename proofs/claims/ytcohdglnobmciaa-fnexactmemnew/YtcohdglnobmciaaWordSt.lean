/- Marks in whole memories; what the laws hold of their four memories as they go on. -/
import Derived.Test.YtcohdglnobmciaaWordMark
import Derived.Test.YtcohdglnobmciaaWordEq
import Derived.Test.YtcohdglnobmciaaWordKeep
namespace Go.Proofs.Ytcohdglnobmciaa
open Go.RowKit
namespace Words

theorem grownBy_alloc' {w w' : World} {o : Obj} {row : Option Nat} (h : (w.alloc o).grownBy w' row) : w.grownBy w' row :=
  ⟨h.os, h.tape, h.output, Nat.le_trans (by simp) h.size, fun k hk hne => (h.block k (by simp; omega) hne).trans (Below.heap_alloc w o k hk)⟩

set_option maxRecDepth 100000 in
set_option maxHeartbeats 400000 in
theorem markMemC (c : Int) (v : Value) (ws : List W3) (B : Nat) (w : World) (hv : Owns B w v ws) (hlen : ws.length ≤ 1048576) :
    Calls Try.prog 17 #[.agg #[.int .i64 c, v], .int .i64 1] w fun e w' => e = .returned (.int .i64 (1 + 3 * (ws.length : Int))) ∧ Owns B w' v (marks ws.length) ∧ w.grownBy w' v.ownBlock := by
  obtain ⟨a, cap, rfl⟩ := hv.form
  have hv0 := hv.on ((Below.refl w.heap.size w).alloc (Nat.le_refl _) (.cells #[.int .i64 c, .slice a ws.length cap] 29)) (Nat.le_refl _)
  obtain ⟨n, hn⟩ : ∃ n, ws.length = n := ⟨_, rfl⟩
  have c0 := markWordsC _ ws B _ hv0 hlen
  rw [hn] at c0 ⊢
  go_enter Try.func17, Try.ntmps17
  go_wp2_with fail
  refine c0.mono ?_
  rintro e w1 ⟨rfl, O1, hg⟩
  clear c0
  go_wp2
  go_ret
  exact ⟨rfl, O1, grownBy_alloc' hg⟩

set_option maxRecDepth 100000 in
set_option maxHeartbeats 400000 in
theorem heldMemC (c : Int) (v : Value) (n : Nat) (B : Nat) (w : World) (hv : Owns B w v (marks n)) (hlen : n ≤ 1048576) :
    Calls Try.prog 18 #[.agg #[.int .i64 c, v], .int .i64 1] w fun e w' => e = .returned (.int .i64 (1 + 3 * (n : Int))) ∧ Below w.heap.size w w' := by
  obtain ⟨a, cap, rfl⟩ := hv.form
  have hv0 := (hv.on ((Below.refl w.heap.size w).alloc (Nat.le_refl _) (.cells #[.int .i64 c, .slice a (marks n).length cap] 29)) (Nat.le_refl _)).sees
  have c0 := heldWordsC _ n _ _ hv0 hlen
  rw [marks_length] at c0 ⊢
  go_enter Try.func18, Try.ntmps18
  go_wp2_with fail
  refine c0.mono ?_
  rintro e w1 ⟨rfl, rfl⟩
  clear c0
  go_wp2
  go_ret
  exact ⟨rfl, (Below.refl _ _).alloc (Nat.le_refl _) _⟩

/-- what a law holds: its argument; what the specification answered; the argument's copy; what the program answered -/
structure St (w W : World) (c C : Int) (v v3 v4 v6 : Value) (p1 p2 p3 : Nat) (ws wr wx wg : List W3) : Prop where
  bel : Below w.heap.size w W
  X : Box W w.heap.size c v 24
  see : Sees w.heap.size W v ws
  P : Box W p1 C v3 29
  O3 : Owns w.heap.size W v3 wr
  Q : Box W p2 c v4 29
  O4 : Owns w.heap.size W v4 wx
  G : Box W p3 C v6 29
  O6 : Owns w.heap.size W v6 wg
  d3 : ∀ k, v3.ownBlock = some k → w.heap.size < k ∧ k < p1
  d4 : ∀ k, v4.ownBlock = some k → p1 < k ∧ k < p2
  d6 : ∀ k, v6.ownBlock = some k → p2 < k ∧ k < p3
  q1 : w.heap.size < p1
  q2 : p1 < p2
  q3 : p2 < p3

section
variable {w W W' : World} {c C : Int} {v v3 v4 v6 : Value} {p1 p2 p3 : Nat} {ws wr wx wg : List W3}
theorem St.on (h : St w W c C v v3 v4 v6 p1 p2 p3 ws wr wx wg) (hb : Below W.heap.size W W') : St w W' c C v v3 v4 v6 p1 p2 p3 ws wr wx wg :=
  { bel := h.bel.trans (hb.mono h.bel.size), X := h.X.on hb h.X.lt, see := h.see.on hb h.bel.size, P := h.P.on hb h.P.lt, O3 := h.O3.on hb (Nat.le_refl _), Q := h.Q.on hb h.Q.lt, O4 := h.O4.on hb (Nat.le_refl _),
    G := h.G.on hb h.G.lt, O6 := h.O6.on hb (Nat.le_refl _), d3 := h.d3, d4 := h.d4, d6 := h.d6, q1 := h.q1, q2 := h.q2, q3 := h.q3 }
theorem St.drew (h : St w W c C v v3 v4 v6 p1 p2 p3 ws wr wx wg) : St w W.drew c C v v3 v4 v6 p1 p2 p3 ws wr wx wg :=
  { h with bel := h.bel.drew }
theorem Sees.grown {B : Nat} (h : Sees B W v ws) {row : Option Nat} (hg : W.grownBy W' row) (hB : B ≤ W.heap.size) (hr : ∀ k, row = some k → B ≤ k) : Sees B W' v ws :=
  h.on (B' := B) ((Below.refl B W).grown hg hB hr) (Nat.le_refl _)
theorem St.mark4 (h : St w W c C v v3 v4 v6 p1 p2 p3 ws wr wx wg) (hg : W.grownBy W' v4.ownBlock) {wx' : List W3} (hO : Owns w.heap.size W' v4 wx') : St w W' c C v v3 v4 v6 p1 p2 p3 ws wr wx' wg :=
  have a1 := h.q1; have a2 := h.q2; have a3 := h.q3
  { bel := h.bel.grown hg h.bel.size (fun k hk => by have := h.d4 k hk; omega), X := h.X.grown hg (fun e => by have := h.d4 _ e.symm; omega),
    see := h.see.grown hg h.bel.size (fun k hk => by have := h.d4 k hk; omega),
    P := h.P.grown hg (fun e => by have := h.d4 _ e.symm; omega), O3 := h.O3.grown hg (fun k hk e => by have := h.d4 _ e.symm; have := h.d3 k hk; omega), Q := h.Q.grown hg (fun e => by have := h.d4 _ e.symm; omega), O4 := hO,
    G := h.G.grown hg (fun e => by have := h.d4 _ e.symm; omega), O6 := h.O6.grown hg (fun k hk e => by have := h.d4 _ e.symm; have := h.d6 k hk; omega), d3 := h.d3, d4 := h.d4, d6 := h.d6, q1 := h.q1, q2 := h.q2, q3 := h.q3 }
theorem St.mark6 (h : St w W c C v v3 v4 v6 p1 p2 p3 ws wr wx wg) (hg : W.grownBy W' v6.ownBlock) {wg' : List W3} (hO : Owns w.heap.size W' v6 wg') : St w W' c C v v3 v4 v6 p1 p2 p3 ws wr wx wg' :=
  have a1 := h.q1; have a2 := h.q2; have a3 := h.q3
  { bel := h.bel.grown hg h.bel.size (fun k hk => by have := h.d6 k hk; omega), X := h.X.grown hg (fun e => by have := h.d6 _ e.symm; omega),
    see := h.see.grown hg h.bel.size (fun k hk => by have := h.d6 k hk; omega),
    P := h.P.grown hg (fun e => by have := h.d6 _ e.symm; omega), O3 := h.O3.grown hg (fun k hk e => by have := h.d6 _ e.symm; have := h.d3 k hk; omega), Q := h.Q.grown hg (fun e => by have := h.d6 _ e.symm; omega),
    O4 := h.O4.grown hg (fun k hk e => by have := h.d6 _ e.symm; have := h.d4 k hk; omega),
    G := h.G.grown hg (fun e => by have := h.d6 _ e.symm; omega), O6 := hO, d3 := h.d3, d4 := h.d4, d6 := h.d6, q1 := h.q1, q2 := h.q2, q3 := h.q3 }
end
end Words
end Go.Proofs.Ytcohdglnobmciaa
