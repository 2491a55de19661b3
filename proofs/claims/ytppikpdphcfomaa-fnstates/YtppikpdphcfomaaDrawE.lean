/- The draws told loosely: a cursor somewhere over its code; the answer within its bounds. -/
import Derived.Test.YtppikpdphcfomaaDrawNew
import Derived.Test.YtppikpdphcfomaaBase
set_option linter.unusedVariables false
namespace Go.Proofs.Ytppikpdphcfomaa
open Go.RowKit
namespace Draw
open Num (below belowSt below_range)
open Bas (Blk)

/-- a cursor somewhere over the code -/
def Dr (B g : Nat) (v : Value) (l : List UInt8) (w : World) : Prop := ∃ s, Ctx B g v l s w
section
variable {B g : Nat} {v : Value} {l : List UInt8} {w w' : World}
theorem Dr.lt (h : Dr B g v l w) : g < w.heap.size := by obtain ⟨s, h⟩ := h; exact h.cur.lt
theorem Dr.low (h : Dr B g v l w) : B ≤ g := by obtain ⟨s, h⟩ := h; exact h.low
theorem Dr.alloc (h : Dr B g v l w) (o : Obj) : Dr B g v l (w.alloc o) := by obtain ⟨s, h⟩ := h; exact ⟨s, h.alloc o⟩
theorem Dr.grown (h : Dr B g v l w) {r : Option Nat} (hg : w.grownBy w' r) (hr : ∀ k, r = some k → g < k) : Dr B g v l w' := by obtain ⟨s, h⟩ := h; exact ⟨s, h.grown hg hr⟩
theorem Dr.set (h : Dr B g v l w) {p : Nat} (hp : g < p) (i : Nat) (u : Value) : Dr B g v l (w.setCell ⟨p, i, none⟩ u) :=
  h.grown (grown_set w p i u) (fun k hk => by cases hk; exact hp)
theorem Dr.drew (h : Dr B g v l w) : Dr B g v l w.drew := by obtain ⟨s, h⟩ := h; exact ⟨s, ⟨h.code.below (Below.refl _ _).drew, h.cur, h.low, h.len, h.at_⟩⟩
theorem Dr.below (h : Dr B g v l w) (hg : w.grownBy w' (some g)) : Below B w w' := below_of hg h.low h.lt
end
theorem grown_new {w w' : World} {r : Option Nat} (h : w.grownBy w' r) (o : Obj) : w.grownBy (w'.alloc o) r :=
  ⟨h.os, h.tape, h.output, Nat.le_trans h.size (by simp), fun k hk hne => (Below.heap_alloc w' o k (Nat.lt_of_lt_of_le hk h.size)).trans (h.block k hk hne)⟩
theorem grown_store {w w' : World} {r : Option Nat} (h : w.grownBy w' r) {p : Nat} (hp : w.heap.size ≤ p) (i : Nat) (u : Value) : w.grownBy (w'.setCell ⟨p, i, none⟩ u) r :=
  ⟨h.os, h.tape, h.output, by rw [size_set]; exact h.size, fun k hk hne => by rw [Below.heap_setCell _ _ _ _ (by show k ≠ p; omega)]; exact h.block k hk hne⟩
theorem grown_refl (w : World) (r : Option Nat) : w.grownBy w r := ⟨rfl, rfl, rfl, Nat.le_refl _, fun _ _ _ => rfl⟩
theorem grown_drew {a b : World} {r : Option Nat} (h : a.grownBy b r) : a.grownBy b.drew r := ⟨h.os, h.tape, h.output, h.size, h.block⟩

theorem belowE {B g : Nat} {v : Value} {l : List UInt8} {w : World} (h : Dr B g v l w) (n : Int) (hn : 0 < n) :
    Calls Try.prog 40 #[.pointer (some ⟨g, 0, none⟩), .int .i64 n] w fun e w' => ∃ r, e = .returned (.int .i64 r) ∧ 0 ≤ r ∧ r < n ∧ Dr B g v l w' ∧ w.grownBy w' (some g) := by
  obtain ⟨s, h⟩ := h
  refine (belowC B g v l s n w h).mono ?_
  rintro e w' ⟨rfl, C, G⟩
  have := below_range l s n hn
  exact ⟨_, rfl, this.1, this.2, ⟨_, C⟩, G⟩
theorem onceE {B g : Nat} {v : Value} {l : List UInt8} {w : World} (h : Dr B g v l w) (n : Int) :
    Calls Try.prog 38 #[.pointer (some ⟨g, 0, none⟩), .int .i64 n] w fun e w' => ∃ b, e = .returned (.bool b) ∧ Dr B g v l w' ∧ w.grownBy w' (some g) := by
  obtain ⟨s, h⟩ := h
  refine (onceC B g v l s n w h).mono ?_
  rintro e w' ⟨rfl, C, G⟩
  exact ⟨_, rfl, ⟨_, C⟩, G⟩
theorem getD_range {zs : List Int} {lo hi : Int} (h : ∀ z ∈ zs, lo ≤ z ∧ z ≤ hi) (h0 : lo ≤ 0 ∧ 0 ≤ hi) (j : Nat) : lo ≤ zs.getD j 0 ∧ zs.getD j 0 ≤ hi := by
  by_cases hj : j < zs.length
  · rw [List.getD_eq_getElem?_getD, List.getElem?_eq_getElem hj]; exact h _ (List.getElem_mem hj)
  · rw [List.getD_eq_getElem?_getD, List.getElem?_eq_none (by omega)]; exact h0
/-- one of a list that was just laid -/
theorem pickE {B g : Nat} {v : Value} {l : List UInt8} {w : World} (h : Dr B g v l w) (zs : List Int) (lo hi : Int) (hz : ∀ z ∈ zs, lo ≤ z ∧ z ≤ hi) (h0 : lo ≤ 0 ∧ 0 ≤ hi) (m : Nat) (hm : zs.length = m) (hm0 : 0 < m) (hm1 : m ≤ 1000) (cs : Array Value) (hcs : cs = (zs.map (Value.int .i64)).toArray) :
    Calls Try.prog 96 #[.pointer (some ⟨g, 0, none⟩), .slice (some ⟨w.heap.size, 0, none⟩) m m] (w.alloc (.cells cs 3)) fun e w' => ∃ r, e = .returned (.int .i64 r) ∧ lo ≤ r ∧ r ≤ hi ∧ Dr B g v l w' ∧ w.grownBy w' (some g) := by
  have hlt := h.lt
  obtain ⟨s, h⟩ := h
  refine (pickC B g w.heap.size m v l s zs _ (h.alloc _) (by omega) (by simp) hm0 hm1 (fun j hj => ?_)).mono ?_
  · subst hcs
    rw [cell_of_row _ _ _ _ _ _ (heap_alloc_new w _)]
    simp [List.getD, show j < zs.length by omega]
  · rintro e w' ⟨rfl, C, G⟩
    have := getD_range (zs := zs) (lo := lo) (hi := hi) hz h0 (Num.below l s m).toNat
    refine ⟨_, rfl, this.1, this.2, ⟨_, C⟩, ?_⟩
    exact grown_trans (World.grownBy_alloc w _ _) G

set_option maxRecDepth 100000 in
set_option maxHeartbeats 800000 in
theorem drawE {B g : Nat} {v : Value} {l : List UInt8} {w : World} (h : Dr B g v l w) :
    Calls Try.prog 69 #[.pointer (some ⟨g, 0, none⟩)] w fun e w' => ∃ r, e = .returned (.int .i64 r) ∧ 0 ≤ r ∧ r ≤ 65535 ∧ Dr B g v l w' ∧ w.grownBy w' (some g) := by
  go_enter Try.func69, Try.ntmps69
  go_wp2_with fail
  refine (onceE h 6).mono ?_
  rintro e w1 ⟨b, rfl, D1, G1⟩
  clear h
  cases b
  · go_wp2_with fail
    refine (belowE D1 9 (by omega)).mono ?_
    rintro e w2 ⟨r, rfl, h1, h2, D2, G2⟩
    go_wp2
    go_ret
    exact ⟨_, rfl, h1, by omega, D2, grown_trans G1 G2⟩
  · go_wp2_with fail
    refine (pickE D1 [0, 65535, 65534, 256] 0 65535 (by simp) (by omega) 4 rfl (by omega) (by omega) _ rfl).mono ?_
    rintro e w2 ⟨r, rfl, h1, h2, D2, G2⟩
    go_wp2
    go_ret
    exact ⟨_, rfl, h1, h2, D2, grown_trans G1 G2⟩
set_option maxRecDepth 100000 in
theorem regE {B g : Nat} {v : Value} {l : List UInt8} {w : World} (h : Dr B g v l w) :
    Calls Try.prog 124 #[.pointer (some ⟨g, 0, none⟩)] w fun e w' => ∃ r, e = .returned (.int .i64 r) ∧ 0 ≤ r ∧ r ≤ 65535 ∧ Dr B g v l w' ∧ w.grownBy w' (some g) := by
  go_enter Try.func124, Try.ntmps124
  go_wp2_with fail
  refine (belowE h 4 (by omega)).mono ?_
  rintro e w2 ⟨r, rfl, h1, h2, D2, G2⟩
  clear h
  go_wp2
  go_ret
  exact ⟨_, rfl, h1, by omega, D2, G2⟩
set_option maxRecDepth 100000 in
theorem cellE {B g : Nat} {v : Value} {l : List UInt8} {w : World} (h : Dr B g v l w) :
    Calls Try.prog 120 #[.pointer (some ⟨g, 0, none⟩)] w fun e w' => ∃ r, e = .returned (.int .i64 r) ∧ 0 ≤ r ∧ r ≤ 65535 ∧ Dr B g v l w' ∧ w.grownBy w' (some g) := by
  go_enter Try.func120, Try.ntmps120
  go_wp2_with fail
  refine (onceE h 8).mono ?_
  rintro e w1 ⟨b, rfl, D1, G1⟩
  clear h
  cases b
  · go_wp2_with fail
    refine (belowE D1 3 (by omega)).mono ?_
    rintro e w2 ⟨r, rfl, h1, h2, D2, G2⟩
    go_wp2
    go_ret
    exact ⟨_, rfl, h1, by omega, D2, grown_trans G1 G2⟩
  · go_wp2_with fail
    refine (belowE D1 8 (by omega)).mono ?_
    rintro e w2 ⟨r, rfl, h1, h2, D2, G2⟩
    go_wp2
    go_ret
    exact ⟨_, rfl, h1, by omega, D2, grown_trans G1 G2⟩
set_option maxRecDepth 100000 in
set_option maxHeartbeats 800000 in
theorem keyE {B g : Nat} {v : Value} {l : List UInt8} {w : World} (h : Dr B g v l w) :
    Calls Try.prog 125 #[.pointer (some ⟨g, 0, none⟩)] w fun e w' => ∃ r, e = .returned (.int .i64 r) ∧ 0 ≤ r ∧ r ≤ 65535 ∧ Dr B g v l w' ∧ w.grownBy w' (some g) := by
  go_enter Try.func125, Try.ntmps125
  go_wp2_with fail
  refine (onceE h 4).mono ?_
  rintro e w1 ⟨b, rfl, D1, G1⟩
  clear h
  cases b
  · go_wp2_with fail
    refine (pickE D1 [0, 4, 1] 0 65535 (by simp) (by omega) 3 rfl (by omega) (by omega) _ rfl).mono ?_
    rintro e w2 ⟨r, rfl, h1, h2, D2, G2⟩
    go_wp2
    go_ret
    exact ⟨_, rfl, h1, h2, D2, grown_trans G1 G2⟩
  · go_wp2_with fail
    refine (belowE D1 8 (by omega)).mono ?_
    rintro e w2 ⟨r, rfl, h1, h2, D2, G2⟩
    go_wp2
    go_ret
    exact ⟨_, rfl, h1, by omega, D2, grown_trans G1 G2⟩
end Draw
end Go.Proofs.Ytppikpdphcfomaa
