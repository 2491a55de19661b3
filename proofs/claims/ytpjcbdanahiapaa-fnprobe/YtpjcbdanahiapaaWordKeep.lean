/- What is owned stays where other blocks are written. -/
import Derived.Test.YtpjcbdanahiapaaWordRow
namespace Go.Proofs.Ytpjcbdanahiapaa
open Go.RowKit
namespace Words

theorem Owns.keep {B : Nat} {w w' : World} {v : Value} {ws : List W3} (h : Owns B w v ws) (hk : ∀ k, v.ownBlock = some k → w'.heap[k]? = w.heap[k]?) : Owns B w' v ws := by
  obtain ⟨h1, h2⟩ := h
  refine ⟨h1, ?_⟩
  rcases h2 with h2 | ⟨g, cap, cur, rfl, hg, hh, r⟩
  · exact .inl h2
  · exact .inr ⟨g, cap, cur, rfl, hg, by rw [hk g rfl]; exact hh, r⟩
theorem Owns.at {B : Nat} {w : World} {v : Value} {ws : List W3} (h : Owns B w v ws) : ∀ k, v.ownBlock = some k → B ≤ k ∧ k < w.heap.size := by
  intro k hk
  obtain ⟨h1, h2⟩ := h
  rcases h2 with ⟨rfl, h0⟩ | ⟨g, cap, cur, rfl, hg, hh, r⟩
  · cases hk
  · cases hk; exact ⟨hg, (Array.getElem?_eq_some_iff.1 hh).1⟩
/-- a cell of another block is written -/
theorem Owns.other {B : Nat} {w : World} {v : Value} {ws : List W3} (h : Owns B w v ws) {p : Addr} (hp : ∀ k, v.ownBlock = some k → k ≠ p.block) (u : Value) : Owns B (w.setCell p u) v ws :=
  h.keep fun k hk => heap_setCell_other w p k u (hp k hk)
/-- another row is marked -/
theorem Owns.grown {B : Nat} {w w' : World} {v : Value} {ws : List W3} (h : Owns B w v ws) {row : Option Nat} (hg : w.grownBy w' row) (hr : ∀ k, v.ownBlock = some k → some k ≠ row) : Owns B w' v ws :=
  h.keep fun k hk => hg.block k (h.at k hk).2 (hr k hk)
theorem Box.grown {W W' : World} {p : Nat} {c : Int} {v : Value} {t : TypeId} (h : Box W p c v t) {row : Option Nat} (hg : W.grownBy W' row) (hr : some p ≠ row) : Box W' p c v t :=
  (hg.block p h.lt hr).trans h
theorem Owns.drew {B : Nat} {w : World} {v : Value} {ws : List W3} (h : Owns B w v ws) : Owns B w.drew v ws := h
end Words
end Go.Proofs.Ytpjcbdanahiapaa
