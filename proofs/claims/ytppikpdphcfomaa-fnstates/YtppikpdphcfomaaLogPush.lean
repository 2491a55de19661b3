/- A row put behind rows that the call owns, a number behind numbers; a beginning of rows. -/
import Derived.Test.YtppikpdphcfomaaLogM
import Derived.Test.YtppikpdphcfomaaIntApp
set_option linter.unusedVariables false
set_option linter.unusedSimpArgs false
namespace Go.Proofs.Ytppikpdphcfomaa
open Go.RowKit
namespace Logs
open Bas Flat

theorem seesOneR (W : World) (x : R2) (t : TypeId) : Sees2 (W.heap.size + 1) (W.alloc (.cells #[.int .i64 x.c, .int .i64 x.v] t)) (.slice (some ⟨W.heap.size, 0, none⟩) 1 1) [x] :=
  ⟨_, 1, rfl, by simp, by unfold maxLen; omega, fun _ => ⟨W.heap.size, 0, rfl, by omega, fun j hj => by
    have hj0 : j = 0 := by simpa using hj
    subst hj0
    intro i u hu
    have hb : Blk (W.alloc (.cells #[.int .i64 x.c, .int .i64 x.v] t)) W.heap.size #[.int .i64 x.c, .int .i64 x.v] t := Blk.new W _ _
    simp only [Nat.zero_mul, Nat.zero_add]
    rw [hb.cell]
    change [Value.int .i64 x.c, .int .i64 x.v][i]? = some u at hu
    simpa using hu⟩⟩
theorem grown_allocR {w w' : World} {o : Obj} {r : Option Nat} (h : (w.alloc o).grownBy w' r) : w.grownBy w' r :=
  ⟨h.os, h.tape, h.output, Nat.le_trans (by simp) h.size, fun k hk hr => by
    rw [h.block k (by simp; omega) hr]
    exact (alloc_below w o).block k hk⟩
/-- append(v, x) -/
theorem pushR (v : Value) (xs : List R2) (B : Nat) (w : World) (h : Owns2 B w v xs) (hB : B ≤ w.heap.size) (hlen : xs.length ≤ 4000000) (x : R2) :
    ∃ v' w', (Builtin.append_ #[31, 31] 31 #[v, .slice (some ⟨w.heap.size, 0, none⟩) 1 1]).run Try.prog (w.alloc (.cells #[.int .i64 x.c, .int .i64 x.v] 87)) = .ok v' w' ∧ Owns2 B w' v' (xs ++ [x]) ∧ w.grownBy w' v.ownBlock ∧ (∀ k, v'.ownBlock = some k → v.ownBlock = some k ∨ w.heap.size ≤ k) := by
  obtain ⟨v', w', hr, hO, hG, hl⟩ := app rowRow v _ 31 xs [x] _ B (w.alloc (.cells #[.int .i64 x.c, .int .i64 x.v] 87)) (h.on (alloc_below w _) (Nat.le_refl _)) (by simp; omega) (seesOneR w x _) (by simp; omega)
  exact ⟨v', w', hr, hO, grown_allocR hG, fun k hk => (hl k hk).imp id fun h => by simp at h; omega⟩
theorem seesOneI (W : World) (x : Int) : Ints.Sees (W.heap.size + 1) (W.alloc (.cells #[.int .i64 x] 3)) (.slice (some ⟨W.heap.size, 0, none⟩) 1 1) [x] :=
  ⟨_, 1, rfl, by simp, by unfold maxLen; omega, fun _ => ⟨W.heap.size, 0, rfl, by omega, fun j hj => by
    have hj0 : j = 0 := by simpa using hj
    subst hj0
    have hb : Blk (W.alloc (.cells #[.int .i64 x] 3)) W.heap.size #[.int .i64 x] 3 := Blk.new W _ _
    rw [hb.cell]
    rfl⟩⟩
theorem pushI (v : Value) (zs : List Int) (B : Nat) (w : World) (h : Ints.Owns B w v zs) (hB : B ≤ w.heap.size) (hlen : zs.length ≤ 4000000) (x : Int) :
    ∃ v' w', (Builtin.append_ #[24, 24] 24 #[v, .slice (some ⟨w.heap.size, 0, none⟩) 1 1]).run Try.prog (w.alloc (.cells #[.int .i64 x] 3)) = .ok v' w' ∧ Ints.Owns B w' v' (zs ++ [x]) ∧ w.grownBy w' v.ownBlock ∧ (∀ k, v'.ownBlock = some k → v.ownBlock = some k ∨ w.heap.size ≤ k) := by
  obtain ⟨v', w', hr, hO, hG, hl⟩ := Ints.appJ v _ 24 zs [x] _ B _ (h.on (alloc_below w (.cells #[.int .i64 x] 3)) (Nat.le_refl _)) (by simp; omega) (seesOneI w x) (by simp; omega)
  exact ⟨v', w', hr, hO, grown_allocR hG, fun k hk => (hl k hk).imp id fun h => by simp at h; omega⟩
/-- l[:k] -/
theorem sees_take {B n cap k : Nat} {w : World} {a : Option Addr} {xs : List R2} (h : Sees2 B w (.slice a n cap) xs) (hn : xs.length = n) (hk : k ≤ n) : Sees2 B w (.slice a k cap) (xs.take k) := by
  obtain ⟨a', cap', e, h1, h2, h3⟩ := h
  simp only [Value.slice.injEq] at e
  obtain ⟨rfl, -, rfl⟩ := e
  have hl : (xs.take k).length = k := by rw [List.length_take]; omega
  refine ⟨a, cap, by rw [hl], by omega, h2, fun hne => ?_⟩
  obtain ⟨b, off, rfl, hlt, hc⟩ := h3 (fun e => hne (by rw [e]; simp))
  exact ⟨b, off, rfl, hlt, fun j hj => by rw [List.getElem_take]; exact hc j (by omega)⟩
theorem owns_litR (w : World) {B : Nat} (hB : B ≤ w.heap.size) : Owns2 B (w.alloc (.cells #[] 87)) (.slice (some ⟨w.heap.size, 0, none⟩) 0 0) [] := World.ownsRow_lit w #[] 0 hB (by simp [maxLen]) rfl
end Logs
end Go.Proofs.Ytppikpdphcfomaa
