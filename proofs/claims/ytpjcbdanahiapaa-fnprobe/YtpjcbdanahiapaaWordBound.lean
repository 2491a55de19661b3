/- impl's cells: an array of three, brought between bounds, compared. -/
import Derived.Test.YtpjcbdanahiapaaWordOk
import Derived.Deep.RegionHeld3
namespace Go.Proofs.Ytpjcbdanahiapaa
open Go.RowKit
namespace Words

/-- a number brought between 0 and t -/
def cl (a t : Int) : Int := if 0 < if t < a then t else a then if t < a then t else a else 0

theorem heap_alloc3_new (w : World) (A B C : Obj) : (((w.alloc A).alloc B).alloc C).heap[w.heap.size + 2]? = some C := by
  have h := heap_alloc_new ((w.alloc A).alloc B) C
  have e : ((w.alloc A).alloc B).heap.size = w.heap.size + 2 := by simp
  rwa [e] at h

set_option maxRecDepth 100000 in
set_option maxHeartbeats 400000 in
theorem cellOfC (x : W3) (w : World) :
    Calls Try.prog 95 #[x.agg] w fun e w' => e = .returned x.agg ∧ Below w.heap.size w w' := by
  go_enter Try.func95, Try.ntmps95
  go_wp2
  exact bodyPost_ret (v := x.agg) (by simp [results, Try.results95, go_sem]) rfl ⟨rfl, ((Below.refl _ _).alloc (Nat.le_refl _) _).alloc (by simp) _⟩

set_option maxRecDepth 100000 in
set_option maxHeartbeats 800000 in
theorem boundedC (x t : W3) (w : World) :
    Calls Try.prog 96 #[x.agg, t.agg] w fun e w' => e = .returned (W3.agg ⟨cl x.val t.val, cl x.ver t.ver, cl x.own t.own⟩) ∧ Below w.heap.size w w' := by
  go_enter Try.func96, Try.ntmps96
  go_wp2
  go_loopw [6] (fun i wr => ∃ k : Nat, k ≤ 3 ∧ i = .int .i64 k ∧ Below w.heap.size w wr ∧ w.heap.size + 2 < wr.heap.size ∧
      wr.heap[w.heap.size]? = some (.cells #[.int .i64 (if 0 < k then cl x.val t.val else x.val), .int .i64 (if 1 < k then cl x.ver t.ver else x.ver), .int .i64 (if 2 < k then cl x.own t.own else x.own)] 133 (0, 0)) ∧
      wr.heap[w.heap.size + 1]? = some (.cells #[.int .i64 t.val, .int .i64 t.ver, .int .i64 t.own] 133 (0, 0)) ∧
      wr.heap[w.heap.size + 2]? = some (.cells #[.int .i64 0, .int .i64 0, .int .i64 0] 133 (0, 0))) (fun i _ => 3 - (intOf i).toNat)
  case atStart =>
    exact ⟨0, by omega, rfl, (((Below.refl _ _).alloc (Nat.le_refl _) _).alloc (by simp) _).alloc (by simp; omega) _, by simp,
      by rw [Below.heap_alloc _ _ _ (by simp; omega), Below.heap_alloc _ _ _ (by simp), heap_alloc_new]; rfl,
      by rw [Below.heap_alloc _ _ _ (by simp)]; exact heap_alloc2_new _ _ _,
      heap_alloc3_new _ _ _ _⟩
  case round =>
    obtain ⟨k, hk, rfl, hb, hsz, m0, m1, m2⟩ := hrel
    have f0 := fun j => frozen_of_row wr w.heap.size j _ _ m0
    have f2 := fun j => frozen_of_row wr (w.heap.size + 2) j _ _ m2
    have c0 := fun j => cell_of_row wr w.heap.size j _ _ _ m0
    have c1 := fun j => cell_of_row wr (w.heap.size + 1) j _ _ _ m1
    have c2 := fun j => cell_of_row wr (w.heap.size + 2) j _ _ _ m2
    have M0 : Hid _ := m0
    have M1 : Hid _ := m1
    have M2 : Hid _ := m2
    clear m0 m1 m2
    rcases (show k = 0 ∨ k = 1 ∨ k = 2 ∨ k = 3 by omega) with rfl | rfl | rfl | rfl
    · simp only [Nat.lt_irrefl, Nat.not_lt_zero, if_false] at c0
      go_wp2_with fail
      go_region_with fail
      all_goals
        go_wp2
        go_roundw
        case rel =>
          refine ⟨1, by omega, by go_num, (hb.setCell (Nat.le_refl _) _).drew, by simpa [heap_drew] using hsz, ?_, ?_, ?_⟩
          · rw [heap_drew, heap_setCell_same _ _ _ _ _ _ M0.out]; rfl
          · rw [heap_drew, heap_setCell_other _ _ _ _ (by simp)]; exact M1.out
          · rw [heap_drew, heap_setCell_other _ _ _ _ (by simp)]; exact M2.out
        case measure => simp [intOf]
    · simp only [show (0 : Nat) < 1 from by decide, Nat.lt_irrefl, show ¬ (2 : Nat) < 1 from by decide, if_true, if_false] at c0
      go_wp2_with fail
      go_region_with fail
      all_goals
        go_wp2
        go_roundw
        case rel =>
          refine ⟨2, by omega, by go_num, (hb.setCell (Nat.le_refl _) _).drew, by simpa [heap_drew] using hsz, ?_, ?_, ?_⟩
          · rw [heap_drew, heap_setCell_same _ _ _ _ _ _ M0.out]; rfl
          · rw [heap_drew, heap_setCell_other _ _ _ _ (by simp)]; exact M1.out
          · rw [heap_drew, heap_setCell_other _ _ _ _ (by simp)]; exact M2.out
        case measure => simp [intOf]
    · simp only [show (0 : Nat) < 2 from by decide, show (1 : Nat) < 2 from by decide, Nat.lt_irrefl, if_true, if_false] at c0
      go_wp2_with fail
      go_region_with fail
      all_goals
        go_wp2
        go_roundw
        case rel =>
          refine ⟨3, by omega, by go_num, (hb.setCell (Nat.le_refl _) _).drew, by simpa [heap_drew] using hsz, ?_, ?_, ?_⟩
          · rw [heap_drew, heap_setCell_same _ _ _ _ _ _ M0.out]; rfl
          · rw [heap_drew, heap_setCell_other _ _ _ _ (by simp)]; exact M1.out
          · rw [heap_drew, heap_setCell_other _ _ _ _ (by simp)]; exact M2.out
        case measure => simp [intOf]
    · simp only [show (0 : Nat) < 3 from by decide, show (1 : Nat) < 3 from by decide, show (2 : Nat) < 3 from by decide, if_true] at c0
      go_wp2
      exact bodyPost_ret (v := W3.agg ⟨cl x.val t.val, cl x.ver t.ver, cl x.own t.own⟩) (by simp [results, Try.results96, go_sem, c2]) rfl ⟨rfl, ((hb.setCell (by simp; omega) _).setCell (by simp; omega) _).setCell (by simp; omega) _⟩
end Words
end Go.Proofs.Ytpjcbdanahiapaa
