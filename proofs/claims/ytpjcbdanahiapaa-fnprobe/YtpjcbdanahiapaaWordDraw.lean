/- The draws of chapter 3: l3Draw, l3Index, l3Mem. -/
import Derived.Test.YtpjcbdanahiapaaDrawNew
import Derived.Test.YtpjcbdanahiapaaWordCopy
import Derived.Test.YtpjcbdanahiapaaWordKeep
import Derived.OwnWalk
namespace Go.Proofs.Ytpjcbdanahiapaa
open Go.RowKit
namespace Words
open Draw (Ctx belowC onceC pickC)
open Num (below belowSt below_range)

theorem four_cells (w : World) (a b c d : Int) (j : Nat) (hj : j < 4) : (w.alloc (.cells #[.int .i64 a, .int .i64 b, .int .i64 c, .int .i64 d] 3)).cell? ⟨w.heap.size, j, none⟩ = some (.int .i64 ([a, b, c, d].getD j 0)) := by
  rw [cell_of_row _ _ _ _ _ _ (heap_alloc_new w _)]
  match j, hj with
  | 0, _ => rfl
  | 1, _ => rfl
  | 2, _ => rfl
  | 3, _ => rfl
theorem three_cells (w : World) (a b c : Int) (j : Nat) (hj : j < 3) : (w.alloc (.cells #[.int .i64 a, .int .i64 b, .int .i64 c] 3)).cell? ⟨w.heap.size, j, none⟩ = some (.int .i64 ([a, b, c].getD j 0)) := by
  rw [cell_of_row _ _ _ _ _ _ (heap_alloc_new w _)]
  match j, hj with
  | 0, _ => rfl
  | 1, _ => rfl
  | 2, _ => rfl
theorem getD_range {zs : List Int} {lo hi : Int} (h : ∀ z ∈ zs, lo ≤ z ∧ z ≤ hi) (h0 : lo ≤ 0 ∧ 0 ≤ hi) (j : Nat) : lo ≤ zs.getD j 0 ∧ zs.getD j 0 ≤ hi := by
  by_cases hj : j < zs.length
  · rw [List.getD_eq_getElem?_getD, List.getElem?_eq_getElem hj]; exact h _ (List.getElem_mem hj)
  · rw [List.getD_eq_getElem?_getD, List.getElem?_eq_none (by omega)]; exact h0
theorem grown_alloc {w w1 w2 : World} {r : Option Nat} (h : w.grownBy w1 r) (o : Obj) (k : (w1.alloc o).grownBy w2 r) : w.grownBy w2 r :=
  Draw.grown_trans h ⟨k.os, k.tape, k.output, Nat.le_trans (by simp) k.size, fun i hi hne => (k.block i (by simp; omega) hne).trans (Below.heap_alloc w1 o i hi)⟩

set_option maxRecDepth 100000 in
set_option maxHeartbeats 800000 in
theorem drawC (B g : Nat) (v : Value) (l : List UInt8) (s : Num.St) (w : World) (h : Ctx B g v l s w) :
    Calls Try.prog 93 #[.pointer (some ⟨g, 0, none⟩)] w fun e w' => ∃ (r : Int) (s' : Num.St), e = .returned (.int .i64 r) ∧ 0 ≤ r ∧ r ≤ 65535 ∧ Ctx B g v l s' w' ∧ w.grownBy w' (some g) := by
  have c1 := onceC B g v l s 6 w h
  obtain ⟨b, hb⟩ : ∃ b, (below l s 6 == 0) = b := ⟨_, rfl⟩
  rw [hb] at c1
  have hlt := h.cur.lt
  clear hb h
  cases b
  · go_enter Try.func93, Try.ntmps93
    go_wp2_with fail
    refine c1.mono ?_
    rintro e w1 ⟨rfl, C1, g1⟩
    have hr := below_range l (belowSt l s 6) 9 (by omega)
    go_wp2_with fail
    refine (belowC B g v l _ 9 w1 C1).mono ?_
    rintro e w2 ⟨rfl, C2, g2⟩
    go_wp2
    go_ret
    exact ⟨_, _, rfl, by omega, by omega, C2, Draw.grown_trans g1 g2⟩
  · go_enter Try.func93, Try.ntmps93
    go_wp2_with fail
    refine c1.mono ?_
    rintro e w1 ⟨rfl, C1, g1⟩
    have hs1 := C1.cur.lt
    have hr := getD_range (zs := [0, 65535, 65534, 256]) (lo := 0) (hi := 65535) (by simp) (by omega) (below l (belowSt l s 6) (4 : Nat)).toNat
    go_wp2_with fail
    refine (pickC B g w1.heap.size 4 v l _ [0, 65535, 65534, 256] _ (C1.alloc _) (by omega) (by simp) (by omega) (by omega) (four_cells w1 0 65535 65534 256)).mono ?_
    rintro e w2 ⟨rfl, C2, g2⟩
    obtain ⟨r, hr'⟩ : ∃ r, ([0, 65535, 65534, 256] : List Int).getD (below l (belowSt l s 6) (4 : Nat)).toNat 0 = r := ⟨_, rfl⟩
    rw [hr'] at hr ⊢
    go_wp2
    go_ret
    exact ⟨_, _, rfl, hr.1, hr.2, C2, grown_alloc g1 _ g2⟩

end Words
end Go.Proofs.Ytpjcbdanahiapaa
