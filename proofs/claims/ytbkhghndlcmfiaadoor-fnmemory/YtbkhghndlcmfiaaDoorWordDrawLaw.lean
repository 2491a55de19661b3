/- spec.DrawTick and DrawLock. -/
import Derived.Test.YtbkhghndlcmfiaaDoorWordDrawAny
namespace Go.Proofs.YtbkhghndlcmfiaaDoor
open Go.RowKit
namespace Words
open Draw (Ctx belowC onceC pickC newC)
open Num (below belowSt below_range st0)

theorem grown_toBelow {w w1 w2 : World} {g : Nat} (h : w.grownBy w1 none) (k : w1.grownBy w2 (some g)) (hg : w.heap.size ≤ g) : Below w.heap.size w w2 :=
  ⟨k.os.trans h.os, k.tape.trans h.tape, k.output.trans h.output, Nat.le_trans h.size k.size, fun i hi => (k.block i (Nat.lt_of_lt_of_le hi h.size) (by intro e; injection e with e; omega)).trans (h.block i hi (by simp))⟩

set_option maxRecDepth 100000 in
set_option maxHeartbeats 800000 in
theorem drawTickC (B : Nat) (v : Value) (l : List UInt8) (w : World) (hC : Draw.Code B w v l) (hB : B ≤ w.heap.size) (hl : l.length ≤ 1048576) :
    Calls Tryd.prog 14 #[v] w fun e w' => ∃ (c : Int) (v' : Value) (ws : List W3), e = .returned (.agg #[.int .i64 c, v']) ∧ Owns w.heap.size w' v' ws ∧ ws.length ≤ 8 ∧ 0 ≤ c ∧ c ≤ 1000001 ∧ Below w.heap.size w w' := by
  have hb0 := (Below.refl w.heap.size w).alloc (Nat.le_refl _) (.cells #[.int .i64 0, .slice none 0 0] 26)
  have Y0 := Box.new w 0 (.slice none 0 0) 26
  have hC0 := hC.below (hb0.mono hB)
  go_enter Tryd.func14, Tryd.ntmps14
  go_wp2_with fail
  refine (newC B v l _ hC0 (by simp; omega) hl).mono ?_
  rintro e w1 ⟨rfl, C1, g1⟩
  have Y1 := Y0.grown g1 (by simp)
  obtain ⟨g, hg⟩ : ∃ g, (w.alloc (.cells #[.int .i64 0, .slice none 0 0] 26)).heap.size = g := ⟨_, rfl⟩
  rw [hg] at C1 ⊢
  have hgs : w.heap.size < g := by rw [← hg]; simp
  clear hg
  go_wp2_with fail
  refine (anyC B g v l _ w1 C1).mono ?_
  rintro e w2 ⟨c, v2, ws, s2, rfl, O2, hwl, hc0, hc1, C2, g2⟩
  obtain ⟨a2, cap2, rfl⟩ := O2.form
  have Y2 := Y1.grownG g2 (by omega)
  have j0 := Y2.c0; have j1 := Y2.c1; have jf := fun j => frozen_of_row w2 w.heap.size j _ _ Y2
  have bw : Below w.heap.size w w2 := by
    have b1 : Below w.heap.size w w1 := hb0.grown g1 (by simp) (fun k hk => by cases hk)
    exact b1.trans ⟨g2.os, g2.tape, g2.output, g2.size, fun i hi => g2.block i (by have := b1.size; omega) (by intro e; injection e with e; omega)⟩
  have hs1 : w.heap.size < w1.heap.size := Y1.lt
  go_wp2
  refine bodyPost_ret (v := .agg #[.int .i64 c, .slice a2 ws.length cap2]) (by simp [results, Tryd.results14, go_sem, j0, j1]) rfl ⟨c, _, ws, rfl, ?_, hwl, hc0, hc1, (bw.setCell (by simp) _).setCell (by simp) _⟩
  exact ((O2.setCell (by simp; omega) _).setCell (by simp; omega) _).mono (by omega)

theorem eight_cells (w : World) (j : Nat) (hj : j < 8) : (w.alloc (.cells #[.int .i64 1, .int .i64 2, .int .i64 3, .int .i64 4, .int .i64 5, .int .i64 99, .int .i64 100, .int .i64 0] 3)).cell? ⟨w.heap.size, j, none⟩ = some (.int .i64 (([1, 2, 3, 4, 5, 99, 100, 0] : List Int).getD j 0)) := by
  rw [cell_of_row _ _ _ _ _ _ (heap_alloc_new w _)]
  match j, hj with
  | 0, _ => rfl
  | 1, _ => rfl
  | 2, _ => rfl
  | 3, _ => rfl
  | 4, _ => rfl
  | 5, _ => rfl
  | 6, _ => rfl
  | 7, _ => rfl

set_option maxRecDepth 100000 in
set_option maxHeartbeats 1600000 in
theorem drawLockC (B : Nat) (v : Value) (l : List UInt8) (w : World) (hC : Draw.Code B w v l) (hB : B ≤ w.heap.size) (hl : l.length ≤ 1048576) :
    Calls Tryd.prog 5 #[v] w fun e w' => ∃ (c : Int) (v' : Value) (ws : List W3) (i who : Int), e = .returned (.tuple #[.agg #[.int .i64 c, v'], .int .i64 i, .int .i64 who]) ∧ Owns w.heap.size w' v' ws ∧ ws.length ≤ 8 ∧ 0 ≤ c ∧ c ≤ 1000001 ∧ 0 ≤ who ∧ who ≤ 100 ∧ Below w.heap.size w w' := by
  have hb0 := (Below.refl w.heap.size w).alloc (Nat.le_refl _) (.cells #[.int .i64 0, .slice none 0 0] 26)
  have Y0 := Box.new w 0 (.slice none 0 0) 26
  have hC0 := hC.below (hb0.mono hB)
  go_enter Tryd.func5, Tryd.ntmps5
  go_wp2_with fail
  refine (newC B v l _ hC0 (by simp; omega) hl).mono ?_
  rintro e w1 ⟨rfl, C1, g1⟩
  have Y1 := Y0.grown g1 (by simp)
  obtain ⟨g, hg⟩ : ∃ g, (w.alloc (.cells #[.int .i64 0, .slice none 0 0] 26)).heap.size = g := ⟨_, rfl⟩
  rw [hg] at C1 ⊢
  have hgs : w.heap.size < g := by rw [← hg]; simp
  clear hg
  have b1 : Below w.heap.size w w1 := hb0.grown g1 (by simp) (fun k hk => by cases hk)
  go_wp2_with fail
  refine (anyC B g v l _ w1 C1).mono ?_
  rintro e w2 ⟨c, v2, ws, s2, rfl, O2, hwl, hc0, hc1, C2, g2⟩
  obtain ⟨a2, cap2, rfl⟩ := O2.form
  obtain ⟨n, hn⟩ : ∃ n, ws.length = n := ⟨_, rfl⟩
  rw [hn] at O2 hwl ⊢
  have Y2 := Y1.grownG g2 (by omega)
  have hs1 : w.heap.size < w1.heap.size := Y1.lt
  have b2 : Below w.heap.size w w2 := b1.trans ⟨g2.os, g2.tape, g2.output, g2.size, fun i hi => g2.block i (by have := b1.size; omega) (by intro e; injection e with e; omega)⟩
  have own2 := O2.at
  have Bn := (Below.refl w2.heap.size w2).alloc (Nat.le_refl _) (.cells #[.int .i64 c, .slice a2 n cap2] 26)
  have X3 := Box.new w2 c (.slice a2 n cap2) 26
  have Y3 := Y2.on Bn Y2.lt
  have O3 := (O2.on Bn (Nat.le_refl _)).mono (show w.heap.size + 1 ≤ w1.heap.size by omega)
  have C3 := Ctx.alloc C2 (.cells #[.int .i64 c, .slice a2 n cap2] 26)
  have b3 := b2.trans (Bn.mono b2.size)
  obtain ⟨W3, hW3⟩ : ∃ W3, w2.alloc (.cells #[.int .i64 c, .slice a2 n cap2] 26) = W3 := ⟨_, rfl⟩
  obtain ⟨p, hp⟩ : ∃ p, w2.heap.size = p := ⟨_, rfl⟩
  rw [hW3] at X3 Y3 O3 C3 b3
  rw [hp] at X3
  have hg1 := C1.cur.lt
  have hgp : g < p := by have := C2.cur.lt; omega
  have hwp : w.heap.size < p := by omega
  clear C1 g1 Y1 Y0 hC0 O2 C2 g2 Y2 Bn b2
  go_wp2_with fail
  clear hW3 hp
  refine (indexC B g v l s2 W3 C3).mono ?_
  rintro e w4 ⟨i, s4, rfl, hi0, hi1, C4, g4⟩
  have X4 := X3.grownG g4 (by omega); have Y4 := Y3.grownG g4 (by omega)
  have O4 : Owns (w.heap.size + 1) w4 (.slice a2 n cap2) ws := O3.grown g4 (fun k hk e => by injection e with e; have := own2 k hk; have := g4.size; omega)
  have b4 : Below w.heap.size w w4 := b3.trans ⟨g4.os, g4.tape, g4.output, g4.size, fun j hj => g4.block j (by have := b3.size; omega) (by intro e; injection e with e; omega)⟩
  have hlt4 := C4.cur.lt
  have hr := getD_range (zs := [1, 2, 3, 4, 5, 99, 100, 0]) (lo := 0) (hi := 100) (by simp) (by omega) (below l s4 (8 : Nat)).toNat
  have C5 := Ctx.alloc C4 (.cells #[.int .i64 1, .int .i64 2, .int .i64 3, .int .i64 4, .int .i64 5, .int .i64 99, .int .i64 100, .int .i64 0] 3)
  have cP := pickC B g w4.heap.size 8 v l s4 [1, 2, 3, 4, 5, 99, 100, 0] (w4.alloc (.cells #[.int .i64 1, .int .i64 2, .int .i64 3, .int .i64 4, .int .i64 5, .int .i64 99, .int .i64 100, .int .i64 0] 3)).drew ⟨C5.code, C5.cur, C5.low, C5.len, C5.at_⟩ (by omega) (by show w4.heap.size < (w4.alloc (.cells #[.int .i64 1, .int .i64 2, .int .i64 3, .int .i64 4, .int .i64 5, .int .i64 99, .int .i64 100, .int .i64 0] 3)).heap.size; simp) (by omega) (by omega) (eight_cells w4)
  obtain ⟨who, hwho⟩ : ∃ who, ([1, 2, 3, 4, 5, 99, 100, 0] : List Int).getD (below l s4 (8 : Nat)).toNat 0 = who := ⟨_, rfl⟩
  rw [hwho] at hr cP
  clear hwho
  have Bm := (Below.refl w4.heap.size w4).alloc (Nat.le_refl _) (.cells #[.int .i64 1, .int .i64 2, .int .i64 3, .int .i64 4, .int .i64 5, .int .i64 99, .int .i64 100, .int .i64 0] 3)
  have X5 := Box.drew (X4.on Bm X4.lt); have Y5 := Box.drew (Y4.on Bm Y4.lt); have O5 := Owns.drew (O4.on Bm (Nat.le_refl _))
  have b5 := (b4.alloc b4.size (.cells #[.int .i64 1, .int .i64 2, .int .i64 3, .int .i64 4, .int .i64 5, .int .i64 99, .int .i64 100, .int .i64 0] 3)).drew
  have x0 := X4.c0; have x1 := X4.c1
  have hpl := X4.lt
  have hwl4 := Y4.lt
  have n1 : p ≠ w.heap.size := by omega
  have n2 : w.heap.size ≠ p := by omega
  go_wp2_with fail
  go_region_held3 (fun W => W.cell? ⟨p, 0, none⟩ = some (.int .i64 c) ∧ W.cell? ⟨p, 1, none⟩ = some (.slice a2 n cap2)) (go_keep) ((go_at_call 21; refine cP.mono ?_; rintro e w6 ⟨rfl, C6, g6⟩; have X6 := X5.grownG g6 (by omega); have Y6 := Y5.grownG g6 (by omega); have x60 := X6.c0; have x61 := X6.c1; have y60 := Y6.c0; have y61 := Y6.c1; have y6f := fun j => frozen_of_row w6 w.heap.size j _ _ Y6))
  have O6 : Owns (w.heap.size + 1) w6 (.slice a2 n cap2) ws := O5.grown g6 (fun k hk e => by injection e with e; have := own2 k hk; omega)
  have b6 : Below w.heap.size w w6 := b5.trans ⟨g6.os, g6.tape, g6.output, g6.size, fun j hj => g6.block j (by have := b5.size; omega) (by intro e; injection e with e; omega)⟩
  go_wp2
  refine bodyPost_ret (v := .tuple #[.agg #[.int .i64 c, .slice a2 n cap2], .int .i64 i, .int .i64 who]) (by simp [results, Tryd.results5, go_sem, y60, y61]) rfl ⟨c, _, ws, i, who, rfl, ?_, by omega, hc0, hc1, hr.1, hr.2, (b6.setCell (by simp) _).setCell (by simp) _⟩
  exact ((O6.setCell (by simp) _).setCell (by simp) _).mono (by omega)
end Words
end Go.Proofs.YtbkhghndlcmfiaaDoor
