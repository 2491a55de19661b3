/- What stockOf makes. -/
import Derived.Test.YtppkohkcffnghaaDoRun
import Derived.Test.YtppkohkcffnghaaCloneI
set_option linter.unusedVariables false
set_option linter.unusedSimpArgs false
namespace Go.Proofs.Ytppkohkcffnghaa
open Go.RowKit
namespace Ops
open Bas Flat

/-- noughts, and a counter -/
def noughts (n : Int) : List Int := List.replicate 20 0 ++ [n]
theorem noughts_iv (n : Int) : Ints.iv (noughts n) = [.int .i64 0, .int .i64 0, .int .i64 0, .int .i64 0, .int .i64 0, .int .i64 0, .int .i64 0, .int .i64 0, .int .i64 0, .int .i64 0, .int .i64 0, .int .i64 0, .int .i64 0, .int .i64 0, .int .i64 0, .int .i64 0, .int .i64 0, .int .i64 0, .int .i64 0, .int .i64 0, .int .i64 n] := rfl
/-- the stock of lists -/
def stockL (zs cs ms : List Int) (n : Int) : List Int := over (over (over (noughts n) 0 zs) 4 cs) 12 ms
theorem noughts_length (n : Int) : (noughts n).length = 21 := by simp [noughts]

set_option maxRecDepth 100000 in
set_option maxHeartbeats 3200000 in
theorem stockC (vr vc vm : Value) (zs cs ms : List Int) (n : Int) (B : Nat) (w : World) (hr : Ints.Sees B w vr zs) (hc : Ints.Sees B w vc cs) (hm : Ints.Sees B w vm ms) (hB : B ≤ w.heap.size) (h1 : zs.length ≤ 4) (h2 : cs.length ≤ 8) (h3 : ms.length ≤ 8) :
    Calls Try.prog 56 #[vr, .agg #[vc, vm, .int .i64 n]] w fun e w' => e = .returned (.agg (Ints.iv (stockL zs cs ms n)).toArray) ∧ Below w.heap.size w w' := by
  obtain ⟨q0, hq0⟩ : ∃ q, w.heap.size = q := ⟨_, rfl⟩
  have X0 := Blk.new w #[vc, vm, .int .i64 n] 37
  have b0 := alloc_below w (.cells #[vc, vm, .int .i64 n] 37)
  obtain ⟨W0, hW0⟩ : ∃ W, w.alloc (.cells #[vc, vm, .int .i64 n] 37) = W := ⟨_, rfl⟩
  have hz0 : W0.heap.size = q0 + 1 := by rw [← hW0, ← hq0]; simp
  rw [hW0] at X0 b0
  rw [hq0] at X0 b0 hB
  obtain ⟨q1, hq1⟩ : ∃ q, W0.heap.size = q := ⟨_, rfl⟩
  have l01 : q0 < q1 := by omega
  clear hz0
  have R1 := Sk.new W0
  have b1 := alloc_below W0 (.cells #[.int .i64 0, .int .i64 0, .int .i64 0, .int .i64 0, .int .i64 0, .int .i64 0, .int .i64 0, .int .i64 0, .int .i64 0, .int .i64 0, .int .i64 0, .int .i64 0, .int .i64 0, .int .i64 0, .int .i64 0, .int .i64 0, .int .i64 0, .int .i64 0, .int .i64 0, .int .i64 0, .int .i64 0] 90)
  obtain ⟨W1, hW1⟩ : ∃ W, W0.alloc (.cells #[.int .i64 0, .int .i64 0, .int .i64 0, .int .i64 0, .int .i64 0, .int .i64 0, .int .i64 0, .int .i64 0, .int .i64 0, .int .i64 0, .int .i64 0, .int .i64 0, .int .i64 0, .int .i64 0, .int .i64 0, .int .i64 0, .int .i64 0, .int .i64 0, .int .i64 0, .int .i64 0, .int .i64 0] 90) = W := ⟨_, rfl⟩
  have hz1 : W1.heap.size = q1 + 1 := by rw [← hW1, ← hq1]; simp
  rw [hW1] at R1 b1
  rw [hq1] at R1 b1
  obtain ⟨q2, hq2⟩ : ∃ q, W1.heap.size = q := ⟨_, rfl⟩
  have l12 : q1 < q2 := by omega
  clear hz1
  have H2 := Sk.new W1
  have b2 := alloc_below W1 (.cells #[.int .i64 0, .int .i64 0, .int .i64 0, .int .i64 0, .int .i64 0, .int .i64 0, .int .i64 0, .int .i64 0, .int .i64 0, .int .i64 0, .int .i64 0, .int .i64 0, .int .i64 0, .int .i64 0, .int .i64 0, .int .i64 0, .int .i64 0, .int .i64 0, .int .i64 0, .int .i64 0, .int .i64 0] 90)
  obtain ⟨W2, hW2⟩ : ∃ W, W1.alloc (.cells #[.int .i64 0, .int .i64 0, .int .i64 0, .int .i64 0, .int .i64 0, .int .i64 0, .int .i64 0, .int .i64 0, .int .i64 0, .int .i64 0, .int .i64 0, .int .i64 0, .int .i64 0, .int .i64 0, .int .i64 0, .int .i64 0, .int .i64 0, .int .i64 0, .int .i64 0, .int .i64 0, .int .i64 0] 90) = W := ⟨_, rfl⟩
  rw [hW2] at H2 b2
  rw [hq2] at H2 b2
  have bb : Below q0 w W2 := (b0.trans (b1.mono (by omega))).trans (b2.mono (by omega))
  have X2 := (X0.on b1 (by omega)).on b2 (by omega)
  have R2 := R1.on b2 (by omega)
  have nl := noughts_length n
  have st3 := H2.store (by simp) (noughts n) nl
  have H3 := H2.setMany (noughts n) _ _ 0
  rw [over_all (by rw [nl]; simp)] at H3
  have c3 := setCells_below (Nat.le_refl q2) (Ints.iv (noughts n)) 0 W2
  have X3 := X2.on c3 (by omega)
  have R3 := R2.on c3 (by omega)
  have b3 := bb.trans (c3.mono (by omega))
  obtain ⟨W3, hW3⟩ : ∃ W, W2.setCells q2 0 (Ints.iv (noughts n)) = W := ⟨_, rfl⟩
  rw [hW3] at st3 H3 X3 R3 b3
  rw [noughts_iv] at st3
  have hcp := copyOver W3 q2 0 4 4 vr zs B (hr.on b3 hB) (H3.there (k := 0) (n := zs.length) (by omega)) h1
  have H4 := H3.setMany zs _ _ 0
  have c4 := setCells_below (Nat.le_refl q2) (Ints.iv zs) 0 W3
  have X4 := X3.on c4 (by omega)
  have R4 := R3.on c4 (by omega)
  have b4 := b3.trans (c4.mono (by omega))
  obtain ⟨W4, hW4⟩ : ∃ W, W3.setCells q2 0 (Ints.iv zs) = W := ⟨_, rfl⟩
  rw [hW4] at hcp H4 X4 R4 b4
  have x2 : W1.cell? ⟨q0, 2, none⟩ = some (.int .i64 n) := (X0.on b1 (by omega)).cell 2
  have x4 := X4.cell 0
  clear X0 X2 X3 R1 R2 R3 b0 b1 b2 b3 bb c3 c4 hW4 hW3 H2
  go_enter Try.func56, Try.ntmps56
  go_wp2_with (refine wpList_st rfl 90 (.tmp 5) (.tmp 8) rfl (.pointer (some ⟨q2, 0, none⟩)) _ ?b3 ?b5 st3 ?b4; (case b3 => rfl); (case b5 => rfl))
  have l4 := over_length zs (noughts n) 0
  have hcp5 := copyOver W4.drew q2 4 8 8 vc cs B (hc.on (b4.drew) hB) (H4.drew.there (k := 4) (n := cs.length) (by omega)) h2
  have H5 := H4.drew.setMany cs _ _ 4
  have c5 := setCells_below (Nat.le_refl q2) (Ints.iv cs) 4 W4.drew
  have X5 := X4.drew.on c5 (by omega)
  have R5 := R4.drew.on c5 (by omega)
  have b5 := b4.drew.trans (c5.mono (by omega))
  obtain ⟨W5, hW5⟩ : ∃ W, W4.drew.setCells q2 4 (Ints.iv cs) = W := ⟨_, rfl⟩
  rw [hW5] at hcp5 H5 X5 R5 b5
  have x5 := X5.cell 1
  clear hW5 c5 hcp st3
  go_region
  go_wp2
  have l5 := over_length cs (over (noughts n) 0 zs) 4
  have hcp6 := copyOver W5.drew q2 12 8 8 vm ms B (hm.on (b5.drew) hB) (H5.drew.there (k := 12) (n := ms.length) (by omega)) h3
  have H6 := H5.drew.setMany ms _ _ 12
  have c6 := setCells_below (Nat.le_refl q2) (Ints.iv ms) 12 W5.drew
  have R6 := R5.drew.on c6 (by omega)
  have b6 := b5.drew.trans (c6.mono (by omega))
  obtain ⟨W6, hW6⟩ : ∃ W, W5.drew.setCells q2 12 (Ints.iv ms) = W := ⟨_, rfl⟩
  rw [hW6] at hcp6 H6 R6 b6
  clear hW6 c6 hcp5 x4
  go_region
  have l6 := over_length ms (over (over (noughts n) 0 zs) 4 cs) 12
  have hH : (stockL zs cs ms n).length = 21 := by unfold stockL; omega
  have ld7 := H6.load (by omega)
  have st7 := R6.store (by simp) (stockL zs cs ms n) hH
  have R7 := R6.setMany (stockL zs cs ms n) _ _ 0
  rw [over_all (by rw [hH]; simp)] at R7
  have b7 := b6.trans (setCells_below (show q0 ≤ q1 by omega) (Ints.iv (stockL zs cs ms n)) 0 W6)
  obtain ⟨W7, hW7⟩ : ∃ W, W6.setCells q1 0 (Ints.iv (stockL zs cs ms n)) = W := ⟨_, rfl⟩
  rw [hW7] at st7 R7 b7
  have e7 : over (over (over (noughts n) 0 zs) 4 cs) 12 ms = stockL zs cs ms n := rfl
  rw [e7] at ld7
  have ldR := R7.load hH
  go_wp2_with (first
    | (refine wpList_ld rfl 90 (.tmp 5) rfl (.pointer (some ⟨q2, 0, none⟩)) ?f3 _ ld7 ?f4; case f3 => rfl)
    | (refine wpList_st rfl 90 (.tmp 4) (.tmp 23) rfl (.pointer (some ⟨q1, 0, none⟩)) _ ?g3 ?g5 st7 ?g4; (case g3 => rfl); (case g5 => rfl)))
  refine bodyPost_ret (v := .agg (Ints.iv (stockL zs cs ms n)).toArray) ?_ rfl ?_
  · obtain ⟨dd, hd1, hd2⟩ := rowStock
    exact results_cell_row (fn := Try.f56) rfl _ W7 q1 90 (Ints.iv (stockL zs cs ms n)).toArray (0, 0) dd rfl R7 hd1 (by cases dd <;> simp_all) (by rw [List.size_toArray, Ints.iv_length, hH]; exact infoStock)
  · exact ⟨rfl, by rw [hq0]; exact b7⟩
end Ops
end Go.Proofs.Ytppkohkcffnghaa
