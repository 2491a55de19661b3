/- do: an op of kind 12. -/
import Derived.Test.YtppkohkcffnghaaDoNums
import Derived.Test.YtppkohkcffnghaaCalcFns
set_option linter.unusedVariables false
set_option linter.unusedSimpArgs false
namespace Go.Proofs.Ytppkohkcffnghaa
open Go.RowKit
namespace Ops
open Bas Flat

set_option maxRecDepth 100000 in
set_option maxHeartbeats 6400000 in
theorem do12 (p : Nat) (vC vK vO : Value) (r : List Int) (t : Th) (a b c : Nat) (ha : a < 8) (hb : b < 4) (h3 : c < 4) (hr : r.length = 4) (hc : t.c.length = 8) (hm : t.m.length = 8) (hx : 0 ≤ rd r (b : Int) ∧ rd r (b : Int) ≤ 65535) (W : World) (hd : Dn W p vC vK vO (nums r t)) :
    Calls Try.prog 124 #[.pointer (some ⟨p, 3, none⟩), opV 12 (a : Int) (b : Int) (c : Int)] W fun e W' => e = .returned (.tuple #[]) ∧ Dn W' p vC vK vO (nums (wr r (c : Int) (rd t.m (a : Int) % 65536)) { t with m := wr t.m (a : Int) (1 + rd r (b : Int)) }) ∧ Only p W W' := by
  obtain ⟨q, hqq⟩ : ∃ q, W.heap.size = q := ⟨_, rfl⟩
  have hp := hd.lt
  have X1 := Blk.new W #[.int .i64 12, .int .i64 (a : Int), .int .i64 (b : Int), .int .i64 (c : Int)] 30
  have b1 := alloc_below W (.cells #[.int .i64 12, .int .i64 (a : Int), .int .i64 (b : Int), .int .i64 (c : Int)] 30)
  have d1 := hd.on b1 hp
  have o1 : Only p W _ := Only.of b1
  rw [hqq] at X1 hp
  obtain ⟨W1, hW1⟩ : ∃ W1, W.alloc (.cells #[.int .i64 12, .int .i64 (a : Int), .int .i64 (b : Int), .int .i64 (c : Int)] 30) = W1 := ⟨_, rfl⟩
  rw [hW1] at X1 d1 o1
  have c0 := X1.cell 0; have c1 := X1.cell 1; have c2 := X1.cell 2; have c3 := X1.cell 3
  have e0 := d1.reg hr h3
  have e1 := d1.reg hr hb
  have e2 := d1.key hr hc hm ha
  have f1 := d1.froz (3 + c)
  have i1 : (a : Int) < 8 := by omega
  have i2 : (b : Int) < 4 := by omega
  have i3 : (c : Int) < 4 := by omega
  unfold opV
  clear b1
  go_enter Try.func124, Try.ntmps124
  go_wp2
  go_region
  go_wp2
  go_region_calls
  have d2 := (d1.setReg hr h3 (rd t.m (a : Int) % 65536)).drew
  have o2 := (o1.set (3 + c) (.int .i64 (rd t.m (a : Int) % 65536))).drew
  have X2 := (X1.other (show q ≠ p by omega) (3 + c) (.int .i64 (rd t.m (a : Int) % 65536))).drew
  rw [u16_mod]
  obtain ⟨W2, hW2⟩ : ∃ W2, (W1.setCell ⟨p, 3 + c, none⟩ (.int .i64 (rd t.m (a : Int) % 65536))).drew = W2 := ⟨_, rfl⟩
  rw [hW2] at d2 o2 X2 ⊢
  clear hW2 d1 o1 X1 c0 c1 c2 c3 e1 e2 f1 hW1
  have hr2 : (wr r (c : Int) (rd t.m (a : Int) % 65536)).length = 4 := by rw [wr_length]; exact hr
  have c1 := X2.cell 1
  have e2 := d2.key hr2 hc hm ha
  have f1 := d2.froz (15 + a)
  go_wp2
  go_region
  go_wp2
  go_end0
  rw [Int.add_comm]
  exact ⟨rfl, (d2.setKey hr2 hc hm ha _).drew.drew, (o2.set _ _).drew.drew⟩
end Ops
end Go.Proofs.Ytppkohkcffnghaa
