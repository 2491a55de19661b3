/- do: OpRead. -/
import Derived.Test.YtppkohkcffnghaaDoNums
set_option linter.unusedVariables false
set_option linter.unusedSimpArgs false
namespace Go.Proofs.Ytppkohkcffnghaa
open Go.RowKit
namespace Ops
open Bas Flat

set_option maxRecDepth 100000 in
set_option maxHeartbeats 3200000 in
theorem do5 (p : Nat) (vC vK vO : Value) (r : List Int) (t : Th) (a b : Nat) (c : Int) (ha : a < 4) (hb : b < 8) (hr : r.length = 4) (hc : t.c.length = 8) (W : World) (hd : Dn W p vC vK vO (nums r t)) :
    Calls Try.prog 124 #[.pointer (some ⟨p, 3, none⟩), opV 5 (a : Int) (b : Int) c] W fun e W' => e = .returned (.tuple #[]) ∧ Dn W' p vC vK vO (nums (wr r (a : Int) (rd t.c (b : Int))) t) ∧ Only p W W' := by
  obtain ⟨q, hqq⟩ : ∃ q, W.heap.size = q := ⟨_, rfl⟩
  have hp := hd.lt
  have X1 := Blk.new W #[.int .i64 5, .int .i64 (a : Int), .int .i64 (b : Int), .int .i64 c] 30
  have b1 := alloc_below W (.cells #[.int .i64 5, .int .i64 (a : Int), .int .i64 (b : Int), .int .i64 c] 30)
  have d1 := hd.on b1 hp
  have o1 : Only p W _ := Only.of b1
  rw [hqq] at X1 hp
  obtain ⟨W1, hW1⟩ : ∃ W1, W.alloc (.cells #[.int .i64 5, .int .i64 (a : Int), .int .i64 (b : Int), .int .i64 c] 30) = W1 := ⟨_, rfl⟩
  rw [hW1] at X1 d1 o1
  have c0 := X1.cell 0; have c1 := X1.cell 1; have c2 := X1.cell 2; have c3 := X1.cell 3
  have e1 := d1.reg hr ha
  have e2 := d1.cel hr hc hb
  have f1 := d1.froz (3 + a)
  have i1 : (a : Int) < 4 := by omega
  have i2 : (b : Int) < 8 := by omega
  unfold opV
  clear b1 X1
  go_enter Try.func124, Try.ntmps124
  go_wp2
  go_region
  go_wp2
  go_end0
  exact ⟨rfl, (d1.setReg hr ha _).drew, (o1.set _ _).drew⟩
end Ops
end Go.Proofs.Ytppkohkcffnghaa
