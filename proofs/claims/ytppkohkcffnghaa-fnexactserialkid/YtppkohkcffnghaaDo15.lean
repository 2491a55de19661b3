/- do: an op of kind 15. -/
import Derived.Test.YtppkohkcffnghaaDoNums
import Derived.Test.YtppkohkcffnghaaCalcFns
set_option linter.unusedVariables false
set_option linter.unusedSimpArgs false
namespace Go.Proofs.Ytppkohkcffnghaa
open Go.RowKit
namespace Ops
open Bas Flat

set_option maxRecDepth 100000 in
set_option maxHeartbeats 6400000 in
theorem do15 (p : Nat) (vC vK vO : Value) (r : List Int) (t : Th) (a : Nat) (b c : Int) (ha : a < 4) (hr : r.length = 4) (hc : t.c.length = 8) (hm : t.m.length = 8) (hn : 0 ≤ t.n ∧ t.n ≤ 65535) (hx : 0 ≤ rd r (a : Int) ∧ rd r (a : Int) ≤ 65535) (W : World) (hd : Dn W p vC vK vO (nums r t)) :
    Calls Try.prog 124 #[.pointer (some ⟨p, 3, none⟩), opV 15 (a : Int) b c] W fun e W' => e = .returned (.tuple #[]) ∧ Dn W' p vC vK vO (nums r { t with n := (t.n + rd r (a : Int)) % 65536 }) ∧ Only p W W' := by
  obtain ⟨q, hqq⟩ : ∃ q, W.heap.size = q := ⟨_, rfl⟩
  have hp := hd.lt
  have X1 := Blk.new W #[.int .i64 15, .int .i64 (a : Int), .int .i64 b, .int .i64 c] 30
  have b1 := alloc_below W (.cells #[.int .i64 15, .int .i64 (a : Int), .int .i64 b, .int .i64 c] 30)
  have d1 := hd.on b1 hp
  have o1 : Only p W _ := Only.of b1
  rw [hqq] at X1 hp
  obtain ⟨W1, hW1⟩ : ∃ W1, W.alloc (.cells #[.int .i64 15, .int .i64 (a : Int), .int .i64 b, .int .i64 c] 30) = W1 := ⟨_, rfl⟩
  rw [hW1] at X1 d1 o1
  have c0 := X1.cell 0; have c1 := X1.cell 1; have c2 := X1.cell 2; have c3 := X1.cell 3
  have e1 := d1.reg hr ha
  have e2 := d1.cnt hr hc hm
  have f1 := d1.froz 23
  have i1 : (a : Int) < 4 := by omega
  unfold opV
  clear b1
  go_enter Try.func124, Try.ntmps124
  go_wp2
  go_region_calls
  all_goals
    go_wp2
    go_end0
    rw [u16_mod]
    exact ⟨rfl, (d1.setCnt hr hc hm _).drew, (o1.set _ _).drew⟩
end Ops
end Go.Proofs.Ytppkohkcffnghaa
