/- slices.Backward over entries: its closure, what it yields. -/
import Derived.RangeFuncNested
import Derived.RangeFuncBound
import Derived.RangeFuncCalls
import Derived.RangeFuncLeaves
import Derived.Shelf.Abstract
import Derived.WalkKit
import Derived.OwnWalkIn
import Derived.TacticsInMore
import Derived.LoopNIn
import Derived.LoopIn
import Derived.Test.YtppikpdphcfomaaHistImpl
set_option linter.unusedVariables false
set_option linter.unusedSimpArgs false
namespace Go.Proofs.Ytppikpdphcfomaa
open Go.RowKit Go.Shelf
namespace Hist
open Bas Flat Logs

attribute [local go_sem] Oper.semAt_some

/-- what has come when k rounds are over: the places from the last down -/
def downW (n k : Nat) : List Nat := (List.range k).map fun j => n - 1 - j
theorem downW_zero (n : Nat) : downW n 0 = [] := rfl
theorem downW_succ (n k : Nat) : downW n (k + 1) = downW n k ++ [n - 1 - k] := by simp [downW, List.range_succ]
theorem downW_length (n k : Nat) : (downW n k).length = k := by simp [downW]
def Wx.agg (x : Wx) : Value := .agg #[.int .i64 x.s, .int .i64 x.who, .slice x.a x.n x.cap]

set_option maxRecDepth 100000 in
set_option maxHeartbeats 2000000 in
/-- the closure: for every loop body that keeps what lay below n₀ -/
theorem backW1 (F : Fence) (n : Nat) (h7 : F.fn 80) (hro : F.round = none) (hn : 1 ≤ n) (l Bs n₀ : Nat) (a : Option Addr) (len cap : Nat) (xs : List Wx) (hlen : xs.length = len) (hmax : len ≤ 1000000) (J Jx : List Nat → World → Prop)
    (hY : ∀ pre (x : Nat) W, J pre W → pre.length < len → YieldAt F (n - 1) Try.prog l #[.int .i64 (x : Nat), (xs.getD x zx).agg] W fun e W' =>
      (e = .returned (.bool true) ∧ J (pre ++ [x]) W' ∧ Below n₀ W W') ∨ (e = .returned (.bool false) ∧ Jx (pre ++ [x]) W'))
    (W : World) (hBs : W.cell? ⟨Bs, 0, none⟩ = some (.slice a len cap)) (hBn : Bs < n₀) (hv : Sees wxEl n₀ W (.slice a len cap) xs) (h0 : J [] W) :
    CallsIn F n Try.prog 80 #[.func (.yield l) #[] #[], .pointer (some ⟨Bs, 0, none⟩)] W fun e W' => (∃ v, e = .returned v) ∧
      ((∃ ys, ys = downW len len ∧ J ys W') ∨ (∃ pre, (∃ k, k ≤ len ∧ pre = downW len k) ∧ Jx pre W')) := by
  refine callsIn_of_wp Try.func80 rfl h7 ?_ hro
  simp only [Try.ntmps80, List.size_toArray, List.length_cons, List.length_nil, Nat.reduceAdd, Nat.reduceSub, Array.replicate_succ, Array.replicate_zero, List.push_toArray, List.append_toArray, List.nil_append, List.cons_append]
  gi_wp2
  gi_loopw [3] (fun i wr => ∃ k : Nat, k ≤ len ∧ i = .int .i64 ((len : Int) - 1 - (k : Int)) ∧ J (downW len k) wr ∧ Below n₀ W wr)
    (fun i _ => (intOf i + 1).toNat)
  case atStart => exact ⟨0, Nat.zero_le _, by simp, h0, Below.refl _ _⟩
  case round =>
    obtain ⟨k, hk, rfl, hJs, hnx⟩ := hrel
    have hBs2 : wr.cell? ⟨Bs, 0, none⟩ = some (.slice a len cap) := (hnx.cell (p := ⟨Bs, 0, none⟩) hBn).trans hBs
    by_cases hlt : k < len
    · obtain ⟨b, off, rfl, hb, hc⟩ := (hv.on hnx (Nat.le_refl _)).open (by omega)
      obtain ⟨j, hj⟩ : ∃ j, len - 1 - k = j := ⟨_, rfl⟩
      have hjl : j < xs.length := by omega
      obtain ⟨a0, a1, a2⟩ := at3 (hc j hjl)
      have e1 : (len : Int) - 1 - (k : Int) = (j : Int) := by omega
      have hU : downW len (k + 1) = downW len k ++ [j] := by rw [downW_succ, hj]
      have hgd : xs.getD j zx = xs[j] := by simp [List.getD, hjl]
      obtain ⟨x, hx⟩ : ∃ x, xs[j] = x := ⟨_, rfl⟩
      rw [hx] at a0 a1 a2 hgd
      change wr.cell? ⟨b, off + j * 3, none⟩ = _ at a0
      change wr.cell? ⟨b, off + j * 3 + 1, none⟩ = _ at a1
      change wr.cell? ⟨b, off + j * 3 + 2, none⟩ = _ at a2
      obtain ⟨fn, tmps, assign, body, hy, hR⟩ := hY _ j wr hJs (by rw [downW_length]; exact hlt)
      rw [hgd] at hy
      unfold Wx.agg at hy
      rw [e1]
      try dsimp only at hy
      have i1 : (j : Int) < len := by omega
      have i0 : (0 : Int) ≤ j := by omega
      have i2 : (j : Int) ≤ 1000000 := by omega
      have HJ : Hid (len - 1 - k = j) := hj
      clear hc hx hj e1 hgd
      gi_wp2
      refine hR.mono ?_
      rintro e W3 (⟨rfl, hJ3, hk3⟩ | ⟨rfl, hJx3⟩)
      · gi_wp2
        go_roundw
        case rel => exact ⟨k + 1, by omega, by have := HJ.out; congr 1 <;> omega, by rw [hU]; exact hJ3, hnx.trans hk3⟩
        case measure => have := HJ.out; simp [intOf, wrap64]
      · gi_wp2
        refine bodyPost_ret (results_none rfl _ _ _) rfl ?_
        exact ⟨⟨_, rfl⟩, .inr ⟨_, ⟨k + 1, by omega, hU.symm⟩, hJx3⟩⟩
    · obtain rfl : k = len := by omega
      have e1 : (k : Int) - 1 - (k : Int) = -1 := by omega
      rw [e1]
      gi_wp2
      go_end0
      exact ⟨⟨_, rfl⟩, .inl ⟨_, rfl, hJs⟩⟩

set_option maxHeartbeats 1000000 in
theorem backW_in (F : Fence) (n : Nat) (h5 : F.fn 47) (hro : F.round = none) (a : Option Addr) (len cap : Nat) (w : World) :
    CallsIn F n Try.prog 47 #[.slice a len cap] w fun e w' => e = .returned (.func (.func 80) #[] #[.pointer (some ⟨w.heap.size, 0, none⟩)]) ∧ w' = w.alloc (.cells #[.slice a len cap] 25) := by
  refine callsIn_of_wp Try.func47 rfl h5 ?_ hro
  simp only [Try.ntmps47, List.size_toArray, List.length_cons, List.length_nil, Nat.reduceAdd, Nat.reduceSub, Array.replicate_succ, Array.replicate_zero, List.push_toArray, List.append_toArray, List.nil_append, List.cons_append]
  gi_wp2
  go_ret
  exact ⟨rfl, rfl⟩

/-- what Backward hands back stops: all rows from the last down, or some of them -/
theorem backW_stops (F : Fence) (n : Nat) (h7 : F.fn 80) (hro : F.round = none) (hn : 1 ≤ n) (Bs n₀ : Nat) (a : Option Addr) (len cap : Nat) (xs : List Wx) (hlen : xs.length = len) (hmax : len ≤ 1000000) (w : World) (hBs : Bs < n₀) (hn₀ : n₀ ≤ w.heap.size)
    (hc : w.cell? ⟨Bs, 0, none⟩ = some (.slice a len cap)) (hv : Sees wxEl n₀ w (.slice a len cap) xs) :
    SeqStopsK F n Try.prog 80 #[.pointer (some ⟨Bs, 0, none⟩)] (fun x : Nat => #[Value.int .i64 (x : Int), (xs.getD x zx).agg]) (Below n₀) (fun ys => ys = downW len len) (fun pre => ∃ k, k ≤ len ∧ pre = downW len k) len w := fun l J Jx W hW _ _ hY h0 =>
  backW1 F n h7 hro hn l Bs n₀ a len cap xs hlen hmax J Jx hY W ((hW.cell (p := ⟨Bs, 0, none⟩) (Nat.lt_of_lt_of_le hBs hn₀)).trans hc) hBs (hv.on (hW.mono hn₀) (Nat.le_refl _)) h0

/-- a block of a row -/
def EntBox (W : World) (B : Nat) (x : Wx) : Prop := W.heap[B]? = some (.cells #[.int .i64 x.s, .int .i64 x.who, .slice x.a x.n x.cap] 33 (0, 0))
theorem EntBox.cells {W : World} {B : Nat} {x : Wx} (h : EntBox W B x) : W.cell? ⟨B, 0, none⟩ = some (.int .i64 x.s) ∧ W.cell? ⟨B, 1, none⟩ = some (.int .i64 x.who) ∧ W.cell? ⟨B, 2, none⟩ = some (.slice x.a x.n x.cap) :=
  ⟨(show Blk W B #[.int .i64 x.s, .int .i64 x.who, .slice x.a x.n x.cap] 33 from h).cell 0, (show Blk W B #[.int .i64 x.s, .int .i64 x.who, .slice x.a x.n x.cap] 33 from h).cell 1, (show Blk W B #[.int .i64 x.s, .int .i64 x.who, .slice x.a x.n x.cap] 33 from h).cell 2⟩
theorem entBox_own (B : Nat) (x : Wx) : Own (fun (_ : Unit) W => EntBox W B x) := fun s X Y row hs hg hrow => by
  have hs' : EntBox X B x := hs
  have hlt : B < X.heap.size := (Array.getElem?_eq_some_iff.1 hs').1
  exact (hg.block B hlt (fun e' => by obtain ⟨o, ho, hc⟩ := hrow B e'.symm; rw [show X.heap[B]? = _ from hs'] at ho; cases ho; cases hc)).trans hs'
end Hist
end Go.Proofs.Ytppikpdphcfomaa
