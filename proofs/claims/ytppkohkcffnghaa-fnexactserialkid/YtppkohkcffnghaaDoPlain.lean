/- do: every plain op. -/
import Derived.Test.YtppkohkcffnghaaDoCalc
import Derived.Test.YtppkohkcffnghaaDo5
import Derived.Test.YtppkohkcffnghaaDo6
import Derived.Test.YtppkohkcffnghaaDo12
import Derived.Test.YtppkohkcffnghaaDo13
import Derived.Test.YtppkohkcffnghaaDo14
import Derived.Test.YtppkohkcffnghaaDo15
import Derived.Test.YtppkohkcffnghaaDo16
set_option linter.unusedVariables false
set_option linter.unusedSimpArgs false
namespace Go.Proofs.Ytppkohkcffnghaa
open Go.RowKit
namespace Ops
open Bas Flat

theorem spans_ok {o : O4} (h : okOp o = true) : ∃ s, spans o.k = some s ∧ inn s.1.1 s.1.2 o.a = true ∧ inn s.2.1.1 s.2.1.2 o.b = true ∧ inn s.2.2.1 s.2.2.2 o.c = true := by
  unfold okOp opOk at h
  cases hs : spans o.k with
  | none => rw [hs] at h; simp at h
  | some s =>
    rw [hs] at h
    obtain ⟨x, y, z⟩ := s
    simp only [Bool.and_eq_true] at h
    exact ⟨_, rfl, h.1.1, h.1.2, h.2⟩
set_option maxRecDepth 100000 in
theorem doPlain (p : Nat) (vC vK vO : Value) (r : List Int) (t : Th) (o : O4) (ho : okOp o = true) (hk : o.k ≤ 6 ∨ 12 ≤ o.k) (hr : regsOk r = true) (ht : thOk t = true) (W : World) (hd : Dn W p vC vK vO (nums r t)) :
    Calls Try.prog 124 #[.pointer (some ⟨p, 3, none⟩), o.val] W fun e W' => e = .returned (.tuple #[]) ∧ Dn W' p vC vK vO (nums (plainR o r t) (plainT o r t)) ∧ Only p W W' := by
  obtain ⟨s, hs, h1, h2, h3⟩ := spans_ok ho
  obtain ⟨l1, l2, l3⟩ := ok_len hr ht
  have hx := rd_all (lo := 0) (hi := 65535) (by omega) (regsOk_out hr).2
  have hn := (th_parts ht).2.2
  obtain ⟨k, a, b, c⟩ := o
  simp only at hk hs h1 h2 h3
  show Calls _ _ #[.pointer (some ⟨p, 3, none⟩), opV k a b c] W _
  rcases kinds k with rfl | rfl | rfl | rfl | rfl | rfl | rfl | rfl | rfl | rfl | rfl | rfl | rfl | rfl | rfl | rfl | hb
  · exact doCalc p vC vK vO r t 1 a b c (by omega) l1 l2 l3 W hd
  · exact doCalc p vC vK vO r t 2 a b c (by omega) l1 l2 l3 W hd
  · exact doCalc p vC vK vO r t 3 a b c (by omega) l1 l2 l3 W hd
  · exact doCalc p vC vK vO r t 4 a b c (by omega) l1 l2 l3 W hd
  · obtain rfl : ((0, 3), (0, 7), (0, 0)) = s := Option.some.inj hs
    obtain ⟨a, rfl, ha⟩ := nat_of h1 (Int.le_refl _)
    obtain ⟨b, rfl, hb⟩ := nat_of h2 (Int.le_refl _)
    simp only at ha hb
    exact do5 p vC vK vO r t a b c (by omega) (by omega) l1 l2 W hd
  · obtain rfl : ((0, 7), (0, 3), (0, 0)) = s := Option.some.inj hs
    obtain ⟨a, rfl, ha⟩ := nat_of h1 (Int.le_refl _)
    obtain ⟨b, rfl, hb⟩ := nat_of h2 (Int.le_refl _)
    simp only at ha hb
    exact do6 p vC vK vO r t a b c (by omega) (by omega) l1 l2 l3 W hd
  · omega
  · omega
  · omega
  · omega
  · omega
  · obtain rfl : ((0, 7), (0, 3), (0, 3)) = s := Option.some.inj hs
    obtain ⟨a, rfl, ha⟩ := nat_of h1 (Int.le_refl _)
    obtain ⟨b, rfl, hb⟩ := nat_of h2 (Int.le_refl _)
    obtain ⟨c, rfl, hc⟩ := nat_of h3 (Int.le_refl _)
    simp only at ha hb hc
    exact do12 p vC vK vO r t a b c (by omega) (by omega) (by omega) l1 l2 l3 (hx _) W hd
  · obtain rfl : ((0, 3), (0, 7), (0, 0)) = s := Option.some.inj hs
    obtain ⟨a, rfl, ha⟩ := nat_of h1 (Int.le_refl _)
    obtain ⟨b, rfl, hb⟩ := nat_of h2 (Int.le_refl _)
    simp only at ha hb
    exact do13 p vC vK vO r t a b c (by omega) (by omega) l1 l2 l3 W hd
  · obtain rfl : ((0, 7), (0, 3), (0, 0)) = s := Option.some.inj hs
    obtain ⟨a, rfl, ha⟩ := nat_of h1 (Int.le_refl _)
    obtain ⟨b, rfl, hb⟩ := nat_of h2 (Int.le_refl _)
    simp only at ha hb
    exact do14 p vC vK vO r t a b c (by omega) (by omega) l1 l2 l3 W hd
  · obtain rfl : ((0, 3), (0, 0), (0, 0)) = s := Option.some.inj hs
    obtain ⟨a, rfl, ha⟩ := nat_of h1 (Int.le_refl _)
    simp only at ha
    exact do15 p vC vK vO r t a b c (by omega) l1 l2 l3 hn (hx _) W hd
  · obtain rfl : ((0, 3), (0, 0), (0, 0)) = s := Option.some.inj hs
    obtain ⟨a, rfl, ha⟩ := nat_of h1 (Int.le_refl _)
    simp only at ha
    exact do16 p vC vK vO r t a b c (by omega) l1 l2 l3 W hd
  · rw [spans_none hb] at hs; cases hs
end Ops
end Go.Proofs.Ytppkohkcffnghaa
