/- copy into a doing; do: an op that reckons. -/
import Derived.Test.YtppkohkcffnghaaDoNums
import Derived.Test.YtppkohkcffnghaaCalcImpl
set_option linter.unusedVariables false
set_option linter.unusedSimpArgs false
namespace Go.Proofs.Ytppkohkcffnghaa
open Go.RowKit
namespace Ops
open Bas Flat

/-- copy of numbers over cells that are there -/
theorem copyOver (W : World) (p o dLen dCap : Nat) (v : Value) (zs : List Int) (B : Nat) (hv : Ints.Sees B W v zs) (ht : W.there p o zs.length) (hl : zs.length ≤ dLen) :
    (Builtin.copy_ #[25, 25] 3 #[.slice (some ⟨p, o, none⟩) dLen dCap, v]).run Try.prog W = .ok (.int .i64 (zs.length : Int)) (W.setCells p o (Ints.iv zs)) := by
  have hs : (Try.prog.info? 3).map (·.size) = some 1 := by kernel_rfl
  obtain ⟨a, cap, rfl, h1, h2, h3⟩ := hv
  by_cases hz : zs = []
  · subst hz
    exact run_copy_none W 25 25 3 3 _ _ _ _ _ _ Try.underlying25 hs (by simp)
  · obtain ⟨b, off, rfl, -, hc⟩ := h3 hz
    have := run_copy_cells (P := Try.prog) W 25 25 3 3 p o dLen dCap ⟨b, off, none⟩ zs.length cap (Ints.iv zs) Try.underlying25 hs (by rw [Ints.iv_length]; exact (Nat.min_eq_left hl).symm)
      (fun j v hv => by
        have hj : j < zs.length := by rw [← Ints.iv_length]; exact (List.getElem?_eq_some_iff.1 hv).1
        rw [Ints.iv_get zs j hj] at hv
        rw [Addr.add_mid, hc j hj, ← hv])
      (fun j hj => (ht j (by rw [Ints.iv_length] at hj; exact hj)).1) (fun j hj => (ht j (by rw [Ints.iv_length] at hj; exact hj)).2) (Ints.iv_one zs)
    rw [this, Ints.iv_length]; rfl
theorem over_regs {r l : List Int} {t : Th} (h : l.length = r.length) : over (nums r t) 0 l = nums l t := by
  have := over_mid [] r (t.c ++ (t.m ++ [t.n])) l h
  exact this
theorem over_cells {r l : List Int} {t : Th} (hr : r.length = 4) (h : l.length = t.c.length) : over (nums r t) 4 l = nums r { t with c := l } := by
  have := over_mid r t.c (t.m ++ [t.n]) l h
  rw [hr] at this
  exact this
theorem Dn.seeRegs {W : World} {p : Nat} {vC vK vO : Value} {r : List Int} {t : Th} (h : Dn W p vC vK vO (nums r t)) (hr : r.length = 4) : Ints.Sees W.heap.size W (.slice (some ⟨p, 3, none⟩) 4 4) r :=
  ⟨_, 4, by rw [hr], by omega, by unfold maxLen; omega, fun _ => ⟨p, 3, rfl, h.lt, fun j hj => by rw [h.reg hr (by omega : j < 4), rd_nat hj]⟩⟩
theorem Dn.seeCells {W : World} {p : Nat} {vC vK vO : Value} {r : List Int} {t : Th} (h : Dn W p vC vK vO (nums r t)) (hr : r.length = 4) (hc : t.c.length = 8) : Ints.Sees W.heap.size W (.slice (some ⟨p, 7, none⟩) 8 8) t.c :=
  ⟨_, 8, by rw [hc], by omega, by unfold maxLen; omega, fun _ => ⟨p, 7, rfl, h.lt, fun j hj => by rw [h.cel hr hc (by omega : j < 8), rd_nat hj]⟩⟩

set_option maxRecDepth 100000 in
set_option maxHeartbeats 6400000 in
theorem doCalc (p : Nat) (vC vK vO : Value) (r : List Int) (t : Th) (k a b c : Int) (hk : k = 1 ∨ k = 2 ∨ k = 3 ∨ k = 4) (hr : r.length = 4) (hc : t.c.length = 8) (hm : t.m.length = 8) (W : World) (hd : Dn W p vC vK vO (nums r t)) :
    Calls Try.prog 124 #[.pointer (some ⟨p, 3, none⟩), opV k a b c] W fun e W' => e = .returned (.tuple #[]) ∧ Dn W' p vC vK vO (nums (calcTo k a b c r) t) ∧ Only p W W' := by
  obtain ⟨q, hqq⟩ : ∃ q, W.heap.size = q := ⟨_, rfl⟩
  have hp := hd.lt
  have X1 := Blk.new W #[.int .i64 k, .int .i64 a, .int .i64 b, .int .i64 c] 30
  have b1 := alloc_below W (.cells #[.int .i64 k, .int .i64 a, .int .i64 b, .int .i64 c] 30)
  have d1 := hd.on b1 hp
  have o1 : Only p W _ := Only.of b1
  rw [hqq] at X1 hp
  obtain ⟨W1, hW1⟩ : ∃ W1, W.alloc (.cells #[.int .i64 k, .int .i64 a, .int .i64 b, .int .i64 c] 30) = W1 := ⟨_, rfl⟩
  rw [hW1] at X1 d1 o1
  have hwf : (Lit.int .i64 k).wf = true := by rcases hk with rfl | rfl | rfl | rfl <;> rfl
  have cC := calcImplC k a b c (.slice (some ⟨p, 3, none⟩) 4 4) r W1.drew.heap.size W1.drew hwf (d1.drew.seeRegs hr) (Nat.le_refl _) (by omega)
  have hcl : (calcTo k a b c r).length = r.length := calcTo_length k a b c r
  obtain ⟨rr, hrr⟩ : ∃ rr, calcTo k a b c r = rr := ⟨_, rfl⟩
  rw [hrr] at cC hcl ⊢
  clear hrr
  have n5 : (k == 5) = false := by simp; omega
  have n6 : (k == 6) = false := by simp; omega
  have n12 : (k == 12) = false := by simp; omega
  have n13 : (k == 13) = false := by simp; omega
  have n14 : (k == 14) = false := by simp; omega
  have n15 : (k == 15) = false := by simp; omega
  have n16 : (k == 16) = false := by simp; omega
  have c0 := X1.cell 0; have c1 := X1.cell 1; have c2 := X1.cell 2; have c3 := X1.cell 3
  unfold opV at cC ⊢
  clear b1 hk hwf
  go_enter Try.func124, Try.ntmps124
  go_wp2_with fail
  go_region_with (go_at_call 128; refine cC.mono ?_; rintro e W2 ⟨v2, rfl, O2, b2⟩)
  have d2 := d1.drew.on b2 d1.lt
  have o2 := o1.drew.trans (Only.of b2)
  have hcp := copyOver W2 p 3 4 4 v2 rr _ O2.sees (d2.there (k := 0) (n := rr.length) (by rw [nums_length hr hc hm]; omega)) (by omega)
  have d3 := d2.setMany rr _ _ 0
  rw [over_regs hcl] at d3
  have o3 := o2.setMany 3 (Ints.iv rr)
  go_wp2
  go_end0
  exact ⟨rfl, d3, o3⟩
end Ops
end Go.Proofs.Ytppkohkcffnghaa
