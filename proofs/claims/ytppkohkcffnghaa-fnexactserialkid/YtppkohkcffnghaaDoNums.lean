/- Registers, cells, map and counter of a doing, each by its place. -/
import Derived.Test.YtppkohkcffnghaaDoReach
set_option linter.unusedVariables false
set_option linter.unusedSimpArgs false
namespace Go.Proofs.Ytppkohkcffnghaa
open Go.RowKit
namespace Ops
open Bas Flat

section
variable {W : World} {p : Nat} {vC vK vO : Value} {r : List Int} {t : Th}
theorem rd_nat {l : List Int} {a : Nat} (h : a < l.length) : rd l (a : Int) = l[a] := by unfold rd; rw [Int.toNat_natCast, List.getD_eq_getElem?_getD, List.getElem?_eq_getElem h]; rfl
theorem Dn.reg (h : Dn W p vC vK vO (nums r t)) (hr : r.length = 4) {a : Nat} (ha : a < 4) : W.cell? ⟨p, 3 + a, none⟩ = some (.int .i64 (rd r (a : Int))) := by
  rw [rd_nat (by omega), h.num a (by simp [nums]; omega)]
  congr 2
  unfold nums
  exact List.getElem_append_left (by omega)
theorem Dn.cel (h : Dn W p vC vK vO (nums r t)) (hr : r.length = 4) (hc : t.c.length = 8) {a : Nat} (ha : a < 8) : W.cell? ⟨p, 7 + a, none⟩ = some (.int .i64 (rd t.c (a : Int))) := by
  rw [rd_nat (by omega), show 7 + a = 3 + (4 + a) by omega, h.num (4 + a) (by simp [nums]; omega)]
  congr 2
  have : (nums r t)[4 + a]? = some t.c[a] := by
    unfold nums
    rw [List.getElem?_append_right (by omega), hr, Nat.add_sub_cancel_left, List.getElem?_append_left (by omega), List.getElem?_eq_getElem]
  rw [List.getElem?_eq_getElem (by simp [nums]; omega)] at this
  exact Option.some.inj this
theorem Dn.key (h : Dn W p vC vK vO (nums r t)) (hr : r.length = 4) (hc : t.c.length = 8) (hm : t.m.length = 8) {a : Nat} (ha : a < 8) : W.cell? ⟨p, 15 + a, none⟩ = some (.int .i64 (rd t.m (a : Int))) := by
  rw [rd_nat (by omega), show 15 + a = 3 + (12 + a) by omega, h.num (12 + a) (by simp [nums]; omega)]
  congr 2
  have : (nums r t)[12 + a]? = some t.m[a] := by
    unfold nums
    rw [List.getElem?_append_right (by omega), hr, List.getElem?_append_right (by omega), hc, show 12 + a - 4 - 8 = a by omega, List.getElem?_append_left (by omega), List.getElem?_eq_getElem]
  rw [List.getElem?_eq_getElem (by simp [nums]; omega)] at this
  exact Option.some.inj this
theorem Dn.cnt (h : Dn W p vC vK vO (nums r t)) (hr : r.length = 4) (hc : t.c.length = 8) (hm : t.m.length = 8) : W.cell? ⟨p, 23, none⟩ = some (.int .i64 t.n) := by
  rw [show 23 = 3 + 20 by omega, h.num 20 (by simp [nums]; omega)]
  congr 2
  have : (nums r t)[20]? = some t.n := by
    unfold nums
    rw [List.getElem?_append_right (by omega), hr, List.getElem?_append_right (by omega), hc, List.getElem?_append_right (by omega), hm]; rfl
  rw [List.getElem?_eq_getElem (by simp [nums]; omega)] at this
  exact Option.some.inj this
theorem Dn.setReg (h : Dn W p vC vK vO (nums r t)) (hr : r.length = 4) {a : Nat} (ha : a < 4) (x : Int) : Dn (W.setCell ⟨p, 3 + a, none⟩ (.int .i64 x)) p vC vK vO (nums (wr r (a : Int) x) t) := by
  have := h.set a x
  have e : (nums r t).set a x = nums (wr r (a : Int) x) t := by
    unfold nums wr
    rw [List.set_append_left _ _ (by omega), Int.toNat_natCast]
  rw [e] at this; exact this
theorem Dn.setCel (h : Dn W p vC vK vO (nums r t)) (hr : r.length = 4) (hc : t.c.length = 8) {a : Nat} (ha : a < 8) (x : Int) : Dn (W.setCell ⟨p, 7 + a, none⟩ (.int .i64 x)) p vC vK vO (nums r { t with c := wr t.c (a : Int) x }) := by
  have := h.set (4 + a) x
  have e : (nums r t).set (4 + a) x = nums r { t with c := wr t.c (a : Int) x } := by
    unfold nums wr
    rw [List.set_append_right _ _ (by omega), hr, Nat.add_sub_cancel_left, List.set_append_left _ _ (by omega), Int.toNat_natCast]
  rw [e, show 3 + (4 + a) = 7 + a by omega] at this; exact this
theorem Dn.setKey (h : Dn W p vC vK vO (nums r t)) (hr : r.length = 4) (hc : t.c.length = 8) (hm : t.m.length = 8) {a : Nat} (ha : a < 8) (x : Int) : Dn (W.setCell ⟨p, 15 + a, none⟩ (.int .i64 x)) p vC vK vO (nums r { t with m := wr t.m (a : Int) x }) := by
  have := h.set (12 + a) x
  have e : (nums r t).set (12 + a) x = nums r { t with m := wr t.m (a : Int) x } := by
    unfold nums wr
    rw [List.set_append_right _ _ (by omega), hr, List.set_append_right _ _ (by omega), hc, show 12 + a - 4 - 8 = a by omega, List.set_append_left _ _ (by omega), Int.toNat_natCast]
  rw [e, show 3 + (12 + a) = 15 + a by omega] at this; exact this
theorem Dn.setCnt (h : Dn W p vC vK vO (nums r t)) (hr : r.length = 4) (hc : t.c.length = 8) (hm : t.m.length = 8) (x : Int) : Dn (W.setCell ⟨p, 23, none⟩ (.int .i64 x)) p vC vK vO (nums r { t with n := x }) := by
  have := h.set 20 x
  have e : (nums r t).set 20 x = nums r { t with n := x } := by
    unfold nums
    rw [List.set_append_right _ _ (by omega), hr, List.set_append_right _ _ (by omega), hc, List.set_append_right _ _ (by omega), hm]; rfl
  rw [e] at this; exact this
end
/-- a field of an op, as a place -/
theorem nat_of {lo hi x : Int} (h : inn lo hi x = true) (h0 : 0 ≤ lo) : ∃ n : Nat, x = (n : Int) ∧ (n : Int) ≤ hi := by
  unfold inn at h
  simp at h
  exact ⟨x.toNat, by omega, by omega⟩
theorem Only.alloc1 {p : Nat} (W : World) (o : Obj) : Only p W (W.alloc o) := Only.of (alloc_below W o)
end Ops
end Go.Proofs.Ytppkohkcffnghaa
