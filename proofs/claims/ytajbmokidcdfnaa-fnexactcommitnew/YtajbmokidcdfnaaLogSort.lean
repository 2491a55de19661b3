/- slices.SortFunc of rows by cell. -/
import Derived.Test.YtajbmokidcdfnaaLogMap
import Derived.Test.YtajbmokidcdfnaaShelfSort
import Derived.Shelf.SlSortCmp.WholeK
import Derived.Shelf.SlSortCmp.NoneTotal
set_option linter.unusedVariables false
set_option linter.unusedSimpArgs false
namespace Go.Proofs.Ytajbmokidcdfnaa
open Go.RowKit
namespace Logs
open Bas Flat Go.Sort

def encP (x : Int × Int) : List Value := [.int .i64 x.1, .int .i64 x.2]
def pr (x : R2) : Int × Int := (x.c, x.v)
def un (x : Int × Int) : R2 := ⟨x.1, x.2⟩
theorem un_pr (x : R2) : un (pr x) = x := rfl
theorem pr_un (x : Int × Int) : pr (un x) = x := rfl
def cmpI (x y : Int) : Int := if x < y then -1 else if y < x then 1 else 0
def cf (x y : Int × Int) : Int := cmpI x.1 y.1
theorem ltLo (x y : Int × Int) : ltOf cf x y = decide (x.1 < y.1) := by
  unfold ltOf cf cmpI
  by_cases h1 : x.1 < y.1
  · simp [h1]
  · by_cases h2 : y.1 < x.1 <;> simp [h1, h2]
theorem swoLo : SWO (ltOf cf) where
  irrefl x := by rw [ltLo]; simp
  trans x y z h1 h2 := by rw [ltLo] at *; simp at *; omega
  ntrans x y z h1 h2 := by rw [ltLo] at *; simp at *; omega

set_option maxRecDepth 100000 in
theorem compareC (x y : Int) (w : World) : Calls Try.prog 132 #[.int .i64 x, .int .i64 y] w fun e w' => e = .returned (.int .i64 (cmpI x y)) ∧ w = w' := by
  unfold cmpI
  by_cases h1 : x < y
  · rw [if_pos h1]
    go_enter Try.func132, Try.ntmps132
    go_wp2_with go_in
    go_ret
    exact ⟨rfl, rfl⟩
  · rw [if_neg h1]
    by_cases h2 : y < x
    · rw [if_pos h2]
      go_enter Try.func132, Try.ntmps132
      go_wp2_with go_in
      go_ret
      exact ⟨rfl, rfl⟩
    · rw [if_neg h2]
      go_enter Try.func132, Try.ntmps132
      go_wp2_with go_in
      go_ret
      exact ⟨rfl, rfl⟩

set_option maxRecDepth 100000 in
theorem byCellC (x y : Int × Int) (W : World) : Calls Try.prog 109 #[.agg #[.int .i64 x.1, .int .i64 x.2], .agg #[.int .i64 y.1, .int .i64 y.2]] W fun e w' => e = .returned (.int .i64 (cf x y)) ∧ ∃ q os', w' = grow (W.drewN q) os' := by
  have hcon := fun W' => compareC x.1 y.1 W'
  unfold cf
  generalize cmpI x.1 y.1 = r at hcon ⊢
  go_enter Try.func109, Try.ntmps109
  go_wp2_with (go_at_call 132; refine (hcon _).mono ?_; rintro e w' ⟨rfl, rfl⟩)
  go_ret
  exact ⟨rfl, 0, _, by rw [alloc_eq_grow, alloc_eq_grow, grow_grow]; rfl⟩

theorem flat_fv (ts : List R2) : (flatK encP 2 (ts.map pr).toArray).toList = fv rowEl ts := by
  apply List.ext_getElem?
  intro t
  by_cases ht : t < ts.length * 2
  · have hj : t / 2 < ts.length := by omega
    have h1 := fv_get (E := rowEl) ts (t / 2) hj (t % 2) (show t % 2 < 2 by omega)
    rw [show t / 2 * rowEl.sz + t % 2 = t by show t / 2 * 2 + t % 2 = t; omega] at h1
    rw [h1]
    have hsz : t < (flatK encP 2 (ts.map pr).toArray).size := by simp; omega
    rw [Array.getElem?_toList, Array.getElem?_eq_getElem hsz]
    have h2 := get_flatK encP 2 (ts.map pr).toArray t (by simp; omega)
    rw [getElem!_pos _ t hsz] at h2
    rw [h2]
    have h3 : (ts.map pr).toArray[t / 2]! = pr ts[t / 2] := by simp [hj]
    rw [h3]
    rcases Nat.mod_two_eq_zero_or_one t with h | h <;> rw [h] <;> rfl
  · rw [List.getElem?_eq_none (by simp; omega), List.getElem?_eq_none (by rw [fv_length]; show ts.length * 2 ≤ t; omega)]

theorem holds_own {B g n cap : Nat} {w : World} {ns : List R2} (h : Owns2 B w (.slice (some ⟨g, 0, none⟩) n cap) ns) (hn : ns.length = n) : HoldsK encP 2 w g 0 (ns.map pr).toArray := by
  have h' : w.ownsRow B 88 2 (.slice (some ⟨g, 0, none⟩) n cap) n (fv rowEl ns) := by rw [← hn] at h ⊢; exact h
  intro j hj
  have hj' : j < n * 2 := by simp at hj; omega
  refine ⟨?_, h'.frozenAt _⟩
  rw [Nat.zero_add, h'.cellAt j hj', ← flat_fv, Array.getElem?_toList, Array.getElem?_eq_getElem hj, getElem!_pos _ j hj]
  rfl

theorem own_sorted {B g n cap m : Nat} {w : World} {os : Array Obj} {ns ts : List R2} (h : Owns2 B w (.slice (some ⟨g, 0, none⟩) n cap) ns) (hn : ns.length = n) (ht : ts.length = n) :
    Owns2 B (sortWorldK encP 2 w g 0 m (ts.map pr).toArray os) (.slice (some ⟨g, 0, none⟩) n cap) ts ∧ w.grownBy (sortWorldK encP 2 w g 0 m (ts.map pr).toArray os) (some g) := by
  obtain ⟨F, hF⟩ : ∃ F, flatK encP 2 (ts.map pr).toArray = F := ⟨_, rfl⟩
  have hFv : F.toList = fv rowEl ts := by rw [← hF]; exact flat_fv ts
  have hFs : F.size = n * 2 := by rw [← Array.length_toList, hFv, fv_length, ht]; rfl
  have hw : sortWorldK encP 2 w g 0 m (ts.map pr).toArray os = grow (putRow id (Sort.ahead w m) g 0 F) os := by unfold sortWorldK putRowK; rw [hF]
  rw [hw]
  obtain ⟨h1, h2⟩ := h
  rcases h2 with ⟨h', _⟩ | ⟨g', cap', cur, h', hB, hg, hle, hm, hsz, htk⟩
  · cases h'
  simp only [Value.slice.injEq, Option.some.injEq, Addr.mk.injEq, and_true, true_and] at h'
  obtain ⟨rfl, -, rfl⟩ := h'
  have hgl : g < w.heap.size := (Array.getElem?_eq_some_iff.1 hg).1
  refine ⟨⟨by rw [fv_length], .inr ⟨g, cap, putCells id 0 F cur, by rw [ht], hB, ?_, by rw [ht, ← hn]; exact hle, hm, ?_, ?_⟩⟩, ⟨rfl, rfl, rfl, by simp [putRow, mapBlock, Sort.ahead], fun k hk hne => ?_⟩⟩
  · rw [heap_grow_old _ _ (by simpa [putRow, mapBlock, Sort.ahead] using hgl)]
    simp [putRow, mapBlock, Sort.ahead, Array.getElem?_modify, hg, onCells]
  · simp [putCells]; exact hsz
  · rw [ht]
    apply List.ext_getElem?
    intro j
    have hcs : n * 2 ≤ cur.size := by
      rw [hsz]; exact Nat.mul_le_mul_right 2 (by rw [← hn]; exact hle)
    by_cases hj : j < n * 2
    · rw [List.getElem?_take_of_lt (show j < n * rowEl.sz from hj), Array.getElem?_toList, ← hFv, Array.getElem?_toList]
      have hjF : j < F.size := by omega
      have hjc : j < cur.size := by omega
      simp [putCells, hjF, hjc]
    · rw [List.getElem?_take_eq_none (show n * rowEl.sz ≤ j by show n * 2 ≤ j; omega), List.getElem?_eq_none (by rw [fv_length, ht]; show n * 2 ≤ j; omega)]
  · rw [heap_grow_old _ _ (by simpa [putRow, mapBlock, Sort.ahead] using hk)]
    have : g ≠ k := fun e => hne (by rw [e])
    simp [putRow, mapBlock, Sort.ahead, Array.getElem?_modify, this]

theorem sortC (B n cap : Nat) (a : Option Addr) (w : World) (ns : List R2) (h : Owns2 B w (.slice a n cap) ns) (hl : ns.length ≤ 300) :
    Calls Try.prog 108 #[.slice a n cap, .func (.func 109) #[] #[]] w fun e w' =>
      e = .returned (.tuple #[]) ∧ ∃ ts : List R2, ts.Perm ns ∧ ts.Pairwise (fun x y => x.c ≤ y.c) ∧ Owns2 B w' (.slice a n cap) ts ∧ w.grownBy w' (Value.slice a n cap).ownBlock := by
  have hn : ns.length = n := by
    obtain ⟨a', c', e⟩ := h.form
    simp only [Value.slice.injEq] at e
    exact e.2.1.symm
  rcases id h.2 with ⟨h', h0⟩ | ⟨g, cap', cur, h', hB, hg, hle, hm, hsz, htk⟩
  · simp only [Value.slice.injEq] at h'
    obtain ⟨rfl, rfl, rfl⟩ := h'
    obtain rfl : ns = [] := List.eq_nil_of_length_eq_zero hn
    have hS := Go.Proofs.AnyF.slices_SortFunc_none Try.sortRow none 0 (.func (.func 109) #[] #[]) w
    refine Calls.mono hS ?_
    rintro e w' ⟨rfl, rfl⟩
    exact ⟨rfl, [], List.Perm.refl _, List.Pairwise.nil, h, ⟨rfl, rfl, rfl, Nat.le_refl _, fun _ _ _ => rfl⟩⟩
  · simp only [Value.slice.injEq] at h'
    obtain ⟨rfl, -, rfl⟩ := h'
    have hgl : g < w.heap.size := (Array.getElem?_eq_some_iff.1 hg).1
    have hds : (ns.map pr).toArray.size = n := by simp [hn]
    have eg : ∀ args w, (callFunc 109 args).run Try.prog w = .ok (.enter 109 args) w := enters_of Try.func109 (by kernel_rfl) rfl
    have hcon := Go.Proofs.AnyQ.slices_SortFunc Try.sortRow 2 Try.isAgg88 Try.sizeOf88 encP (fun _ => rfl) (fun x v hv => by simp [encP] at hv; rcases hv with rfl | rfl <;> rfl) cf swoLo 109 #[] g 0 cap (ns.map pr).toArray w eg (fun _ _ _ _ x y => byCellC x y _) (holds_own h hn) hgl (by rw [hds]; omega)
    rw [hds] at hcon
    refine Calls.mono hcon ?_
    rintro e w' ⟨rfl, d', m, os, ⟨p1, -, p3⟩, hs, rfl⟩
    rw [hds] at p1
    have hd : d' = ((d'.toList.map un).map pr).toArray := by
      rw [List.map_map, show pr ∘ un = id from rfl, List.map_id]
    have ht : (d'.toList.map un).length = n := by simp [p1]
    obtain ⟨o1, o2⟩ := own_sorted (m := m) (os := os) h hn ht
    rw [← hd] at o1 o2
    refine ⟨rfl, d'.toList.map un, ?_, ?_, o1, o2⟩
    · have e1 : (d'.extract 0 n).toList = d'.toList := by rw [← p1]; simp
      have e2 : ((ns.map pr).toArray.extract 0 n).toList = ns.map pr := by rw [← hds]; simp; rw [List.take_of_length_le (by simp)]
      rw [e1, e2] at p3
      have := p3.map un
      rw [List.map_map, show un ∘ pr = id from rfl, List.map_id] at this
      exact this
    · rw [List.pairwise_map, List.pairwise_iff_getElem]
      intro i j hi hj hij
      have hj' : j < n := by rw [← p1]; simpa using hj
      have := hs i j (Nat.zero_le _) hij hj'
      rw [ltLo] at this
      have e1 : d'[i]! = d'.toList[i] := by rw [getElem!_pos d' i (by omega)]; simp
      have e2 : d'[j]! = d'.toList[j] := by rw [getElem!_pos d' j (by omega)]; simp
      rw [e1, e2] at this
      simp at this
      simpa [un] using this
end Logs
end Go.Proofs.Ytajbmokidcdfnaa
