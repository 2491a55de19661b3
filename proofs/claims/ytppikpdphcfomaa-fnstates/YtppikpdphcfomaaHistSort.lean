/- slices.Clone and slices.SortFunc of entries by stamp. -/
import Derived.Test.YtppikpdphcfomaaHistRow
import Derived.Test.YtppikpdphcfomaaShelfSort
import Derived.Lib.SliceRun
import Derived.Shelf.SlSortCmp.WholeK
import Derived.Shelf.SlSortCmp.NoneTotal
set_option linter.unusedVariables false
set_option linter.unusedSimpArgs false
namespace Go.Proofs.Ytppikpdphcfomaa
open Go.RowKit
namespace Hist
open Bas Flat Logs Go.Sort

abbrev P6 : Type := Int × Int × Option Addr × Nat × Nat × List R2
def pr (x : Wx) : P6 := (x.s, x.who, x.a, x.n, x.cap, x.ps)
def un (x : P6) : Wx := ⟨x.1, x.2.1, x.2.2.1, x.2.2.2.1, x.2.2.2.2.1, x.2.2.2.2.2⟩
theorem un_pr (x : Wx) : un (pr x) = x := rfl
theorem pr_un (x : P6) : pr (un x) = x := rfl
def encX (x : P6) : List Value := [.int .i64 x.1, .int .i64 x.2.1, .slice x.2.2.1 x.2.2.2.1 x.2.2.2.2.1]
def cmpX (x y : Int) : Int := if x < y then -1 else if y < x then 1 else 0
def cfX (x y : P6) : Int := cmpX x.1 y.1
theorem ltX (x y : P6) : ltOf cfX x y = decide (x.1 < y.1) := by
  unfold ltOf cfX cmpX
  by_cases h1 : x.1 < y.1
  · simp [h1]
  · by_cases h2 : y.1 < x.1 <;> simp [h1, h2]
theorem swoX : SWO (ltOf cfX) where
  irrefl x := by rw [ltX]; simp
  trans x y z h1 h2 := by rw [ltX] at *; simp at *; omega
  ntrans x y z h1 h2 := by rw [ltX] at *; simp at *; omega

set_option maxRecDepth 100000 in
theorem compareX (x y : Int) (w : World) : Calls Try.prog 100 #[.int .i64 x, .int .i64 y] w fun e w' => e = .returned (.int .i64 (cmpX x y)) ∧ w = w' := by
  unfold cmpX
  by_cases h1 : x < y
  · rw [if_pos h1]
    go_enter Try.func100, Try.ntmps100
    go_wp2_with go_in
    go_ret
    exact ⟨rfl, rfl⟩
  · rw [if_neg h1]
    by_cases h2 : y < x
    · rw [if_pos h2]
      go_enter Try.func100, Try.ntmps100
      go_wp2_with go_in
      go_ret
      exact ⟨rfl, rfl⟩
    · rw [if_neg h2]
      go_enter Try.func100, Try.ntmps100
      go_wp2_with go_in
      go_ret
      exact ⟨rfl, rfl⟩

set_option maxRecDepth 100000 in
theorem byStampC (x y : P6) (W : World) : Calls Try.prog 73 #[.agg #[.int .i64 x.1, .int .i64 x.2.1, .slice x.2.2.1 x.2.2.2.1 x.2.2.2.2.1], .agg #[.int .i64 y.1, .int .i64 y.2.1, .slice y.2.2.1 y.2.2.2.1 y.2.2.2.2.1]] W fun e w' => e = .returned (.int .i64 (cfX x y)) ∧ ∃ q os', w' = grow (W.drewN q) os' := by
  have hcon := fun W' => compareX x.1 y.1 W'
  unfold cfX
  generalize cmpX x.1 y.1 = r at hcon ⊢
  go_enter Try.func73, Try.ntmps73
  go_wp2_with (go_at_call 100; refine (hcon _).mono ?_; rintro e w' ⟨rfl, rfl⟩)
  go_ret
  exact ⟨rfl, 0, _, by rw [alloc_eq_grow, alloc_eq_grow, grow_grow]; rfl⟩

theorem flatX (ts : List Wx) : (flatK encX 3 (ts.map pr).toArray).toList = fv wxEl ts := by
  apply List.ext_getElem?
  intro t
  by_cases ht : t < ts.length * 3
  · have hj : t / 3 < ts.length := by omega
    have h1 := fv_get (E := wxEl) ts (t / 3) hj (t % 3) (show t % 3 < 3 by omega)
    rw [show t / 3 * wxEl.sz + t % 3 = t by show t / 3 * 3 + t % 3 = t; omega] at h1
    rw [h1]
    have hsz : t < (flatK encX 3 (ts.map pr).toArray).size := by simp; omega
    rw [Array.getElem?_toList, Array.getElem?_eq_getElem hsz]
    have h2 := get_flatK encX 3 (ts.map pr).toArray t (by simp; omega)
    rw [getElem!_pos _ t hsz] at h2
    rw [h2]
    have h3 : (ts.map pr).toArray[t / 3]! = pr ts[t / 3] := by simp [hj]
    rw [h3]
    have hm : t % 3 = 0 ∨ t % 3 = 1 ∨ t % 3 = 2 := by omega
    rcases hm with h | h | h <;> rw [h] <;> rfl
  · rw [List.getElem?_eq_none (by simp; omega), List.getElem?_eq_none (by rw [fv_length]; show ts.length * 3 ≤ t; omega)]

theorem holdsX {B g n cap : Nat} {w : World} {ns : List Wx} (h : Owns wxEl 33 B w (.slice (some ⟨g, 0, none⟩) n cap) ns) (hn : ns.length = n) : HoldsK encX 3 w g 0 (ns.map pr).toArray := by
  have h' : w.ownsRow B 33 3 (.slice (some ⟨g, 0, none⟩) n cap) n (fv wxEl ns) := by unfold Owns at h; rw [hn] at h; exact h
  intro j hj
  have hj' : j < n * 3 := by simp at hj; omega
  refine ⟨?_, h'.frozenAt _⟩
  rw [Nat.zero_add, h'.cellAt j hj', ← flatX, Array.getElem?_toList, Array.getElem?_eq_getElem hj, getElem!_pos _ j hj]
  rfl

theorem own_sortedX {B g n cap m : Nat} {w : World} {os : Array Obj} {ns ts : List Wx} (h : Owns wxEl 33 B w (.slice (some ⟨g, 0, none⟩) n cap) ns) (hn : ns.length = n) (ht : ts.length = n) :
    Owns wxEl 33 B (sortWorldK encX 3 w g 0 m (ts.map pr).toArray os) (.slice (some ⟨g, 0, none⟩) n cap) ts ∧ w.grownBy (sortWorldK encX 3 w g 0 m (ts.map pr).toArray os) (some g) := by
  obtain ⟨F, hF⟩ : ∃ F, flatK encX 3 (ts.map pr).toArray = F := ⟨_, rfl⟩
  have hFv : F.toList = fv wxEl ts := by rw [← hF]; exact flatX ts
  have hFs : F.size = n * 3 := by rw [← Array.length_toList, hFv, fv_length, ht]; rfl
  have hw : sortWorldK encX 3 w g 0 m (ts.map pr).toArray os = grow (putRow id (Sort.ahead w m) g 0 F) os := by unfold sortWorldK putRowK; rw [hF]
  rw [hw]
  obtain ⟨h1, h2⟩ := h
  rcases h2 with ⟨h', _⟩ | ⟨g', cap', cur, h', hB, hg, hle, hm, hsz, htk⟩
  · cases h'
  simp only [Value.slice.injEq, Option.some.injEq, Addr.mk.injEq, and_true, true_and] at h'
  obtain ⟨rfl, -, rfl⟩ := h'
  have hgl : g < w.heap.size := (Array.getElem?_eq_some_iff.1 hg).1
  refine ⟨⟨by rw [fv_length], .inr ⟨g, cap, putCells id 0 F cur, by rw [ht], hB, ?_, by rw [ht, ← hn]; exact hle, hm, ?_, ?_⟩⟩, ⟨rfl, rfl, rfl, by simp [putRow, mapBlock, Sort.ahead], fun k hk hne => ?_⟩⟩
  · rw [heap_grow_old _ _ (by simpa [putRow, mapBlock, Sort.ahead] using hgl)]
    simp [putRow, mapBlock, Sort.ahead, Array.getElem?_modify, hg, onCells]
  · simp [putCells]; exact hsz
  · rw [ht]
    apply List.ext_getElem?
    intro j
    have hcs : n * 3 ≤ cur.size := by
      rw [hsz]; exact Nat.mul_le_mul_right 3 (by rw [← hn]; exact hle)
    by_cases hj : j < n * 3
    · rw [List.getElem?_take_of_lt (show j < n * wxEl.sz from hj), Array.getElem?_toList, ← hFv, Array.getElem?_toList]
      have hjF : j < F.size := by omega
      have hjc : j < cur.size := by omega
      simp [putCells, hjF, hjc]
    · rw [List.getElem?_take_eq_none (show n * wxEl.sz ≤ j by show n * 3 ≤ j; omega), List.getElem?_eq_none (by rw [fv_length, ht]; show n * 3 ≤ j; omega)]
  · rw [heap_grow_old _ _ (by simpa [putRow, mapBlock, Sort.ahead] using hk)]
    have : g ≠ k := fun e => hne (by rw [e])
    simp [putRow, mapBlock, Sort.ahead, Array.getElem?_modify, this]

theorem sortX (B n cap : Nat) (a : Option Addr) (w : World) (ns : List Wx) (h : Owns wxEl 33 B w (.slice a n cap) ns) (hl : ns.length ≤ 300) :
    Calls Try.prog 99 #[.slice a n cap, .func (.func 73) #[] #[]] w fun e w' =>
      e = .returned (.tuple #[]) ∧ ∃ ts : List Wx, ts.Perm ns ∧ ts.Pairwise (fun x y => x.s ≤ y.s) ∧ Owns wxEl 33 B w' (.slice a n cap) ts ∧ w.grownBy w' (Value.slice a n cap).ownBlock := by
  have hn : ns.length = n := by
    obtain ⟨a', c', e⟩ := h.form
    simp only [Value.slice.injEq] at e
    exact e.2.1.symm
  rcases id h.2 with ⟨h', h0⟩ | ⟨g, cap', cur, h', hB, hg, hle, hm, hsz, htk⟩
  · simp only [Value.slice.injEq] at h'
    obtain ⟨rfl, rfl, rfl⟩ := h'
    obtain rfl : ns = [] := List.eq_nil_of_length_eq_zero hn
    have hS := Go.Proofs.AnyF.slices_SortFunc_none Try.sortWx none 0 (.func (.func 73) #[] #[]) w
    refine Calls.mono hS ?_
    rintro e w' ⟨rfl, rfl⟩
    exact ⟨rfl, [], List.Perm.refl _, List.Pairwise.nil, h, ⟨rfl, rfl, rfl, Nat.le_refl _, fun _ _ _ => rfl⟩⟩
  · simp only [Value.slice.injEq] at h'
    obtain ⟨rfl, -, rfl⟩ := h'
    have hgl : g < w.heap.size := (Array.getElem?_eq_some_iff.1 hg).1
    have hds : (ns.map pr).toArray.size = n := by simp [hn]
    have eg : ∀ args w, (callFunc 73 args).run Try.prog w = .ok (.enter 73 args) w := enters_of Try.func73 (by kernel_rfl) rfl
    have hcon := Go.Proofs.AnyQ.slices_SortFunc Try.sortWx 3 Try.isAgg33 Try.sizeOf33 encX (fun _ => rfl) (fun x v hv => by simp [encX] at hv; rcases hv with rfl | rfl | rfl <;> rfl) cfX swoX 73 #[] g 0 cap (ns.map pr).toArray w eg (fun _ _ _ _ x y => byStampC x y _) (holdsX h hn) hgl (by rw [hds]; omega)
    rw [hds] at hcon
    refine Calls.mono hcon ?_
    rintro e w' ⟨rfl, d', m, os, ⟨p1, -, p3⟩, hs, rfl⟩
    rw [hds] at p1
    have hd : d' = ((d'.toList.map un).map pr).toArray := by
      rw [List.map_map, show pr ∘ un = id from rfl, List.map_id]
    have ht : (d'.toList.map un).length = n := by simp [p1]
    obtain ⟨o1, o2⟩ := own_sortedX (m := m) (os := os) h hn ht
    rw [← hd] at o1 o2
    refine ⟨rfl, d'.toList.map un, ?_, ?_, o1, o2⟩
    · have e1 : (d'.extract 0 n).toList = d'.toList := by rw [← p1]; simp
      have e2 : ((ns.map pr).toArray.extract 0 n).toList = ns.map pr := by rw [← hds]; simp; rw [List.take_of_length_le (by simp)]
      rw [e1, e2] at p3
      have := p3.map un
      rw [List.map_map, show un ∘ pr = id from rfl, List.map_id] at this
      exact this
    · rw [List.pairwise_map, List.pairwise_iff_getElem]
      intro i j hi hj hij
      have hj' : j < n := by rw [← p1]; simpa using hj
      have := hs i j (Nat.zero_le _) hij hj'
      rw [ltX] at this
      have e1 : d'[i]! = d'.toList[i] := by rw [getElem!_pos d' i (by omega)]; simp
      have e2 : d'[j]! = d'.toList[j] := by rw [getElem!_pos d' j (by omega)]; simp
      rw [e1, e2] at this
      simp at this
      simpa [un] using this

theorem owns_litX (w : World) {B : Nat} (hB : B ≤ w.heap.size) : Owns wxEl 33 B (w.alloc (.cells #[] 33)) (.slice (some ⟨w.heap.size, 0, none⟩) 0 0) [] := World.ownsRow_lit w #[] 0 hB (by simp [maxLen]) rfl

set_option maxRecDepth 100000 in
set_option maxHeartbeats 1600000 in
theorem cloneX (v : Value) (xs : List Wx) (B : Nat) (w : World) (hv : Sees wxEl B w v xs) (hB : B ≤ w.heap.size) (hlen : xs.length ≤ 1048576) :
    Calls Try.prog 98 #[v] w fun e w' => ∃ v', e = .returned v' ∧ Owns wxEl 33 w.heap.size w' v' xs ∧ Below w.heap.size w w' := by
  have qT : ∀ (w : World) (a : Option Addr) (n c n' c' : Nat), (binOp .eql 25 (.slice a n c) (.slice none n' c')).run Try.prog w = .ok (.bool a.isNone) w := fun w a n c n' c' => Lib.run_eql_slice_nil w _ _ a n c n' c' Try.underlying25
  obtain ⟨a, cap, rfl, h1, h2, h3⟩ := id hv
  cases a with
  | none =>
    have hz : xs = [] := by
      by_cases h : xs = []
      · exact h
      · obtain ⟨b, off, h, -⟩ := h3 h; cases h
    subst hz
    go_enter Try.func98, Try.ntmps98
    go_wp2
    go_ret
    exact ⟨_, rfl, Owns.nil _ _ _ _, Below.refl _ _⟩
  | some ad =>
    have u0 := owns_litX w (Nat.le_refl _)
    have b0 := alloc_below w (.cells #[] 33)
    have hv0 := hv.on b0 hB
    obtain ⟨q, hq⟩ : ∃ q, w.heap.size = q := ⟨_, rfl⟩
    have hq1 : (w.alloc (.cells #[] 33)).heap.size = q + 1 := by rw [← hq]; simp
    rw [hq] at u0 b0
    obtain ⟨n, hn⟩ : ∃ n, xs.length = n := ⟨_, rfl⟩
    rw [hn] at hv0 ⊢
    obtain ⟨w0, hw0⟩ : ∃ w0, w.alloc (.cells #[] 33) = w0 := ⟨_, rfl⟩
    rw [hw0] at u0 b0 hv0 hq1
    obtain ⟨v3, w4, hr3, O3, G3, L3⟩ := app rowWx (.slice (some ⟨q, 0, none⟩) 0 0) (.slice (some ad) n cap) 25 [] xs B q w0 u0 (by omega) hv0 (by simp; omega)
    rw [List.nil_append] at O3
    have bF : Below q w w4 := b0.grown G3 (by omega) (fun k hk => by cases hk; exact Nat.le_refl _)
    rw [hq]
    clear h3 hn h1 h2
    go_enter Try.func98, Try.ntmps98
    go_wp2_with (at_builtin; refine wpList_app _ rfl (.tmp 5) (.tmp 6) 25 rfl _ _ _ _ rfl rfl hr3 ?_)
    go_ret
    exact ⟨_, rfl, O3, bF⟩
end Hist
end Go.Proofs.Ytppikpdphcfomaa
