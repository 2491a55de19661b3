/- ReadCode as plain mathematics: what lines tell. -/
import Derived.Test.YtjopmakbnompnaaDoorSourceP
set_option linter.unusedVariables false
set_option linter.unusedSimpArgs false
namespace Go.Proofs.YtjopmakbnompnaaDoor
namespace Ops
open Num

theorem glue_append {a : Txt} {l : List Txt} (h : l ≠ []) (t : List Txt) : glue a (l ++ t) = glue a l ++ t := by
  cases l with
  | nil => exact absurd rfl h
  | cons p q => rfl
theorem split_snoc (c : UInt8) (M : Txt) : split c (M ++ [c]) = split c M ++ [[]] := by
  induction M with
  | nil => show (if c = c then _ else _) = _; rw [if_pos rfl]; rfl
  | cons x r ih =>
    show (if x = c then [] :: split c (r ++ [c]) else glue [x] (split c (r ++ [c]))) = (if x = c then [] :: split c r else glue [x] (split c r)) ++ [[]]
    rw [ih]
    split
    · rfl
    · exact glue_append (split_ne c r) _
def joinL (ps : List Txt) : Txt := ps.flatMap fun p => p ++ [10]
theorem join_glue {l : List Txt} (h : l ≠ []) (x : UInt8) : joinL (glue [x] l) = x :: joinL l := by
  cases l with
  | nil => exact absurd rfl h
  | cons p q => simp [joinL, glue]
theorem join_split (M : Txt) : joinL (split 10 M) = M ++ [10] := by
  induction M with
  | nil => rfl
  | cons x r ih =>
    show joinL (if x = 10 then [] :: split 10 r else glue [x] (split 10 r)) = _
    split
    · rename_i h
      have : joinL ([] :: split 10 r) = 10 :: joinL (split 10 r) := by simp [joinL]
      rw [this, ih, h]; rfl
    · rw [join_glue (split_ne 10 r), ih]; rfl
theorem lines_join (xs : List O4) : linesOf xs = joinL (xs.map showOp) := by
  unfold linesOf joinL
  induction xs with
  | nil => rfl
  | cons o r ih => simp [ih]
theorem lines_parts {ys : List O4} {M : Txt} (h : linesOf ys = M ++ [10]) : ys.map showOp = split 10 M := by
  have := lines_split ys
  rw [h, split_snoc] at this
  exact (List.append_inj_left' this rfl).symm
theorem lines_of_parts {xs : List O4} {M : Txt} (h : xs.map showOp = split 10 M) : linesOf xs = M ++ [10] := by rw [lines_join, h, join_split]
theorem code_nil : codeOk [] = true := rfl
theorem rd_empty : RdCode [] [] true := .inl ⟨rfl, code_nil, rfl⟩
theorem lines_end {ys : List O4} (h : ys ≠ []) : ∃ M, linesOf ys = M ++ [10] := by
  rcases List.eq_nil_or_concat ys with rfl | ⟨zs, o, rfl⟩
  · exact absurd rfl h
  · exact ⟨linesOf zs ++ showOp o, by rw [List.concat_eq_append]; exact lines_snoc zs o⟩
theorem rd_no_end {M : Txt} {x : UInt8} (hx : x ≠ 10) : RdCode (M ++ [x]) [] false := by
  refine .inr ⟨rfl, rfl, fun ys _ e => ?_⟩
  by_cases hy : ys = []
  · subst hy; simp [linesOf] at e
  · obtain ⟨M', h⟩ := lines_end hy
    rw [h] at e
    have := List.append_inj_right' e rfl
    simp at this
    exact hx this.symm
theorem rd_long {M : Txt} (h : 24 < (split 10 M).length) : RdCode (M ++ [10]) [] false := by
  refine .inr ⟨rfl, rfl, fun ys hy e => ?_⟩
  have h1 := lines_parts e
  have h2 := congrArg List.length h1
  rw [List.length_map] at h2
  unfold codeOk at hy
  rw [Bool.and_eq_true] at hy
  have := of_decide_eq_true hy.1
  omega
theorem rd_line {M : Txt} {i : Nat} (hi : i < (split 10 M).length) {o : O4} (h : RdOp (split 10 M)[i] o false) : RdCode (M ++ [10]) [] false := by
  refine .inr ⟨rfl, rfl, fun ys hy e => ?_⟩
  have h1 := lines_parts e
  rcases h with ⟨h, -⟩ | ⟨-, -, h⟩
  · cases h
  · have hi' : i < (ys.map showOp).length := by rw [h1]; exact hi
    have hg : (ys.map showOp)[i] = (split 10 M)[i] := by simp only [h1]
    rw [List.getElem_map] at hg
    exact h _ (code_ops hy _ (List.getElem_mem (by simpa using hi'))) hg
/-- the lines were read -/
def ReadL (ps : List Txt) (xs : List O4) : Prop := xs.length ≤ ps.length ∧ ∀ j (h : j < xs.length) (h' : j < ps.length), RdOp ps[j] xs[j] true
theorem readL_nil (ps : List Txt) : ReadL ps [] := ⟨by simp, fun j h => by simp at h⟩
theorem readL_snoc {ps : List Txt} {xs : List O4} (h : ReadL ps xs) (hl : xs.length < ps.length) {o : O4} (ho : RdOp ps[xs.length] o true) : ReadL ps (xs ++ [o]) := by
  refine ⟨by simp; omega, fun j h1 h2 => ?_⟩
  by_cases hj : j < xs.length
  · rw [List.getElem_append_left hj]; exact h.2 j hj h2
  · have hj' : j = xs.length := by simp at h1; omega
    subst hj'
    rw [List.getElem_append_right (Nat.le_refl _)]
    simpa using ho
theorem readL_map {ps : List Txt} {xs : List O4} (h : ReadL ps xs) (hl : xs.length = ps.length) : xs.map showOp = ps ∧ ∀ o ∈ xs, okOp o = true := by
  have key : ∀ j (h1 : j < xs.length) (h2 : j < ps.length), okOp xs[j] = true ∧ showOp xs[j] = ps[j] := by
    intro j h1 h2
    rcases h.2 j h1 h2 with ⟨-, a, b⟩ | ⟨e, -⟩
    · exact ⟨a, b⟩
    · cases e
  refine ⟨List.ext_getElem (by simpa using hl) fun j h1 h2 => ?_, fun o ho => ?_⟩
  · rw [List.getElem_map]; exact (key j (by simpa using h1) h2).2
  · obtain ⟨j, hj, rfl⟩ := List.mem_iff_getElem.1 ho
    exact (key j hj (by omega)).1
theorem told_code {M : Txt} {xs : List O4} (h : ReadL (split 10 M) xs) (hl : xs.length = (split 10 M).length) :
    (codeOk xs = true → RdCode (M ++ [10]) xs true) ∧ (codeOk xs = false → RdCode (M ++ [10]) [] false) := by
  obtain ⟨h1, h2⟩ := readL_map h hl
  refine ⟨fun hc => .inl ⟨rfl, hc, lines_of_parts h1⟩, fun hc => .inr ⟨rfl, rfl, fun ys hy e => ?_⟩⟩
  have := lines_parts e
  rw [← h1] at this
  rw [map_show_inj _ _ (code_ops hy) h2 this] at hy
  rw [hc] at hy; cases hy
theorem show_len (o : O4) : (showOp o).length ≤ 40 := by
  unfold showOp
  split
  · rename_i h
    have hw : (wordOf o.k).length ≤ 5 := by
      have : ∀ w ∈ words, w.length ≤ 5 := by decide
      unfold wordOf
      rw [List.getD_eq_getElem?_getD]
      cases hw : words[o.k.toNat]? with
      | none => simp
      | some u => exact this u (List.mem_of_getElem? hw)
    have hj : ∀ ns : List Int, (∀ n ∈ ns, 0 ≤ n ∧ n ≤ 65535) → (joinN ns).length ≤ 11 * ns.length := by
      intro ns
      induction ns with
      | nil => intro _; simp [joinN]
      | cons n r ih =>
        intro hn
        have h1 := ih (fun m hm => hn m (by simp [hm]))
        have h2 : (Lib.itoa n).length ≤ 10 := (spec_of n (by have := hn n (by simp); omega) (by have := hn n (by simp); omega)).2.2
        simp [joinN]; omega
    have := hj _ (nums_small h)
    have h3 := nums_length o
    have h4 := nargs_le o.k
    rw [List.length_append]; omega
  · simp
theorem lines_len (xs : List O4) : (linesOf xs).length ≤ 41 * xs.length := by
  induction xs with
  | nil => simp [linesOf]
  | cons o r ih => rw [lines_cons]; have := show_len o; simp; omega
end Ops
end Go.Proofs.YtjopmakbnompnaaDoor
