/- Sources: ops and code as texts, as plain mathematics. -/
import Derived.Test.YtjopmakbnompnaaDoorShapeL
import Derived.Test.YtjopmakbnompnaaDoorDecL
set_option linter.unusedVariables false
set_option linter.unusedSimpArgs false
namespace Go.Proofs.YtjopmakbnompnaaDoor
namespace Ops
open Num

abbrev Txt := List UInt8
def words : List Txt := [[], [115, 101, 116], [97, 100, 100], [115, 117, 98], [108, 101, 115, 115], [114, 101, 97, 100], [119, 114, 105, 116, 101], [115, 107, 105, 112], [98, 101, 103, 105, 110], [101, 110, 100], [97, 98, 111, 114, 116], [102, 111, 114, 107], [112, 117, 116], [103, 101, 116], [100, 114, 111, 112], [98, 117, 109, 112], [99, 111, 117, 110, 116]]
theorem words_length : words.length = 17 := rfl
/-- the word of a kind -/
def wordOf (k : Int) : Txt := words.getD k.toNat []
/-- how many numbers stand behind a word -/
def nargs (k : Int) : Nat := if k = 2 ∨ k = 3 ∨ k = 4 ∨ k = 12 then 3 else if k = 8 ∨ k = 15 ∨ k = 16 then 1 else if k = 9 ∨ k = 10 ∨ k = 11 then 0 else 2
theorem nargs_le (k : Int) : nargs k ≤ 3 := by unfold nargs; split; omega; split; omega; split <;> omega
def nums (o : O4) : List Int := [o.a, o.b, o.c].take (nargs o.k)
def joinN : List Int → Txt
  | [] => []
  | x :: r => 32 :: (Lib.itoa x ++ joinN r)
/-- ShowOp -/
def showOp (o : O4) : Txt := if okOp o = true then wordOf o.k ++ joinN (nums o) else []
def ofNums (k : Int) (l : List Int) : O4 := ⟨k, l.getD 0 0, l.getD 1 0, l.getD 2 0⟩

theorem inn_iff {lo hi x : Int} : inn lo hi x = true ↔ lo ≤ x ∧ x ≤ hi := by unfold inn; simp
theorem ok_kind {o : O4} (h : okOp o = true) : 1 ≤ o.k ∧ o.k ≤ 16 := by
  rcases Int.lt_or_le o.k 1 with h1 | h1
  · unfold okOp opOk at h; rw [spans_none (.inl h1)] at h; cases h
  · rcases Int.lt_or_le 16 o.k with h2 | h2
    · unfold okOp opOk at h; rw [spans_none (.inr h2)] at h; cases h
    · exact ⟨h1, h2⟩
/-- a right op's fields are small, and those that its kind does not name are nought -/
theorem ok_fields {o : O4} (h : okOp o = true) : ((0 ≤ o.a ∧ o.a ≤ 65535) ∧ (0 ≤ o.b ∧ o.b ≤ 65535) ∧ (0 ≤ o.c ∧ o.c ≤ 65535)) ∧ (nargs o.k ≤ 2 → o.c = 0) ∧ (nargs o.k ≤ 1 → o.b = 0) ∧ (nargs o.k = 0 → o.a = 0) := by
  obtain ⟨k, a, b, c⟩ := o
  have hk := ok_kind h
  have hks := kinds k
  simp only at hk
  rcases hks with rfl | rfl | rfl | rfl | rfl | rfl | rfl | rfl | rfl | rfl | rfl | rfl | rfl | rfl | rfl | rfl | hks
  case inr.inr.inr.inr.inr.inr.inr.inr.inr.inr.inr.inr.inr.inr.inr.inr => omega
  all_goals
    simp only [okOp, opOk, spans, Bool.and_eq_true, inn_iff, Int.reduceEq, if_true, if_false, or_true, true_or, or_self, or_false, false_or, reduceIte] at h
    simp only [nargs, Int.reduceEq, if_true, if_false, or_true, true_or, or_self, or_false, false_or, reduceIte]
    omega
theorem ok_nums {o : O4} (h : okOp o = true) : o = ofNums o.k (nums o) := by
  obtain ⟨-, h2, h1, h0⟩ := ok_fields h
  obtain ⟨k, a, b, c⟩ := o
  simp only at h2 h1 h0
  unfold ofNums nums
  have := nargs_le k
  simp only
  match hn : nargs k, this with
  | 0, _ => simp [h0 hn, h1 (by omega), h2 (by omega)]
  | 1, _ => simp [h1 (by omega), h2 (by omega)]
  | 2, _ => simp [h2 (by omega)]
  | 3, _ => simp
theorem nums_small {o : O4} (h : okOp o = true) : ∀ n ∈ nums o, 0 ≤ n ∧ n ≤ 65535 := by
  obtain ⟨⟨a, b, c⟩, -⟩ := ok_fields h
  intro n hn
  have := List.mem_of_mem_take hn
  simp at this
  rcases this with rfl | rfl | rfl <;> assumption
theorem nums_length (o : O4) : (nums o).length = nargs o.k := by
  unfold nums; have := nargs_le o.k; simp; omega

/-! ### no blanks, no line ends in words and numbers -/
theorem word_plain (k : Int) : ∀ x ∈ wordOf k, x ≠ 32 ∧ x ≠ 10 := by
  have : ∀ w ∈ words, ∀ x ∈ w, x ≠ 32 ∧ x ≠ 10 := by decide
  intro x hx
  unfold wordOf at hx
  rw [List.getD_eq_getElem?_getD] at hx
  cases hw : words[k.toNat]? with
  | none => rw [hw] at hx; simp at hx
  | some u => rw [hw] at hx; exact this u (List.mem_of_getElem? hw) x hx
theorem itoa_plain {n : Int} (h : 0 ≤ n) : ∀ x ∈ Lib.itoa n, x ≠ 32 ∧ x ≠ 10 := by
  obtain ⟨m, rfl⟩ := Int.eq_ofNat_of_zero_le h
  rw [Lib.itoa_nonneg]
  intro x hx
  have := dec_all m x hx
  simp only [isDig, Bool.and_eq_true, decide_eq_true_eq] at this
  refine ⟨fun e => ?_, fun e => ?_⟩ <;> (subst e; revert this; decide)
theorem word_inj {k k' : Int} (h : 1 ≤ k ∧ k ≤ 16) (h' : 1 ≤ k' ∧ k' ≤ 16) (e : wordOf k = wordOf k') : k = k' := by
  have key : ∀ i < 17, ∀ j < 17, 1 ≤ i → 1 ≤ j → words.getD i [] = words.getD j [] → i = j := by decide
  have := key k.toNat (by omega) k'.toNat (by omega) (by omega) (by omega) e
  omega
theorem word_ne {k : Int} (h : 1 ≤ k ∧ k ≤ 16) : wordOf k ≠ [] := by
  have key : ∀ i < 17, 1 ≤ i → words.getD i [] ≠ [] := by decide
  exact key k.toNat (by omega) (by omega)

/-! ### parted at a sign -/
def glue (a : Txt) : List Txt → List Txt
  | [] => [a]
  | p :: q => (a ++ p) :: q
def split (c : UInt8) : Txt → List Txt
  | [] => [[]]
  | x :: r => if x = c then [] :: split c r else glue [x] (split c r)
theorem glue_ne (a : Txt) (l : List Txt) : glue a l ≠ [] := by cases l <;> simp [glue]
theorem split_ne (c : UInt8) (l : Txt) : split c l ≠ [] := by
  cases l with
  | nil => simp [split]
  | cons x r => unfold split; split; simp; exact glue_ne _ _
theorem glue_glue (a b : Txt) (l : List Txt) : glue a (glue b l) = glue (a ++ b) l := by cases l <;> simp [glue]
theorem glue_nil {l : List Txt} (h : l ≠ []) : glue [] l = l := by cases l with
  | nil => exact absurd rfl h
  | cons p q => rfl
theorem split_skip {c : UInt8} {a : Txt} (h : ∀ x ∈ a, x ≠ c) (r : Txt) : split c (a ++ r) = glue a (split c r) := by
  induction a with
  | nil => exact (glue_nil (split_ne c r)).symm
  | cons x a ih =>
    show (if x = c then [] :: split c (a ++ r) else glue [x] (split c (a ++ r))) = _
    rw [if_neg (h x (by simp)), ih (fun y hy => h y (by simp [hy])), glue_glue]; rfl
theorem split_at {c : UInt8} {a : Txt} (h : ∀ x ∈ a, x ≠ c) (r : Txt) : split c (a ++ c :: r) = a :: split c r := by
  rw [split_skip h]
  show glue a (if c = c then _ else _) = _
  rw [if_pos rfl]; simp [glue]
theorem split_all {c : UInt8} {a : Txt} (h : ∀ x ∈ a, x ≠ c) : split c a = [a] := by
  have := split_skip h []
  rw [List.append_nil] at this
  rw [this]; simp [split, glue]
theorem split_joinN {a : Txt} (h : ∀ x ∈ a, x ≠ 32) (ns : List Int) (hn : ∀ n ∈ ns, 0 ≤ n) : split 32 (a ++ joinN ns) = a :: ns.map Lib.itoa := by
  induction ns generalizing a with
  | nil => simp only [joinN, List.append_nil, List.map_nil]; exact split_all h
  | cons n r ih =>
    show split 32 (a ++ 32 :: (Lib.itoa n ++ joinN r)) = _
    rw [split_at h, ih (fun x hx => (itoa_plain (hn n (by simp)) x hx).1) (fun m hm => hn m (by simp [hm]))]; rfl
theorem show_split {o : O4} (h : okOp o = true) : split 32 (showOp o) = wordOf o.k :: (nums o).map Lib.itoa := by
  unfold showOp
  rw [if_pos h]
  exact split_joinN (fun x hx => (word_plain _ x hx).1) _ (fun n hn => (nums_small h n hn).1)
theorem map_itoa_inj : ∀ (l l' : List Int), (∀ n ∈ l, 0 ≤ n ∧ n ≤ 65535) → (∀ n ∈ l', 0 ≤ n ∧ n ≤ 65535) → l.map Lib.itoa = l'.map Lib.itoa → l = l'
  | [], [], _, _, _ => rfl
  | [], _ :: _, _, _, e => by simp at e
  | _ :: _, [], _, _, e => by simp at e
  | n :: r, n' :: r', h, h', e => by
    simp only [List.map_cons, List.cons.injEq] at e
    have a := h n (by simp); have b := h' n' (by simp)
    rw [itoa_inj n n' (by omega) (by omega) e.1, map_itoa_inj r r' (fun m hm => h m (by simp [hm])) (fun m hm => h' m (by simp [hm])) e.2]
theorem show_inj {o o' : O4} (h : okOp o = true) (h' : okOp o' = true) (e : showOp o = showOp o') : o = o' := by
  have e1 := show_split h
  rw [e, show_split h', List.cons.injEq] at e1
  have ek := word_inj (ok_kind h') (ok_kind h) e1.1
  have en := map_itoa_inj _ _ (nums_small h') (nums_small h) e1.2
  rw [ok_nums h, ok_nums h', ek, en]
theorem show_plain {o : O4} : ∀ x ∈ showOp o, x ≠ 10 := by
  unfold showOp
  split
  · rename_i h
    have hj : ∀ (ns : List Int), (∀ n ∈ ns, 0 ≤ n) → ∀ x ∈ joinN ns, x ≠ 10 := by
      intro ns
      induction ns with
      | nil => intro _ x hx; simp [joinN] at hx
      | cons n r ih =>
        intro hn x hx
        rcases List.mem_cons.1 hx with rfl | hx
        · decide
        · rcases List.mem_append.1 hx with hx | hx
          · exact (itoa_plain (hn n (by simp)) x hx).2
          · exact ih (fun m hm => hn m (by simp [hm])) x hx
    intro x hx
    rcases List.mem_append.1 hx with hx | hx
    · exact (word_plain _ x hx).2
    · exact hj _ (fun n hn => (nums_small h n hn).1) x hx
  · intro x hx; simp at hx
theorem show_ne {o : O4} (h : okOp o = true) : showOp o ≠ [] := by
  unfold showOp; rw [if_pos h]
  have := word_ne (ok_kind h)
  intro e
  exact this (List.append_eq_nil_iff.1 e).1

/-- what ReadOp tells -/
def RdOp (s : Txt) (o : O4) (b : Bool) : Prop := (b = true ∧ okOp o = true ∧ showOp o = s) ∨ (b = false ∧ o = z4 ∧ ∀ o', okOp o' = true → showOp o' ≠ s)
theorem RdOp.unique {s : Txt} {o o' : O4} {b b' : Bool} (h : RdOp s o b) (h' : RdOp s o' b') : o = o' ∧ b = b' := by
  rcases h with ⟨rfl, a1, a2⟩ | ⟨rfl, rfl, a⟩ <;> rcases h' with ⟨rfl, b1, b2⟩ | ⟨rfl, rfl, b⟩
  · exact ⟨show_inj a1 b1 (a2.trans b2.symm), rfl⟩
  · exact absurd a2 (b o a1)
  · exact absurd b2 (a o' b1)
  · exact ⟨rfl, rfl⟩

/-! ### code -/
/-- each op on a line of its own -/
def linesOf (xs : List O4) : Txt := xs.flatMap fun o => showOp o ++ [10]
/-- ShowCode -/
def showCode (xs : List O4) : Txt := if codeOk xs = true then linesOf xs else []
theorem lines_cons (o : O4) (r : List O4) : linesOf (o :: r) = showOp o ++ 10 :: linesOf r := by simp [linesOf]
theorem lines_snoc (xs : List O4) (o : O4) : linesOf (xs ++ [o]) = linesOf xs ++ showOp o ++ [10] := by simp [linesOf]
theorem lines_split (xs : List O4) : split 10 (linesOf xs) = xs.map showOp ++ [[]] := by
  induction xs with
  | nil => rfl
  | cons o r ih => rw [lines_cons, split_at show_plain, ih]; rfl
theorem map_show_inj : ∀ (l l' : List O4), (∀ o ∈ l, okOp o = true) → (∀ o ∈ l', okOp o = true) → l.map showOp = l'.map showOp → l = l'
  | [], [], _, _, _ => rfl
  | [], _ :: _, _, _, e => by simp at e
  | _ :: _, [], _, _, e => by simp at e
  | n :: r, n' :: r', h, h', e => by
    simp only [List.map_cons, List.cons.injEq] at e
    rw [show_inj (h n (by simp)) (h' n' (by simp)) e.1, map_show_inj r r' (fun m hm => h m (by simp [hm])) (fun m hm => h' m (by simp [hm])) e.2]
theorem lines_inj {xs ys : List O4} (hx : ∀ o ∈ xs, okOp o = true) (hy : ∀ o ∈ ys, okOp o = true) (e : linesOf xs = linesOf ys) : xs = ys := by
  have := lines_split xs
  rw [e, lines_split ys] at this
  exact (map_show_inj _ _ hy hx (List.append_inj_left' this rfl)).symm
/-- what ReadCode tells -/
def RdCode (s : Txt) (xs : List O4) (b : Bool) : Prop := (b = true ∧ codeOk xs = true ∧ linesOf xs = s) ∨ (b = false ∧ xs = [] ∧ ∀ ys, codeOk ys = true → linesOf ys ≠ s)
end Ops
end Go.Proofs.YtjopmakbnompnaaDoor
