/- Several texts of one proof, in build order: SourceL, ShapeStk, SourceP, ReadCodeL, ScanL, ReadProgL, ProgRow. -/
import Derived.Test.YtjopmakbnompnaaGreatDoorRdPr1
/- Sources: ops and code as texts, as plain mathematics. -/
set_option linter.unusedVariables false
set_option linter.unusedSimpArgs false
namespace Go.Proofs.YtjopmakbnompnaaGreatDoor
namespace Ops
open Num

abbrev Txt := List UInt8
def words : List Txt := [[], [115, 101, 116], [97, 100, 100], [115, 117, 98], [108, 101, 115, 115], [114, 101, 97, 100], [119, 114, 105, 116, 101], [115, 107, 105, 112], [98, 101, 103, 105, 110], [101, 110, 100], [97, 98, 111, 114, 116], [102, 111, 114, 107], [112, 117, 116], [103, 101, 116], [100, 114, 111, 112], [98, 117, 109, 112], [99, 111, 117, 110, 116]]
theorem words_length : words.length = 17 := rfl
/-- the word of a kind -/
def wordOf (k : Int) : Txt := words.getD k.toNat []
/-- how many numbers stand behind a word -/
def nargs (k : Int) : Nat := if k = 2 ∨ k = 3 ∨ k = 4 ∨ k = 12 then 3 else if k = 8 ∨ k = 15 ∨ k = 16 then 1 else if k = 9 ∨ k = 10 ∨ k = 11 then 0 else 2
theorem nargs_le (k : Int) : nargs k ≤ 3 := by unfold nargs; split; omega; split; omega; split <;> omega
def nums (o : O4) : List Int := [o.a, o.b, o.c].take (nargs o.k)
def joinN : List Int → Txt
  | [] => []
  | x :: r => 32 :: (Lib.itoa x ++ joinN r)
/-- ShowOp -/
def showOp (o : O4) : Txt := if okOp o = true then wordOf o.k ++ joinN (nums o) else []
def ofNums (k : Int) (l : List Int) : O4 := ⟨k, l.getD 0 0, l.getD 1 0, l.getD 2 0⟩

theorem inn_iff {lo hi x : Int} : inn lo hi x = true ↔ lo ≤ x ∧ x ≤ hi := by unfold inn; simp
theorem ok_kind {o : O4} (h : okOp o = true) : 1 ≤ o.k ∧ o.k ≤ 16 := by
  rcases Int.lt_or_le o.k 1 with h1 | h1
  · unfold okOp opOk at h; rw [spans_none (.inl h1)] at h; cases h
  · rcases Int.lt_or_le 16 o.k with h2 | h2
    · unfold okOp opOk at h; rw [spans_none (.inr h2)] at h; cases h
    · exact ⟨h1, h2⟩
/-- a right op's fields are small, and those that its kind does not name are nought -/
theorem ok_fields {o : O4} (h : okOp o = true) : ((0 ≤ o.a ∧ o.a ≤ 65535) ∧ (0 ≤ o.b ∧ o.b ≤ 65535) ∧ (0 ≤ o.c ∧ o.c ≤ 65535)) ∧ (nargs o.k ≤ 2 → o.c = 0) ∧ (nargs o.k ≤ 1 → o.b = 0) ∧ (nargs o.k = 0 → o.a = 0) := by
  obtain ⟨k, a, b, c⟩ := o
  have hk := ok_kind h
  have hks := kinds k
  simp only at hk
  rcases hks with rfl | rfl | rfl | rfl | rfl | rfl | rfl | rfl | rfl | rfl | rfl | rfl | rfl | rfl | rfl | rfl | hks
  case inr.inr.inr.inr.inr.inr.inr.inr.inr.inr.inr.inr.inr.inr.inr.inr => omega
  all_goals
    simp only [okOp, opOk, spans, Bool.and_eq_true, inn_iff, Int.reduceEq, if_true, if_false, or_true, true_or, or_self, or_false, false_or, reduceIte] at h
    simp only [nargs, Int.reduceEq, if_true, if_false, or_true, true_or, or_self, or_false, false_or, reduceIte]
    omega
theorem ok_nums {o : O4} (h : okOp o = true) : o = ofNums o.k (nums o) := by
  obtain ⟨-, h2, h1, h0⟩ := ok_fields h
  obtain ⟨k, a, b, c⟩ := o
  simp only at h2 h1 h0
  unfold ofNums nums
  have := nargs_le k
  simp only
  match hn : nargs k, this with
  | 0, _ => simp [h0 hn, h1 (by omega), h2 (by omega)]
  | 1, _ => simp [h1 (by omega), h2 (by omega)]
  | 2, _ => simp [h2 (by omega)]
  | 3, _ => simp
theorem nums_small {o : O4} (h : okOp o = true) : ∀ n ∈ nums o, 0 ≤ n ∧ n ≤ 65535 := by
  obtain ⟨⟨a, b, c⟩, -⟩ := ok_fields h
  intro n hn
  have := List.mem_of_mem_take hn
  simp at this
  rcases this with rfl | rfl | rfl <;> assumption
theorem nums_length (o : O4) : (nums o).length = nargs o.k := by
  unfold nums; have := nargs_le o.k; simp; omega

/-! ### no blanks, no line ends in words and numbers -/
theorem word_plain (k : Int) : ∀ x ∈ wordOf k, x ≠ 32 ∧ x ≠ 10 := by
  have : ∀ w ∈ words, ∀ x ∈ w, x ≠ 32 ∧ x ≠ 10 := by decide
  intro x hx
  unfold wordOf at hx
  rw [List.getD_eq_getElem?_getD] at hx
  cases hw : words[k.toNat]? with
  | none => rw [hw] at hx; simp at hx
  | some u => rw [hw] at hx; exact this u (List.mem_of_getElem? hw) x hx
theorem itoa_plain {n : Int} (h : 0 ≤ n) : ∀ x ∈ Lib.itoa n, x ≠ 32 ∧ x ≠ 10 := by
  obtain ⟨m, rfl⟩ := Int.eq_ofNat_of_zero_le h
  rw [Lib.itoa_nonneg]
  intro x hx
  have := dec_all m x hx
  simp only [isDig, Bool.and_eq_true, decide_eq_true_eq] at this
  refine ⟨fun e => ?_, fun e => ?_⟩ <;> (subst e; revert this; decide)
theorem word_inj {k k' : Int} (h : 1 ≤ k ∧ k ≤ 16) (h' : 1 ≤ k' ∧ k' ≤ 16) (e : wordOf k = wordOf k') : k = k' := by
  have key : ∀ i < 17, ∀ j < 17, 1 ≤ i → 1 ≤ j → words.getD i [] = words.getD j [] → i = j := by decide
  have := key k.toNat (by omega) k'.toNat (by omega) (by omega) (by omega) e
  omega
theorem word_ne {k : Int} (h : 1 ≤ k ∧ k ≤ 16) : wordOf k ≠ [] := by
  have key : ∀ i < 17, 1 ≤ i → words.getD i [] ≠ [] := by decide
  exact key k.toNat (by omega) (by omega)

/-! ### parted at a sign -/
def glue (a : Txt) : List Txt → List Txt
  | [] => [a]
  | p :: q => (a ++ p) :: q
def split (c : UInt8) : Txt → List Txt
  | [] => [[]]
  | x :: r => if x = c then [] :: split c r else glue [x] (split c r)
theorem glue_ne (a : Txt) (l : List Txt) : glue a l ≠ [] := by cases l <;> simp [glue]
theorem split_ne (c : UInt8) (l : Txt) : split c l ≠ [] := by
  cases l with
  | nil => simp [split]
  | cons x r => unfold split; split; simp; exact glue_ne _ _
theorem glue_glue (a b : Txt) (l : List Txt) : glue a (glue b l) = glue (a ++ b) l := by cases l <;> simp [glue]
theorem glue_nil {l : List Txt} (h : l ≠ []) : glue [] l = l := by cases l with
  | nil => exact absurd rfl h
  | cons p q => rfl
theorem split_skip {c : UInt8} {a : Txt} (h : ∀ x ∈ a, x ≠ c) (r : Txt) : split c (a ++ r) = glue a (split c r) := by
  induction a with
  | nil => exact (glue_nil (split_ne c r)).symm
  | cons x a ih =>
    show (if x = c then [] :: split c (a ++ r) else glue [x] (split c (a ++ r))) = _
    rw [if_neg (h x (by simp)), ih (fun y hy => h y (by simp [hy])), glue_glue]; rfl
theorem split_at {c : UInt8} {a : Txt} (h : ∀ x ∈ a, x ≠ c) (r : Txt) : split c (a ++ c :: r) = a :: split c r := by
  rw [split_skip h]
  show glue a (if c = c then _ else _) = _
  rw [if_pos rfl]; simp [glue]
theorem split_all {c : UInt8} {a : Txt} (h : ∀ x ∈ a, x ≠ c) : split c a = [a] := by
  have := split_skip h []
  rw [List.append_nil] at this
  rw [this]; simp [split, glue]
theorem split_joinN {a : Txt} (h : ∀ x ∈ a, x ≠ 32) (ns : List Int) (hn : ∀ n ∈ ns, 0 ≤ n) : split 32 (a ++ joinN ns) = a :: ns.map Lib.itoa := by
  induction ns generalizing a with
  | nil => simp only [joinN, List.append_nil, List.map_nil]; exact split_all h
  | cons n r ih =>
    show split 32 (a ++ 32 :: (Lib.itoa n ++ joinN r)) = _
    rw [split_at h, ih (fun x hx => (itoa_plain (hn n (by simp)) x hx).1) (fun m hm => hn m (by simp [hm]))]; rfl
theorem show_split {o : O4} (h : okOp o = true) : split 32 (showOp o) = wordOf o.k :: (nums o).map Lib.itoa := by
  unfold showOp
  rw [if_pos h]
  exact split_joinN (fun x hx => (word_plain _ x hx).1) _ (fun n hn => (nums_small h n hn).1)
theorem map_itoa_inj : ∀ (l l' : List Int), (∀ n ∈ l, 0 ≤ n ∧ n ≤ 65535) → (∀ n ∈ l', 0 ≤ n ∧ n ≤ 65535) → l.map Lib.itoa = l'.map Lib.itoa → l = l'
  | [], [], _, _, _ => rfl
  | [], _ :: _, _, _, e => by simp at e
  | _ :: _, [], _, _, e => by simp at e
  | n :: r, n' :: r', h, h', e => by
    simp only [List.map_cons, List.cons.injEq] at e
    have a := h n (by simp); have b := h' n' (by simp)
    rw [itoa_inj n n' (by omega) (by omega) e.1, map_itoa_inj r r' (fun m hm => h m (by simp [hm])) (fun m hm => h' m (by simp [hm])) e.2]
theorem show_inj {o o' : O4} (h : okOp o = true) (h' : okOp o' = true) (e : showOp o = showOp o') : o = o' := by
  have e1 := show_split h
  rw [e, show_split h', List.cons.injEq] at e1
  have ek := word_inj (ok_kind h') (ok_kind h) e1.1
  have en := map_itoa_inj _ _ (nums_small h') (nums_small h) e1.2
  rw [ok_nums h, ok_nums h', ek, en]
theorem show_plain {o : O4} : ∀ x ∈ showOp o, x ≠ 10 := by
  unfold showOp
  split
  · rename_i h
    have hj : ∀ (ns : List Int), (∀ n ∈ ns, 0 ≤ n) → ∀ x ∈ joinN ns, x ≠ 10 := by
      intro ns
      induction ns with
      | nil => intro _ x hx; simp [joinN] at hx
      | cons n r ih =>
        intro hn x hx
        rcases List.mem_cons.1 hx with rfl | hx
        · decide
        · rcases List.mem_append.1 hx with hx | hx
          · exact (itoa_plain (hn n (by simp)) x hx).2
          · exact ih (fun m hm => hn m (by simp [hm])) x hx
    intro x hx
    rcases List.mem_append.1 hx with hx | hx
    · exact (word_plain _ x hx).2
    · exact hj _ (fun n hn => (nums_small h n hn).1) x hx
  · intro x hx; simp at hx
theorem show_ne {o : O4} (h : okOp o = true) : showOp o ≠ [] := by
  unfold showOp; rw [if_pos h]
  have := word_ne (ok_kind h)
  intro e
  exact this (List.append_eq_nil_iff.1 e).1

/-- what ReadOp tells -/
def RdOp (s : Txt) (o : O4) (b : Bool) : Prop := (b = true ∧ okOp o = true ∧ showOp o = s) ∨ (b = false ∧ o = z4 ∧ ∀ o', okOp o' = true → showOp o' ≠ s)
theorem RdOp.unique {s : Txt} {o o' : O4} {b b' : Bool} (h : RdOp s o b) (h' : RdOp s o' b') : o = o' ∧ b = b' := by
  rcases h with ⟨rfl, a1, a2⟩ | ⟨rfl, rfl, a⟩ <;> rcases h' with ⟨rfl, b1, b2⟩ | ⟨rfl, rfl, b⟩
  · exact ⟨show_inj a1 b1 (a2.trans b2.symm), rfl⟩
  · exact absurd a2 (b o a1)
  · exact absurd b2 (a o' b1)
  · exact ⟨rfl, rfl⟩

/-! ### code -/
/-- each op on a line of its own -/
def linesOf (xs : List O4) : Txt := xs.flatMap fun o => showOp o ++ [10]
/-- ShowCode -/
def showCode (xs : List O4) : Txt := if codeOk xs = true then linesOf xs else []
theorem lines_cons (o : O4) (r : List O4) : linesOf (o :: r) = showOp o ++ 10 :: linesOf r := by simp [linesOf]
theorem lines_snoc (xs : List O4) (o : O4) : linesOf (xs ++ [o]) = linesOf xs ++ showOp o ++ [10] := by simp [linesOf]
theorem lines_split (xs : List O4) : split 10 (linesOf xs) = xs.map showOp ++ [[]] := by
  induction xs with
  | nil => rfl
  | cons o r ih => rw [lines_cons, split_at show_plain, ih]; rfl
theorem map_show_inj : ∀ (l l' : List O4), (∀ o ∈ l, okOp o = true) → (∀ o ∈ l', okOp o = true) → l.map showOp = l'.map showOp → l = l'
  | [], [], _, _, _ => rfl
  | [], _ :: _, _, _, e => by simp at e
  | _ :: _, [], _, _, e => by simp at e
  | n :: r, n' :: r', h, h', e => by
    simp only [List.map_cons, List.cons.injEq] at e
    rw [show_inj (h n (by simp)) (h' n' (by simp)) e.1, map_show_inj r r' (fun m hm => h m (by simp [hm])) (fun m hm => h' m (by simp [hm])) e.2]
theorem lines_inj {xs ys : List O4} (hx : ∀ o ∈ xs, okOp o = true) (hy : ∀ o ∈ ys, okOp o = true) (e : linesOf xs = linesOf ys) : xs = ys := by
  have := lines_split xs
  rw [e, lines_split ys] at this
  exact (map_show_inj _ _ hy hx (List.append_inj_left' this rfl)).symm
/-- what ReadCode tells -/
def RdCode (s : Txt) (xs : List O4) (b : Bool) : Prop := (b = true ∧ codeOk xs = true ∧ linesOf xs = s) ∨ (b = false ∧ xs = [] ∧ ∀ ys, codeOk ys = true → linesOf ys ≠ s)
end Ops
end Go.Proofs.YtjopmakbnompnaaGreatDoor
/- Blocks on a stack: the program's way to tell right code, as plain mathematics. -/
set_option linter.unusedVariables false
namespace Go.Proofs.YtjopmakbnompnaaGreatDoor
namespace Ops

/-- a block: where it begins, how many are around it -/
structure B2 where
  b : Int
  d : Int
/-- the stack of begins, the innermost first, as it lies in memory: the innermost last, each with how many are around it -/
def stk : List Int → List B2
  | [] => []
  | x :: r => stk r ++ [⟨x, r.length⟩]
theorem stk_length (s : List Int) : (stk s).length = s.length := by
  induction s with
  | nil => rfl
  | cons x r ih => simp [stk, ih]
theorem stk_last (x : Int) (r : List Int) (h : r.length < (stk (x :: r)).length) : (stk (x :: r))[r.length] = ⟨x, r.length⟩ := by
  have hl := stk_length r
  have : (stk (x :: r))[r.length]? = some ⟨x, r.length⟩ := by
    show (stk r ++ [⟨x, r.length⟩])[r.length]? = _
    rw [List.getElem?_append_right (by omega), hl, Nat.sub_self]; rfl
  rw [List.getElem?_eq_getElem h] at this
  exact Option.some.inj this
/-- the stack behind an op -/
def stepS (s : List Int) (i : Nat) (o : O4) : List Int := if o.k = 8 then (i : Int) :: s else if o.k = 9 then s.tail else s
/-- the stack ahead of place i -/
def stAt (xs : List O4) : Nat → List Int
  | 0 => [-1]
  | i + 1 => stepS (stAt xs i) i (xs.getD i z4)
theorem stAt_succ {xs : List O4} {i : Nat} (h : i < xs.length) : stAt xs (i + 1) = stepS (stAt xs i) i xs[i] := by
  show stepS _ _ (xs.getD i z4) = _
  simp [List.getD, h]
/-- the innermost block -/
def topB (s : List Int) : B2 := ⟨s.headD (-1), (s.length : Int) - 1⟩
/-- the innermost block ahead of each of the first places -/
def homes (xs : List O4) (k : Nat) : List B2 := (List.range k).map fun j => topB (stAt xs j)
theorem homes_length (xs : List O4) (k : Nat) : (homes xs k).length = k := by simp [homes]
theorem homes_succ (xs : List O4) (k : Nat) : homes xs (k + 1) = homes xs k ++ [topB (stAt xs k)] := by simp [homes, List.range_succ]
theorem homes_at (xs : List O4) (k j : Nat) (h : j < (homes xs k).length) : (homes xs k)[j] = topB (stAt xs j) := by simp [homes]

/-- no end too many, and none too few -/
def closedGo : List O4 → Int → Bool
  | [], d => d == 0
  | o :: r, d => decide (0 ≤ d + delta o) && closedGo r (d + delta o)
theorem closedGo_step {xs : List O4} {k : Nat} (h : k < xs.length) (d : Int) : closedGo (xs.drop k) d = (decide (0 ≤ d + delta xs[k]) && closedGo (xs.drop (k + 1)) (d + delta xs[k])) := by
  rw [List.drop_eq_getElem_cons h]; rfl
/-- each skip passes over whole blocks -/
def skipsGo (xs : List O4) : List O4 → Nat → Bool
  | [], _ => true
  | o :: r, i => (!(o.k == 7) || skipOk xs i) && skipsGo xs r (i + 1)
theorem skipsGo_step {xs : List O4} {k : Nat} (h : k < xs.length) : skipsGo xs (xs.drop k) k = ((!(xs[k].k == 7) || skipOk xs k) && skipsGo xs (xs.drop (k + 1)) (k + 1)) := by
  rw [List.drop_eq_getElem_cons h]; rfl
/-- one fork at most, outside of blocks -/
def forksGo : List O4 → Int → Nat → Bool
  | [], _, _ => true
  | o :: r, d, f => (!(o.k == 11) || (decide (d ≤ 0) && decide (f = 0))) && forksGo r (d + delta o) (if o.k = 11 then f + 1 else f)
theorem forksGo_step {xs : List O4} {k : Nat} (h : k < xs.length) (d : Int) (f : Nat) : forksGo (xs.drop k) d f = ((!(xs[k].k == 11) || (decide (d ≤ 0) && decide (f = 0))) && forksGo (xs.drop (k + 1)) (d + delta xs[k]) (if xs[k].k = 11 then f + 1 else f)) := by
  rw [List.drop_eq_getElem_cons h]; rfl
theorem codeGo_split (xs ys : List O4) : ∀ (i : Nat) (d : Int) (f : Nat), codeGo xs ys i d f = (ys.all okOp && (closedGo ys d && (skipsGo xs ys i && forksGo ys d f))) := by
  induction ys with
  | nil => intro i d f; simp [codeGo, closedGo, skipsGo, forksGo]
  | cons o r ih =>
    intro i d f
    show (okOp o && (!(o.k == 7) || skipOk xs i) && (!(o.k == 11) || (decide (d ≤ 0) && decide (f = 0))) && decide (0 ≤ d + delta o) && codeGo xs r (i + 1) (d + delta o) (if o.k = 11 then f + 1 else f)) =
      ((okOp o && r.all okOp) && ((decide (0 ≤ d + delta o) && closedGo r (d + delta o)) && (((!(o.k == 7) || skipOk xs i) && skipsGo xs r (i + 1)) && ((!(o.k == 11) || (decide (d ≤ 0) && decide (f = 0))) && forksGo r (d + delta o) (if o.k = 11 then f + 1 else f)))))
    rw [ih]
    generalize okOp o = a1
    generalize (!(o.k == 7) || skipOk xs i) = a2
    generalize (!(o.k == 11) || (decide (d ≤ 0) && decide (f = 0))) = a3
    generalize decide (0 ≤ d + delta o) = a4
    generalize r.all okOp = a5
    generalize closedGo r (d + delta o) = a6
    generalize skipsGo xs r (i + 1) = a7
    generalize forksGo r (d + delta o) (if o.k = 11 then f + 1 else f) = a8
    cases a1 <;> cases a2 <;> cases a3 <;> cases a4 <;> simp
theorem codeOk_split (xs : List O4) : codeOk xs = (decide (xs.length ≤ 24) && (xs.all okOp && (closedGo xs 0 && (skipsGo xs xs 0 && forksGo xs 0 0)))) := by
  unfold codeOk; rw [codeGo_split]

/-- the kinds of an op, as the stack takes it -/
theorem step8 {s : List Int} {i : Nat} {o : O4} (h : o.k = 8) : stepS s i o = (i : Int) :: s := by unfold stepS; rw [if_pos h]
theorem step9 {s : List Int} {i : Nat} {o : O4} (h : o.k = 9) : stepS s i o = s.tail := by unfold stepS; rw [if_neg (by omega), if_pos h]
theorem step0 {s : List Int} {i : Nat} {o : O4} (h8 : ¬ o.k = 8) (h9 : ¬ o.k = 9) : stepS s i o = s := by unfold stepS; rw [if_neg h8, if_neg h9]
theorem delta8 {o : O4} (h : o.k = 8) : delta o = 1 := by unfold delta; rw [if_pos h]
theorem delta9 {o : O4} (h : o.k = 9) : delta o = -1 := by unfold delta; rw [if_neg (by omega), if_pos h]
theorem delta0 {o : O4} (h8 : ¬ o.k = 8) (h9 : ¬ o.k = 9) : delta o = 0 := by unfold delta; rw [if_neg h8, if_neg h9]
theorem step_len {s : List Int} {i : Nat} {o : O4} (h : 1 ≤ s.length) : ((stepS s i o).length : Int) = s.length + delta o := by
  by_cases h8 : o.k = 8
  · rw [step8 h8, delta8 h8]; simp
  · by_cases h9 : o.k = 9
    · rw [step9 h9, delta9 h9, List.length_tail]; omega
    · rw [step0 h8 h9, delta0 h8 h9]; omega

/-- in closed code there always is an innermost block -/
theorem closed_at {xs : List O4} (hc : closedGo xs 0 = true) : ∀ k, k ≤ xs.length → 1 ≤ (stAt xs k).length ∧ closedGo (xs.drop k) (((stAt xs k).length : Int) - 1) = true := by
  intro k
  induction k with
  | zero => intro _; exact ⟨by simp [stAt], by simpa [stAt] using hc⟩
  | succ k ih =>
    intro hk
    obtain ⟨h1, h2⟩ := ih (by omega)
    rw [closedGo_step (by omega), Bool.and_eq_true] at h2
    obtain ⟨h3, h4⟩ := h2
    have h3 := of_decide_eq_true h3
    have hl := step_len (i := k) (o := xs[k]) h1
    rw [stAt_succ (by omega)]
    refine ⟨by omega, ?_⟩
    rw [hl, show (((stAt xs k).length : Int) + delta xs[k] - 1) = (((stAt xs k).length : Int) - 1 + delta xs[k]) by omega]; exact h4
theorem st_sorted (xs : List O4) : ∀ k, (stAt xs k).Pairwise (· > ·) ∧ ∀ x ∈ stAt xs k, x < (k : Int) := by
  intro k
  induction k with
  | zero => simp [stAt]
  | succ k ih =>
    obtain ⟨h1, h2⟩ := ih
    show (stepS (stAt xs k) k (xs.getD k z4)).Pairwise (· > ·) ∧ ∀ x ∈ stepS (stAt xs k) k (xs.getD k z4), x < ((k + 1 : Nat) : Int)
    obtain ⟨o, ho⟩ : ∃ o, xs.getD k z4 = o := ⟨_, rfl⟩
    rw [ho]
    by_cases h8 : o.k = 8
    · rw [step8 h8]
      refine ⟨List.pairwise_cons.2 ⟨fun x hx => h2 x hx, h1⟩, fun x hx => ?_⟩
      rcases List.mem_cons.1 hx with rfl | hx
      · omega
      · have := h2 x hx; omega
    · by_cases h9 : o.k = 9
      · rw [step9 h9]
        exact ⟨h1.sublist (List.tail_sublist _), fun x hx => by have := h2 x (List.mem_of_mem_tail hx); omega⟩
      · rw [step0 h8 h9]
        exact ⟨h1, fun x hx => by have := h2 x hx; omega⟩
/-- a block that was ended never comes back -/
theorem gone {xs : List O4} {b : Int} : ∀ (m k : Nat), b < (k : Int) → b ∉ stAt xs k → b ∉ stAt xs (k + m) := by
  intro m
  induction m with
  | zero => intro k _ h; exact h
  | succ m ih =>
    intro k hk h
    have := ih k hk h
    show b ∉ stepS (stAt xs (k + m)) (k + m) (xs.getD (k + m) z4)
    obtain ⟨o, ho⟩ : ∃ o, xs.getD (k + m) z4 = o := ⟨_, rfl⟩
    rw [ho]
    by_cases h8 : o.k = 8
    · rw [step8 h8]
      intro hx
      rcases List.mem_cons.1 hx with hx | hx
      · omega
      · exact this hx
    · by_cases h9 : o.k = 9
      · rw [step9 h9]; exact fun hx => this (List.mem_of_mem_tail hx)
      · rw [step0 h8 h9]; exact this
theorem head_mem {s : List Int} (h : 1 ≤ s.length) (d : Int) : s.headD d ∈ s := by
  cases s with
  | nil => simp at h
  | cons x r => simp
/-- what a skip passes over, by the stack -/
theorem skip_walk {xs : List O4} (hc : closedGo xs 0 = true) {b : Int} {r : List Int} : ∀ (n k : Nat) (ex : List Int) (q : Int), stAt xs k = ex ++ b :: r → (ex.length : Int) = q → k + n ≤ xs.length → b < (k : Int) →
    (skipGo (xs.drop k) n q = true → stAt xs (k + n) = b :: r) ∧ (skipGo (xs.drop k) n q = false → (stAt xs (k + n)).headD (-1) ≠ b) := by
  intro n
  induction n with
  | zero =>
    intro k ex q hs hq hk hb
    have e : skipGo (xs.drop k) 0 q = (q == 0) := by cases xs.drop k <;> rfl
    rw [e]
    refine ⟨fun h => ?_, fun h => ?_⟩
    · have : q = 0 := by simpa using h
      have : ex = [] := List.eq_nil_of_length_eq_zero (by omega)
      subst this; exact hs
    · have hq0 : ¬ q = 0 := by simpa using h
      cases ex with
      | nil => simp at hq; omega
      | cons x ex =>
        show (stAt xs k).headD (-1) ≠ b
        have hp := (st_sorted xs k).1
        rw [hs] at hp ⊢
        have := (List.pairwise_cons.1 hp).1 b (by simp)
        show x ≠ b
        omega
  | succ n ih =>
    intro k ex q hs hq hk hb
    have hlt : k < xs.length := by omega
    rw [skipGo_step hlt, show k + (n + 1) = (k + 1) + n by omega]
    have hst := stAt_succ hlt
    by_cases h8 : xs[k].k = 8
    · rw [delta8 h8, decide_eq_true (show 0 ≤ q + 1 by omega), Bool.true_and]
      rw [step8 h8, hs] at hst
      exact ih (k + 1) ((k : Int) :: ex) (q + 1) hst (by simp; omega) (by omega) (by omega)
    · by_cases h9 : xs[k].k = 9
      · rw [delta9 h9]
        rw [step9 h9, hs] at hst
        cases ex with
        | nil =>
          obtain rfl : q = 0 := by simpa using hq.symm
          refine ⟨fun h => by simp at h, fun _ => ?_⟩
          have hp := (st_sorted xs k).1
          rw [hs] at hp
          have hn : b ∉ stAt xs (k + 1) := by
            rw [hst]
            intro hm
            have := (List.pairwise_cons.1 hp).1 b (by simpa using hm)
            omega
          have hg := gone n (k + 1) (by omega) hn
          intro he
          exact hg (he ▸ head_mem (closed_at hc _ (by omega)).1 (-1))
        | cons x ex =>
          have : 0 ≤ q + -1 := by simp at hq; omega
          rw [decide_eq_true this, Bool.true_and]
          exact ih (k + 1) ex (q + -1) hst (by simp at hq; omega) (by omega) (by omega)
      · rw [delta0 h8 h9, decide_eq_true (show 0 ≤ q + 0 by omega), Bool.true_and, Int.add_zero]
        rw [step0 h8 h9, hs] at hst
        exact ih (k + 1) ex q hst hq (by omega) (by omega)
def sameB (x y : B2) : Bool := decide (x.b = y.b ∧ x.d = y.d)
/-- a skip is right just where it ends in its own block -/
theorem skip_home {xs : List O4} (hc : closedGo xs 0 = true) {i t : Nat} (hi : i < xs.length) (h7 : xs[i].k = 7) (ht : xs[i].b = (t : Int)) (hto : i + 1 + t ≤ xs.length) :
    skipOk xs i = sameB (topB (stAt xs (i + 1 + t))) (topB (stAt xs i)) := by
  have hst := stAt_succ hi
  rw [step0 (by omega) (by omega)] at hst
  have hg : xs.getD i z4 = xs[i] := by simp [List.getD, hi]
  have e : skipOk xs i = skipGo (xs.drop (i + 1)) t 0 := by
    unfold skipOk
    rw [hg, ht, decide_eq_true (by omega), Bool.true_and, Int.toNat_natCast]
  rw [e]
  obtain ⟨h1, -⟩ := closed_at hc i (by omega)
  obtain ⟨-, h2⟩ := st_sorted xs i
  match hS : stAt xs i, h1 with
  | b :: r, _ =>
    have hb : b < ((i + 1 : Nat) : Int) := by have := h2 b (by rw [hS]; simp); omega
    rw [hS] at hst
    obtain ⟨y, n⟩ := skip_walk hc (b := b) (r := r) t (i + 1) [] 0 hst rfl hto hb
    obtain ⟨p, hp⟩ : ∃ p, skipGo (xs.drop (i + 1)) t 0 = p := ⟨_, rfl⟩
    rw [hp] at y n ⊢
    unfold sameB topB
    cases p
    · rw [decide_eq_false]
      rintro ⟨h, -⟩
      exact n rfl h
    · rw [y rfl, decide_eq_true ⟨rfl, rfl⟩]

/-- all ops are right -/
theorem code_bad1 {xs : List O4} (h : xs.all okOp = false) : codeOk xs = false := by rw [codeOk_split, h]; simp
theorem code_bad2 {xs : List O4} (h : closedGo xs 0 = false) : codeOk xs = false := by rw [codeOk_split, h]; simp
theorem code_bad3 {xs : List O4} (h : skipsGo xs xs 0 = false) : codeOk xs = false := by rw [codeOk_split, h]; simp
theorem code_all {xs : List O4} (h0 : xs.length ≤ 24) (h1 : xs.all okOp = true) (h2 : closedGo xs 0 = true) (h3 : skipsGo xs xs 0 = true) : codeOk xs = forksGo xs 0 0 := by rw [codeOk_split, h1, h2, h3, decide_eq_true h0]; simp
end Ops
end Go.Proofs.YtjopmakbnompnaaGreatDoor
/- Sources: whole programs as texts, as plain mathematics. -/
set_option linter.unusedVariables false
set_option linter.unusedSimpArgs false
namespace Go.Proofs.YtjopmakbnompnaaGreatDoor
namespace Ops
open Num

theorem code_ops {xs : List O4} (h : codeOk xs = true) : ∀ o ∈ xs, okOp o = true := by
  rw [codeOk_split] at h
  simp only [Bool.and_eq_true] at h
  exact List.all_eq_true.1 h.2.1
theorem RdCode.unique {s : Txt} {xs ys : List O4} {b b' : Bool} (h : RdCode s xs b) (h' : RdCode s ys b') : xs = ys ∧ b = b' := by
  rcases h with ⟨rfl, a1, a2⟩ | ⟨rfl, rfl, a⟩ <;> rcases h' with ⟨rfl, b1, b2⟩ | ⟨rfl, rfl, b⟩
  · exact ⟨lines_inj (code_ops a1) (code_ops b1) (a2.trans b2.symm), rfl⟩
  · exact absurd a2 (b xs a1)
  · exact absurd b2 (a ys b1)
  · exact ⟨rfl, rfl⟩

def kidW : Txt := [107, 105, 100]
def kidL : Txt := [107, 105, 100, 10]
/-- the text of a program -/
def kidsText (kss : List (List O4)) : Txt := kss.flatMap fun ks => kidL ++ linesOf ks
def progText (xs : List O4) (kss : List (List O4)) : Txt := linesOf xs ++ kidsText kss
/-- ShowProg -/
def showProg (xs : List O4) (kss : List (List O4)) : Txt := if progOk xs kss = true then progText xs kss else []
/-- all its lines -/
def kidsRows (kss : List (List O4)) : List Txt := kss.flatMap fun ks => kidW :: ks.map showOp
theorem kidsText_cons (ks : List O4) (r : List (List O4)) : kidsText (ks :: r) = kidL ++ (linesOf ks ++ kidsText r) := by simp [kidsText]
theorem kidsRows_cons (ks : List O4) (r : List (List O4)) : kidsRows (ks :: r) = kidW :: (ks.map showOp ++ kidsRows r) := by simp [kidsRows]
theorem split_lines (xs : List O4) (r : Txt) : split 10 (linesOf xs ++ r) = xs.map showOp ++ split 10 r := by
  induction xs with
  | nil => rfl
  | cons o l ih => rw [lines_cons, List.append_assoc, List.cons_append, split_at show_plain, ih]; rfl
theorem split_kid (r : Txt) : split 10 (kidL ++ r) = kidW :: split 10 r := by
  have : kidL ++ r = kidW ++ 10 :: r := rfl
  rw [this, split_at (by decide)]
theorem split_kids (kss : List (List O4)) : split 10 (kidsText kss) = kidsRows kss ++ [[]] := by
  induction kss with
  | nil => rfl
  | cons ks r ih => rw [kidsText_cons, split_kid, split_lines, ih, kidsRows_cons]; simp
theorem prog_rows (xs : List O4) (kss : List (List O4)) : split 10 (progText xs kss) = (xs.map showOp ++ kidsRows kss) ++ [[]] := by
  unfold progText; rw [split_lines, split_kids, List.append_assoc]
theorem kid_no_op {o : O4} (h : okOp o = true) : showOp o ≠ kidW := by
  intro e
  have := show_split h
  rw [e] at this
  have h1 : wordOf o.k = kidW := by
    have h2 : split 32 kidW = [kidW] := by decide
    rw [h2] at this
    exact ((List.cons.injEq _ _ _ _).mp this).1.symm
  have key : ∀ i < 17, words.getD i [] ≠ kidW := by decide
  have := ok_kind h
  exact key o.k.toNat (by omega) h1
theorem cut_at {K : Txt} : ∀ (A A' T T' : List Txt), (∀ a ∈ A, a ≠ K) → (∀ a ∈ A', a ≠ K) → (T = [] ∨ ∃ r, T = K :: r) → (T' = [] ∨ ∃ r, T' = K :: r) → A ++ T = A' ++ T' → A = A' ∧ T = T'
  | [], [], T, T', _, _, _, _, e => ⟨rfl, e⟩
  | [], a :: r, T, T', _, h', hT, _, e => by
    rcases hT with rfl | ⟨q, rfl⟩
    · simp at e
    · simp only [List.nil_append, List.cons_append, List.cons.injEq] at e
      exact absurd e.1.symm (h' a (by simp))
  | a :: r, [], T, T', h, _, _, hT, e => by
    rcases hT with rfl | ⟨q, rfl⟩
    · simp at e
    · simp only [List.nil_append, List.cons_append, List.cons.injEq] at e
      exact absurd e.1 (h a (by simp))
  | a :: r, a' :: r', T, T', h, h', hT, hT', e => by
    simp only [List.cons_append, List.cons.injEq] at e
    obtain ⟨e1, e2⟩ := cut_at r r' T T' (fun x hx => h x (by simp [hx])) (fun x hx => h' x (by simp [hx])) hT hT' e.2
    exact ⟨by rw [e.1, e1], e2⟩
theorem kidsRows_form (kss : List (List O4)) : kidsRows kss = [] ∨ ∃ r, kidsRows kss = kidW :: r := by
  cases kss with
  | nil => exact .inl rfl
  | cons ks r => exact .inr ⟨_, kidsRows_cons ks r⟩
theorem ops_no_kid {xs : List O4} (h : ∀ o ∈ xs, okOp o = true) : ∀ a ∈ xs.map showOp, a ≠ kidW := by
  intro a ha
  obtain ⟨o, ho, rfl⟩ := List.mem_map.1 ha
  exact kid_no_op (h o ho)
theorem kids_inj : ∀ (kss lss : List (List O4)), (∀ ks ∈ kss, ∀ o ∈ ks, okOp o = true) → (∀ ks ∈ lss, ∀ o ∈ ks, okOp o = true) → kidsRows kss = kidsRows lss → kss = lss
  | [], [], _, _, _ => rfl
  | [], ls :: t, _, _, e => by rw [kidsRows_cons] at e; simp [kidsRows] at e
  | ks :: r, [], _, _, e => by rw [kidsRows_cons] at e; simp [kidsRows] at e
  | ks :: r, ls :: t, h, h', e => by
    rw [kidsRows_cons, kidsRows_cons, List.cons.injEq] at e
    obtain ⟨e1, e2⟩ := cut_at _ _ _ _ (ops_no_kid (h ks (by simp))) (ops_no_kid (h' ls (by simp))) (kidsRows_form r) (kidsRows_form t) e.2
    rw [map_show_inj _ _ (h ks (by simp)) (h' ls (by simp)) e1, kids_inj r t (fun x hx => h x (by simp [hx])) (fun x hx => h' x (by simp [hx])) e2]
theorem prog_codes {xs : List O4} {kss : List (List O4)} (h : progOk xs kss = true) : codeOk xs = true ∧ kss.length ≤ 3 ∧ ∀ ks ∈ kss, codeOk ks = true := by
  unfold progOk at h
  simp only [Bool.and_eq_true, decide_eq_true_eq] at h
  refine ⟨h.1.1.1, h.1.1.2, fun ks hk => ?_⟩
  have := List.all_eq_true.1 h.2 ks hk
  unfold kidOk at this
  simp only [Bool.and_eq_true] at this
  exact this.1.1
theorem prog_inj {xs ys : List O4} {kss lss : List (List O4)} (h : progOk xs kss = true) (h' : progOk ys lss = true) (e : progText xs kss = progText ys lss) : xs = ys ∧ kss = lss := by
  obtain ⟨a1, -, a2⟩ := prog_codes h
  obtain ⟨b1, -, b2⟩ := prog_codes h'
  have := prog_rows xs kss
  rw [e, prog_rows] at this
  have e1 := List.append_inj_left' this rfl
  obtain ⟨e2, e3⟩ := cut_at _ _ _ _ (ops_no_kid (code_ops b1)) (ops_no_kid (code_ops a1)) (kidsRows_form lss) (kidsRows_form kss) e1
  exact ⟨(map_show_inj _ _ (code_ops b1) (code_ops a1) e2).symm, (kids_inj _ _ (fun k hk => code_ops (b2 k hk)) (fun k hk => code_ops (a2 k hk)) e3).symm⟩
/-- what ReadProg tells -/
def RdProg (s : Txt) (xs : List O4) (kss : List (List O4)) (b : Bool) : Prop := (b = true ∧ progOk xs kss = true ∧ progText xs kss = s) ∨ (b = false ∧ xs = [] ∧ kss = [] ∧ ∀ ys lss, progOk ys lss = true → progText ys lss ≠ s)
theorem RdProg.unique {s : Txt} {xs ys : List O4} {kss lss : List (List O4)} {b b' : Bool} (h : RdProg s xs kss b) (h' : RdProg s ys lss b') : xs = ys ∧ kss = lss ∧ b = b' := by
  rcases h with ⟨rfl, a1, a2⟩ | ⟨rfl, rfl, rfl, a⟩ <;> rcases h' with ⟨rfl, b1, b2⟩ | ⟨rfl, rfl, rfl, b⟩
  · obtain ⟨e1, e2⟩ := prog_inj a1 b1 (a2.trans b2.symm); exact ⟨e1, e2, rfl⟩
  · exact absurd a2 (b xs kss a1)
  · exact absurd b2 (a ys lss b1)
  · exact ⟨rfl, rfl, rfl⟩
end Ops
end Go.Proofs.YtjopmakbnompnaaGreatDoor
/- ReadCode as plain mathematics: what lines tell. -/
set_option linter.unusedVariables false
set_option linter.unusedSimpArgs false
namespace Go.Proofs.YtjopmakbnompnaaGreatDoor
namespace Ops
open Num

theorem glue_append {a : Txt} {l : List Txt} (h : l ≠ []) (t : List Txt) : glue a (l ++ t) = glue a l ++ t := by
  cases l with
  | nil => exact absurd rfl h
  | cons p q => rfl
theorem split_snoc (c : UInt8) (M : Txt) : split c (M ++ [c]) = split c M ++ [[]] := by
  induction M with
  | nil => show (if c = c then _ else _) = _; rw [if_pos rfl]; rfl
  | cons x r ih =>
    show (if x = c then [] :: split c (r ++ [c]) else glue [x] (split c (r ++ [c]))) = (if x = c then [] :: split c r else glue [x] (split c r)) ++ [[]]
    rw [ih]
    split
    · rfl
    · exact glue_append (split_ne c r) _
def joinL (ps : List Txt) : Txt := ps.flatMap fun p => p ++ [10]
theorem join_glue {l : List Txt} (h : l ≠ []) (x : UInt8) : joinL (glue [x] l) = x :: joinL l := by
  cases l with
  | nil => exact absurd rfl h
  | cons p q => simp [joinL, glue]
theorem join_split (M : Txt) : joinL (split 10 M) = M ++ [10] := by
  induction M with
  | nil => rfl
  | cons x r ih =>
    show joinL (if x = 10 then [] :: split 10 r else glue [x] (split 10 r)) = _
    split
    · rename_i h
      have : joinL ([] :: split 10 r) = 10 :: joinL (split 10 r) := by simp [joinL]
      rw [this, ih, h]; rfl
    · rw [join_glue (split_ne 10 r), ih]; rfl
theorem lines_join (xs : List O4) : linesOf xs = joinL (xs.map showOp) := by
  unfold linesOf joinL
  induction xs with
  | nil => rfl
  | cons o r ih => simp [ih]
theorem lines_parts {ys : List O4} {M : Txt} (h : linesOf ys = M ++ [10]) : ys.map showOp = split 10 M := by
  have := lines_split ys
  rw [h, split_snoc] at this
  exact (List.append_inj_left' this rfl).symm
theorem lines_of_parts {xs : List O4} {M : Txt} (h : xs.map showOp = split 10 M) : linesOf xs = M ++ [10] := by rw [lines_join, h, join_split]
theorem code_nil : codeOk [] = true := rfl
theorem rd_empty : RdCode [] [] true := .inl ⟨rfl, code_nil, rfl⟩
theorem lines_end {ys : List O4} (h : ys ≠ []) : ∃ M, linesOf ys = M ++ [10] := by
  rcases List.eq_nil_or_concat ys with rfl | ⟨zs, o, rfl⟩
  · exact absurd rfl h
  · exact ⟨linesOf zs ++ showOp o, by rw [List.concat_eq_append]; exact lines_snoc zs o⟩
theorem rd_no_end {M : Txt} {x : UInt8} (hx : x ≠ 10) : RdCode (M ++ [x]) [] false := by
  refine .inr ⟨rfl, rfl, fun ys _ e => ?_⟩
  by_cases hy : ys = []
  · subst hy; simp [linesOf] at e
  · obtain ⟨M', h⟩ := lines_end hy
    rw [h] at e
    have := List.append_inj_right' e rfl
    simp at this
    exact hx this.symm
theorem rd_long {M : Txt} (h : 24 < (split 10 M).length) : RdCode (M ++ [10]) [] false := by
  refine .inr ⟨rfl, rfl, fun ys hy e => ?_⟩
  have h1 := lines_parts e
  have h2 := congrArg List.length h1
  rw [List.length_map] at h2
  unfold codeOk at hy
  rw [Bool.and_eq_true] at hy
  have := of_decide_eq_true hy.1
  omega
theorem rd_line {M : Txt} {i : Nat} (hi : i < (split 10 M).length) {o : O4} (h : RdOp (split 10 M)[i] o false) : RdCode (M ++ [10]) [] false := by
  refine .inr ⟨rfl, rfl, fun ys hy e => ?_⟩
  have h1 := lines_parts e
  rcases h with ⟨h, -⟩ | ⟨-, -, h⟩
  · cases h
  · have hi' : i < (ys.map showOp).length := by rw [h1]; exact hi
    have hg : (ys.map showOp)[i] = (split 10 M)[i] := by simp only [h1]
    rw [List.getElem_map] at hg
    exact h _ (code_ops hy _ (List.getElem_mem (by simpa using hi'))) hg
/-- the lines were read -/
def ReadL (ps : List Txt) (xs : List O4) : Prop := xs.length ≤ ps.length ∧ ∀ j (h : j < xs.length) (h' : j < ps.length), RdOp ps[j] xs[j] true
theorem readL_nil (ps : List Txt) : ReadL ps [] := ⟨by simp, fun j h => by simp at h⟩
theorem readL_snoc {ps : List Txt} {xs : List O4} (h : ReadL ps xs) (hl : xs.length < ps.length) {o : O4} (ho : RdOp ps[xs.length] o true) : ReadL ps (xs ++ [o]) := by
  refine ⟨by simp; omega, fun j h1 h2 => ?_⟩
  by_cases hj : j < xs.length
  · rw [List.getElem_append_left hj]; exact h.2 j hj h2
  · have hj' : j = xs.length := by simp at h1; omega
    subst hj'
    rw [List.getElem_append_right (Nat.le_refl _)]
    simpa using ho
theorem readL_map {ps : List Txt} {xs : List O4} (h : ReadL ps xs) (hl : xs.length = ps.length) : xs.map showOp = ps ∧ ∀ o ∈ xs, okOp o = true := by
  have key : ∀ j (h1 : j < xs.length) (h2 : j < ps.length), okOp xs[j] = true ∧ showOp xs[j] = ps[j] := by
    intro j h1 h2
    rcases h.2 j h1 h2 with ⟨-, a, b⟩ | ⟨e, -⟩
    · exact ⟨a, b⟩
    · cases e
  refine ⟨List.ext_getElem (by simpa using hl) fun j h1 h2 => ?_, fun o ho => ?_⟩
  · rw [List.getElem_map]; exact (key j (by simpa using h1) h2).2
  · obtain ⟨j, hj, rfl⟩ := List.mem_iff_getElem.1 ho
    exact (key j hj (by omega)).1
theorem told_code {M : Txt} {xs : List O4} (h : ReadL (split 10 M) xs) (hl : xs.length = (split 10 M).length) :
    (codeOk xs = true → RdCode (M ++ [10]) xs true) ∧ (codeOk xs = false → RdCode (M ++ [10]) [] false) := by
  obtain ⟨h1, h2⟩ := readL_map h hl
  refine ⟨fun hc => .inl ⟨rfl, hc, lines_of_parts h1⟩, fun hc => .inr ⟨rfl, rfl, fun ys hy e => ?_⟩⟩
  have := lines_parts e
  rw [← h1] at this
  rw [map_show_inj _ _ (code_ops hy) h2 this] at hy
  rw [hc] at hy; cases hy
theorem show_len (o : O4) : (showOp o).length ≤ 40 := by
  unfold showOp
  split
  · rename_i h
    have hw : (wordOf o.k).length ≤ 5 := by
      have : ∀ w ∈ words, w.length ≤ 5 := by decide
      unfold wordOf
      rw [List.getD_eq_getElem?_getD]
      cases hw : words[o.k.toNat]? with
      | none => simp
      | some u => exact this u (List.mem_of_getElem? hw)
    have hj : ∀ ns : List Int, (∀ n ∈ ns, 0 ≤ n ∧ n ≤ 65535) → (joinN ns).length ≤ 11 * ns.length := by
      intro ns
      induction ns with
      | nil => intro _; simp [joinN]
      | cons n r ih =>
        intro hn
        have h1 := ih (fun m hm => hn m (by simp [hm]))
        have h2 : (Lib.itoa n).length ≤ 10 := (spec_of n (by have := hn n (by simp); omega) (by have := hn n (by simp); omega)).2.2
        simp [joinN]; omega
    have := hj _ (nums_small h)
    have h3 := nums_length o
    have h4 := nargs_le o.k
    rw [List.length_append]; omega
  · simp
theorem lines_len (xs : List O4) : (linesOf xs).length ≤ 41 * xs.length := by
  induction xs with
  | nil => simp [linesOf]
  | cons o r ih => rw [lines_cons]; have := show_len o; simp; omega
end Ops
end Go.Proofs.YtjopmakbnompnaaGreatDoor
/- ReadProg as plain mathematics: a text parted at its lines kid. -/
set_option linter.unusedVariables false
set_option linter.unusedSimpArgs false
namespace Go.Proofs.YtjopmakbnompnaaGreatDoor
namespace Ops
open Num

/-- skip so many signs; is this the beginning of a line?; the piece so far; what is left -/
def scan : Nat → Bool → Txt → Txt → List Txt
  | _, _, cur, [] => [cur]
  | n + 1, _, cur, x :: r => scan n (x == 10) cur r
  | 0, st, cur, x :: r => if st = true ∧ (x :: r).take 4 = kidL then cur :: scan 3 false [] r else scan 0 (x == 10) (cur ++ [x]) r
theorem scan_zero (st : Bool) (cur : Txt) (x : UInt8) (r : Txt) : scan 0 st cur (x :: r) = if st = true ∧ (x :: r).take 4 = kidL then cur :: scan 3 false [] r else scan 0 (x == 10) (cur ++ [x]) r := rfl
/-- the pieces of a text -/
def pieces (L : Txt) : List Txt := scan 0 true [] L
def joinK : List Txt → Txt
  | [] => []
  | [p] => p
  | p :: q :: r => p ++ kidL ++ joinK (q :: r)
theorem scan_ne (n : Nat) (st : Bool) (cur r : Txt) : scan n st cur r ≠ [] := by
  induction r generalizing n st cur with
  | nil => cases n <;> simp [scan]
  | cons x r ih =>
    cases n with
    | succ n => exact ih n _ _
    | zero => unfold scan; split; simp; exact ih 0 _ _
theorem joinK_cons (p : Txt) {l : List Txt} (h : l ≠ []) : joinK (p :: l) = p ++ kidL ++ joinK l := by
  cases l with
  | nil => exact absurd rfl h
  | cons q r => rfl
theorem joinK_scan (n : Nat) (st : Bool) (cur r : Txt) : joinK (scan n st cur r) = cur ++ r.drop n := by
  induction r generalizing n st cur with
  | nil => cases n <;> simp [scan, joinK]
  | cons x r ih =>
    cases n with
    | succ n => show joinK (scan n _ cur r) = _; rw [ih]; rfl
    | zero =>
      unfold scan
      split
      · rename_i h
        rw [joinK_cons _ (scan_ne _ _ _ _), ih]
        have : x :: r = kidL ++ r.drop 3 := by
          have := (List.take_append_drop 4 (x :: r)).symm
          rw [h.2] at this
          exact this
        rw [List.drop_zero, this]; simp [kidL]
      · rw [ih]; simp
theorem pieces_join (L : Txt) : joinK (pieces L) = L := by unfold pieces; rw [joinK_scan]; simp
/-- near the end there is no line kid -/
theorem scan_short (n : Nat) (st : Bool) (cur r : Txt) (h : r.length < 4) : scan n st cur r = [cur ++ r.drop n] := by
  induction r generalizing n st cur with
  | nil => cases n <;> simp [scan]
  | cons x r ih =>
    have hr : r.length < 4 := by simp at h; omega
    cases n with
    | succ n => show scan n _ cur r = _; rw [ih _ _ _ hr]; rfl
    | zero =>
      unfold scan
      rw [if_neg (fun e => by have := congrArg List.length e.2; simp [kidL] at this; simp at h; omega), ih _ _ _ hr]; simp

theorem scan_mid {t : Txt} (h : ∀ x ∈ t, x ≠ 10) (cur r : Txt) : scan 0 false cur (t ++ 10 :: r) = scan 0 true (cur ++ t ++ [10]) r := by
  induction t generalizing cur with
  | nil => show scan 0 false cur (10 :: r) = _; rw [scan_zero, if_neg (by simp)]; simp
  | cons y t ih =>
    show scan 0 false cur (y :: (t ++ 10 :: r)) = _
    rw [scan_zero, if_neg (by simp)]
    have hy : (y == 10) = false := by simpa using h y (by simp)
    rw [hy, ih (fun x hx => h x (by simp [hx]))]; simp
theorem scan_line {t : Txt} (h : ∀ x ∈ t, x ≠ 10) (hk : t ≠ kidW) (cur r : Txt) : scan 0 true cur (t ++ 10 :: r) = scan 0 true (cur ++ t ++ [10]) r := by
  cases t with
  | nil =>
    show scan 0 true cur (10 :: r) = _
    rw [scan_zero, if_neg (fun e => by have := congrArg List.head? e.2; simp [kidL] at this)]; simp
  | cons y t =>
    show scan 0 true cur (y :: (t ++ 10 :: r)) = _
    rw [scan_zero]
    have hno : ¬ (true = true ∧ (y :: (t ++ 10 :: r)).take 4 = kidL) := by
      rintro ⟨-, e⟩
      apply hk
      have ht : ∀ x ∈ t, x ≠ 10 := fun x hx => h x (by simp [hx])
      match t, ht with
      | [], ht => simp [kidL] at e
      | [a], ht => simp [kidL] at e
      | [a, b], ht => simp [kidL] at e; simp [kidW, e]
      | a :: b :: c :: d, ht =>
        simp [kidL] at e
        exact absurd e.2.2.2 (ht c (by simp))
    rw [if_neg hno]
    have hy : (y == 10) = false := by simpa using h y (by simp)
    rw [hy, scan_mid (fun x hx => h x (by simp [hx]))]; simp
theorem scan_kid (cur r : Txt) : scan 0 true cur (kidL ++ r) = cur :: scan 0 true [] r := by
  show scan 0 true cur (107 :: 105 :: 100 :: 10 :: r) = _
  rw [scan_zero, if_pos ⟨rfl, by simp [kidL]⟩]
  rfl
theorem scan_lines {xs : List O4} (h : ∀ o ∈ xs, okOp o = true) (cur r : Txt) : scan 0 true cur (linesOf xs ++ r) = scan 0 true (cur ++ linesOf xs) r := by
  induction xs generalizing cur with
  | nil => simp [linesOf]
  | cons o l ih =>
    rw [lines_cons, List.append_assoc, List.cons_append, scan_line show_plain (kid_no_op (h o (by simp))), ih (fun x hx => h x (by simp [hx]))]
    simp
theorem scan_kids {kss : List (List O4)} (h : ∀ ks ∈ kss, ∀ o ∈ ks, okOp o = true) (cur : Txt) : scan 0 true cur (kidsText kss) = cur :: kss.map linesOf := by
  induction kss generalizing cur with
  | nil => simp [kidsText, scan]
  | cons ks r ih =>
    rw [kidsText_cons, scan_kid, scan_lines (h ks (by simp)), ih (fun k hk => h k (by simp [hk]))]; simp
theorem pieces_prog {xs : List O4} {kss : List (List O4)} (h : progOk xs kss = true) {L : Txt} (e : progText xs kss = L) : pieces L = linesOf xs :: kss.map linesOf := by
  obtain ⟨h1, -, h2⟩ := prog_codes h
  subst e
  unfold pieces progText
  rw [scan_lines (code_ops h1), scan_kids (fun ks hk => code_ops (h2 ks hk))]; simp

/-! ### the loop's state -/
/-- a place at which a line kid begins -/
def AtKid (L : Txt) (i : Nat) : Prop := (L.drop i).take 4 = kidL ∧ (i = 0 ∨ L.getD (i - 1) 0 = 10)
def stOf (L : Txt) (i : Nat) : Bool := decide (i = 0) || decide (L.getD (i - 1) 0 = 10)
/-- where the search stands -/
structure Sc (L : Txt) (i f : Nat) (P : List Txt) : Prop where
  le : i ≤ L.length
  fle : f ≤ L.length
  skip : i < f → ∃ j, j < i ∧ j + 4 = f ∧ (L.drop j).take 4 = kidL
  eq : pieces L = P ++ scan (f - i) (stOf L i) ((L.drop f).take (i - f)) (L.drop i)
theorem Sc.start (L : Txt) : Sc L 0 0 [] := ⟨Nat.zero_le _, Nat.zero_le _, fun h => by omega, by simp [pieces, stOf]⟩
theorem kid_get {L : Txt} {j d : Nat} (h : (L.drop j).take 4 = kidL) (hd : d < 4) : L.getD (j + d) 0 = kidL.getD d 0 := by
  rw [← h]
  simp [List.getD_eq_getElem?_getD, List.getElem?_take, hd, List.getElem?_drop]
theorem stOf_succ {L : Txt} {i : Nat} (h : i < L.length) : stOf L (i + 1) = (L[i] == 10) := by
  unfold stOf
  have : L.getD (i + 1 - 1) 0 = L[i] := by simp [List.getD_eq_getElem?_getD, h]
  rw [this]
  by_cases e : L[i] = 10 <;> simp [e]
/-- inside of a line kid no other one begins -/
theorem Sc.inner {L : Txt} {i f : Nat} {P : List Txt} (h : Sc L i f P) (hf : i < f) : stOf L i = false := by
  obtain ⟨j, h1, h2, h3⟩ := h.skip hf
  have hd : i - 1 - j < 3 := by omega
  have hg := kid_get h3 (d := i - 1 - j) (by omega)
  rw [show j + (i - 1 - j) = i - 1 by omega] at hg
  unfold stOf
  rw [hg]
  have : ∀ d < 3, kidL.getD d 0 ≠ 10 := by decide
  have h4 := this _ hd
  have h5 : ¬ i = 0 := by omega
  rw [decide_eq_false h5, decide_eq_false h4]; rfl
theorem Sc.kid {L : Txt} {i f : Nat} {P : List Txt} (h : Sc L i f P) (hi : i + 4 ≤ L.length) (hk : (L.drop i).take 4 = kidL) (hs : stOf L i = true) : f ≤ i ∧ Sc L (i + 1) (i + 4) (P ++ [(L.drop f).take (i - f)]) := by
  have hf : f ≤ i := by
    rcases Nat.lt_or_ge i f with h' | h'
    · rw [h.inner h'] at hs; cases hs
    · exact h'
  refine ⟨hf, ⟨by omega, by omega, fun _ => ⟨i, by omega, rfl, hk⟩, ?_⟩⟩
  rw [h.eq, show f - i = 0 by omega, List.drop_eq_getElem_cons (show i < L.length by omega)]
  have hk' : (L[i] :: L.drop (i + 1)).take 4 = kidL := by rw [← List.drop_eq_getElem_cons (show i < L.length by omega)]; exact hk
  have h0 : L[i] = 107 := by
    have h1 := hk'
    unfold kidL at h1
    rw [List.take_succ_cons] at h1
    exact (List.cons.inj h1).1
  show P ++ (if stOf L i = true ∧ _ then _ else _) = _
  rw [if_pos ⟨hs, hk'⟩, stOf_succ (by omega), h0, show i + 4 - (i + 1) = 3 by omega, show i + 1 - (i + 4) = 0 by omega]
  simp
theorem Sc.pass {L : Txt} {i f : Nat} {P : List Txt} (h : Sc L i f P) (hi : i < L.length) (hk : ¬ ((L.drop i).take 4 = kidL ∧ stOf L i = true)) : Sc L (i + 1) f P := by
  have hd := List.drop_eq_getElem_cons hi
  rcases Nat.lt_or_ge i f with hf | hf
  · refine ⟨by omega, h.fle, fun h' => ?_, ?_⟩
    · obtain ⟨j, h1, h2, h3⟩ := h.skip hf
      exact ⟨j, by omega, h2, h3⟩
    · rw [h.eq, hd, show f - i = (f - (i + 1)) + 1 by omega, stOf_succ hi, show i - f = 0 by omega, show i + 1 - f = 0 by omega]
      rfl
  · refine ⟨by omega, h.fle, fun h' => by omega, ?_⟩
    rw [h.eq, show f - i = 0 by omega, show f - (i + 1) = 0 by omega, hd]
    show P ++ (if stOf L i = true ∧ _ then _ else _) = _
    rw [if_neg (fun e => hk ⟨by rw [hd]; exact e.2, e.1⟩), stOf_succ hi, show i + 1 - f = (i - f) + 1 by omega, List.take_succ_eq_append_getElem (by simp; omega)]
    have : (L.drop f)[i - f]'(by simp; omega) = L[i] := by rw [List.getElem_drop]; congr 1; omega
    rw [this]
theorem Sc.done {L : Txt} {i f : Nat} {P : List Txt} (h : Sc L i f P) (hi : L.length < i + 4) : pieces L = P ++ [L.drop f] := by
  rw [h.eq, scan_short _ _ _ _ (by simp; have := h.le; omega)]
  congr 2
  rcases Nat.lt_or_ge i f with hf | hf
  · rw [show i - f = 0 by omega, List.take_zero, List.nil_append, List.drop_drop]; congr 1; omega
  · rw [show f - i = 0 by omega, List.drop_zero]
    have : L.drop i = (L.drop f).drop (i - f) := by rw [List.drop_drop]; congr 1; omega
    rw [this, List.take_append_drop]
end Ops
end Go.Proofs.YtjopmakbnompnaaGreatDoor
/- ReadProg as plain mathematics: what its pieces tell. -/
set_option linter.unusedVariables false
set_option linter.unusedSimpArgs false
namespace Go.Proofs.YtjopmakbnompnaaGreatDoor
namespace Ops
open Num

theorem prog_joinK (xs : List O4) (kss : List (List O4)) : progText xs kss = joinK (linesOf xs :: kss.map linesOf) := by
  unfold progText
  induction kss generalizing xs with
  | nil => simp [kidsText, joinK]
  | cons ks r ih =>
    rw [kidsText_cons, List.map_cons, joinK_cons _ (by simp), ← ih]; simp
theorem rp_many {L : Txt} (h : 4 < (pieces L).length) : RdProg L [] [] false := by
  refine .inr ⟨rfl, rfl, rfl, fun ys lss hy e => ?_⟩
  have := pieces_prog hy e
  rw [this] at h
  have h3 := (prog_codes hy).2.1
  simp at h
  omega
theorem rp_piece {L : Txt} {i : Nat} (hi : i < (pieces L).length) {xs : List O4} (h : RdCode (pieces L)[i] xs false) : RdProg L [] [] false := by
  refine .inr ⟨rfl, rfl, rfl, fun ys lss hy e => ?_⟩
  have hp := pieces_prog hy e
  obtain ⟨h1, -, h2⟩ := prog_codes hy
  rcases h with ⟨h, -⟩ | ⟨-, -, h⟩
  · cases h
  · have key : ∀ q ∈ linesOf ys :: lss.map linesOf, ∃ zs, codeOk zs = true ∧ linesOf zs = q := by
      intro q hq
      rcases List.mem_cons.1 hq with rfl | hq
      · exact ⟨ys, h1, rfl⟩
      · obtain ⟨ks, hk, rfl⟩ := List.mem_map.1 hq
        exact ⟨ks, h2 ks hk, rfl⟩
    obtain ⟨zs, a, b⟩ := key (pieces L)[i] (by rw [← hp]; exact List.getElem_mem hi)
    exact h zs a b
/-- the pieces were read -/
def ReadK (ps : List Txt) (cs : List (List O4)) : Prop := cs.length ≤ ps.length ∧ ∀ j (h : j < cs.length) (h' : j < ps.length), RdCode ps[j] cs[j] true
theorem readK_nil (ps : List Txt) : ReadK ps [] := ⟨by simp, fun j h => by simp at h⟩
theorem readK_snoc {ps : List Txt} {cs : List (List O4)} (h : ReadK ps cs) (hl : cs.length < ps.length) {xs : List O4} (hx : RdCode ps[cs.length] xs true) : ReadK ps (cs ++ [xs]) := by
  refine ⟨by simp; omega, fun j h1 h2 => ?_⟩
  by_cases hj : j < cs.length
  · rw [List.getElem_append_left hj]; exact h.2 j hj h2
  · have hj' : j = cs.length := by simp at h1; omega
    subst hj'
    rw [List.getElem_append_right (Nat.le_refl _)]
    simpa using hx
theorem readK_map {ps : List Txt} {cs : List (List O4)} (h : ReadK ps cs) (hl : cs.length = ps.length) : cs.map linesOf = ps ∧ ∀ c ∈ cs, codeOk c = true := by
  have key : ∀ j (h1 : j < cs.length) (h2 : j < ps.length), codeOk cs[j] = true ∧ linesOf cs[j] = ps[j] := by
    intro j h1 h2
    rcases h.2 j h1 h2 with ⟨-, a, b⟩ | ⟨e, -⟩
    · exact ⟨a, b⟩
    · cases e
  refine ⟨List.ext_getElem (by simpa using hl) fun j h1 h2 => ?_, fun c hc => ?_⟩
  · rw [List.getElem_map]; exact (key j (by simpa using h1) h2).2
  · obtain ⟨j, hj, rfl⟩ := List.mem_iff_getElem.1 hc
    exact (key j hj (by omega)).1
theorem map_lines_inj : ∀ (l l' : List (List O4)), (∀ c ∈ l, codeOk c = true) → (∀ c ∈ l', codeOk c = true) → l.map linesOf = l'.map linesOf → l = l'
  | [], [], _, _, _ => rfl
  | [], _ :: _, _, _, e => by simp at e
  | _ :: _, [], _, _, e => by simp at e
  | n :: r, n' :: r', h, h', e => by
    simp only [List.map_cons, List.cons.injEq] at e
    rw [lines_inj (code_ops (h n (by simp))) (code_ops (h' n' (by simp))) e.1, map_lines_inj r r' (fun m hm => h m (by simp [hm])) (fun m hm => h' m (by simp [hm])) e.2]
theorem told_prog {L : Txt} {xs : List O4} {kss : List (List O4)} (h : ReadK (pieces L) (xs :: kss)) (hl : (xs :: kss).length = (pieces L).length) :
    (progOk xs kss = true → RdProg L xs kss true) ∧ (progOk xs kss = false → RdProg L [] [] false) := by
  obtain ⟨h1, h2⟩ := readK_map h hl
  have ht : progText xs kss = L := by
    rw [prog_joinK, ← List.map_cons, h1, pieces_join]
  refine ⟨fun hp => .inl ⟨rfl, hp, ht⟩, fun hp => .inr ⟨rfl, rfl, rfl, fun ys lss hy e => ?_⟩⟩
  have hq := pieces_prog hy e
  obtain ⟨b1, -, b2⟩ := prog_codes hy
  rw [← h1, ← List.map_cons] at hq
  have := map_lines_inj _ _ h2 (by
    intro c hc
    rcases List.mem_cons.1 hc with rfl | hc
    · exact b1
    · exact b2 c hc) hq
  rw [List.cons.injEq] at this
  rw [← this.1, ← this.2, hp] at hy
  cases hy
end Ops
end Go.Proofs.YtjopmakbnompnaaGreatDoor
/- Programs in memory: the laws' own copies, comparisons and sizes. -/
set_option linter.unusedVariables false
namespace Go.Proofs.YtjopmakbnompnaaGreatDoor
open Go.RowKit
namespace Ops
open Bas Flat

/-- a slice as a cell -/
structure S3 where
  a : Option Addr
  n : Nat
  cap : Nat
def S3.val (s : S3) : Value := .slice s.a s.n s.cap
def slEl : El S3 where
  sz := 1
  cells s := [.slice s.a s.n s.cap]
  len _ := rfl
  one s v hv := by simp at hv; rw [hv]; rfl
  pos := by decide
def z3 : S3 := ⟨none, 0, 0⟩
theorem rowKid : Row Tryz.prog slEl 25 47 (.agg #[.slice none 0 0]) z3 24 := ⟨Tryz.underlying25, by kernel_rfl, rfl, by decide⟩
theorem at1 {w : World} {b o : Nat} {s : S3} (h : At slEl w b o s) : w.cell? ⟨b, o, none⟩ = some (.slice s.a s.n s.cap) := h 0 _ rfl

/-- kids, each with its code, in blocks of which S holds -/
def SeesKIn (S : Nat → Prop) (w : World) (v : Value) (kss : List (List O4)) : Prop :=
  ∃ ss : List S3, SeesIn slEl S w v ss ∧ ss.length = kss.length ∧ ∀ j (h : j < ss.length) (h' : j < kss.length), SeesIn opEl S w ss[j].val kss[j]
/-- .. below block B -/
def SeesK (B : Nat) (w : World) (v : Value) (kss : List (List O4)) : Prop := SeesKIn (fun b => b < B) w v kss
section
variable {B B' : Nat} {S S' : Nat → Prop} {w w' : World} {v : Value} {kss : List (List O4)}
theorem SeesKIn.keep (h : SeesKIn S w v kss) (hk : ∀ b, S b → w'.heap[b]? = w.heap[b]?) : SeesKIn S w' v kss := by
  obtain ⟨ss, h1, h2, h3⟩ := h
  exact ⟨ss, h1.keep hk, h2, fun j hj hj' => (h3 j hj hj').keep hk⟩
theorem SeesKIn.mono (h : SeesKIn S w v kss) (hs : ∀ b, S b → S' b) : SeesKIn S' w v kss := by
  obtain ⟨ss, h1, h2, h3⟩ := h
  exact ⟨ss, h1.mono hs, h2, fun j hj hj' => (h3 j hj hj').mono hs⟩
theorem SeesKIn.form (h : SeesKIn S w v kss) : ∃ a cap, v = .slice a kss.length cap := by
  obtain ⟨ss, ⟨a, cap, e, -⟩, h2, -⟩ := h
  exact ⟨a, cap, by rw [← h2]; exact e⟩
theorem SeesK.on (h : SeesK B w v kss) (hb : Below B' w w') (hB : B ≤ B') : SeesK B w' v kss := SeesKIn.keep h (fun b hs => hb.block b (by omega))
theorem SeesK.up (h : SeesK B w v kss) (hB : B ≤ B') : SeesK B' w v kss := SeesKIn.mono h (fun b hs => by omega)
theorem SeesK.form (h : SeesK B w v kss) : ∃ a cap, v = .slice a kss.length cap := SeesKIn.form h
theorem SeesK.room (h : SeesK B w v kss) : kss.length ≤ maxLen := by obtain ⟨ss, ⟨a, cap, -, k1, k2, -⟩, h2, -⟩ := h; omega
/-- where the kids lie, and each one's code -/
theorem SeesK.open {a : Option Addr} {n cap : Nat} (h : SeesK B w (.slice a n cap) kss) (hn : 0 < kss.length) :
    ∃ b off, a = some ⟨b, off, none⟩ ∧ b < B ∧ ∀ j (h : j < kss.length), ∃ s : S3, w.cell? ⟨b, off + j, none⟩ = some (.slice s.a s.n s.cap) ∧ Sees4 B w (.slice s.a s.n s.cap) kss[j] := by
  obtain ⟨ss, h1, h2, h3⟩ := h
  obtain ⟨b, off, rfl, hb, hc⟩ := Sees.open (E := slEl) (B := B) h1 (by omega)
  refine ⟨b, off, rfl, hb, fun j hj => ⟨ss[j], ?_, h3 j (by omega) hj⟩⟩
  have := at1 (hc j (by omega))
  change w.cell? ⟨b, off + j * 1, none⟩ = _ at this
  rw [Nat.mul_one] at this; exact this
end

/-- the kids copied so far -/
structure KRow (g : Nat) (wr : World) (n : Nat) (kss : List (List O4)) (k : Nat) : Prop where
  ex : ∃ ss : List S3, ss.length = k ∧ wr.ownsRow g 47 1 (.slice (some ⟨g, 0, none⟩) n n) n (fv slEl (ss ++ List.replicate (n - k) z3)) ∧ ∀ j (h : j < ss.length) (h' : j < kss.length), Owns4 (g + 1) wr ss[j].val kss[j]

theorem KRow.done {g : Nat} {wr : World} {n : Nat} {kss : List (List O4)} (h : KRow g wr n kss n) (hn : kss.length = n) : SeesKIn (fun b => g ≤ b ∧ b < wr.heap.size) wr (.slice (some ⟨g, 0, none⟩) n n) kss := by
  obtain ⟨ss, h1, h2, h3⟩ := h.ex
  rw [Nat.sub_self, List.replicate_zero, List.append_nil] at h2
  have h2' : Owns slEl 47 g wr (.slice (some ⟨g, 0, none⟩) n n) ss := by unfold Owns; rw [h1]; exact h2
  exact ⟨ss, h2'.within, by omega, fun j hj hj' => (h3 j hj hj').within.mono (fun b hb => ⟨by omega, hb.2⟩)⟩
theorem KRow.on {g : Nat} {wr w' : World} {n k : Nat} {kss : List (List O4)} (h : KRow g wr n kss k) (hb : Below wr.heap.size wr w') : KRow g w' n kss k := by
  obtain ⟨ss, h1, h2, h3⟩ := h.ex
  exact ⟨ss, h1, owns_on h2 hb (Nat.le_refl _), fun j hj hj' => (h3 j hj hj').on hb (Nat.le_refl _)⟩
theorem KRow.put {g : Nat} {wr : World} {n k : Nat} {kss : List (List O4)} (h : KRow g wr n kss k) (hk : k < n) (hn : kss.length = n) (s : S3) (hs : Owns4 (g + 1) wr (.slice s.a s.n s.cap) (kss[k]'(by omega))) :
    KRow g (wr.setCell ⟨g, k, none⟩ (.slice s.a s.n s.cap)) n kss (k + 1) := by
  obtain ⟨ss, h1, h2, h3⟩ := h.ex
  have hl : (ss ++ List.replicate (n - k) z3).length = n := by simp; omega
  have h2' := own_set (E := slEl) h2 k (by omega) 0 (by decide) (.slice s.a s.n s.cap) s (by
    have : ∀ y : S3, (slEl.cells y).set 0 (.slice s.a s.n s.cap) = slEl.cells s := fun y => rfl
    exact (this _).symm)
  have e1 : (ss ++ List.replicate (n - k) z3).set k s = (ss ++ [s]) ++ List.replicate (n - (k + 1)) z3 := by
    rw [show n - k = (n - (k + 1)) + 1 by omega, List.replicate_succ, List.set_append_right _ _ (by omega), h1, Nat.sub_self, List.set_cons_zero, List.append_assoc]
    rfl
  rw [e1] at h2'
  change (wr.setCell ⟨g, k * 1 + 0, none⟩ _).ownsRow _ _ _ _ _ _ at h2'
  rw [Nat.mul_one, Nat.add_zero] at h2'
  refine ⟨ss ++ [s], by simp [h1], h2', fun j hj hj' => ?_⟩
  by_cases hjk : j < ss.length
  · have e2 : (ss ++ [s])[j] = ss[j] := List.getElem_append_left hjk
    rw [e2]
    have := h3 j hjk hj'
    exact this.other (fun k hk => by have := this.at k hk; omega) _
  · have hjk' : j = k := by simp at hj; omega
    subst hjk'
    have e2 : (ss ++ [s])[j] = s := by rw [List.getElem_append_right (by omega)]; simp [h1]
    rw [e2]
    exact hs.other (fun k hk => by have := hs.at k hk; omega) _

end Ops
end Go.Proofs.YtjopmakbnompnaaGreatDoor
