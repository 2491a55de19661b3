/- Blocks on a stack: the program's way to tell right code, as plain mathematics. -/
import Derived.Test.YtppikpdphcfomaaShapeL
set_option linter.unusedVariables false
namespace Go.Proofs.Ytppikpdphcfomaa
namespace Ops

/-- a block: where it begins, how many are around it -/
structure B2 where
  b : Int
  d : Int
/-- the stack of begins, the innermost first, as it lies in memory: the innermost last, each with how many are around it -/
def stk : List Int → List B2
  | [] => []
  | x :: r => stk r ++ [⟨x, r.length⟩]
theorem stk_length (s : List Int) : (stk s).length = s.length := by
  induction s with
  | nil => rfl
  | cons x r ih => simp [stk, ih]
theorem stk_last (x : Int) (r : List Int) (h : r.length < (stk (x :: r)).length) : (stk (x :: r))[r.length] = ⟨x, r.length⟩ := by
  have hl := stk_length r
  have : (stk (x :: r))[r.length]? = some ⟨x, r.length⟩ := by
    show (stk r ++ [⟨x, r.length⟩])[r.length]? = _
    rw [List.getElem?_append_right (by omega), hl, Nat.sub_self]; rfl
  rw [List.getElem?_eq_getElem h] at this
  exact Option.some.inj this
/-- the stack behind an op -/
def stepS (s : List Int) (i : Nat) (o : O4) : List Int := if o.k = 8 then (i : Int) :: s else if o.k = 9 then s.tail else s
/-- the stack ahead of place i -/
def stAt (xs : List O4) : Nat → List Int
  | 0 => [-1]
  | i + 1 => stepS (stAt xs i) i (xs.getD i z4)
theorem stAt_succ {xs : List O4} {i : Nat} (h : i < xs.length) : stAt xs (i + 1) = stepS (stAt xs i) i xs[i] := by
  show stepS _ _ (xs.getD i z4) = _
  simp [List.getD, h]
/-- the innermost block -/
def topB (s : List Int) : B2 := ⟨s.headD (-1), (s.length : Int) - 1⟩
/-- the innermost block ahead of each of the first places -/
def homes (xs : List O4) (k : Nat) : List B2 := (List.range k).map fun j => topB (stAt xs j)
theorem homes_length (xs : List O4) (k : Nat) : (homes xs k).length = k := by simp [homes]
theorem homes_succ (xs : List O4) (k : Nat) : homes xs (k + 1) = homes xs k ++ [topB (stAt xs k)] := by simp [homes, List.range_succ]
theorem homes_at (xs : List O4) (k j : Nat) (h : j < (homes xs k).length) : (homes xs k)[j] = topB (stAt xs j) := by simp [homes]

/-- no end too many, and none too few -/
def closedGo : List O4 → Int → Bool
  | [], d => d == 0
  | o :: r, d => decide (0 ≤ d + delta o) && closedGo r (d + delta o)
theorem closedGo_step {xs : List O4} {k : Nat} (h : k < xs.length) (d : Int) : closedGo (xs.drop k) d = (decide (0 ≤ d + delta xs[k]) && closedGo (xs.drop (k + 1)) (d + delta xs[k])) := by
  rw [List.drop_eq_getElem_cons h]; rfl
/-- each skip passes over whole blocks -/
def skipsGo (xs : List O4) : List O4 → Nat → Bool
  | [], _ => true
  | o :: r, i => (!(o.k == 7) || skipOk xs i) && skipsGo xs r (i + 1)
theorem skipsGo_step {xs : List O4} {k : Nat} (h : k < xs.length) : skipsGo xs (xs.drop k) k = ((!(xs[k].k == 7) || skipOk xs k) && skipsGo xs (xs.drop (k + 1)) (k + 1)) := by
  rw [List.drop_eq_getElem_cons h]; rfl
/-- one fork at most, outside of blocks -/
def forksGo : List O4 → Int → Nat → Bool
  | [], _, _ => true
  | o :: r, d, f => (!(o.k == 11) || (decide (d ≤ 0) && decide (f = 0))) && forksGo r (d + delta o) (if o.k = 11 then f + 1 else f)
theorem forksGo_step {xs : List O4} {k : Nat} (h : k < xs.length) (d : Int) (f : Nat) : forksGo (xs.drop k) d f = ((!(xs[k].k == 11) || (decide (d ≤ 0) && decide (f = 0))) && forksGo (xs.drop (k + 1)) (d + delta xs[k]) (if xs[k].k = 11 then f + 1 else f)) := by
  rw [List.drop_eq_getElem_cons h]; rfl
theorem codeGo_split (xs ys : List O4) : ∀ (i : Nat) (d : Int) (f : Nat), codeGo xs ys i d f = (ys.all okOp && (closedGo ys d && (skipsGo xs ys i && forksGo ys d f))) := by
  induction ys with
  | nil => intro i d f; simp [codeGo, closedGo, skipsGo, forksGo]
  | cons o r ih =>
    intro i d f
    show (okOp o && (!(o.k == 7) || skipOk xs i) && (!(o.k == 11) || (decide (d ≤ 0) && decide (f = 0))) && decide (0 ≤ d + delta o) && codeGo xs r (i + 1) (d + delta o) (if o.k = 11 then f + 1 else f)) =
      ((okOp o && r.all okOp) && ((decide (0 ≤ d + delta o) && closedGo r (d + delta o)) && (((!(o.k == 7) || skipOk xs i) && skipsGo xs r (i + 1)) && ((!(o.k == 11) || (decide (d ≤ 0) && decide (f = 0))) && forksGo r (d + delta o) (if o.k = 11 then f + 1 else f)))))
    rw [ih]
    generalize okOp o = a1
    generalize (!(o.k == 7) || skipOk xs i) = a2
    generalize (!(o.k == 11) || (decide (d ≤ 0) && decide (f = 0))) = a3
    generalize decide (0 ≤ d + delta o) = a4
    generalize r.all okOp = a5
    generalize closedGo r (d + delta o) = a6
    generalize skipsGo xs r (i + 1) = a7
    generalize forksGo r (d + delta o) (if o.k = 11 then f + 1 else f) = a8
    cases a1 <;> cases a2 <;> cases a3 <;> cases a4 <;> simp
theorem codeOk_split (xs : List O4) : codeOk xs = (decide (xs.length ≤ 24) && (xs.all okOp && (closedGo xs 0 && (skipsGo xs xs 0 && forksGo xs 0 0)))) := by
  unfold codeOk; rw [codeGo_split]

/-- the kinds of an op, as the stack takes it -/
theorem step8 {s : List Int} {i : Nat} {o : O4} (h : o.k = 8) : stepS s i o = (i : Int) :: s := by unfold stepS; rw [if_pos h]
theorem step9 {s : List Int} {i : Nat} {o : O4} (h : o.k = 9) : stepS s i o = s.tail := by unfold stepS; rw [if_neg (by omega), if_pos h]
theorem step0 {s : List Int} {i : Nat} {o : O4} (h8 : ¬ o.k = 8) (h9 : ¬ o.k = 9) : stepS s i o = s := by unfold stepS; rw [if_neg h8, if_neg h9]
theorem delta8 {o : O4} (h : o.k = 8) : delta o = 1 := by unfold delta; rw [if_pos h]
theorem delta9 {o : O4} (h : o.k = 9) : delta o = -1 := by unfold delta; rw [if_neg (by omega), if_pos h]
theorem delta0 {o : O4} (h8 : ¬ o.k = 8) (h9 : ¬ o.k = 9) : delta o = 0 := by unfold delta; rw [if_neg h8, if_neg h9]
theorem step_len {s : List Int} {i : Nat} {o : O4} (h : 1 ≤ s.length) : ((stepS s i o).length : Int) = s.length + delta o := by
  by_cases h8 : o.k = 8
  · rw [step8 h8, delta8 h8]; simp
  · by_cases h9 : o.k = 9
    · rw [step9 h9, delta9 h9, List.length_tail]; omega
    · rw [step0 h8 h9, delta0 h8 h9]; omega

/-- in closed code there always is an innermost block -/
theorem closed_at {xs : List O4} (hc : closedGo xs 0 = true) : ∀ k, k ≤ xs.length → 1 ≤ (stAt xs k).length ∧ closedGo (xs.drop k) (((stAt xs k).length : Int) - 1) = true := by
  intro k
  induction k with
  | zero => intro _; exact ⟨by simp [stAt], by simpa [stAt] using hc⟩
  | succ k ih =>
    intro hk
    obtain ⟨h1, h2⟩ := ih (by omega)
    rw [closedGo_step (by omega), Bool.and_eq_true] at h2
    obtain ⟨h3, h4⟩ := h2
    have h3 := of_decide_eq_true h3
    have hl := step_len (i := k) (o := xs[k]) h1
    rw [stAt_succ (by omega)]
    refine ⟨by omega, ?_⟩
    rw [hl, show (((stAt xs k).length : Int) + delta xs[k] - 1) = (((stAt xs k).length : Int) - 1 + delta xs[k]) by omega]; exact h4
theorem st_sorted (xs : List O4) : ∀ k, (stAt xs k).Pairwise (· > ·) ∧ ∀ x ∈ stAt xs k, x < (k : Int) := by
  intro k
  induction k with
  | zero => simp [stAt]
  | succ k ih =>
    obtain ⟨h1, h2⟩ := ih
    show (stepS (stAt xs k) k (xs.getD k z4)).Pairwise (· > ·) ∧ ∀ x ∈ stepS (stAt xs k) k (xs.getD k z4), x < ((k + 1 : Nat) : Int)
    obtain ⟨o, ho⟩ : ∃ o, xs.getD k z4 = o := ⟨_, rfl⟩
    rw [ho]
    by_cases h8 : o.k = 8
    · rw [step8 h8]
      refine ⟨List.pairwise_cons.2 ⟨fun x hx => h2 x hx, h1⟩, fun x hx => ?_⟩
      rcases List.mem_cons.1 hx with rfl | hx
      · omega
      · have := h2 x hx; omega
    · by_cases h9 : o.k = 9
      · rw [step9 h9]
        exact ⟨h1.sublist (List.tail_sublist _), fun x hx => by have := h2 x (List.mem_of_mem_tail hx); omega⟩
      · rw [step0 h8 h9]
        exact ⟨h1, fun x hx => by have := h2 x hx; omega⟩
/-- a block that was ended never comes back -/
theorem gone {xs : List O4} {b : Int} : ∀ (m k : Nat), b < (k : Int) → b ∉ stAt xs k → b ∉ stAt xs (k + m) := by
  intro m
  induction m with
  | zero => intro k _ h; exact h
  | succ m ih =>
    intro k hk h
    have := ih k hk h
    show b ∉ stepS (stAt xs (k + m)) (k + m) (xs.getD (k + m) z4)
    obtain ⟨o, ho⟩ : ∃ o, xs.getD (k + m) z4 = o := ⟨_, rfl⟩
    rw [ho]
    by_cases h8 : o.k = 8
    · rw [step8 h8]
      intro hx
      rcases List.mem_cons.1 hx with hx | hx
      · omega
      · exact this hx
    · by_cases h9 : o.k = 9
      · rw [step9 h9]; exact fun hx => this (List.mem_of_mem_tail hx)
      · rw [step0 h8 h9]; exact this
theorem head_mem {s : List Int} (h : 1 ≤ s.length) (d : Int) : s.headD d ∈ s := by
  cases s with
  | nil => simp at h
  | cons x r => simp
/-- what a skip passes over, by the stack -/
theorem skip_walk {xs : List O4} (hc : closedGo xs 0 = true) {b : Int} {r : List Int} : ∀ (n k : Nat) (ex : List Int) (q : Int), stAt xs k = ex ++ b :: r → (ex.length : Int) = q → k + n ≤ xs.length → b < (k : Int) →
    (skipGo (xs.drop k) n q = true → stAt xs (k + n) = b :: r) ∧ (skipGo (xs.drop k) n q = false → (stAt xs (k + n)).headD (-1) ≠ b) := by
  intro n
  induction n with
  | zero =>
    intro k ex q hs hq hk hb
    have e : skipGo (xs.drop k) 0 q = (q == 0) := by cases xs.drop k <;> rfl
    rw [e]
    refine ⟨fun h => ?_, fun h => ?_⟩
    · have : q = 0 := by simpa using h
      have : ex = [] := List.eq_nil_of_length_eq_zero (by omega)
      subst this; exact hs
    · have hq0 : ¬ q = 0 := by simpa using h
      cases ex with
      | nil => simp at hq; omega
      | cons x ex =>
        show (stAt xs k).headD (-1) ≠ b
        have hp := (st_sorted xs k).1
        rw [hs] at hp ⊢
        have := (List.pairwise_cons.1 hp).1 b (by simp)
        show x ≠ b
        omega
  | succ n ih =>
    intro k ex q hs hq hk hb
    have hlt : k < xs.length := by omega
    rw [skipGo_step hlt, show k + (n + 1) = (k + 1) + n by omega]
    have hst := stAt_succ hlt
    by_cases h8 : xs[k].k = 8
    · rw [delta8 h8, decide_eq_true (show 0 ≤ q + 1 by omega), Bool.true_and]
      rw [step8 h8, hs] at hst
      exact ih (k + 1) ((k : Int) :: ex) (q + 1) hst (by simp; omega) (by omega) (by omega)
    · by_cases h9 : xs[k].k = 9
      · rw [delta9 h9]
        rw [step9 h9, hs] at hst
        cases ex with
        | nil =>
          obtain rfl : q = 0 := by simpa using hq.symm
          refine ⟨fun h => by simp at h, fun _ => ?_⟩
          have hp := (st_sorted xs k).1
          rw [hs] at hp
          have hn : b ∉ stAt xs (k + 1) := by
            rw [hst]
            intro hm
            have := (List.pairwise_cons.1 hp).1 b (by simpa using hm)
            omega
          have hg := gone n (k + 1) (by omega) hn
          intro he
          exact hg (he ▸ head_mem (closed_at hc _ (by omega)).1 (-1))
        | cons x ex =>
          have : 0 ≤ q + -1 := by simp at hq; omega
          rw [decide_eq_true this, Bool.true_and]
          exact ih (k + 1) ex (q + -1) hst (by simp at hq; omega) (by omega) (by omega)
      · rw [delta0 h8 h9, decide_eq_true (show 0 ≤ q + 0 by omega), Bool.true_and, Int.add_zero]
        rw [step0 h8 h9, hs] at hst
        exact ih (k + 1) ex q hst hq (by omega) (by omega)
def sameB (x y : B2) : Bool := decide (x.b = y.b ∧ x.d = y.d)
/-- a skip is right just where it ends in its own block -/
theorem skip_home {xs : List O4} (hc : closedGo xs 0 = true) {i t : Nat} (hi : i < xs.length) (h7 : xs[i].k = 7) (ht : xs[i].b = (t : Int)) (hto : i + 1 + t ≤ xs.length) :
    skipOk xs i = sameB (topB (stAt xs (i + 1 + t))) (topB (stAt xs i)) := by
  have hst := stAt_succ hi
  rw [step0 (by omega) (by omega)] at hst
  have hg : xs.getD i z4 = xs[i] := by simp [List.getD, hi]
  have e : skipOk xs i = skipGo (xs.drop (i + 1)) t 0 := by
    unfold skipOk
    rw [hg, ht, decide_eq_true (by omega), Bool.true_and, Int.toNat_natCast]
  rw [e]
  obtain ⟨h1, -⟩ := closed_at hc i (by omega)
  obtain ⟨-, h2⟩ := st_sorted xs i
  match hS : stAt xs i, h1 with
  | b :: r, _ =>
    have hb : b < ((i + 1 : Nat) : Int) := by have := h2 b (by rw [hS]; simp); omega
    rw [hS] at hst
    obtain ⟨y, n⟩ := skip_walk hc (b := b) (r := r) t (i + 1) [] 0 hst rfl hto hb
    obtain ⟨p, hp⟩ : ∃ p, skipGo (xs.drop (i + 1)) t 0 = p := ⟨_, rfl⟩
    rw [hp] at y n ⊢
    unfold sameB topB
    cases p
    · rw [decide_eq_false]
      rintro ⟨h, -⟩
      exact n rfl h
    · rw [y rfl, decide_eq_true ⟨rfl, rfl⟩]

/-- all ops are right -/
theorem code_bad1 {xs : List O4} (h : xs.all okOp = false) : codeOk xs = false := by rw [codeOk_split, h]; simp
theorem code_bad2 {xs : List O4} (h : closedGo xs 0 = false) : codeOk xs = false := by rw [codeOk_split, h]; simp
theorem code_bad3 {xs : List O4} (h : skipsGo xs xs 0 = false) : codeOk xs = false := by rw [codeOk_split, h]; simp
theorem code_all {xs : List O4} (h0 : xs.length ≤ 24) (h1 : xs.all okOp = true) (h2 : closedGo xs 0 = true) (h3 : skipsGo xs xs 0 = true) : codeOk xs = forksGo xs 0 0 := by rw [codeOk_split, h1, h2, h3, decide_eq_true h0]; simp
end Ops
end Go.Proofs.Ytppikpdphcfomaa
