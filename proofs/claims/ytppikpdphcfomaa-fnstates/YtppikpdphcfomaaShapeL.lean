/- Shapes: what the functions of chapter 5 say, as plain mathematics. -/
import Derived.Test.YtppikpdphcfomaaOpRow
set_option linter.unusedVariables false
namespace Go.Proofs.Ytppikpdphcfomaa
namespace Ops

/-- what an op adds to the depth -/
def delta (o : O4) : Int := if o.k = 8 then 1 else if o.k = 9 then -1 else 0
theorem delta_range (o : O4) : -1 ≤ delta o ∧ delta o ≤ 1 := by
  unfold delta
  by_cases h8 : o.k = 8
  · rw [if_pos h8]; omega
  · rw [if_neg h8]; split <;> omega
def dsum (xs : List O4) : Int := (xs.map delta).sum
theorem dsum_nil : dsum [] = 0 := rfl
theorem dsum_snoc (xs : List O4) (o : O4) : dsum (xs ++ [o]) = dsum xs + delta o := by simp [dsum]
theorem dsum_range (xs : List O4) : -(xs.length : Int) ≤ dsum xs ∧ dsum xs ≤ xs.length := by
  induction xs with
  | nil => simp [dsum]
  | cons o r ih =>
    have := delta_range o
    have e : dsum (o :: r) = delta o + dsum r := by simp [dsum]
    rw [e, List.length_cons]; omega
theorem take_succ {xs : List O4} {k : Nat} (h : k < xs.length) : xs.take (k + 1) = xs.take k ++ [xs[k]] := List.take_succ_eq_append_getElem h
theorem dsum_take {xs : List O4} {k : Nat} (h : k < xs.length) : dsum (xs.take (k + 1)) = dsum (xs.take k) + delta xs[k] := by rw [take_succ h, dsum_snoc]
theorem dsum_take_range (xs : List O4) (k : Nat) : -(k : Int) ≤ dsum (xs.take k) ∧ dsum (xs.take k) ≤ k := by
  have := dsum_range (xs.take k)
  have hl : (xs.take k).length ≤ k := List.length_take_le _ _
  omega
/-- DepthAt -/
def depthAt (xs : List O4) (i : Int) : Int := dsum (xs.take i.toNat)

/-- the first place, from k on, at which the depth d is nought -/
def endGo : List O4 → Int → Nat → Int
  | [], _, _ => -1
  | o :: r, d, k => if d + delta o = 0 then k else endGo r (d + delta o) (k + 1)
/-- EndOf -/
def endOf (xs : List O4) (i : Int) : Int :=
  if 0 ≤ i ∧ i < xs.length ∧ (xs.getD i.toNat z4).k = 8 then endGo (xs.drop i.toNat) 0 i.toNat else -1
theorem endGo_step {xs : List O4} {k : Nat} (h : k < xs.length) (d : Int) : endGo (xs.drop k) d k = if d + delta xs[k] = 0 then (k : Int) else endGo (xs.drop (k + 1)) (d + delta xs[k]) (k + 1) := by
  rw [List.drop_eq_getElem_cons h]; rfl

/-- whole blocks alone in the first n -/
def skipGo : List O4 → Nat → Int → Bool
  | _, 0, d => d == 0
  | [], _ + 1, _ => false
  | o :: r, n + 1, d => decide (0 ≤ d + delta o) && skipGo r n (d + delta o)
/-- the skip at i passes over whole blocks alone -/
def skipOk (xs : List O4) (i : Nat) : Bool :=
  decide ((i : Int) + 1 + (xs.getD i z4).b ≤ xs.length) && skipGo (xs.drop (i + 1)) (xs.getD i z4).b.toNat 0
theorem skipGo_step {xs : List O4} {k : Nat} (h : k < xs.length) (n : Nat) (d : Int) : skipGo (xs.drop k) (n + 1) d = (decide (0 ≤ d + delta xs[k]) && skipGo (xs.drop (k + 1)) n (d + delta xs[k])) := by
  rw [List.drop_eq_getElem_cons h]; rfl

/-- an op is right -/
def okOp (o : O4) : Bool := opOk o.k o.a o.b o.c
/-- what is left of a code from place i on is right, at depth d, with so many forks ahead -/
def codeGo (xs : List O4) : List O4 → Nat → Int → Nat → Bool
  | [], _, d, _ => d == 0
  | o :: r, i, d, f => okOp o && (!(o.k == 7) || skipOk xs i) && (!(o.k == 11) || (decide (d ≤ 0) && decide (f = 0))) && decide (0 ≤ d + delta o) && codeGo xs r (i + 1) (d + delta o) (if o.k = 11 then f + 1 else f)
/-- CodeOk -/
def codeOk (xs : List O4) : Bool := decide (xs.length ≤ 24) && codeGo xs xs 0 0 0
theorem codeGo_step {xs : List O4} {k : Nat} (h : k < xs.length) (d : Int) (f : Nat) : codeGo xs (xs.drop k) k d f =
    (okOp xs[k] && (!(xs[k].k == 7) || skipOk xs k) && (!(xs[k].k == 11) || (decide (d ≤ 0) && decide (f = 0))) && decide (0 ≤ d + delta xs[k]) && codeGo xs (xs.drop (k + 1)) (k + 1) (d + delta xs[k]) (if xs[k].k = 11 then f + 1 else f)) := by
  rw [List.drop_eq_getElem_cons h]; rfl
/-- HasFork -/
def hasFork (xs : List O4) : Bool := xs.any fun o => o.k == 11
theorem hasFork_yes {xs : List O4} {k : Nat} (h : k < xs.length) (hk : xs[k].k = 11) : hasFork xs = true :=
  List.any_eq_true.2 ⟨xs[k], List.getElem_mem h, by simp [hk]⟩
theorem hasFork_no {xs : List O4} (h : ∀ j (h : j < xs.length), ¬ xs[j].k = 11) : hasFork xs = false := by
  refine List.any_eq_false.2 fun o ho => ?_
  obtain ⟨j, hj, rfl⟩ := List.mem_iff_getElem.1 ho
  simpa using h j hj
/-- what Touches says of an op -/
def touch (o : O4) : Int := if okOp o = true then (if o.k = 5 ∨ o.k = 6 then 1 else if o.k = 12 ∨ o.k = 13 ∨ o.k = 14 ∨ o.k = 15 ∨ o.k = 16 then 2 else 0) else 0
/-- KidOk -/
def kidOk (xs : List O4) : Bool := codeOk xs && !hasFork xs && xs.all fun o => !(touch o == 2)
theorem all_no {xs : List O4} {k : Nat} {p : O4 → Bool} (h : k < xs.length) (hk : p xs[k] = false) : xs.all p = false := List.all_eq_false.2 ⟨xs[k], List.getElem_mem h, by simp [hk]⟩
theorem all_yes {xs : List O4} {p : O4 → Bool} (h : ∀ j (h : j < xs.length), p xs[j] = true) : xs.all p = true := List.all_eq_true.2 fun o ho => by
  obtain ⟨j, hj, rfl⟩ := List.mem_iff_getElem.1 ho
  exact h j hj
/-- ProgOk -/
def progOk (xs : List O4) (kss : List (List O4)) : Bool := codeOk xs && decide (kss.length ≤ 3) && (hasFork xs == decide (0 < kss.length)) && kss.all kidOk
/-- the same op -/
def same4 (x y : O4) : Bool := decide (x.k = y.k ∧ x.a = y.a ∧ x.b = y.b ∧ x.c = y.c)
def sameGo : List O4 → List O4 → Bool
  | [], [] => true
  | x :: r, y :: t => same4 x y && sameGo r t
  | _, _ => false
/-- SameProg -/
def sameProg (xs : List O4) (kss : List (List O4)) (ys : List O4) (lss : List (List O4)) : Bool := sameGo xs ys && decide (kss.length = lss.length) && (kss.zip lss).all fun p => sameGo p.1 p.2
end Ops
end Go.Proofs.Ytppikpdphcfomaa
