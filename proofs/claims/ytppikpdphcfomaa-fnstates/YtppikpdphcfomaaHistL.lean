/- Histories: right ones, in turn, the state at a stamp, the last writer. -/
import Derived.Test.YtppikpdphcfomaaLogM
set_option linter.unusedVariables false
namespace Go.Proofs.Ytppikpdphcfomaa
open Go.RowKit
namespace Hist
open Logs

/-- an entry -/
structure Wr where
  s : Int
  who : Int
  ps : List R2
def entOk (e : Wr) : Bool := Ops.inn 1 1000000 e.s && (Ops.inn 1 99 e.who && rowsOk e.ps)
def histOk (ls : List Wr) : Bool := decide (ls.length ≤ 200) && (ls.all entOk && decide (ls.map Wr.s).Nodup)
theorem histOk_iff {ls : List Wr} : histOk ls = true ↔ ls.length ≤ 200 ∧ (∀ e ∈ ls, entOk e = true) ∧ (ls.map Wr.s).Nodup := by
  unfold histOk
  rw [Bool.and_eq_true, Bool.and_eq_true, decide_eq_true_iff, decide_eq_true_iff, List.all_eq_true]
theorem histOk_len {ls : List Wr} (h : ¬ ls.length ≤ 200) : histOk ls = false := by unfold histOk; rw [decide_eq_false h]; rfl
theorem histOk_ent {ls : List Wr} {e : Wr} (he : e ∈ ls) (h : entOk e = false) : histOk ls = false := by
  cases hh : histOk ls
  · rfl
  · rw [histOk_iff] at hh
    rw [hh.2.1 e he] at h; cases h
theorem histOk_alike {ls : List Wr} (h : ¬ (ls.map Wr.s).Nodup) : histOk ls = false := by
  cases hh : histOk ls
  · rfl
  · rw [histOk_iff] at hh
    exact absurd hh.2.2 h
theorem histOk_two {ls : List Wr} {i j : Nat} (hi : i < ls.length) (hj : j < ls.length) (hne : i < j) (h : ls[i].s = ls[j].s) : histOk ls = false :=
  histOk_alike fun hn => by
    have := List.pairwise_iff_getElem.1 (List.nodup_iff_pairwise_ne.1 hn) i j (by simpa using hi) (by simpa using hj) hne
    simp at this
    exact this h
theorem entOk_out {e : Wr} (h : entOk e = true) : (1 ≤ e.s ∧ e.s ≤ 1000000) ∧ (1 ≤ e.who ∧ e.who ≤ 99) ∧ rowsOk e.ps = true := by
  unfold entOk at h
  rw [Bool.and_eq_true, Bool.and_eq_true] at h
  obtain ⟨h1, h2, h3⟩ := h
  simp [Ops.inn] at h1 h2
  exact ⟨h1, h2, h3⟩
theorem entOk_mk {e : Wr} (h1 : Ops.inn 1 1000000 e.s = true) (h2 : Ops.inn 1 99 e.who = true) (h3 : rowsOk e.ps = true) : entOk e = true := by unfold entOk; rw [h1, h2, h3]; rfl
theorem entOk_s {e : Wr} (h : Ops.inn 1 1000000 e.s = false) : entOk e = false := by unfold entOk; rw [h]; rfl
theorem entOk_who {e : Wr} (h : Ops.inn 1 99 e.who = false) : entOk e = false := by unfold entOk; rw [h, Bool.false_and, Bool.and_false]
theorem entOk_ps {e : Wr} (h : rowsOk e.ps = false) : entOk e = false := by unfold entOk; rw [h, Bool.and_false, Bool.and_false]

/-- the entries by rising stamps -/
def turnOf (ls : List Wr) : List Wr := ls.mergeSort (fun a b => decide (a.s ≤ b.s))
theorem turn_perm (ls : List Wr) : (turnOf ls).Perm ls := List.mergeSort_perm _ _
theorem turn_length (ls : List Wr) : (turnOf ls).length = ls.length := (turn_perm ls).length_eq
theorem turn_le (ls : List Wr) : (turnOf ls).Pairwise (fun a b => a.s ≤ b.s) := by
  have := List.pairwise_mergeSort (le := fun a b : Wr => decide (a.s ≤ b.s)) (fun a b c h1 h2 => by simp at *; omega) (fun a b => by simp; omega) ls
  exact this.imp (fun h => by simpa using h)
theorem turn_lt {ls : List Wr} (h : histOk ls = true) : (turnOf ls).Pairwise (fun a b => a.s < b.s) := by
  rw [histOk_iff] at h
  have hn : ((turnOf ls).map Wr.s).Nodup := ((turn_perm ls).map Wr.s).nodup_iff.2 h.2.2
  have hp : (turnOf ls).Pairwise (fun a b => a.s ≠ b.s) := List.pairwise_map.1 (List.nodup_iff_pairwise_ne.1 hn)
  exact ((turn_le ls).and hp).imp (fun h => by omega)
/-- what is put in turn, and is rising, is the turn -/
theorem turn_unique {ls ts : List Wr} (hp : ts.Perm ls) (hs : ts.Pairwise (fun a b => a.s < b.s)) : ts = turnOf ls := by
  have hn : (ts.map Wr.s).Nodup := List.nodup_iff_pairwise_ne.2 (List.pairwise_map.2 (hs.imp (fun h => by omega)))
  have hn2 : ((turnOf ls).map Wr.s).Nodup := ((hp.trans (turn_perm ls).symm).map Wr.s).nodup_iff.1 hn
  have h2 : (turnOf ls).Pairwise (fun a b => a.s ≠ b.s) := List.pairwise_map.1 (List.nodup_iff_pairwise_ne.1 hn2)
  exact List.Perm.eq_of_pairwise (le := fun a b => a.s < b.s) (fun a b _ _ h1 h2 => by omega) hs (((turn_le ls).and h2).imp (fun h => by omega)) (hp.trans (turn_perm ls).symm)
theorem histOk_perm {ls ts : List Wr} (hp : ts.Perm ls) : histOk ts = histOk ls := by
  have key : ∀ {a b : List Wr}, a.Perm b → histOk a = true → histOk b = true := fun {a b} p h => by
    rw [histOk_iff] at *
    exact ⟨by rw [← p.length_eq]; exact h.1, fun e he => h.2.1 e (p.mem_iff.2 he), (p.map Wr.s).nodup_iff.1 h.2.2⟩
  cases h : histOk ls
  · cases h2 : histOk ts
    · rfl
    · rw [key hp h2] at h; cases h
  · exact key hp.symm h
/-- rising entries, each right: a right history -/
theorem histOk_rising {ts : List Wr} (hl : ts.length ≤ 200) (ha : ∀ e ∈ ts, entOk e = true) (hs : ts.Pairwise (fun a b => a.s < b.s)) : histOk ts = true :=
  histOk_iff.2 ⟨hl, ha, List.nodup_iff_pairwise_ne.2 (List.pairwise_map.2 (hs.imp (fun h => by omega)))⟩

def stampsOf (ls : List Wr) : List Int := if histOk ls = true then (turnOf ls).map Wr.s else []
theorem stamps_no {ls : List Wr} (h : histOk ls = false) : stampsOf ls = [] := by unfold stampsOf; rw [h]; rfl
theorem stamps_yes {ls : List Wr} (h : histOk ls = true) : stampsOf ls = (turnOf ls).map Wr.s := by unfold stampsOf; rw [if_pos h]
theorem stamps_length_le (ls : List Wr) : (stampsOf ls).length ≤ 200 := by
  cases h : histOk ls
  · rw [stamps_no h]; simp
  · rw [stamps_yes h, List.length_map, turn_length]; exact (histOk_iff.1 h).1

/-- the state behind these entries -/
def goAll (zs : List Int) (ts : List Wr) : List Int := ts.foldl (fun z e => putAll z e.ps) zs
theorem goAll_snoc (zs : List Int) (ts : List Wr) (e : Wr) : goAll zs (ts ++ [e]) = putAll (goAll zs ts) e.ps := by simp [goAll]
theorem goAll_take (zs : List Int) (ts : List Wr) (k : Nat) (h : k < ts.length) : putAll (goAll zs (ts.take k)) ts[k].ps = goAll zs (ts.take (k + 1)) := by
  rw [List.take_succ_eq_append_getElem h, goAll_snoc]
theorem goAll_vals {zs : List Int} (hz : valsOk zs = true) : ∀ {ts : List Wr}, (∀ e ∈ ts, rowsOk e.ps = true) → valsOk (goAll zs ts) = true := by
  intro ts
  induction ts generalizing zs with
  | nil => intro _; exact hz
  | cons e r ih => intro h; exact ih (put_vals hz (h e (by simp))) (fun e' he => h e' (by simp [he]))
/-- how many entries there are up to a stamp -/
def cntTo (ts : List Wr) (n : Int) : Nat := (ts.takeWhile (fun e => decide (e.s ≤ n))).length
theorem take_while (p : Wr → Bool) : ∀ (ts : List Wr) (k : Nat), (∀ j (h : j < ts.length), j < k → p ts[j] = true) → (∀ h : k < ts.length, p ts[k] = false) → k ≤ ts.length → (ts.takeWhile p).length = k
  | [], k, _, _, h3 => by simp at h3; simp [h3]
  | e :: r, 0, _, h2, _ => by
    have := h2 (by simp)
    simp at this
    simp [List.takeWhile, this]
  | e :: r, k + 1, h1, h2, h3 => by
    have h0 := h1 0 (by simp) (by omega)
    simp at h0
    have ih := take_while p r k (fun j hj hjk => by have := h1 (j + 1) (by simp; omega) (by omega); simpa using this) (fun h => by have := h2 (by simp; omega); simpa using this) (by simp at h3; omega)
    simp [List.takeWhile, h0, ih]
theorem cnt_is {ts : List Wr} {n : Int} {k : Nat} (h1 : ∀ j (h : j < ts.length), j < k → ts[j].s ≤ n) (h2 : ∀ h : k < ts.length, n < ts[k].s) (h3 : k ≤ ts.length) : cntTo ts n = k :=
  take_while _ ts k (fun j hj hjk => by simpa using h1 j hj hjk) (fun h => by simpa using h2 h) h3
def stateAt (zs : List Int) (ls : List Wr) (n : Int) : List Int := if (valsOk zs && histOk ls) = true then goAll zs ((turnOf ls).take (cntTo (turnOf ls) n)) else []
theorem state_no {zs : List Int} {ls : List Wr} {n : Int} (h : (valsOk zs && histOk ls) = false) : stateAt zs ls n = [] := by unfold stateAt; rw [h]; rfl
theorem state_yes {zs : List Int} {ls : List Wr} {n : Int} (h : (valsOk zs && histOk ls) = true) : stateAt zs ls n = goAll zs ((turnOf ls).take (cntTo (turnOf ls) n)) := by unfold stateAt; rw [if_pos h]
theorem goAll_length (ts : List Wr) : ∀ zs : List Int, (goAll zs ts).length = zs.length := by
  induction ts with
  | nil => intro zs; rfl
  | cons e r ih => intro zs; show (goAll (putAll zs e.ps) r).length = _; rw [ih, putAll_length]
theorem state_length_le (zs : List Int) (ls : List Wr) (n : Int) : (stateAt zs ls n).length ≤ 8 := by
  cases h : (valsOk zs && histOk ls)
  · rw [state_no h]; simp
  · rw [state_yes h, goAll_length]
    rw [Bool.and_eq_true] at h
    have := h.1
    unfold valsOk at this
    rw [Bool.and_eq_true] at this
    exact Nat.le_of_eq (of_decide_eq_true this.1)

/-- has this entry put the cell, at n or ahead of it? -/
def hit (c n : Int) (e : Wr) : Bool := (lastV e.ps c).isSome && decide (e.s ≤ n)
def lw (ls : List Wr) (c n : Int) : Int := ls.foldl (fun b e => if hit c n e = true ∧ b < e.s then e.s else b) 0
theorem lw_snoc (ls : List Wr) (e : Wr) (c n : Int) : lw (ls ++ [e]) c n = if hit c n e = true ∧ lw ls c n < e.s then e.s else lw ls c n := by unfold lw; rw [List.foldl_append]; rfl
theorem lw_take (ls : List Wr) (c n : Int) (k : Nat) (h : k < ls.length) : lw (ls.take (k + 1)) c n = if hit c n ls[k] = true ∧ lw (ls.take k) c n < ls[k].s then ls[k].s else lw (ls.take k) c n := by
  rw [List.take_succ_eq_append_getElem h, lw_snoc]
structure IsLw (ls : List Wr) (c n r : Int) : Prop where
  is : (r = 0 ∧ ∀ e ∈ ls, hit c n e = false) ∨ ∃ e ∈ ls, hit c n e = true ∧ e.s = r ∧ ∀ e' ∈ ls, hit c n e' = true → e'.s ≤ r
theorem IsLw.perm {ls ts : List Wr} {c n r : Int} (h : IsLw ts c n r) (hp : ts.Perm ls) : IsLw ls c n r := by
  refine ⟨h.is.imp (fun ⟨h1, h2⟩ => ⟨h1, fun e he => h2 e (hp.mem_iff.2 he)⟩) (fun ⟨e, he, h1, h2, h3⟩ => ⟨e, hp.mem_iff.1 he, h1, h2, fun e' he' => h3 e' (hp.mem_iff.2 he')⟩)⟩
theorem IsLw.unique {ls : List Wr} {c n r r' : Int} (h : IsLw ls c n r) (h' : IsLw ls c n r') : r = r' := by
  rcases h.is with ⟨h1, h2⟩ | ⟨e, he, h1, h2, h3⟩
  · rcases h'.is with ⟨k1, k2⟩ | ⟨e', he', k1, k2, k3⟩
    · omega
    · rw [h2 e' he'] at k1; cases k1
  · rcases h'.is with ⟨k1, k2⟩ | ⟨e', he', k1, k2, k3⟩
    · rw [k2 e he] at h1; cases h1
    · have := h3 e' he' k1
      have := k3 e he h1
      omega
theorem snoc_ind' {P : List Wr → Prop} (h0 : P []) (hs : ∀ xs x, P xs → P (xs ++ [x])) : ∀ xs, P xs := fun xs => by
  have key : ∀ n, P (xs.take n) := fun n => by
    induction n with
    | zero => simpa using h0
    | succ n ih =>
      by_cases h : n < xs.length
      · rw [List.take_succ_eq_append_getElem h]; exact hs _ _ ih
      · rw [List.take_of_length_le (by omega)] at ih ⊢; exact ih
  have := key xs.length
  rwa [List.take_of_length_le (Nat.le_refl _)] at this
theorem lw_is (c n : Int) : ∀ (ls : List Wr), (∀ e ∈ ls, 1 ≤ e.s) → IsLw ls c n (lw ls c n) := by
  refine snoc_ind' (P := fun ls => (∀ e ∈ ls, 1 ≤ e.s) → IsLw ls c n (lw ls c n)) (fun _ => ⟨.inl ⟨rfl, fun e he => by cases he⟩⟩) (fun ls e ih hp => ?_)
  have ih := (ih (fun e' he => hp e' (by simp [he]))).is
  have h1 := hp e (by simp)
  rw [lw_snoc]
  constructor
  by_cases hh : hit c n e = true
  · by_cases hlt : lw ls c n < e.s
    · rw [if_pos ⟨hh, hlt⟩]
      refine .inr ⟨e, by simp, hh, rfl, fun e' he' h' => ?_⟩
      rcases List.mem_append.1 he' with he' | he'
      · rcases ih with ⟨k1, k2⟩ | ⟨e2, k1, k2, k3, k4⟩
        · rw [k2 e' he'] at h'; cases h'
        · have := k4 e' he' h'; omega
      · rw [List.mem_singleton.1 he']; exact Int.le_refl _
    · rw [if_neg (fun h => hlt h.2)]
      rcases ih with ⟨k1, k2⟩ | ⟨e2, k1, k2, k3, k4⟩
      · omega
      · refine .inr ⟨e2, by simp [k1], k2, k3, fun e' he' h' => ?_⟩
        rcases List.mem_append.1 he' with he' | he'
        · exact k4 e' he' h'
        · rw [List.mem_singleton.1 he']; omega
  · rw [if_neg (fun h => hh h.1)]
    rcases ih with ⟨k1, k2⟩ | ⟨e2, k1, k2, k3, k4⟩
    · refine .inl ⟨k1, fun e' he' => ?_⟩
      rcases List.mem_append.1 he' with he' | he'
      · exact k2 e' he'
      · rw [List.mem_singleton.1 he']; simpa using hh
    · refine .inr ⟨e2, by simp [k1], k2, k3, fun e' he' h' => ?_⟩
      rcases List.mem_append.1 he' with he' | he'
      · exact k4 e' he' h'
      · rw [List.mem_singleton.1 he'] at h'; exact absurd h' hh
def lastW (ls : List Wr) (c n : Int) : Int := if histOk ls = true then lw ls c n else 0
theorem lastW_no {ls : List Wr} {c n : Int} (h : histOk ls = false) : lastW ls c n = 0 := by unfold lastW; rw [h]; rfl
theorem lastW_yes {ls : List Wr} {c n : Int} (h : histOk ls = true) : lastW ls c n = lw ls c n := by unfold lastW; rw [if_pos h]
theorem pos_of {ls : List Wr} (h : histOk ls = true) : ∀ e ∈ ls, 1 ≤ e.s := fun e he => (entOk_out ((histOk_iff.1 h).2.1 e he)).1.1
/-- in a history in turn: the last one that has put it -/
theorem lw_turn {ls : List Wr} {c n r : Int} (h : histOk ls = true) (hr : IsLw (turnOf ls) c n r) : r = lastW ls c n := by
  rw [lastW_yes h]
  exact (hr.perm (turn_perm ls)).unique (lw_is c n ls (pos_of h))
theorem isLw_last {ts : List Wr} (hs : ts.Pairwise (fun a b => a.s < b.s)) {c n : Int} {j : Nat} (hj : j < ts.length) (hh : hit c n ts[j] = true) (hn : ∀ i (h : i < ts.length), j < i → hit c n ts[i] = false) : IsLw ts c n ts[j].s :=
  ⟨.inr ⟨ts[j], List.getElem_mem hj, hh, rfl, fun e' he' h' => by
    obtain ⟨i, hi, rfl⟩ := List.mem_iff_getElem.1 he'
    rcases Nat.lt_trichotomy i j with h | h | h
    · exact Int.le_of_lt (List.pairwise_iff_getElem.1 hs i j hi hj h)
    · subst h; exact Int.le_refl _
    · rw [hn i hi h] at h'; cases h'⟩⟩
end Hist
end Go.Proofs.Ytppikpdphcfomaa
