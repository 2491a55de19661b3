/- Histories: the state at a stamp, cell by cell; the state ahead of it and behind it. -/
import Derived.Test.YtppikpdphcfomaaHistL2
import Derived.Test.YtppikpdphcfomaaLogOver
set_option linter.unusedVariables false
namespace Go.Proofs.Ytppikpdphcfomaa
open Go.RowKit
namespace Hist
open Logs

/-- what a cell holds behind these entries -/
theorem goAll_cell (zs : List Int) (i : Nat) (hi : i < zs.length) : ∀ ts : List Wr, (∀ e ∈ ts, rowsOk e.ps = true) →
    ((∀ e ∈ ts, lastV e.ps (i : Int) = none) ∧ (goAll zs ts)[i]? = zs[i]?) ∨
    ∃ j, ∃ hj : j < ts.length, ∃ y, lastV ts[j].ps (i : Int) = some y ∧ (∀ k (hk : k < ts.length), j < k → lastV ts[k].ps (i : Int) = none) ∧ (goAll zs ts)[i]? = some y := by
  refine snoc_ind' (fun _ => .inl ⟨fun e he => (List.not_mem_nil he).elim, rfl⟩) (fun ts e ih h => ?_)
  have hr := h e (by simp)
  have hil : i < (goAll zs ts).length := by rw [goAll_length]; exact hi
  have hput := putAll_at e.ps (goAll zs ts) (fun x hx => (rowsOk_at hr hx).1) i hil
  have hs : (goAll zs (ts ++ [e]))[i]? = some ((lastV e.ps (i : Int)).getD (goAll zs ts)[i]) := by rw [goAll_snoc]; exact hput
  cases hl : lastV e.ps (i : Int) with
  | some y =>
    right
    rw [hl] at hs
    refine ⟨ts.length, by simp, y, by simpa using hl, fun k hk hlt => ?_, hs⟩
    simp at hk; omega
  | none =>
    rw [hl] at hs
    have hs : (goAll zs (ts ++ [e]))[i]? = (goAll zs ts)[i]? := by rw [hs, List.getElem?_eq_getElem hil]; rfl
    rcases ih (fun e' he => h e' (by simp [he])) with ⟨k1, k2⟩ | ⟨j, hj, y, k1, k2, k3⟩
    · left
      refine ⟨fun e' he => ?_, by rw [hs, k2]⟩
      rcases List.mem_append.1 he with he | he
      · exact k1 e' he
      · rw [List.mem_singleton.1 he]; exact hl
    · right
      refine ⟨j, by simp; omega, y, by rw [List.getElem_append_left hj]; exact k1, fun k hk hlt => ?_, by rw [hs, k3]⟩
      by_cases hkl : k < ts.length
      · rw [List.getElem_append_left hkl]; exact k2 k hkl hlt
      · simp at hk
        obtain rfl : k = ts.length := by omega
        simpa using hl
theorem tw_next (p : Wr → Bool) : ∀ (ts : List Wr) (hc : (ts.takeWhile p).length < ts.length), p (ts[(ts.takeWhile p).length]'hc) = false
  | [], hc => by simp at hc
  | e :: r, hc => by
    cases h : p e
    · simp [List.takeWhile, h]
    · have ih := tw_next p r (by simpa [List.takeWhile, h] using hc)
      simpa [List.takeWhile, h] using ih
theorem tw_ahead (p : Wr → Bool) : ∀ (ts : List Wr) (j : Nat) (hj : j < ts.length), j < (ts.takeWhile p).length → p ts[j] = true
  | [], j, hj, _ => by simp at hj
  | e :: r, j, hj, h => by
    cases he : p e
    · simp [List.takeWhile, he] at h
    · cases j with
      | zero => simpa using he
      | succ j =>
        have ih := tw_ahead p r j (by simpa using hj) (by simpa [List.takeWhile, he] using h)
        simpa using ih
section
variable {zs : List Int} {ls : List Wr} (hz : valsOk zs = true) (h : histOk ls = true)
include hz h
omit hz in
theorem cnt_split (n : Int) : ∃ c, c ≤ (turnOf ls).length ∧ cntTo (turnOf ls) n = c ∧ (∀ j (hj : j < (turnOf ls).length), j < c → (turnOf ls)[j].s ≤ n) ∧ (∀ j (hj : j < (turnOf ls).length), c ≤ j → n < (turnOf ls)[j].s) := by
  refine ⟨cntTo (turnOf ls) n, ?_, rfl, ?_, ?_⟩
  · unfold cntTo; exact (List.takeWhile_sublist _).length_le
  · intro j hj hjc
    simpa using tw_ahead (fun e : Wr => decide (e.s ≤ n)) (turnOf ls) j hj hjc
  · intro j hj hcj
    have hlt := List.pairwise_iff_getElem.1 (turn_lt h)
    have hc : cntTo (turnOf ls) n < (turnOf ls).length := by omega
    have h0 : n < ((turnOf ls)[cntTo (turnOf ls) n]'hc).s := by
      have := tw_next (fun e : Wr => decide (e.s ≤ n)) (turnOf ls) hc
      exact Int.not_le.1 (of_decide_eq_false this)
    rcases Nat.lt_or_ge (cntTo (turnOf ls) n) j with h1 | h1
    · have := hlt _ _ hc hj h1; omega
    · have e : j = cntTo (turnOf ls) n := by omega
      subst e
      exact h0
omit hz in
theorem rows_turn {e : Wr} (he : e ∈ turnOf ls) : rowsOk e.ps = true := (entOk_out ((histOk_iff.1 h).2.1 _ ((turn_perm ls).mem_iff.1 he))).2.2
/-- each cell has what its last writer wrote -/
theorem state_last (n : Int) {i : Nat} (hi : i < 8) :
    (lastW ls i n = 0 → (stateAt zs ls n)[i]? = zs[i]?) ∧ ∀ k (hk : k < ls.length), ls[k].s = lastW ls i n → (stateAt zs ls n)[i]? = some ((lastOf ls[k].ps i).getD 0) := by
  obtain ⟨c, hc1, hc2, hc3, hc4⟩ := cnt_split h n
  have hst : stateAt zs ls n = goAll zs ((turnOf ls).take c) := by rw [state_yes (by rw [hz, h]; rfl), hc2]
  have hil : i < zs.length := by rw [vals_len hz]; exact hi
  rcases goAll_cell zs i hil ((turnOf ls).take c) (fun e he => rows_turn h (List.mem_of_mem_take he)) with ⟨k1, k2⟩ | ⟨j, hj, y, k1, k2, k3⟩
  · have hw : lastW ls i n = 0 := by
      refine (lw_turn h (r := 0) ⟨.inl ⟨rfl, fun e he => ?_⟩⟩).symm
      obtain ⟨j, hj, rfl⟩ := List.mem_iff_getElem.1 he
      unfold hit
      rcases Nat.lt_or_ge j c with h1 | h1
      · have hm : (turnOf ls)[j] ∈ (turnOf ls).take c := by rw [List.mem_take_iff_getElem]; exact ⟨j, by omega, rfl⟩
        rw [k1 _ hm]; rfl
      · have := hc4 j hj h1
        rw [decide_eq_false (by omega), Bool.and_false]
    refine ⟨fun _ => by rw [hst, k2], fun k hk e => ?_⟩
    have := pos_of h _ (List.getElem_mem hk)
    omega
  · have hjc : j < c := by simp at hj; omega
    have hjT : j < (turnOf ls).length := by omega
    have ej : ((turnOf ls).take c)[j] = (turnOf ls)[j] := List.getElem_take
    rw [ej] at k1
    have hw : (turnOf ls)[j].s = lastW ls i n := by
      refine lw_turn h (isLw_last (turn_lt h) hjT ?_ fun k hk hlt => ?_)
      · unfold hit
        rw [k1, decide_eq_true (hc3 j hjT hjc)]; rfl
      · unfold hit
        rcases Nat.lt_or_ge k c with h1 | h1
        · have := k2 k (by simp; omega) hlt
          rw [List.getElem_take] at this
          rw [this]; rfl
        · have := hc4 k hk h1
          rw [decide_eq_false (by omega), Bool.and_false]
    refine ⟨fun e => ?_, fun k hk e => ?_⟩
    · have := (entOk_out (ent_turn h hjT)).1.1
      omega
    · obtain ⟨p, hp, e1, e2⟩ := place h hjT
      obtain rfl := e2 k hk (by rw [e, hw])
      rw [e1, lastOf_ok (rows_turn h (List.getElem_mem hjT)), k1, hst, k3]; rfl
/-- the state at a stamp is the one ahead of it with what was written under it -/
theorem state_step {j k : Nat} (hj : j < (turnOf ls).length) (hk : k < ls.length) (e : ls[k].s = (turnOf ls)[j].s) : stateAt zs ls (turnOf ls)[j].s = overOf (stateAt zs ls ((turnOf ls)[j].s - 1)) ls[k].ps := by
  have hlt := List.pairwise_iff_getElem.1 (turn_lt h)
  obtain ⟨p, hp, e1, e2⟩ := place h hj
  obtain rfl := e2 k hk e
  rw [e1]
  have c1 : cntTo (turnOf ls) (turnOf ls)[j].s = j + 1 := cnt_is (fun i hi hij => by
    rcases Nat.lt_or_ge i j with h1 | h1
    · have := hlt i j hi hj h1; omega
    · obtain rfl : i = j := by omega
      exact Int.le_refl _) (fun h1 => hlt j (j + 1) hj h1 (by omega)) (by omega)
  have c2 : cntTo (turnOf ls) ((turnOf ls)[j].s - 1) = j := cnt_is (fun i hi hij => by have := hlt i j hi hj hij; omega) (fun _ => by omega) (by omega)
  have hy : (valsOk zs && histOk ls) = true := by rw [hz, h]; rfl
  have hv : valsOk (goAll zs ((turnOf ls).take j)) = true := goAll_vals hz (fun e he => rows_turn h (List.mem_of_mem_take he))
  rw [state_yes hy, state_yes hy, c1, c2, over_yes (by rw [hv, rows_turn h (List.getElem_mem hj)]; rfl), goAll_take]
theorem state_zero : stateAt zs ls 0 = zs := by
  have c0 : cntTo (turnOf ls) 0 = 0 := cnt_is (fun i hi hij => by omega) (fun h1 => by have := (entOk_out (ent_turn h h1)).1.1; omega) (by omega)
  rw [state_yes (by rw [hz, h]; rfl), c0]; rfl
theorem state_len (n : Int) : (stateAt zs ls n).length = 8 := by rw [state_yes (by rw [hz, h]; rfl), goAll_length, vals_len hz]
end
end Hist
end Go.Proofs.Ytppikpdphcfomaa
