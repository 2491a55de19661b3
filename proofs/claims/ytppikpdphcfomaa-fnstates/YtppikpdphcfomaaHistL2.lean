/- Histories: the next greater stamp; the place of an entry. -/
import Derived.Test.YtppikpdphcfomaaHistL
set_option linter.unusedVariables false
namespace Go.Proofs.Ytppikpdphcfomaa
open Go.RowKit
namespace Hist
open Logs

def nx (last : Int) (l : List Wr) : Int := l.foldl (fun b e => if last < e.s ∧ e.s < b then e.s else b) 1000001
theorem nx_snoc (last : Int) (l : List Wr) (e : Wr) : nx last (l ++ [e]) = if last < e.s ∧ e.s < nx last l then e.s else nx last l := by unfold nx; rw [List.foldl_append]; rfl
theorem nx_take (last : Int) (l : List Wr) (k : Nat) (h : k < l.length) : nx last (l.take (k + 1)) = if last < l[k].s ∧ l[k].s < nx last (l.take k) then l[k].s else nx last (l.take k) := by
  rw [List.take_succ_eq_append_getElem h, nx_snoc]
theorem nx_is (last : Int) : ∀ l : List Wr, (∀ e ∈ l, last < e.s → nx last l ≤ e.s) ∧ (nx last l = 1000001 ∨ ∃ e ∈ l, last < e.s ∧ e.s = nx last l) := by
  refine snoc_ind' ⟨fun e he => absurd he List.not_mem_nil, .inl rfl⟩ (fun l e ih => ?_)
  rw [nx_snoc]
  by_cases h : last < e.s ∧ e.s < nx last l
  · rw [if_pos h]
    refine ⟨fun e' he' h' => ?_, .inr ⟨e, by simp, h.1, rfl⟩⟩
    rcases List.mem_append.1 he' with he' | he'
    · have := ih.1 e' he' h'; omega
    · rw [List.mem_singleton.1 he']; exact Int.le_refl _
  · rw [if_neg h]
    refine ⟨fun e' he' h' => ?_, ih.2.imp id (fun ⟨e2, k1, k2, k3⟩ => ⟨e2, by simp [k1], k2, k3⟩)⟩
    rcases List.mem_append.1 he' with he' | he'
    · exact ih.1 e' he' h'
    · rw [List.mem_singleton.1 he'] at h' ⊢
      omega
/-- the stamp ahead of place k, or nought -/
def Top (T : List Wr) (k : Nat) (ah : Int) : Prop := (k = 0 ∧ ah = 0) ∨ (∃ h : k - 1 < T.length, 0 < k ∧ T[k - 1].s = ah)
theorem Top.next {T : List Wr} {k : Nat} (h : k < T.length) : Top T (k + 1) T[k].s := .inr ⟨by simpa using h, by omega, rfl⟩
theorem ent_turn {ls : List Wr} (h : histOk ls = true) {k : Nat} (hk : k < (turnOf ls).length) : entOk (turnOf ls)[k] = true := (histOk_iff.1 h).2.1 _ ((turn_perm ls).mem_iff.1 (List.getElem_mem hk))
theorem nx_turn {ls : List Wr} (h : histOk ls = true) {k : Nat} (hk : k < (turnOf ls).length) {last : Int} (ht : Top (turnOf ls) k last) : nx last ls = (turnOf ls)[k].s := by
  have hlt := List.pairwise_iff_getElem.1 (turn_lt h)
  have hin : (turnOf ls)[k] ∈ ls := (turn_perm ls).mem_iff.1 (List.getElem_mem hk)
  have hgt : last < (turnOf ls)[k].s := by
    rcases ht with ⟨h1, h2⟩ | ⟨h1, h2, h3⟩
    · have := (entOk_out (ent_turn h hk)).1; omega
    · have := hlt (k - 1) k h1 hk (by omega); omega
  obtain ⟨n1, n2⟩ := nx_is last ls
  have h1 := n1 _ hin hgt
  have h9 := (entOk_out (ent_turn h hk)).1.2
  rcases n2 with n2 | ⟨e, he, h2, h3⟩
  · omega
  · obtain ⟨i, hi, rfl⟩ := List.mem_iff_getElem.1 ((turn_perm ls).mem_iff.2 he)
    rcases Nat.lt_trichotomy i k with h4 | h4 | h4
    · exfalso
      rcases ht with ⟨k1, k2⟩ | ⟨k1, k2, k3⟩
      · omega
      · rcases Nat.lt_or_ge i (k - 1) with h5 | h5
        · have := hlt i (k - 1) hi k1 h5; omega
        · have e : i = k - 1 := by omega
          subst e; omega
    · subst h4; omega
    · have := hlt k i hk hi h4; omega
/-- where an entry in turn stands in the list itself -/
theorem place {ls : List Wr} (h : histOk ls = true) {k : Nat} (hk : k < (turnOf ls).length) : ∃ p, ∃ hp : p < ls.length, ls[p] = (turnOf ls)[k] ∧ ∀ j (hj : j < ls.length), ls[j].s = (turnOf ls)[k].s → j = p := by
  obtain ⟨p, hp, e⟩ := List.mem_iff_getElem.1 ((turn_perm ls).mem_iff.1 (List.getElem_mem hk))
  refine ⟨p, hp, e, fun j hj hs => ?_⟩
  have hn := List.pairwise_iff_getElem.1 (List.nodup_iff_pairwise_ne.1 (histOk_iff.1 h).2.2)
  rcases Nat.lt_trichotomy j p with h1 | h1 | h1
  · have := hn j p (by simpa using hj) (by simpa using hp) h1
    simp at this
    rw [e] at this; exact absurd hs this
  · exact h1
  · have := hn p j (by simpa using hp) (by simpa using hj) h1
    simp at this
    rw [e] at this; exact absurd hs.symm this
theorem hit_of {c n : Int} {e : Wr} (h : rowsOk e.ps = true) : hit c n e = ((lastOf e.ps c).isSome && decide (e.s ≤ n)) := by unfold hit; rw [lastOf_ok h]
end Hist
end Go.Proofs.Ytppikpdphcfomaa
