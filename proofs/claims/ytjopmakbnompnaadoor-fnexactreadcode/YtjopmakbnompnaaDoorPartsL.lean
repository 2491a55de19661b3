/- The program's way of parting a line at its blanks, as plain mathematics. -/
import Derived.Test.YtjopmakbnompnaaDoorReadOpL
import Derived.Lib.Split
set_option linter.unusedVariables false
set_option linter.unusedSimpArgs false
namespace Go.Proofs.YtjopmakbnompnaaDoor
namespace Ops
open Num

theorem at_index {L : Txt} {c : UInt8} {i : Nat} (h : Lib.indexByte L c = i) : i < L.length ∧ L = L.take i ++ c :: L.drop (i + 1) ∧ ∀ x ∈ L.take i, x ≠ c := by
  obtain ⟨h1, h2⟩ := Lib.indexByte_some h
  obtain ⟨hi, hc⟩ := List.getElem?_eq_some_iff.1 h1
  refine ⟨hi, ?_, fun x hx e => ?_⟩
  · rw [← hc, ← List.drop_eq_getElem_cons hi, List.take_append_drop]
  · obtain ⟨j, hj, rfl⟩ := List.mem_iff_getElem.1 hx
    have hj' : j < i := by simp at hj; omega
    refine h2 j hj' ?_
    rw [← e, List.getElem_take, List.getElem?_eq_getElem]
theorem none_at {L : Txt} {c : UInt8} (h : Lib.indexByte L c = -1) : ∀ x ∈ L, x ≠ c := by
  intro x hx e
  obtain ⟨j, hj, rfl⟩ := List.mem_iff_getElem.1 hx
  exact Lib.indexByte_none h j (by rw [← e, List.getElem?_eq_getElem hj])
theorem index_two (L : Txt) (c : UInt8) : Lib.indexByte L c = -1 ∨ ∃ i : Nat, Lib.indexByte L c = i := by
  have := Lib.indexByte_ge L c
  by_cases h : Lib.indexByte L c = -1
  · exact .inl h
  · exact .inr ⟨(Lib.indexByte L c).toNat, by omega⟩
theorem split_pos (c : UInt8) (L : Txt) : 1 ≤ (split c L).length := by
  rcases h : split c L with _ | ⟨p, r⟩
  · exact absurd h (split_ne c L)
  · simp
theorem split_two {c : UInt8} {L : Txt} (h : c ∈ L) : 2 ≤ (split c L).length := by
  rcases index_two L c with hi | ⟨i, hi⟩
  · exact absurd rfl (none_at hi c h)
  · obtain ⟨-, e, hp⟩ := at_index hi
    rw [e, split_at hp]
    have := split_pos c (L.drop (i + 1))
    simp; omega
theorem parts_split (c : UInt8) : ∀ (k : Nat) (L : Txt), Lib.splitK [c] 0 k L = split c L ∨ ∃ q last, Lib.splitK [c] 0 k L = q ++ [last] ∧ q.length = k ∧ c ∈ last ∧ k + 1 < (split c L).length
  | 0, L => by
    by_cases h : c ∈ L
    · exact .inr ⟨[], L, rfl, rfl, h, by have := split_two h; omega⟩
    · exact .inl (split_all (fun x hx e => h (by rw [← e]; exact hx))).symm
  | k + 1, L => by
    unfold Lib.splitK
    rw [Lib.index_one]
    rcases index_two L c with hi | ⟨i, hi⟩
    · rw [hi, if_pos (by rfl)]
      exact .inl (split_all (none_at hi)).symm
    · have hn : ¬ (((i : Int) == -1) = true) := by
        intro e
        have := beq_iff_eq.1 e
        omega
      rw [hi, if_neg hn, Int.toNat_natCast, Nat.add_zero, List.length_singleton]
      obtain ⟨-, e, hp⟩ := at_index hi
      have hs : split c L = L.take i :: split c (L.drop (i + 1)) := by
        conv => lhs; rw [e]
        exact split_at hp _
      rw [hs]
      rcases parts_split c k (L.drop (i + 1)) with h | ⟨q, last, h1, h2, h3, h4⟩
      · exact .inl (by rw [h])
      · exact .inr ⟨L.take i :: q, last, by rw [h1]; rfl, by simp [h2], h3, by simp; omega⟩
theorem glue_length (a : Txt) {l : List Txt} (h : l ≠ []) : (glue a l).length = l.length := by
  cases l with
  | nil => exact absurd rfl h
  | cons p q => rfl
theorem split_le (c : UInt8) (L : Txt) : (split c L).length ≤ L.length + 1 := by
  induction L with
  | nil => simp [split]
  | cons x r ih =>
    unfold split
    split
    · simp; omega
    · rw [glue_length _ (split_ne c r)]; simp; omega
theorem split_back (c : UInt8) : ∀ (L p : Txt) (r : List Txt), split c L = p :: r → L = p ++ r.flatMap (fun q => c :: q)
  | [], p, r, h => by
    have h1 : split c ([] : Txt) = [[]] := rfl
    rw [h1, List.cons.injEq] at h
    rw [← h.1, ← h.2]; rfl
  | x :: t, p, r, h => by
    have h0 : split c (x :: t) = if x = c then [] :: split c t else glue [x] (split c t) := rfl
    rw [h0] at h
    rcases hs : split c t with _ | ⟨p', r'⟩
    · exact absurd hs (split_ne c t)
    · have ih := split_back c t p' r' hs
      rw [hs] at h
      split at h
      · rename_i hx
        rw [List.cons.injEq] at h
        rw [← h.1, ← h.2, ih, hx]; simp
      · have hg : glue [x] (p' :: r') = (x :: p') :: r' := rfl
        rw [hg, List.cons.injEq] at h
        rw [← h.1, ← h.2, ih]; simp
theorem read_back {r : List Txt} {ns : List Int} (h : ReadN r ns) (hl : ns.length = r.length) : r = ns.map Lib.itoa := by
  apply List.ext_getElem (by simp [hl])
  intro j h1 h2
  have hj : j < ns.length := by omega
  rcases h.2 j hj h1 with ⟨-, -, -, e⟩ | ⟨e, -⟩
  · rw [List.getElem_map]; exact e.symm
  · cases e
theorem joinN_flat (ns : List Int) : joinN ns = (ns.map Lib.itoa).flatMap (fun q => 32 :: q) := by
  induction ns with
  | nil => rfl
  | cons n r ih => simp [joinN, ih]
theorem nums_of {k : Int} {ns : List Int} (h : ns.length = nargs k) : nums (ofNums k ns) = ns := by
  have := nargs_le k
  unfold nums ofNums
  simp only
  rw [← h]
  match ns, h with
  | [], _ => rfl
  | [a], _ => rfl
  | [a, b], _ => rfl
  | [a, b, c], _ => rfl
  | _ :: _ :: _ :: _ :: _, h => simp at h; omega
/-- what the program holds of the parts -/
def PartsIs (L p0 : Txt) (r : List Txt) : Prop := split 32 L = p0 :: r ∨ (r.length = 3 ∧ (∀ t, r[2]? = some t → 32 ∈ t) ∧ RdOp L z4 false)
theorem long_no {L : Txt} (h : 4 < (split 32 L).length) : RdOp L z4 false := by
  refine .inr ⟨rfl, rfl, fun o ho e => ?_⟩
  have := congrArg List.length (parts_of ho e)
  simp [nums_length] at this
  have := nargs_le o.k
  omega
theorem splitK_len (c : UInt8) : ∀ (k : Nat) (L : Txt), ∀ q ∈ Lib.splitK [c] 0 k L, q.length ≤ L.length
  | 0, L => by intro q hq; simp [Lib.splitK] at hq; simp [hq]
  | k + 1, L => by
    intro q hq
    unfold Lib.splitK at hq
    split at hq
    · simp at hq; simp [hq]
    · rcases List.mem_cons.1 hq with rfl | hq
      · exact List.length_take_le' _ _
      · have := splitK_len c k _ q hq
        rw [List.length_drop] at this; omega
theorem parts_is {L : Txt} {k : Nat} (hk : k = min 3 L.length) : ∃ p0 r, Lib.splitK [32] 0 k L = p0 :: r ∧ PartsIs L p0 r ∧ ∀ q ∈ p0 :: r, q.length ≤ L.length := by
  have hlen := splitK_len 32 k L
  rcases parts_split 32 k L with h | ⟨q, last, h1, h2, h3, h4⟩
  · obtain ⟨p0, r, hp⟩ : ∃ p0 r, split 32 L = p0 :: r := by
      rcases hs : split 32 L with _ | ⟨p, r⟩
      · exact absurd hs (split_ne 32 L)
      · exact ⟨p, r, rfl⟩
    exact ⟨p0, r, h.trans hp, .inl hp, by rw [h, hp] at hlen; exact hlen⟩
  · have hle := split_le 32 L
    have hk3 : k = 3 := by omega
    subst hk3
    match q, h2 with
    | [a, b, c], _ =>
      exact ⟨a, [b, c, last], h1, .inr ⟨rfl, fun t ht => by simp at ht; rw [← ht]; exact h3, long_no (by omega)⟩, by rw [h1] at hlen; exact hlen⟩
theorem pi_kind {L p0 : Txt} {r : List Txt} (hp : PartsIs L p0 r) (h : kindTo p0 17 = 0 ∨ ¬ r.length = nargs (kindTo p0 17)) : RdOp L z4 false := by
  rcases hp with hp | ⟨-, -, hp⟩
  · exact no_kind hp h
  · exact hp
theorem pi_num {L p0 : Txt} {r : List Txt} (hp : PartsIs L p0 r) {i : Nat} (hi : i < r.length) {n : Int} (h : RdRes r[i] n false) : RdOp L z4 false := by
  rcases hp with hp | ⟨-, -, hp⟩
  · exact no_num hp hi h
  · exact hp
theorem itoa_blank (n : Int) (h1 : -999999999 ≤ n) (h2 : n ≤ 999999999) : ¬ (32 : UInt8) ∈ Lib.itoa n := by
  rcases Int.lt_or_le n 0 with h | h
  · obtain ⟨m, rfl⟩ : ∃ m : Nat, n = -(m : Int) := ⟨(-n).toNat, by omega⟩
    intro hm
    have hneg : Lib.itoa (-(m : Int)) = 45 :: Lib.itoa (m : Int) := by rw [Lib.itoa_neg m (by omega), Lib.itoa_nonneg]
    rw [hneg] at hm
    rcases List.mem_cons.1 hm with e | hm
    · revert e; decide
    · exact (itoa_plain (by omega) _ hm).1 rfl
  · exact fun hm => (itoa_plain h _ hm).1 rfl
theorem pi_all {L p0 : Txt} {r : List Txt} {ns : List Int} (hp : PartsIs L p0 r) (hk : kindTo p0 17 ≠ 0) (hr : ReadN r ns) (hl : ns.length = r.length) (hn : r.length = nargs (kindTo p0 17)) :
    (okOp (ofNums (kindTo p0 17) ns) = true → RdOp L (ofNums (kindTo p0 17) ns) true) ∧ (okOp (ofNums (kindTo p0 17) ns) = false → RdOp L z4 false) := by
  rcases hp with hp | ⟨h3, hb, hp⟩
  · obtain ⟨t1, t2⟩ := told_op hp hk hr hl
    obtain ⟨hk1, hk2⟩ := kind_word hk
    refine ⟨fun ho => t1 ?_, fun ho => t2 ?_⟩
    · unfold showOp
      rw [if_pos ho, nums_of (by rw [hl, hn]), joinN_flat, ← read_back hr hl]
      show wordOf (kindTo p0 17 : Int) ++ _ = L
      rw [hk2]
      exact (split_back 32 L p0 r hp).symm
    · have hs : showOp (ofNums (kindTo p0 17) ns) = [] := by unfold showOp; rw [if_neg (by simp [ho])]
      rw [hs]
      intro e
      rw [← e] at hp
      have h1 : split 32 ([] : Txt) = [[]] := rfl
      rw [h1, List.cons.injEq] at hp
      exact word_ne hk1 (hk2.trans hp.1.symm)
  · exfalso
    have h2 : 2 < ns.length := by omega
    have h2' : 2 < r.length := by omega
    have := hb r[2] (by rw [List.getElem?_eq_getElem h2'])
    rcases hr.2 2 h2 h2' with ⟨-, b1, b2, e⟩ | ⟨e, -⟩
    · rw [← e] at this
      exact itoa_blank _ b1 b2 this
    · cases e
end Ops
end Go.Proofs.YtjopmakbnompnaaDoor
