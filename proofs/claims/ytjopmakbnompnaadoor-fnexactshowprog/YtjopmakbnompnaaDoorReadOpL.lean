/- ReadOp as plain mathematics: what the word and the numbers tell. -/
import Derived.Test.YtjopmakbnompnaaDoorSourceL
set_option linter.unusedVariables false
set_option linter.unusedSimpArgs false
namespace Go.Proofs.YtjopmakbnompnaaDoor
namespace Ops
open Num

/-- the kind whose word it is, of those below k; nought where there is none -/
def kindTo (p : Txt) : Nat → Nat
  | 0 => 0
  | k + 1 => if 1 ≤ k ∧ words.getD k [] = p then k else kindTo p k
theorem kindTo_one (p : Txt) : kindTo p 1 = 0 := by simp [kindTo]
theorem kindTo_le (p : Txt) : ∀ k, kindTo p k ≤ k := by
  intro k
  induction k with
  | zero => simp [kindTo]
  | succ k ih => unfold kindTo; split <;> omega
theorem kindTo_word (p : Txt) : ∀ k, kindTo p k ≠ 0 → 1 ≤ kindTo p k ∧ kindTo p k < k ∧ words.getD (kindTo p k) [] = p := by
  intro k
  induction k with
  | zero => intro h; exact absurd rfl h
  | succ k ih =>
    intro h
    unfold kindTo at h ⊢
    split
    · rename_i hc; exact ⟨hc.1, by omega, hc.2⟩
    · rename_i hc
      rw [if_neg hc] at h
      obtain ⟨a, b, c⟩ := ih h
      exact ⟨a, by omega, c⟩
theorem kind_word {p : Txt} (h : kindTo p 17 ≠ 0) : (1 ≤ (kindTo p 17 : Int) ∧ (kindTo p 17 : Int) ≤ 16) ∧ wordOf (kindTo p 17) = p := by
  obtain ⟨a, b, c⟩ := kindTo_word p 17 h
  refine ⟨by omega, ?_⟩
  unfold wordOf; rw [Int.toNat_natCast]; exact c
theorem kind_of_word {k : Int} (h : 1 ≤ k ∧ k ≤ 16) : (kindTo (wordOf k) 17 : Int) = k := by
  have key : ∀ i < 17, 1 ≤ i → kindTo (words.getD i []) 17 = i := by decide
  have := key k.toNat (by omega) (by omega)
  unfold wordOf; omega

theorem glue_len {a : Txt} {l : List Txt} {n : Nat} (ha : a.length ≤ n) (h : ∀ p ∈ l, p.length + a.length ≤ n) : ∀ p ∈ glue a l, p.length ≤ n := by
  cases l with
  | nil => intro p hp; simp [glue] at hp; rw [hp]; exact ha
  | cons q t =>
    intro p hp
    rcases List.mem_cons.1 hp with rfl | hp
    · have := h q (by simp); simp; omega
    · have := h p (by simp [hp]); omega
theorem split_len (c : UInt8) (L : Txt) : ∀ p ∈ split c L, p.length ≤ L.length := by
  induction L with
  | nil => intro p hp; simp [split] at hp; simp [hp]
  | cons x r ih =>
    unfold split
    split
    · intro p hp
      rcases List.mem_cons.1 hp with rfl | hp
      · simp
      · have := ih p hp; simp; omega
    · refine glue_len (by simp) (fun p hp => ?_)
      have := ih p hp; simp; omega
/-- a right op's parts -/
theorem parts_of {L : Txt} {o : O4} (h : okOp o = true) (e : showOp o = L) : split 32 L = wordOf o.k :: (nums o).map Lib.itoa := by rw [← e]; exact show_split h
theorem no_kind {L p0 : Txt} {r : List Txt} (hs : split 32 L = p0 :: r) (h : kindTo p0 17 = 0 ∨ ¬ r.length = nargs (kindTo p0 17)) : RdOp L z4 false := by
  refine .inr ⟨rfl, rfl, fun o' ho e => ?_⟩
  have := parts_of ho e
  rw [hs, List.cons.injEq] at this
  have hk := kind_of_word (ok_kind ho)
  rw [← this.1] at hk
  rcases h with h | h
  · have := (ok_kind ho).1; omega
  · rw [hk, this.2, List.length_map, nums_length] at h; exact h rfl
theorem no_num {L p0 : Txt} {r : List Txt} (hs : split 32 L = p0 :: r) {i : Nat} (hi : i < r.length) {n : Int} (h : RdRes r[i] n false) : RdOp L z4 false := by
  refine .inr ⟨rfl, rfl, fun o' ho e => ?_⟩
  have := parts_of ho e
  rw [hs, List.cons.injEq] at this
  obtain ⟨-, e2⟩ := this
  subst e2
  rcases h with ⟨h, -⟩ | ⟨-, -, h⟩
  · cases h
  · rw [List.getElem_map] at h
    have hi' : i < (nums o').length := by simpa using hi
    have := nums_small ho _ (List.getElem_mem hi')
    exact h _ (by omega) (by omega) rfl
/-- the numbers that were read -/
def ReadN (r : List Txt) (ns : List Int) : Prop := ns.length ≤ r.length ∧ ∀ j (h : j < ns.length) (h' : j < r.length), RdRes r[j] ns[j] true
theorem read_same {r : List Txt} {ns : List Int} (h : ReadN r ns) (hl : ns.length = r.length) {ms : List Int} (hm : r = ms.map Lib.itoa) (hs : ∀ n ∈ ms, 0 ≤ n ∧ n ≤ 65535) : ns = ms := by
  subst hm
  have hl' : ns.length = ms.length := by simpa using hl
  apply List.ext_getElem hl'
  intro j h1 h2
  have := h.2 j h1 (by simpa using h2)
  rw [List.getElem_map] at this
  have hb := hs _ (List.getElem_mem h2)
  exact (this.unique (.inl ⟨rfl, by omega, by omega, rfl⟩)).1
theorem told_op {L p0 : Txt} {r : List Txt} {ns : List Int} (hs : split 32 L = p0 :: r) (hk : kindTo p0 17 ≠ 0) (hr : ReadN r ns) (hl : ns.length = r.length) :
    (showOp (ofNums (kindTo p0 17) ns) = L → RdOp L (ofNums (kindTo p0 17) ns) true) ∧ (showOp (ofNums (kindTo p0 17) ns) ≠ L → RdOp L z4 false) := by
  obtain ⟨hk1, hk2⟩ := kind_word hk
  refine ⟨fun e => .inl ⟨rfl, ?_, e⟩, fun e => .inr ⟨rfl, rfl, fun o' ho e' => e ?_⟩⟩
  · cases h : okOp (ofNums (kindTo p0 17) ns) with
    | true => rfl
    | false =>
      exfalso
      have : showOp (ofNums (kindTo p0 17) ns) = [] := by unfold showOp; rw [if_neg (by simp [h])]
      rw [this] at e
      rw [← e] at hs
      have h1 : split 32 ([] : Txt) = [[]] := rfl
      rw [h1, List.cons.injEq] at hs
      exact word_ne hk1 (hk2.trans hs.1.symm)
  · have := parts_of ho e'
    rw [hs, List.cons.injEq] at this
    have hk' := kind_of_word (ok_kind ho)
    rw [← this.1] at hk'
    have hn := read_same hr hl this.2 (nums_small ho)
    rw [hk', hn, ← ok_nums ho]; exact e'
theorem readN_nil (r : List Txt) : ReadN r [] := ⟨by simp, fun j h => by simp at h⟩
theorem readN_snoc {r : List Txt} {ns : List Int} (h : ReadN r ns) (hl : ns.length < r.length) {n : Int} (hn : RdRes r[ns.length] n true) : ReadN r (ns ++ [n]) := by
  refine ⟨by simp; omega, fun j h1 h2 => ?_⟩
  by_cases hj : j < ns.length
  · rw [List.getElem_append_left hj]; exact h.2 j hj h2
  · have hj' : j = ns.length := by simp at h1; omega
    subst hj'
    rw [List.getElem_append_right (Nat.le_refl _)]
    simpa using hn
end Ops
end Go.Proofs.YtjopmakbnompnaaDoor
