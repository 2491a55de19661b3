/- A range over a function that yields only such values as have a given property where they are yielded. -/
import Derived.RangeFuncNested
import Derived.RangeFuncBound
import Derived.RangeFuncCalls
import Derived.RangeFuncLeaves
import Derived.Test.YtppikpdphcfomaaHistImpl2
set_option linter.unusedVariables false
set_option linter.unusedSimpArgs false
namespace Go.Proofs.Ytppikpdphcfomaa
open Go.RowKit
namespace Hist
open Bas

/-- what is asked of the function: x is yielded in a world of which Px x holds -/
def SeqP {α : Type} (F : Fence) (n : Nat) (P : Program) (g : Nat) (lb : Array Value) (encs : α → Array Value) (Px : α → World → Prop) (Kp : World → World → Prop) (S Sp : List α → Prop) (N : Nat) (w : World) : Prop :=
  ∀ (l : Nat) (J Jx : List α → World → Prop) (W : World), Below w.heap.size w W → (∀ s A B, J s A → A.grownBy B none → J s B) →
    (∀ pre x W1, J pre W1 → Px x W1 → pre.length < N → YieldAt F (n - 1) P l (encs x) W1 fun e W' =>
      (e = .returned (.bool true) ∧ J (pre ++ [x]) W' ∧ Kp W1 W') ∨ (e = .returned (.bool false) ∧ Jx (pre ++ [x]) W')) →
    J [] W →
    CallsIn F n P g (#[.func (.yield l) #[] #[]] ++ lb) W fun e W' => (∃ v, e = .returned v) ∧ ((∃ ys, S ys ∧ J ys W') ∨ (∃ pre, Sp pre ∧ Jx pre W'))

theorem grown_none {A B : World} (h : Below A.heap.size A B) : A.grownBy B none := ⟨h.os, h.tape, h.output, h.size, fun k hk _ => h.block k hk⟩

variable {F : Fence} {n : Nat} {P : Program}

theorem rangeP {α : Type} {g : Operand} {ps : Array Tmp} {assign body : Code} {Q : Exit → Act → World → Prop} {a : Act} {w : World}
    (hro : F.round = none) (h1 : 1 ≤ n) {gf : Nat} {lb : Array Value} (hg : a.eval g = .func (.func gf) #[] lb) (hFg : F.fn gf) (eg : ∀ args w, (callFunc gf args).run P w = .ok (.enter gf args) w)
    {encs : α → Array Value} {Px : α → World → Prop} {Kp : World → World → Prop} {S Sp : List α → Prop} {N : Nat} (hseq : SeqP F (n - 1) P gf lb encs Px Kp S Sp N w) (hps : ∀ x, (encs x).size = ps.size)
    (hKt : ∀ {A B C : World}, Kp A B → Kp B C → Kp A C) (hKb : ∀ (W : World) (l : Nat) (o o' : Obj), w.heap.size ≤ l → W.heap[l]? = some o → o.isCells = false → Kp W (W.putObj l o'))
    (hPx : ∀ (x : α) (W : World) (l : Nat) (o o' : Obj), Px x W → w.heap.size ≤ l → W.heap[l]? = some o → o.isCells = false → Px x (W.putObj l o'))
    (I : List α → World → Prop) (Ix : Code → List α → World → Prop) (hI : OwnFrom w.heap.size I) (hIx : ∀ c, OwnFrom w.heap.size (Ix c)) (h0 : I [] w) (a₁ : α → Act)
    (hassign : ∀ (l : Nat) (x : α) (W : World) (K : Act → World → Prop), K (a₁ x) W → assign.wpIn (F.inRound l) (n - 1 - 1) P (Exit.then K (fun _ _ _ => False)) { tmps := (ps.zip (encs x)).foldl (fun t (p, v) => t.setIfInBounds p v) a.tmps, defers := [] } W)
    (hbody : ∀ (l : Nat) (pre : List α) (x : α) (W : World), I pre W → Px x W → pre.length < N → body.wpIn (F.inRound l) (n - 1 - 1) P (ownPostG w.heap.size Kp I Ix (pre ++ [x]) W) (a₁ x) W)
    (hdone : ∀ (D : Nat) (xs : List α) (W : World), w.heap.size ≤ D → S xs → I xs W → W.heap[D]? = some (.deferred (some [])) → Q .normal { a with defers := { target := .collected D, args := #[] } :: a.defers } W)
    (hstop : ∀ (D : Nat) (c : Code) (pre : List α) (W : World), w.heap.size ≤ D → Sp pre → Ix c pre W → W.heap[D]? = some (.deferred (some [])) → c.wpIn F n P Q { a with defers := { target := .collected D, args := #[] } :: a.defers } W) :
    (Code.rangeFunc g ps assign body).wpIn F n P Q a w := by
  refine wpIn_rangeFunc (fun fn hfn => ?_)
  obtain ⟨m, hm⟩ : ∃ m, w.heap.size = m := ⟨_, rfl⟩
  -- the loop's record, by its state and the jump that is pending; its block and the block of the deferred calls
  let rc : LoopState → Option Code → Loop := fun st pe => { state := st, pending := pe, fn, tmps := a.tmps, params := ps, assign, body, defers := m }
  have hen := run_enterLoop_outer (P := P) (w := w) fn a.tmps ps assign body
  rw [hm] at hen
  have hLK : ∀ W : World, W = (w.alloc (.deferred (some []))).alloc (.loop (rc .ready none)) → W.heap[m + 1]? = some (.loop (rc .ready none)) ∧ W.heap[m]? = some (.deferred (some [])) ∧ Below w.heap.size w W ∧ I [] W := fun W e => by
    subst e
    refine ⟨?_, ?_, ((Below.refl _ w).alloc (Nat.le_refl _) _).alloc (by simp) _, hI.alloc _ (hI.alloc _ h0)⟩
    · have := World.alloc_heap_new (w.alloc (.deferred (some []))) (.loop (rc .ready none)); rw [World.size_alloc, hm] at this; exact this
    · have := World.alloc_heap_new w (.deferred (some [])); rw [hm] at this
      exact (Below.heap_alloc _ _ _ (by simp [hm])).trans this
  obtain ⟨W1, hW1⟩ : ∃ W1, (w.alloc (.deferred (some []))).alloc (.loop (rc .ready none)) = W1 := ⟨_, rfl⟩
  obtain ⟨hL1, hK1, hB1, hI1⟩ := hLK W1 hW1.symm
  rw [hro]
  refine ⟨m + 1, _, W1, { target := .fn (.func gf) lb, args := #[.func (.yield (m + 1)) #[] #[]] }, W1, gf, #[.func (.yield (m + 1)) #[] #[]] ++ lb, W1, by rw [← hW1]; exact hen, ?_, ?_, by simp [invoke, go_sem, eg], fun _ => h1, ?_⟩
  · simp only [resolve, hg]
    simp [go_sem]
  · intro f' hf'
    simp [Target.leads] at hf'
    subst hf'; exact hFg
  rw [hm] at hI hIx hKb hPx hbody hdone hstop
  refine (hseq (m + 1) (fun pre W => (I pre W ∧ W.heap[m + 1]? = some (.loop (rc .ready none))) ∧ W.heap[m]? = some (.deferred (some [])))
    (fun pre W => ∃ c, (Ix c pre W ∧ W.heap[m + 1]? = some (.loop (rc .done (some c)))) ∧ W.heap[m]? = some (.deferred (some []))) W1 hB1
    (fun s A B hs hg' => ⟨⟨hI s A B none hs.1.1 hg' (fun r e => by cases e), (hg'.block _ (Array.getElem?_eq_some_iff.1 hs.1.2).1 (by simp)).trans hs.1.2⟩, (hg'.block _ (Array.getElem?_eq_some_iff.1 hs.2).1 (by simp)).trans hs.2⟩)
    ?_ ⟨⟨hI1, hL1⟩, hK1⟩).mono ?_
  · rintro pre x W ⟨⟨hi, hl⟩, hk⟩ hp hlen
    have hlt := (Array.getElem?_eq_some_iff.1 hl).1
    obtain ⟨V, hV⟩ : ∃ V, W.putObj (m + 1) (.loop { rc .ready none with state := .busy }) = V := ⟨_, rfl⟩
    have hbr : (Instr.beginRound (m + 1)).run P W = .ok () V := by rw [← hV]; exact run_beginRound hl rfl
    refine ⟨fn, _, assign, body, run_yield (P := P) (args := encs x) hl (hps x), roundIn_of_wpIn hfn (hassign _ x W _ ⟨V, hbr, ?_⟩)⟩
    have hl2 : V.heap[m + 1]? = some (.loop { rc .ready none with state := .busy }) := by rw [← hV]; exact World.putObj_heap_same hlt
    have hk2 : V.heap[m]? = some (.deferred (some [])) := by rw [← hV]; exact (World.putObj_heap_other (by omega)).trans hk
    have hi2 : I pre V := by rw [← hV]; exact hI.putObj _ hi (by omega) hl rfl
    have hp2 : Px x V := by rw [← hV]; exact hPx _ _ _ _ _ hp (by omega) hl rfl
    have hw2 : Kp W V := by rw [← hV]; exact hKb _ _ _ _ (by omega) hl rfl
    refine wpIn_mono (hbody _ pre x V hi2 hp2 hlen) ?_
    clear hV
    -- the round's end: the record takes its state and the jump
    have fin : ∀ (j : Option Code) (V3 : World), KeepsFrom m V V3 →
        (Instr.endRound (m + 1) j).run P V3 = .ok (.bool j.isNone) (V3.putObj (m + 1) (.loop (rc (if j.isNone then .ready else .done) j))) ∧ V3.heap[m + 1]? = some (.loop { rc .ready none with state := .busy }) ∧
        (V3.putObj (m + 1) (.loop (rc (if j.isNone then .ready else .done) j))).heap[m + 1]? = some (.loop (rc (if j.isNone then .ready else .done) j)) ∧ (V3.putObj (m + 1) (.loop (rc (if j.isNone then .ready else .done) j))).heap[m]? = some (.deferred (some [])) := fun j V3 hk3 => by
      have hl3 := hk3.same _ _ (by omega) hl2 rfl
      exact ⟨run_endRound (P := P) j hl3, hl3, World.putObj_heap_same (Array.getElem?_eq_some_iff.1 hl3).1, (World.putObj_heap_other (by omega)).trans (hk3.same _ _ (Nat.le_refl _) hk2 rfl)⟩
    have leave : ∀ (c : Code) (V3 : World), KeepsFrom m V V3 → Ix c (pre ++ [x]) V3 → ∃ v w', (Instr.endRound (m + 1) (some c)).run P V3 = .ok v w' ∧ ((Ending.returned v = .returned (.bool true) ∧ (((I (pre ++ [x]) w' ∧ w'.heap[m + 1]? = some (.loop (rc .ready none))) ∧ w'.heap[m]? = some (.deferred (some []))) ∧ Kp W w')) ∨ (Ending.returned v = .returned (.bool false) ∧ ∃ c, (Ix c (pre ++ [x]) w' ∧ w'.heap[m + 1]? = some (.loop (rc .done (some c)))) ∧ w'.heap[m]? = some (.deferred (some [])))) := fun c V3 hk3 hi3 => by
      obtain ⟨r1, r2, r3, r4⟩ := fin (some c) V3 hk3
      exact ⟨_, _, r1, .inr ⟨rfl, c, ⟨(hIx _).putObj _ hi3 (by omega) r2 rfl, r3⟩, r4⟩⟩
    rintro e a3 V3 hpost
    cases e with
    | normal =>
      obtain ⟨hk3, hkp3, hi3⟩ := hpost
      obtain ⟨r1, r2, r3, r4⟩ := fin none V3 hk3
      exact ⟨_, _, r1, .inl ⟨rfl, ⟨⟨hI.putObj _ hi3 (by omega) r2 rfl, r3⟩, r4⟩, hKt hw2 (hKt hkp3 (hKb _ _ _ _ (by omega) r2 rfl))⟩⟩
    | ret => exact leave _ V3 hpost.1 hpost.2
    | exit id => exact leave _ V3 hpost.1 hpost.2
    | goto t => exact leave _ V3 hpost.1 hpost.2
    | panic ch => exact hpost.elim
    | outgrown => exact hpost.elim
  · rintro e W2 ⟨⟨v, rfl⟩, (⟨ys, hS, ⟨hi, hl⟩, hk⟩ | ⟨pre, hSp, c, ⟨hi, hl⟩, hk⟩)⟩
    · exact ⟨none, _, run_endLoop (P := P) hl (by simp [rc]), hdone _ ys _ (Nat.le_refl _) hS (hI.putObj _ hi (by omega) hl rfl) ((World.putObj_heap_other (by omega)).trans hk)⟩
    · exact ⟨some c, _, run_endLoop (P := P) hl (by simp [rc]), hstop _ c pre _ (Nat.le_refl _) hSp ((hIx c).putObj _ hi (by omega) hl rfl) ((World.putObj_heap_other (by omega)).trans hk)⟩
end Hist
end Go.Proofs.Ytppikpdphcfomaa
