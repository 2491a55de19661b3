/- slices.Clone of numbers. -/
import Derived.Test.YtppikpdphcfomaaIntApp
import Derived.Lib.SliceRun
set_option linter.unusedVariables false
namespace Go.Proofs.Ytppikpdphcfomaa
open Go.RowKit
namespace Ints
open Bas

set_option maxRecDepth 100000 in
set_option maxHeartbeats 1600000 in
theorem cloneC (v : Value) (zs : List Int) (B : Nat) (w : World) (hv : Sees B w v zs) (hB : B ≤ w.heap.size) (hlen : zs.length ≤ 1048576) :
    Calls Try.prog 43 #[v] w fun e w' => ∃ v', e = .returned v' ∧ Owns w.heap.size w' v' zs ∧ Below w.heap.size w w' := by
  have qT : ∀ (w : World) (a : Option Addr) (n c n' c' : Nat), (binOp .eql 24 (.slice a n c) (.slice none n' c')).run Try.prog w = .ok (.bool a.isNone) w := fun w a n c n' c' => Lib.run_eql_slice_nil w _ _ a n c n' c' Try.underlying24
  obtain ⟨a, cap, rfl, h1, h2, h3⟩ := id hv
  cases a with
  | none =>
    have hz : zs = [] := by
      by_cases h : zs = []
      · exact h
      · obtain ⟨b, off, h, -⟩ := h3 h; cases h
    subst hz
    go_enter Try.func43, Try.ntmps43
    go_wp2
    go_ret
    exact ⟨_, rfl, ⟨by simp [iv], .inl ⟨rfl, rfl⟩⟩, Below.refl _ _⟩
  | some ad =>
    have u0 := owns_lit w (Nat.le_refl _)
    have b0 := alloc_below w (.cells #[] 3)
    have hv0 := hv.on b0 hB
    obtain ⟨q, hq⟩ : ∃ q, w.heap.size = q := ⟨_, rfl⟩
    have hq1 : (w.alloc (.cells #[] 3)).heap.size = q + 1 := by rw [← hq]; simp
    rw [hq] at u0 b0
    obtain ⟨n, hn⟩ : ∃ n, zs.length = n := ⟨_, rfl⟩
    rw [hn] at hv0 ⊢
    obtain ⟨w0, hw0⟩ : ∃ w0, w.alloc (.cells #[] 3) = w0 := ⟨_, rfl⟩
    rw [hw0] at u0 b0 hv0 hq1
    obtain ⟨v3, w4, hr3, O3, G3, L3⟩ := appJ (.slice (some ⟨q, 0, none⟩) 0 0) (.slice (some ad) n cap) 24 [] zs B q w0 u0 (by omega) hv0 (by simp; omega)
    rw [List.nil_append] at O3
    have bF : Below q w w4 := b0.grown G3 (by omega) (fun k hk => by cases hk; exact Nat.le_refl _)
    rw [hq]
    clear h3 hn h1 h2
    go_enter Try.func43, Try.ntmps43
    go_wp2_with (at_builtin; refine wpList_app _ rfl (.tmp 5) (.tmp 6) 24 rfl _ _ _ _ rfl rfl hr3 ?_)
    go_ret
    exact ⟨_, rfl, O3, bF⟩
end Ints
end Go.Proofs.Ytppikpdphcfomaa
