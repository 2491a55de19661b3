/- The walk of FnExactReadCode, given what both functions answer. -/
import Derived.Test.YtjopmakbnompnaaDoorCodeSrcSpec
import Derived.Test.YtjopmakbnompnaaDoorOpMark
set_option linter.unusedVariables false
set_option linter.unusedSimpArgs false
namespace Go.Proofs.YtjopmakbnompnaaDoor
open Go.RowKit
namespace Ops
open Bas Flat

theorem rd_len {L : Txt} {xs : List O4} {b : Bool} (h : RdCode L xs b) : xs.length ≤ 24 := by
  rcases h with ⟨-, h, -⟩ | ⟨-, rfl, -⟩
  · exact code_len h
  · simp

set_option maxRecDepth 100000 in
set_option maxHeartbeats 3200000 in
theorem walkReadCode (s : ByteArray) (w : World) (hs : s.size ≤ maxLen)
    (cS : s.size ≤ 1048576 → ∀ W : World, Calls Tryd.prog 19 #[.string s] W fun e w' => ToldCode W.heap.size s.data.toList e w' ∧ Below W.heap.size W w')
    (cI : s.size ≤ 1048576 → ∀ W : World, Below w.heap.size w W → Calls Tryd.prog 20 #[.string s] W fun e w' => ToldCode W.heap.size s.data.toList e w' ∧ Below W.heap.size W w') :
    Calls Tryd.prog 6 #[.string s] w fun e w' => e = .returned (.bool true) ∧ Below w.heap.size w w' := by
  have hsI : (s.size : Int) ≤ 9223372036854775807 := by unfold maxLen at hs; omega
  have HS := (show Hid _ from cS)
  have HI := (show Hid _ from cI)
  clear cS cI hs
  by_cases hle : (s.size : Int) ≤ 1048576
  · have hn : ¬ (1048576 : Int) < s.size := by omega
    go_enter Tryd.func6, Tryd.ntmps6
    go_wp2_with fail
    refine (HS.out (by omega) w).mono ?_
    rintro e w1 ⟨⟨v1, xs, b, rfl, O1, h1⟩, b1⟩
    have hlen := rd_len h1
    have H1 : Hid (RdCode s.data.toList xs b) := h1
    clear h1
    obtain ⟨a1, c1, rfl⟩ := O1.form
    obtain ⟨n, hnn⟩ : ∃ n, xs.length = n := ⟨_, rfl⟩
    rw [hnn] at O1 hlen ⊢
    have hlow1 : ∀ k, (Value.slice a1 n c1).ownBlock = some k → k < w1.heap.size := fun k hk => (O1.at k hk).2
    go_wp2_with fail
    refine (HI.out (by omega) w1 b1).mono ?_
    rintro e w2 ⟨⟨v2, ys, b', rfl, O2, h2⟩, b2⟩
    obtain ⟨rfl, rfl⟩ := RdCode.unique h2 H1.out
    clear h2
    obtain ⟨a2, c2, rfl⟩ := O2.form
    rw [hnn] at O2 ⊢
    have bb2 := b1.trans (b2.mono b1.size)
    have O1 := O1.on b2 (Nat.le_refl _)
    have dbb : (b' != b') = false := by simp
    go_wp2_with fail
    refine (eqOpsC _ _ ys w2.heap.size w2 O2.sees O1.sees (Nat.le_refl _)).mono ?_
    rintro e w3 ⟨rfl, b3⟩
    have bb3 := bb2.trans (b3.mono bb2.size)
    have O1 := O1.on b3 (Nat.le_refl _)
    have O2 := O2.on b3 (Nat.le_refl _)
    have hlow2 := O2.at
    go_wp2_with fail
    refine (markOpsC _ ys 1 _ w3 O2 (by omega) (by omega) (by omega)).mono ?_
    rw [hnn]
    rintro e w4 ⟨rfl, M4, G4⟩
    have O1 := O1.grown G4 (fun k hk e => by have := hlow1 k hk; have := hlow2 k e.symm; omega)
    have bb4 := bb3.grown G4 bb3.size (fun k hk => by have := (hlow2 k hk).1; have := b1.size; omega)
    have k1 : (0 : Int) ≤ 1 + 4 * (n : Int) := by omega
    have dk : ((1 + 4 * (n : Int)) != (1 + 4 * (n : Int))) = false := by simp
    obtain ⟨kk, hkk⟩ : ∃ kk, 1 + 4 * (n : Int) = kk := ⟨_, rfl⟩
    have HKK : Hid (1 + 4 * (n : Int) = kk) := hkk
    rw [hkk] at k1 dk ⊢
    have k1' : ¬ kk < 0 := by omega
    clear hkk
    go_wp2_with fail
    refine (heldOpsC _ n 1 _ w4 M4.sees (by omega) (by omega) (by omega)).mono ?_
    rw [HKK.out]
    rintro e w5 ⟨rfl, rfl⟩
    go_wp2_with fail
    refine (HI.out (by omega) w4 bb4).mono ?_
    rintro e w6 ⟨⟨v6, zs, b'', rfl, O6, h6⟩, b6⟩
    obtain ⟨rfl, rfl⟩ := RdCode.unique h6 H1.out
    clear h6
    obtain ⟨a6, c6, rfl⟩ := O6.form
    rw [hnn] at O6 ⊢
    have bb6 := bb4.trans (b6.mono bb4.size)
    have O1 := O1.on b6 (Nat.le_refl _)
    have M6 := M4.on b6 (Nat.le_refl _)
    go_wp2_with fail
    refine (eqOpsC _ _ zs w6.heap.size w6 O6.sees O1.sees (Nat.le_refl _)).mono ?_
    rintro e w7 ⟨rfl, b7⟩
    have bb7 := bb6.trans (b7.mono bb6.size)
    have M7 := M6.on b7 (Nat.le_refl _)
    go_wp2_with fail
    refine (heldOpsC _ n 1 _ w7 M7.sees (by omega) (by omega) (by omega)).mono ?_
    rw [HKK.out]
    rintro e w8 ⟨rfl, rfl⟩
    go_wp2
    go_ret
    exact ⟨rfl, bb7⟩
  · have hn : (1048576 : Int) < s.size := by omega
    go_enter Tryd.func6, Tryd.ntmps6
    go_wp2
    go_ret
    exact ⟨rfl, Below.refl _ _⟩
end Ops
end Go.Proofs.YtjopmakbnompnaaDoor
