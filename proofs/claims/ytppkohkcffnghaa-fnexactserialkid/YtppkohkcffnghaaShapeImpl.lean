/- What the program's DepthAt and HasFork answer. -/
import Derived.Test.YtppkohkcffnghaaShapeL
set_option linter.unusedVariables false
set_option linter.unusedSimpArgs false
namespace Go.Proofs.Ytppkohkcffnghaa
open Go.RowKit
namespace Ops
open Bas Flat

theorem retI {a b : Int} (h : a = b) : Ending.returned (.int .i64 a) = .returned (.int .i64 b) := by rw [h]
theorem retB {a b : Bool} (h : a = b) : Ending.returned (.bool a) = .returned (.bool b) := by rw [h]
theorem kindI (x : O4) : (x.k = 8 ∧ delta x = 1) ∨ (x.k = 9 ∧ delta x = -1) ∨ ((x.k == 8) = false ∧ (x.k == 9) = false ∧ delta x = 0) := by
  unfold delta
  by_cases h8 : x.k = 8
  · exact .inl ⟨h8, if_pos h8⟩
  · by_cases h9 : x.k = 9
    · exact .inr (.inl ⟨h9, by rw [if_neg h8, if_pos h9]⟩)
    · exact .inr (.inr ⟨by simp [h8], by simp [h9], by rw [if_neg h8, if_neg h9]⟩)
/-- the cells of the op at place k -/
theorem seeI {w : World} {b off : Nat} {xs : List O4} (hc : ∀ j (h : j < xs.length), At opEl w b (off + j * opEl.sz) xs[j]) (k : Nat) (hk : k < xs.length) :
    w.cell? ⟨b, off + k * 4, none⟩ = some (.int .i64 xs[k].k) ∧ w.cell? ⟨b, off + k * 4 + 1, none⟩ = some (.int .i64 xs[k].a) ∧ w.cell? ⟨b, off + k * 4 + 2, none⟩ = some (.int .i64 xs[k].b) ∧ w.cell? ⟨b, off + k * 4 + 3, none⟩ = some (.int .i64 xs[k].c) := at4 (hc k hk)

set_option maxRecDepth 100000 in
set_option maxHeartbeats 1600000 in
theorem forkImpl (v : Value) (xs : List O4) (B : Nat) (w : World) (hv : Sees4 B w v xs) (hB : B ≤ w.heap.size) (hlen : xs.length ≤ 1048576) :
    Calls Try.prog 93 #[v] w fun e w' => e = .returned (.bool (hasFork xs)) ∧ Below w.heap.size w w' := by
  obtain ⟨a, cap, rfl⟩ := hv.form
  obtain ⟨n, hn⟩ : ∃ n, xs.length = n := ⟨_, rfl⟩
  rw [hn] at hv hlen ⊢
  obtain ⟨g, hg⟩ : ∃ g, w.heap.size = g := ⟨_, rfl⟩
  rw [hg] at hB ⊢
  have hb0 : Below g w w := Below.refl _ _
  go_enter Try.func93, Try.ntmps93
  go_wp2
  go_loopw [7] (fun i' wr => ∃ k : Nat, k ≤ n ∧ i' = .int .i64 k ∧ (∀ j (h : j < xs.length), j < k → ¬ xs[j].k = 11) ∧ Below g w wr) (fun i' _ => n - (intOf i').toNat)
  case atStart => exact ⟨0, Nat.zero_le _, rfl, fun j _ h => by omega, hb0⟩
  case round =>
    obtain ⟨k, hk, rfl, hall, hb⟩ := hrel
    clear hb0
    have hsz : g ≤ wr.heap.size := by have := hb.size; omega
    by_cases hlt : k < n
    · obtain ⟨b, off, rfl, hbB, hc⟩ := (hv.on hb hB).open (by omega)
      obtain ⟨a0, a1, a2, a3⟩ := seeI hc k (by omega)
      have i1 : (k : Int) < n := by omega
      by_cases h11 : xs[k].k = 11
      · have HF : Hid (true = hasFork xs) := (hasFork_yes (by omega) h11).symm
        rw [h11] at a0
        obtain ⟨x, hx⟩ : ∃ x, xs[k] = x := ⟨_, rfl⟩
        rw [hx] at a1 a2 a3
        clear hc hall h11 hx
        go_wp2
        go_ret
        refine ⟨retB HF.out, ?_⟩
        exact hb.alloc hsz _
      · have HA : Hid (∀ j (h : j < xs.length), j < k + 1 → ¬ xs[j].k = 11) := fun j hj hjk => by
          rcases Nat.lt_succ_iff_lt_or_eq.1 hjk with h | h
          · exact hall j hj h
          · subst h; exact h11
        have d11 : (xs[k].k == 11) = false := by simp [h11]
        obtain ⟨x, hx⟩ : ∃ x, xs[k] = x := ⟨_, rfl⟩
        rw [hx] at a0 a1 a2 a3 d11
        clear hc hall h11 hx
        go_wp2
        go_roundw
        case rel => exact ⟨k + 1, by omega, by go_num, HA.out, hb.alloc hsz _⟩
        case measure => simp [intOf]; omega
    · have HF : Hid (false = hasFork xs) := (hasFork_no fun j hj => hall j hj (by omega)).symm
      have i1 : ¬ (k : Int) < n := by omega
      clear hall
      go_wp2
      go_ret
      exact ⟨retB HF.out, hb⟩

/-- where the range ends -/
theorem bound_of (xs : List O4) (i : Int) (n : Nat) (hn : xs.length = n) : ∃ t : Nat, t ≤ n ∧ depthAt xs i = dsum (xs.take t) ∧ ((i < 0 ∧ t = 0) ∨ (i = 0 ∧ t = 0) ∨ (0 < i ∧ i ≤ n ∧ i = t) ∨ ((n : Int) < i ∧ t = n ∧ 0 < n) ∨ (0 < i ∧ t = 0 ∧ n = 0)) := by
  unfold depthAt
  by_cases h0 : i < 0
  · exact ⟨0, by omega, by rw [show i.toNat = 0 by omega], .inl ⟨h0, rfl⟩⟩
  · by_cases h2 : i = 0
    · exact ⟨0, by omega, by rw [h2]; rfl, .inr (.inl ⟨h2, rfl⟩)⟩
    · by_cases hn0 : n = 0
      · exact ⟨0, by omega, by rw [List.take_of_length_le (by omega), List.take_of_length_le (by omega)], .inr (.inr (.inr (.inr ⟨by omega, rfl, hn0⟩)))⟩
      · by_cases h1 : i ≤ n
        · exact ⟨i.toNat, by omega, rfl, .inr (.inr (.inl ⟨by omega, h1, by omega⟩))⟩
        · exact ⟨n, by omega, by rw [List.take_of_length_le (by omega), List.take_of_length_le (by omega)], .inr (.inr (.inr (.inl ⟨by omega, rfl, by omega⟩)))⟩

end Ops
end Go.Proofs.Ytppkohkcffnghaa
