/- What the specification's functions of chapter 5 answer. -/
import Derived.Test.YtppkohkcffnghaaShapeL
import Derived.Test.YtppkohkcffnghaaOpSpec
import Derived.Test.YtppkohkcffnghaaOpLaw
import Derived.Test.YtppkohkcffnghaaProgCmp
set_option linter.unusedVariables false
namespace Go.Proofs.Ytppkohkcffnghaa
open Go.RowKit
namespace Ops
open Bas Flat

theorem ret_i {a b : Int} (h : a = b) : Ending.returned (.int .i64 a) = .returned (.int .i64 b) := by rw [h]
theorem ret_b {a b : Bool} (h : a = b) : Ending.returned (.bool a) = .returned (.bool b) := by rw [h]
/-- an op of a code, by its kind: it begins a block, ends one, or neither -/
theorem kind3 (x : O4) : (x.k = 8 ∧ delta x = 1) ∨ (x.k = 9 ∧ delta x = -1) ∨ ((x.k == 8) = false ∧ (x.k == 9) = false ∧ delta x = 0) := by
  unfold delta
  by_cases h8 : x.k = 8
  · exact .inl ⟨h8, if_pos h8⟩
  · by_cases h9 : x.k = 9
    · exact .inr (.inl ⟨h9, by rw [if_neg h8, if_pos h9]⟩)
    · exact .inr (.inr ⟨by simp [h8], by simp [h9], by rw [if_neg h8, if_neg h9]⟩)
/-- the cells of the op at place k -/
theorem see4 {B : Nat} {w : World} {b off : Nat} {xs : List O4} (hc : ∀ j (h : j < xs.length), At opEl w b (off + j * opEl.sz) xs[j]) (k : Nat) (hk : k < xs.length) :
    w.cell? ⟨b, off + k * 4, none⟩ = some (.int .i64 xs[k].k) ∧ w.cell? ⟨b, off + k * 4 + 1, none⟩ = some (.int .i64 xs[k].a) ∧ w.cell? ⟨b, off + k * 4 + 2, none⟩ = some (.int .i64 xs[k].b) ∧ w.cell? ⟨b, off + k * 4 + 3, none⟩ = some (.int .i64 xs[k].c) := at4 (hc k hk)

set_option maxRecDepth 100000 in
set_option maxHeartbeats 1600000 in
theorem forkSpec (v : Value) (xs : List O4) (B : Nat) (w : World) (hv : Sees4 B w v xs) (hlen : xs.length ≤ 1048576) :
    Calls Try.prog 51 #[v] w fun e w' => e = .returned (.bool (hasFork xs)) ∧ w = w' := by
  obtain ⟨a, cap, rfl⟩ := hv.form
  obtain ⟨n, hn⟩ : ∃ n, xs.length = n := ⟨_, rfl⟩
  rw [hn] at hv hlen ⊢
  go_enter Try.func51, Try.ntmps51
  go_wp2
  go_loop [3] (fun i' => ∃ k : Nat, k ≤ n ∧ i' = .int .i64 k ∧ ∀ j (h : j < xs.length), j < k → ¬ xs[j].k = 11) (fun i' => n - (intOf i').toNat)
  case atStart => exact ⟨0, Nat.zero_le _, rfl, fun j _ h => by omega⟩
  case round =>
    obtain ⟨k, hk, rfl, hall⟩ := hrel
    by_cases hlt : k < n
    · obtain ⟨b, off, rfl, hb, hc⟩ := hv.open (by omega)
      obtain ⟨a0, -, -, -⟩ := see4 (B := B) hc k (by omega)
      by_cases h11 : xs[k].k = 11
      · have HF : Hid (true = hasFork xs) := (hasFork_yes (by omega) h11).symm
        rw [h11] at a0
        clear hc hall h11
        go_wp2
        go_ret
        exact ⟨ret_b HF.out, rfl⟩
      · have HA : Hid (∀ j (h : j < xs.length), j < k + 1 → ¬ xs[j].k = 11) := fun j hj hjk => by
          rcases Nat.lt_succ_iff_lt_or_eq.1 hjk with h | h
          · exact hall j hj h
          · subst h; exact h11
        have d11 : (xs[k].k == 11) = false := by simp [h11]
        obtain ⟨q, hq⟩ : ∃ q, xs[k].k = q := ⟨_, rfl⟩
        rw [hq] at a0 d11
        clear hc hall h11 hq
        go_wp2
        go_round
        case rel => exact ⟨k + 1, by omega, by go_num, HA.out⟩
        case measure => simp [intOf]; omega
    · have HF : Hid (false = hasFork xs) := (hasFork_no fun j hj => hall j hj (by omega)).symm
      clear hall
      go_wp2
      go_ret
      exact ⟨ret_b HF.out, rfl⟩
end Ops
end Go.Proofs.Ytppkohkcffnghaa
