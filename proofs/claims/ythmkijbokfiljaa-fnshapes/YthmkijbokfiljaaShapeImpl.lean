/- What the program's DepthAt and HasFork answer. -/
import Derived.Test.YthmkijbokfiljaaShapeL
set_option linter.unusedVariables false
set_option linter.unusedSimpArgs false
namespace Go.Proofs.Ythmkijbokfiljaa
open Go.RowKit
namespace Ops
open Bas Flat

theorem retI {a b : Int} (h : a = b) : Ending.returned (.int .i64 a) = .returned (.int .i64 b) := by rw [h]
theorem retB {a b : Bool} (h : a = b) : Ending.returned (.bool a) = .returned (.bool b) := by rw [h]
theorem kindI (x : O4) : (x.k = 8 ∧ delta x = 1) ∨ (x.k = 9 ∧ delta x = -1) ∨ ((x.k == 8) = false ∧ (x.k == 9) = false ∧ delta x = 0) := by
  unfold delta
  by_cases h8 : x.k = 8
  · exact .inl ⟨h8, if_pos h8⟩
  · by_cases h9 : x.k = 9
    · exact .inr (.inl ⟨h9, by rw [if_neg h8, if_pos h9]⟩)
    · exact .inr (.inr ⟨by simp [h8], by simp [h9], by rw [if_neg h8, if_neg h9]⟩)
/-- the cells of the op at place k -/
theorem seeI {w : World} {b off : Nat} {xs : List O4} (hc : ∀ j (h : j < xs.length), At opEl w b (off + j * opEl.sz) xs[j]) (k : Nat) (hk : k < xs.length) :
    w.cell? ⟨b, off + k * 4, none⟩ = some (.int .i64 xs[k].k) ∧ w.cell? ⟨b, off + k * 4 + 1, none⟩ = some (.int .i64 xs[k].a) ∧ w.cell? ⟨b, off + k * 4 + 2, none⟩ = some (.int .i64 xs[k].b) ∧ w.cell? ⟨b, off + k * 4 + 3, none⟩ = some (.int .i64 xs[k].c) := at4 (hc k hk)

set_option maxRecDepth 100000 in
set_option maxHeartbeats 1600000 in
theorem forkImpl (v : Value) (xs : List O4) (B : Nat) (w : World) (hv : Sees4 B w v xs) (hB : B ≤ w.heap.size) (hlen : xs.length ≤ 1048576) :
    Calls Try.prog 21 #[v] w fun e w' => e = .returned (.bool (hasFork xs)) ∧ Below w.heap.size w w' := by
  obtain ⟨a, cap, rfl⟩ := hv.form
  obtain ⟨n, hn⟩ : ∃ n, xs.length = n := ⟨_, rfl⟩
  rw [hn] at hv hlen ⊢
  obtain ⟨g, hg⟩ : ∃ g, w.heap.size = g := ⟨_, rfl⟩
  rw [hg] at hB ⊢
  have hb0 : Below g w w := Below.refl _ _
  go_enter Try.func21, Try.ntmps21
  go_wp2
  go_loopw [7] (fun i' wr => ∃ k : Nat, k ≤ n ∧ i' = .int .i64 k ∧ (∀ j (h : j < xs.length), j < k → ¬ xs[j].k = 11) ∧ Below g w wr) (fun i' _ => n - (intOf i').toNat)
  case atStart => exact ⟨0, Nat.zero_le _, rfl, fun j _ h => by omega, hb0⟩
  case round =>
    obtain ⟨k, hk, rfl, hall, hb⟩ := hrel
    clear hb0
    have hsz : g ≤ wr.heap.size := by have := hb.size; omega
    by_cases hlt : k < n
    · obtain ⟨b, off, rfl, hbB, hc⟩ := (hv.on hb hB).open (by omega)
      obtain ⟨a0, a1, a2, a3⟩ := seeI hc k (by omega)
      have i1 : (k : Int) < n := by omega
      by_cases h11 : xs[k].k = 11
      · have HF : Hid (true = hasFork xs) := (hasFork_yes (by omega) h11).symm
        rw [h11] at a0
        obtain ⟨x, hx⟩ : ∃ x, xs[k] = x := ⟨_, rfl⟩
        rw [hx] at a1 a2 a3
        clear hc hall h11 hx
        go_wp2
        go_ret
        refine ⟨retB HF.out, ?_⟩
        exact hb.alloc hsz _
      · have HA : Hid (∀ j (h : j < xs.length), j < k + 1 → ¬ xs[j].k = 11) := fun j hj hjk => by
          rcases Nat.lt_succ_iff_lt_or_eq.1 hjk with h | h
          · exact hall j hj h
          · subst h; exact h11
        have d11 : (xs[k].k == 11) = false := by simp [h11]
        obtain ⟨x, hx⟩ : ∃ x, xs[k] = x := ⟨_, rfl⟩
        rw [hx] at a0 a1 a2 a3 d11
        clear hc hall h11 hx
        go_wp2
        go_roundw
        case rel => exact ⟨k + 1, by omega, by go_num, HA.out, hb.alloc hsz _⟩
        case measure => simp [intOf]; omega
    · have HF : Hid (false = hasFork xs) := (hasFork_no fun j hj => hall j hj (by omega)).symm
      have i1 : ¬ (k : Int) < n := by omega
      clear hall
      go_wp2
      go_ret
      exact ⟨retB HF.out, hb⟩

/-- where the range ends -/
theorem bound_of (xs : List O4) (i : Int) (n : Nat) (hn : xs.length = n) : ∃ t : Nat, t ≤ n ∧ depthAt xs i = dsum (xs.take t) ∧ ((i < 0 ∧ t = 0) ∨ (i = 0 ∧ t = 0) ∨ (0 < i ∧ i ≤ n ∧ i = t) ∨ ((n : Int) < i ∧ t = n ∧ 0 < n) ∨ (0 < i ∧ t = 0 ∧ n = 0)) := by
  unfold depthAt
  by_cases h0 : i < 0
  · exact ⟨0, by omega, by rw [show i.toNat = 0 by omega], .inl ⟨h0, rfl⟩⟩
  · by_cases h2 : i = 0
    · exact ⟨0, by omega, by rw [h2]; rfl, .inr (.inl ⟨h2, rfl⟩)⟩
    · by_cases hn0 : n = 0
      · exact ⟨0, by omega, by rw [List.take_of_length_le (by omega), List.take_of_length_le (by omega)], .inr (.inr (.inr (.inr ⟨by omega, rfl, hn0⟩)))⟩
      · by_cases h1 : i ≤ n
        · exact ⟨i.toNat, by omega, rfl, .inr (.inr (.inl ⟨by omega, h1, by omega⟩))⟩
        · exact ⟨n, by omega, by rw [List.take_of_length_le (by omega), List.take_of_length_le (by omega)], .inr (.inr (.inr (.inl ⟨by omega, rfl, by omega⟩)))⟩

set_option maxRecDepth 100000 in
set_option maxHeartbeats 3200000 in
theorem depthImpl (v : Value) (xs : List O4) (i : Int) (B : Nat) (w : World) (hv : Sees4 B w v xs) (hB : B ≤ w.heap.size) (hlen : xs.length ≤ 1048576) :
    Calls Try.prog 11 #[v, .int .i64 i] w fun e w' => e = .returned (.int .i64 (depthAt xs i)) ∧ Below w.heap.size w w' := by
  obtain ⟨a, cap, rfl, hcap, hcm, hcells⟩ := hv
  have hv : Sees4 B w (.slice a xs.length cap) xs := ⟨a, cap, rfl, hcap, hcm, hcells⟩
  obtain ⟨n, hn⟩ : ∃ n, xs.length = n := ⟨_, rfl⟩
  obtain ⟨t, ht, hD, hcase⟩ := bound_of xs i n hn
  rw [hD]
  rw [hn] at hv hlen hcap ⊢
  clear hcells hD
  have q1 : (n : Int) ≤ cap := by omega
  have q2 : (t : Int) ≤ cap := by omega
  obtain ⟨g, hg⟩ : ∃ g, w.heap.size = g := ⟨_, rfl⟩
  rw [hg] at hB ⊢
  have hb0 : Below g w w := Below.refl _ _
  have key : Calls Try.prog 11 #[.slice a n cap, .int .i64 i] w fun e w' => e = .returned (.int .i64 (dsum (xs.take t))) ∧ Below g w w' := by
    rcases hcase with ⟨h1, rfl⟩ | ⟨rfl, rfl⟩ | ⟨h1, h2, rfl⟩ | ⟨h1, rfl, h2⟩ | ⟨h1, rfl, rfl⟩
    · go_enter Try.func11, Try.ntmps11
      go_wp2
      go_loopw [5, 16] (fun d i' wr => ∃ k : Nat, k ≤ 0 ∧ i' = .int .i64 k ∧ d = .int .i64 (dsum (xs.take k)) ∧ Below g w wr) (fun _ i' _ => 0 - (intOf i').toNat)
      case atStart => exact ⟨0, Nat.zero_le _, rfl, rfl, hb0⟩
      case round =>
        obtain ⟨k, hk, rfl, rfl, hb⟩ := hrel
        clear hb0
        have hsz : g ≤ wr.heap.size := by have := hb.size; omega
        have hd := dsum_take_range xs k
        obtain ⟨d, hdd⟩ : ∃ d, dsum (xs.take k) = d := ⟨_, rfl⟩
        by_cases hlt : k < 0
        · exact absurd hlt (by omega)
        · have HF : Hid (dsum (xs.take k) = dsum (xs.take 0)) := by
            show _ = _
            rw [show k = 0 by omega]
          have i1 : ¬ (k : Int) < 0 := by omega
          rw [hdd] at hd HF ⊢
          clear hdd
          go_wp2
          go_ret
          exact ⟨retI HF.out, hb⟩
    · go_enter Try.func11, Try.ntmps11
      go_wp2
      go_loopw [5, 16] (fun d i' wr => ∃ k : Nat, k ≤ 0 ∧ i' = .int .i64 k ∧ d = .int .i64 (dsum (xs.take k)) ∧ Below g w wr) (fun _ i' _ => 0 - (intOf i').toNat)
      case atStart => exact ⟨0, Nat.zero_le _, rfl, rfl, hb0⟩
      case round =>
        obtain ⟨k, hk, rfl, rfl, hb⟩ := hrel
        clear hb0
        have hsz : g ≤ wr.heap.size := by have := hb.size; omega
        have hd := dsum_take_range xs k
        obtain ⟨d, hdd⟩ : ∃ d, dsum (xs.take k) = d := ⟨_, rfl⟩
        by_cases hlt : k < 0
        · exact absurd hlt (by omega)
        · have HF : Hid (dsum (xs.take k) = dsum (xs.take 0)) := by
            show _ = _
            rw [show k = 0 by omega]
          have i1 : ¬ (k : Int) < 0 := by omega
          rw [hdd] at hd HF ⊢
          clear hdd
          go_wp2
          go_ret
          exact ⟨retI HF.out, hb⟩
    · go_enter Try.func11, Try.ntmps11
      go_wp2
      go_loopw [5, 16] (fun d i' wr => ∃ k : Nat, k ≤ t ∧ i' = .int .i64 k ∧ d = .int .i64 (dsum (xs.take k)) ∧ Below g w wr) (fun _ i' _ => t - (intOf i').toNat)
      case atStart => exact ⟨0, Nat.zero_le _, rfl, rfl, hb0⟩
      case round =>
        obtain ⟨k, hk, rfl, rfl, hb⟩ := hrel
        clear hb0
        have hsz : g ≤ wr.heap.size := by have := hb.size; omega
        have hd := dsum_take_range xs k
        obtain ⟨d, hdd⟩ : ∃ d, dsum (xs.take k) = d := ⟨_, rfl⟩
        by_cases hlt : k < t
        · obtain ⟨b, off, rfl, hbB, hc⟩ := (hv.on hb hB).open (by omega)
          obtain ⟨a0, a1, a2, a3⟩ := seeI hc k (by omega)
          have i1 : (k : Int) < t := by omega
          have HS : Hid (dsum (xs.take (k + 1)) = dsum (xs.take k) + delta xs[k]) := dsum_take (by omega)
          rw [hdd] at hd HS ⊢
          obtain ⟨x, hx⟩ : ∃ x, xs[k] = x := ⟨_, rfl⟩
          rw [hx] at a0 a1 a2 a3 HS
          clear hc hx hdd
          rcases kindI x with ⟨h8, hD⟩ | ⟨h9, hD⟩ | ⟨h8, h9, hD⟩
          · rw [h8] at a0
            rw [hD] at HS
            clear h8 hD
            go_wp2
            go_roundw
            case rel => exact ⟨k + 1, by omega, by go_num, by rw [HS.out], hb.alloc hsz _⟩
            case measure => simp [intOf]; omega
          · rw [h9] at a0
            rw [hD] at HS
            clear h9 hD
            go_wp2
            go_roundw
            case rel => exact ⟨k + 1, by omega, by go_num, by rw [HS.out]; go_num, hb.alloc hsz _⟩
            case measure => simp [intOf]; omega
          · rw [hD] at HS
            clear hD
            go_wp2
            go_roundw
            case rel => exact ⟨k + 1, by omega, by go_num, by rw [HS.out]; go_num, hb.alloc hsz _⟩
            case measure => simp [intOf]; omega
        · have HF : Hid (dsum (xs.take k) = dsum (xs.take t)) := by
            show _ = _
            rw [show k = t by omega]
          have i1 : ¬ (k : Int) < t := by omega
          rw [hdd] at hd HF ⊢
          clear hdd
          go_wp2
          go_ret
          exact ⟨retI HF.out, hb⟩
    · go_enter Try.func11, Try.ntmps11
      go_wp2
      go_loopw [5, 16] (fun d i' wr => ∃ k : Nat, k ≤ t ∧ i' = .int .i64 k ∧ d = .int .i64 (dsum (xs.take k)) ∧ Below g w wr) (fun _ i' _ => t - (intOf i').toNat)
      case atStart => exact ⟨0, Nat.zero_le _, rfl, rfl, hb0⟩
      case round =>
        obtain ⟨k, hk, rfl, rfl, hb⟩ := hrel
        clear hb0
        have hsz : g ≤ wr.heap.size := by have := hb.size; omega
        have hd := dsum_take_range xs k
        obtain ⟨d, hdd⟩ : ∃ d, dsum (xs.take k) = d := ⟨_, rfl⟩
        by_cases hlt : k < t
        · obtain ⟨b, off, rfl, hbB, hc⟩ := (hv.on hb hB).open (by omega)
          obtain ⟨a0, a1, a2, a3⟩ := seeI hc k (by omega)
          have i1 : (k : Int) < t := by omega
          have HS : Hid (dsum (xs.take (k + 1)) = dsum (xs.take k) + delta xs[k]) := dsum_take (by omega)
          rw [hdd] at hd HS ⊢
          obtain ⟨x, hx⟩ : ∃ x, xs[k] = x := ⟨_, rfl⟩
          rw [hx] at a0 a1 a2 a3 HS
          clear hc hx hdd
          rcases kindI x with ⟨h8, hD⟩ | ⟨h9, hD⟩ | ⟨h8, h9, hD⟩
          · rw [h8] at a0
            rw [hD] at HS
            clear h8 hD
            go_wp2
            go_roundw
            case rel => exact ⟨k + 1, by omega, by go_num, by rw [HS.out], hb.alloc hsz _⟩
            case measure => simp [intOf]; omega
          · rw [h9] at a0
            rw [hD] at HS
            clear h9 hD
            go_wp2
            go_roundw
            case rel => exact ⟨k + 1, by omega, by go_num, by rw [HS.out]; go_num, hb.alloc hsz _⟩
            case measure => simp [intOf]; omega
          · rw [hD] at HS
            clear hD
            go_wp2
            go_roundw
            case rel => exact ⟨k + 1, by omega, by go_num, by rw [HS.out]; go_num, hb.alloc hsz _⟩
            case measure => simp [intOf]; omega
        · have HF : Hid (dsum (xs.take k) = dsum (xs.take t)) := by
            show _ = _
            rw [show k = t by omega]
          have i1 : ¬ (k : Int) < t := by omega
          rw [hdd] at hd HF ⊢
          clear hdd
          go_wp2
          go_ret
          exact ⟨retI HF.out, hb⟩
    · go_enter Try.func11, Try.ntmps11
      go_wp2
      go_loopw [5, 16] (fun d i' wr => ∃ k : Nat, k ≤ 0 ∧ i' = .int .i64 k ∧ d = .int .i64 (dsum (xs.take k)) ∧ Below g w wr) (fun _ i' _ => 0 - (intOf i').toNat)
      case atStart => exact ⟨0, Nat.zero_le _, rfl, rfl, hb0⟩
      case round =>
        obtain ⟨k, hk, rfl, rfl, hb⟩ := hrel
        clear hb0
        have hsz : g ≤ wr.heap.size := by have := hb.size; omega
        have hd := dsum_take_range xs k
        obtain ⟨d, hdd⟩ : ∃ d, dsum (xs.take k) = d := ⟨_, rfl⟩
        by_cases hlt : k < 0
        · exact absurd hlt (by omega)
        · have HF : Hid (dsum (xs.take k) = dsum (xs.take 0)) := by
            show _ = _
            rw [show k = 0 by omega]
          have i1 : ¬ (k : Int) < 0 := by omega
          rw [hdd] at hd HF ⊢
          clear hdd
          go_wp2
          go_ret
          exact ⟨retI HF.out, hb⟩
  exact key
end Ops
end Go.Proofs.Ythmkijbokfiljaa
