/- The laws' own comparison of memories, of such as are equal. -/
import Derived.Test.YtpjcbdanahiapaaWordTo
namespace Go.Proofs.Ytpjcbdanahiapaa
open Go.RowKit
namespace Words

set_option maxRecDepth 100000 in
set_option maxHeartbeats 400000 in
theorem eqWordC (x : W3) (w : World) :
    Calls Try.prog 98 #[x.agg, x.agg] w fun e w' => e = .returned (.bool true) ∧ Below w.heap.size w w' := by
  go_enter Try.func98, Try.ntmps98
  go_wp2
  go_ret
  exact ⟨rfl, ((Below.refl _ _).alloc (Nat.le_refl _) _).alloc (by simp) _⟩

set_option maxRecDepth 100000 in
set_option maxHeartbeats 800000 in
theorem eqWordsC (v v' : Value) (ws : List W3) (B : Nat) (w : World) (hv : Sees B w v ws) (hv' : Sees B w v' ws) (hB : B ≤ w.heap.size) :
    Calls Try.prog 63 #[v, v'] w fun e w' => e = .returned (.bool true) ∧ Below w.heap.size w w' := by
  obtain ⟨a, cap, rfl, h1, h2, h3⟩ := hv
  obtain ⟨a', cap', rfl, h1', h2', h3'⟩ := hv'
  obtain ⟨n, hn⟩ : ∃ n, ws.length = n := ⟨_, rfl⟩
  have hm : (n : Int) ≤ 9223372036854775807 := by unfold maxLen at h2; omega
  rw [hn]
  obtain ⟨g, hg⟩ : ∃ g, w.heap.size = g := ⟨_, rfl⟩
  rw [hg] at hB ⊢
  clear h1 h2 h1' h2'
  go_enter Try.func63, Try.ntmps63
  go_wp2
  go_loopw [5] (fun i wr => ∃ k : Nat, k ≤ n ∧ i = .int .i64 k ∧ Below g w wr) (fun i _ => n - (intOf i).toNat)
  case atStart => exact ⟨0, Nat.zero_le _, rfl, Below.refl _ _⟩
  case round =>
    obtain ⟨k, hk, rfl, hb⟩ := hrel
    by_cases hlt : k < n
    · obtain ⟨b, off, rfl, hbB, hc⟩ := h3 (fun h => by simp [h] at hn; omega)
      obtain ⟨b', off', rfl, hbB', hc'⟩ := h3' (fun h => by simp [h] at hn; omega)
      obtain ⟨a0, a1, a2⟩ := (hc k (by omega)).on hb (by omega)
      obtain ⟨a0', a1', a2'⟩ := (hc' k (by omega)).on hb (by omega)
      obtain ⟨x, hx⟩ : ∃ x, ws[k] = x := ⟨_, rfl⟩
      rw [hx] at a0 a1 a2 a0' a1' a2'
      clear hx hc h3 hc' h3'
      go_wp2_with fail
      go_region_with (go_at_call 98; refine (eqWordC x _).mono ?_; rintro e w2 ⟨rfl, hb2⟩)
      all_goals
        go_wp2
        go_roundw
        case rel =>
          have hle : g ≤ wr.heap.size := by have := hb.size; omega
          refine ⟨k + 1, by omega, by go_num, ?_⟩
          first | exact hb.trans (hb2.mono hle) | exact hb.drew.trans (hb2.mono hle) | exact hb.drew.drew.trans (hb2.mono hle)
        case measure => simp [intOf]; omega
    · obtain rfl : k = n := by omega
      go_wp2
      go_ret
      exact ⟨rfl, hb⟩

set_option maxRecDepth 100000 in
set_option maxHeartbeats 400000 in
theorem eqMemC (c : Int) (v v' : Value) (ws : List W3) (B : Nat) (w : World) (hv : Sees B w v ws) (hv' : Sees B w v' ws) (hB : B ≤ w.heap.size) :
    Calls Try.prog 22 #[.agg #[.int .i64 c, v], .agg #[.int .i64 c, v']] w fun e w' => e = .returned (.bool true) ∧ Below w.heap.size w w' := by
  obtain ⟨a, cap, rfl⟩ := hv.form
  obtain ⟨a', cap', rfl⟩ := hv'.form
  have hb0 := ((Below.refl w.heap.size w).alloc (Nat.le_refl _) (.cells #[.int .i64 c, .slice a ws.length cap] 26)).alloc (by simp) (.cells #[.int .i64 c, .slice a' ws.length cap'] 26)
  have hv1 := hv.on hb0 hB
  have hv1' := hv'.on hb0 hB
  go_enter Try.func22, Try.ntmps22
  go_wp2_with fail
  refine (eqWordsC _ _ ws B _ hv1 hv1' (by simp; omega)).mono ?_
  rintro e w1 ⟨rfl, hb⟩
  go_wp2
  go_ret
  exact ⟨rfl, hb0.trans (hb.mono (by simp; omega))⟩
end Words
end Go.Proofs.Ytpjcbdanahiapaa
