/- The laws' own conversions of a memory that came in. -/
import Derived.Test.YtpjcbdanahiapaaWordRow
namespace Go.Proofs.Ytpjcbdanahiapaa
open Go.RowKit
namespace Words

set_option maxRecDepth 100000 in
set_option maxHeartbeats 400000 in
theorem toWordC (x : W3) (w : World) :
    Calls Try.prog 97 #[x.agg] w fun e w' => e = .returned x.agg ∧ Below w.heap.size w w' := by
  go_enter Try.func97, Try.ntmps97
  go_wp2
  exact bodyPost_ret (v := x.agg) (by simp [results, Try.results97, go_sem]) rfl ⟨rfl, (((Below.refl _ _).alloc (Nat.le_refl _) _).alloc (by simp) _).alloc (by simp; omega) _⟩

set_option maxRecDepth 100000 in
set_option maxHeartbeats 400000 in
theorem szMem_le (c : Int) (v : Value) (ws : List W3) (B : Nat) (w : World) (hv : Sees B w v ws) (h : ws.length ≤ 1048576) :
    Calls Try.prog 19 #[.agg #[.int .i64 c, v], .int .i64 1048576] w fun e w' => e = .returned (.int .i64 (1048576 - (ws.length : Int))) ∧ Below w.heap.size w w' := by
  obtain ⟨a, cap, rfl, h1, h2, -⟩ := hv
  obtain ⟨n, hn⟩ : ∃ n, ws.length = n := ⟨_, rfl⟩
  rw [hn] at h ⊢
  clear hn h1 h2
  have h' : (n : Int) ≤ 1048576 := by omega
  go_enter Try.func19, Try.ntmps19
  go_wp2
  go_ret
  exact ⟨rfl, (Below.refl _ _).alloc (Nat.le_refl _) _⟩

set_option maxRecDepth 100000 in
set_option maxHeartbeats 400000 in
theorem szMem_gt (c : Int) (v : Value) (ws : List W3) (B : Nat) (w : World) (hv : Sees B w v ws) (h : ¬ ws.length ≤ 1048576) :
    Calls Try.prog 19 #[.agg #[.int .i64 c, v], .int .i64 1048576] w fun e w' => e = .returned (.int .i64 (-1)) ∧ Below w.heap.size w w' := by
  obtain ⟨a, cap, rfl, h1, h2, -⟩ := hv
  have h3 : (ws.length : Int) ≤ 9223372036854775807 := by unfold maxLen at h2; omega
  obtain ⟨n, hn⟩ : ∃ n, ws.length = n := ⟨_, rfl⟩
  rw [hn] at h h3 ⊢
  clear hn h1 h2
  have h' : 1048576 < (n : Int) := by omega
  go_enter Try.func19, Try.ntmps19
  go_wp2
  go_ret
  exact ⟨rfl, (Below.refl _ _).alloc (Nat.le_refl _) _⟩

set_option maxRecDepth 100000 in
set_option maxHeartbeats 800000 in
theorem toWordsC (v : Value) (ws : List W3) (B : Nat) (w : World) (hv : Sees B w v ws) (hB : B ≤ w.heap.size) (hlen : ws.length ≤ 1048576) :
    Calls Try.prog 62 #[v] w fun e w' => ∃ v', e = .returned v' ∧ Owns w.heap.size w' v' ws ∧ Below w.heap.size w w' := by
  obtain ⟨a, cap, rfl, h1, h2, h3⟩ := hv
  obtain ⟨n, hn⟩ : ∃ n, ws.length = n := ⟨_, rfl⟩
  rw [hn] at h1 hlen ⊢
  obtain ⟨w1, hB1, hs1, hmk, hO⟩ := makeW n hlen w w.heap.size (Nat.le_refl _)
  obtain ⟨g, hg⟩ : ∃ g, w.heap.size = g := ⟨_, rfl⟩
  rw [hg] at hmk hO hB1 hs1 hB ⊢
  go_enter Try.func62, Try.ntmps62
  go_wp2
  go_loopw [4] (fun i wr => ∃ k : Nat, k ≤ n ∧ i = .int .i64 k ∧ wr.ownsRow g 37 3 (.slice (some ⟨g, 0, none⟩) n n) n (wv (pad ws k)) ∧ Below g w wr) (fun i _ => n - (intOf i).toNat)
  case atStart => exact ⟨0, Nat.zero_le _, rfl, by rw [pad_zero, hn]; exact hO, hB1⟩
  case round =>
    obtain ⟨k, hk, rfl, hR, hb⟩ := hrel
    clear hmk hO hB1 hs1
    by_cases hlt : k < n
    · obtain ⟨b, off, rfl, hbB, hc⟩ := h3 (fun h => by simp [h] at hn; omega)
      obtain ⟨a0, a1, a2⟩ := (hc k (by omega)).on hb (by omega)
      obtain ⟨hgg, hgs⟩ := owns_lt hR
      obtain ⟨x, hx⟩ : ∃ x, ws[k] = x := ⟨_, rfl⟩
      have HP : Hid ((pad ws k).set k x = pad ws (k + 1)) := by rw [← hx]; exact pad_set ws k (by omega)
      have hpl : (pad ws k).length = n := by rw [pad_length ws k (by omega)]; exact hn
      rw [hx] at a0 a1 a2
      clear hx hc h3 hgg
      go_wp2_with (go_at_call 97; refine (toWordC x _).mono ?_; rintro e w2 ⟨rfl, hb2⟩; have hR2 := owns_on hR hb2 (Nat.le_refl _); obtain ⟨c0, c1, c2⟩ := owns_at hR2 k (by omega); have hfz := fun j => hR2.frozenAt j)
      have hR3 := owns_set3 hR2 k x
      rw [HP.out] at hR3
      unfold set3 at hR3
      go_roundw
      case rel => exact ⟨k + 1, by omega, by go_num, hR3, (((hb.trans (hb2.mono (by omega))).setCell (Nat.le_refl _) _).setCell (Nat.le_refl _) _).setCell (Nat.le_refl _) _⟩
      case measure => simp [intOf]; omega
    · obtain rfl : k = n := by omega
      go_wp2
      go_ret
      rw [← hn, pad_full] at hR
      exact ⟨_, rfl, hn ▸ hR, hb⟩

set_option maxRecDepth 100000 in
set_option maxHeartbeats 800000 in
theorem toMemC (c : Int) (v : Value) (ws : List W3) (B : Nat) (w : World) (hv : Sees B w v ws) (hB : B ≤ w.heap.size) (hlen : ws.length ≤ 1048576) :
    Calls Try.prog 21 #[.agg #[.int .i64 c, v]] w fun e w' => ∃ v', e = .returned (.agg #[.int .i64 c, v']) ∧ Owns w.heap.size w' v' ws ∧ Below w.heap.size w w' := by
  obtain ⟨a, cap, rfl⟩ := hv.form
  have hv1 := hv.on ((((Below.refl w.heap.size w).alloc (Nat.le_refl _) (.cells #[.int .i64 c, .slice a ws.length cap] 45)).alloc (by simp) (.cells #[.int .i64 0, .slice none 0 0] 26)).alloc (by simp; omega) (.cells #[.int .i64 c, .slice none 0 0] 26)) hB
  go_enter Try.func21, Try.ntmps21
  go_wp2_with fail
  refine (toWordsC _ ws B _ hv1 (by simp; omega) hlen).mono ?_
  rintro e w1 ⟨v', rfl, hO, hb⟩
  obtain ⟨a', cap', rfl⟩ := hO.form
  obtain ⟨hc, hf⟩ := bcell hb
  have hz : w.heap.size + 3 ≤ w1.heap.size := by have := hb.size; simp at this; omega
  go_wp2_with fail
  refine bodyPost_ret (v := .agg #[.int .i64 c, .slice a' ws.length cap']) (by simp [results, Try.results21, go_sem, hc]) rfl ⟨_, rfl, ?_, ?_⟩
  · exact (((hO.setCell (by simp) _).setCell (by simp) _).setCell (by simp) _).mono (by simp; omega)
  · exact (((((((Below.refl _ _).alloc (Nat.le_refl _) _).alloc (by simp) _).alloc (by simp; omega) _).trans (hb.mono (by simp; omega))).setCell (by simp; omega) _).setCell (by simp) _).setCell (by simp) _
end Words
end Go.Proofs.Ytpjcbdanahiapaa
