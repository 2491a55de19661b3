/- Both ReadVar tell the number with whose Var the text begins, and how many bytes that is. -/
import Derived.Test.YtgfapncaddgmpaaLevL
import Derived.Test.YtgfapncaddgmpaaVarWalks
import Derived.Deep.RegionWith
namespace Go.Proofs.Ytgfapncaddgmpaa
open Go.RowKit
namespace ReadVar
open Num Bytes

theorem ret2 {a b c d : Int} (h : a = b) (h' : c = d) : Ending.returned (.tuple #[.int .i64 a, .int .i64 c]) = .returned (.tuple #[.int .i64 b, .int .i64 d]) := by rw [h, h']

set_option maxRecDepth 100000 in
set_option maxHeartbeats 800000 in
theorem impl_any (s : ByteArray) (w : World) (hs : s.size ≤ maxLen) :
    Calls Try.prog 16 #[.string s] w fun e w' => (∃ n k : Nat, e = .returned (.tuple #[.int .i64 n, .int .i64 k]) ∧ Res s n k) ∧ w' = w := by
  unfold maxLen at hs
  by_cases h7 : (s.size : Int) ≤ 7
  all_goals
    go_enter Try.func16, Try.ntmps16
    go_wp2
    go_loop [4, 5, 9] (fun v _ i => ∃ k : Nat, k ≤ 7 ∧ k ≤ s.size ∧ i = .int .i64 k ∧ v = .int .i64 (lev (pre s k) : Nat) ∧ High s k) (fun _ _ i => 7 - (intOf i).toNat)
    case atStart => exact ⟨0, by omega, by omega, rfl, rfl, fun j hj => by omega⟩
    case round =>
      obtain ⟨k, hk7, hks, rfl, rfl, hH⟩ := hrel
      have HH : Hid (High s k) := hH
      clear hH
      by_cases hlt : k < 7 ∧ k < s.size
      · obtain ⟨hk1, hk2⟩ := hlt
        have hc : s[k].toNat < 256 := s[k].toNat_lt
        have HS : Hid (lev (pre s (k + 1)) = lev (pre s k) + s[k].toNat % 128 * 128 ^ k) := lev_pre_succ s k hk2
        have hsm := lev_small (pre s (k + 1)) (by rw [pre_length s _ (by omega)]; omega)
        rw [HS.out] at hsm
        have hsh := shl_eq s[k].toNat k
        obtain ⟨E, hE⟩ : ∃ E, s[k].toNat % 128 * 128 ^ k = E := ⟨_, rfl⟩
        rw [hE] at HS hsm hsh
        clear hE
        have hm : s[k].toNat % 128 < 128 := Nat.mod_lt _ (by omega)
        have hsh' : ((s[k].toNat : Int) % 128) * 2 ^ (7 * (k : Int)).toNat = (E : Int) := by rw [← hsh]; simp
        clear hsh
        by_cases hhi : (127 : Int) < s[k].toNat
        · have HH' : Hid (High s (k + 1)) := by
            intro j hj hjs
            rcases Nat.lt_or_ge j k with h2 | h2
            · exact HH.out j h2 hjs
            · obtain rfl : j = k := by omega
              omega
          go_wp2
          go_round
          case rel => exact ⟨k + 1, by omega, by omega, by go_num, by rw [HS.out]; simp, HH'.out⟩
          case measure => simp [intOf]; omega
        · have hlo : s[k].toNat < 128 := by omega
          by_cases hz : s[k].toNat = 0
          · have hz1 : ((s[k].toNat : Int) == 0) = true := by simp [hz]
            by_cases hk0 : (0 : Int) < k
            · have HR : Hid (Res s 0 0) := by
                refine .inl ⟨rfl, rfl, fun j h1 _ h3 => ?_⟩
                rcases Nat.lt_or_ge k j with h2 | h2
                · exact High.zero hk2 hlo (fun _ => hz) (by omega) j (by omega) h3
                · exact HH.out.no j h1 h2 h3
              clear hz
              go_wp2
              go_ret2
              exact ⟨⟨0, 0, rfl, HR.out⟩, rfl⟩
            · have hk00 : k = 0 := by omega
              have HR : Hid (Res s (lev (pre s (k + 1))) (k + 1)) := .inr ⟨by omega, by omega, by omega, HH.out.yes hk2 hlo (.inl hk00), rfl, fun j h1 h2 => HH.out.no j h1 (by omega) (by omega)⟩
              clear hz hk00
              go_wp2
              go_ret2
              exact ⟨⟨_, _, ret2 (by rw [HS.out]; simp) (by simp), HR.out⟩, rfl⟩
          · have hz1 : ((s[k].toNat : Int) == 0) = false := by simp; omega
            have HR : Hid (Res s (lev (pre s (k + 1))) (k + 1)) := .inr ⟨by omega, by omega, by omega, HH.out.yes hk2 hlo (.inr hz), rfl, fun j h1 h2 => HH.out.no j h1 (by omega) (by omega)⟩
            clear hz
            go_wp2
            go_ret2
            exact ⟨⟨_, _, ret2 (by rw [HS.out]; simp) (by simp), HR.out⟩, rfl⟩
      · have HR : Hid (Res s 0 0) := .inl ⟨rfl, rfl, fun j h1 h2 h3 => HH.out.no j h1 (by omega) h3⟩
        go_wp2
        go_ret2
        exact ⟨⟨0, 0, rfl, HR.out⟩, rfl⟩

set_option maxRecDepth 100000 in
set_option maxHeartbeats 800000 in
theorem spec_any (s : ByteArray) (w : World) (hs : s.size ≤ maxLen) :
    Calls Try.prog 15 #[.string s] w fun e w' => (∃ n k : Nat, e = .returned (.tuple #[.int .i64 n, .int .i64 k]) ∧ Res s n k) ∧ Below w.heap.size w w' := by
  unfold maxLen at hs
  go_enter Try.func15, Try.ntmps15
  go_wp2
  go_loopw [4, 5, 6] (fun c _ _ wr => ∃ k : Nat, 1 ≤ k ∧ k ≤ 8 ∧ k ≤ s.size + 1 ∧ c = .int .i64 k ∧ (∀ j, 1 ≤ j → j < k → ¬ isV (pre s j)) ∧ Below w.heap.size w wr) (fun c _ _ _ => 8 - (intOf c).toNat)
  case atStart => exact ⟨1, by omega, by omega, by omega, rfl, fun j h1 h2 => by omega, Below.refl _ _⟩
  case round =>
    obtain ⟨k, hk1, hk8, hks, rfl, hno, hB⟩ := hrel
    have HN : Hid (∀ j, 1 ≤ j → j < k → ¬ isV (pre s j)) := hno
    clear hno
    by_cases hlt : k ≤ 7 ∧ k ≤ s.size
    · obtain ⟨hk7, hk2⟩ := hlt
      go_wp2
      go_loop [5, 6] (fun v i => (∃ p : Nat, p < k ∧ i = .int .i64 p ∧ v = .int .i64 (lev (mid s k (p + 1)) : Nat)) ∨ (i = .int .i64 (-1) ∧ v = .int .i64 (lev (mid s k 0) : Nat))) (fun _ i => (intOf i + 1).toNat)
      case atStart =>
        refine .inl ⟨k - 1, by omega, by go_num, ?_⟩
        rw [show k - 1 + 1 = k by omega, mid_end s k hk2]; rfl
      case round =>
        rcases hrel with ⟨p, hp, rfl, rfl⟩ | ⟨rfl, rfl⟩
        · have hps : p < s.size := by omega
          have hsm := lev_mid_small s k (p + 1) hk7 (by omega)
          have HS : Hid ((lev (mid s k p) : Nat) = lev (mid s k (p + 1)) * 128 + s[p].toNat % 128) := lev_mid s k p hk2 hp
          have hc : s[p].toNat < 256 := s[p].toNat_lt
          go_wp2
          go_round
          case rel =>
            rcases Nat.eq_zero_or_pos p with h0 | h0
            · subst h0
              exact .inr ⟨rfl, by rw [HS.out]; rfl⟩
            · exact .inl ⟨p - 1, by omega, by go_num, by rw [show p - 1 + 1 = p by omega, HS.out]; simp⟩
          case measure => simp only [intOf]; omega
        · rw [mid_full]
          have hsm := lev_small (pre s k) (by rw [pre_length s k hk2]; exact hk7)
          have hst : (s.extract 0 k).toList = pre s k := by rw [pre_str s k hk2]; simp [go_sem]
          by_cases hv : isV (pre s k)
          · have hq : (vb 7 (lev (pre s k)) == (s.extract 0 k).toList) = true := by rw [hst, vb_lev 7 _ hv (by rw [pre_length s k hk2]; omega)]; simp
            have HR : Hid (Res s (lev (pre s k)) k) := .inr ⟨hk1, hk7, hk2, hv, rfl, HN.out⟩
            clear hst hv
            go_wp2
            go_region_with (go_at_call 13; refine (Var.spec_yes _ _ hsm).mono ?_; rintro e w1 ⟨rfl, hB1⟩)
            go_wp2
            go_ret2
            exact ⟨⟨_, _, rfl, HR.out⟩, hB.drew.trans (hB1.mono hB.size)⟩
          · have hq : (vb 7 (lev (pre s k)) == (s.extract 0 k).toList) = false := by
              rw [hst, beq_eq_false_iff_ne]
              intro e
              apply hv
              rw [← e]
              exact isV_vb 7 _ (by have : (128 : Nat) ^ (7 + 1) = 72057594037927936 := by decide
                                   omega)
            have HN' : Hid (∀ j, 1 ≤ j → j < k + 1 → ¬ isV (pre s j)) := by
              intro j h1 h2
              rcases Nat.lt_or_ge j k with h3 | h3
              · exact HN.out j h1 h3
              · obtain rfl : j = k := by omega
                exact hv
            clear hst hv
            go_wp2
            go_region_with (go_at_call 13; refine (Var.spec_yes _ _ hsm).mono ?_; rintro e w1 ⟨rfl, hB1⟩)
            go_wp2
            go_roundw
            case rel => exact ⟨k + 1, by omega, by omega, by omega, by go_num, HN'.out, hB.drew.trans (hB1.mono hB.size)⟩
            case measure => simp [intOf]; omega
    · have HR : Hid (Res s 0 0) := .inl ⟨rfl, rfl, fun j h1 h2 h3 => HN.out j h1 (by omega)⟩
      go_wp2
      all_goals
        go_ret2
        exact ⟨⟨0, 0, rfl, HR.out⟩, hB⟩

set_option maxRecDepth 100000 in
set_option maxHeartbeats 400000 in
theorem walk (s : ByteArray) (w : World) (hs : s.size ≤ maxLen) :
    Calls Try.prog 6 #[.string s] w fun e w' => e = .returned (.bool true) ∧ Below w.heap.size w w' := by
  have hs0 := hs
  unfold maxLen at hs
  by_cases hb : (1048576 : Int) < s.size
  · go_enter Try.func6, Try.ntmps6
    go_wp2
    go_ret
    exact ⟨rfl, Below.refl _ _⟩
  · go_enter Try.func6, Try.ntmps6
    go_wp2_with fail
    refine (spec_any s _ hs0).mono ?_
    rintro e w1 ⟨⟨n1, k1, rfl, hr1⟩, hB1⟩
    go_wp2_with fail
    refine (impl_any s _ hs0).mono ?_
    rintro e w2 ⟨⟨n2, k2, rfl, hr2⟩, rfl⟩
    obtain ⟨rfl, rfl⟩ := hr1.unique hr2
    clear hr1 hr2
    go_wp2
    go_ret
    exact ⟨rfl, hB1⟩
end ReadVar
end Go.Proofs.Ytgfapncaddgmpaa
