/- Both ReadVar tell the number with whose Var the text begins, and how many bytes that is. -/
import Derived.Test.YtgfapncaddgmpaaDoorLevL
import Derived.Test.YtgfapncaddgmpaaDoorVarWalks
import Derived.Deep.RegionWith
namespace Go.Proofs.YtgfapncaddgmpaaDoor
open Go.RowKit
namespace ReadVar
open Num Bytes

theorem ret2 {a b c d : Int} (h : a = b) (h' : c = d) : Ending.returned (.tuple #[.int .i64 a, .int .i64 c]) = .returned (.tuple #[.int .i64 b, .int .i64 d]) := by rw [h, h']

set_option maxRecDepth 100000 in
set_option maxHeartbeats 800000 in
theorem impl_any (s : ByteArray) (w : World) (hs : s.size ≤ maxLen) :
    Calls Tryd.prog 10 #[.string s] w fun e w' => (∃ n k : Nat, e = .returned (.tuple #[.int .i64 n, .int .i64 k]) ∧ Res s n k) ∧ w' = w := by
  unfold maxLen at hs
  by_cases h7 : (s.size : Int) ≤ 7
  all_goals
    go_enter Tryd.func10, Tryd.ntmps10
    go_wp2
    go_loop [4, 5, 9] (fun v _ i => ∃ k : Nat, k ≤ 7 ∧ k ≤ s.size ∧ i = .int .i64 k ∧ v = .int .i64 (lev (pre s k) : Nat) ∧ High s k) (fun _ _ i => 7 - (intOf i).toNat)
    case atStart => exact ⟨0, by omega, by omega, rfl, rfl, fun j hj => by omega⟩
    case round =>
      obtain ⟨k, hk7, hks, rfl, rfl, hH⟩ := hrel
      have HH : Hid (High s k) := hH
      clear hH
      by_cases hlt : k < 7 ∧ k < s.size
      · obtain ⟨hk1, hk2⟩ := hlt
        have hc : s[k].toNat < 256 := s[k].toNat_lt
        have HS : Hid (lev (pre s (k + 1)) = lev (pre s k) + s[k].toNat % 128 * 128 ^ k) := lev_pre_succ s k hk2
        have hsm := lev_small (pre s (k + 1)) (by rw [pre_length s _ (by omega)]; omega)
        rw [HS.out] at hsm
        have hsh := shl_eq s[k].toNat k
        obtain ⟨E, hE⟩ : ∃ E, s[k].toNat % 128 * 128 ^ k = E := ⟨_, rfl⟩
        rw [hE] at HS hsm hsh
        clear hE
        have hm : s[k].toNat % 128 < 128 := Nat.mod_lt _ (by omega)
        have hsh' : ((s[k].toNat : Int) % 128) * 2 ^ (7 * (k : Int)).toNat = (E : Int) := by rw [← hsh]; simp
        clear hsh
        by_cases hhi : (127 : Int) < s[k].toNat
        · have HH' : Hid (High s (k + 1)) := by
            intro j hj hjs
            rcases Nat.lt_or_ge j k with h2 | h2
            · exact HH.out j h2 hjs
            · obtain rfl : j = k := by omega
              omega
          go_wp2
          go_round
          case rel => exact ⟨k + 1, by omega, by omega, by go_num, by rw [HS.out]; simp, HH'.out⟩
          case measure => simp [intOf]; omega
        · have hlo : s[k].toNat < 128 := by omega
          by_cases hz : s[k].toNat = 0
          · have hz1 : ((s[k].toNat : Int) == 0) = true := by simp [hz]
            by_cases hk0 : (0 : Int) < k
            · have HR : Hid (Res s 0 0) := by
                refine .inl ⟨rfl, rfl, fun j h1 _ h3 => ?_⟩
                rcases Nat.lt_or_ge k j with h2 | h2
                · exact High.zero hk2 hlo (fun _ => hz) (by omega) j (by omega) h3
                · exact HH.out.no j h1 h2 h3
              clear hz
              go_wp2
              go_ret2
              exact ⟨⟨0, 0, rfl, HR.out⟩, rfl⟩
            · have hk00 : k = 0 := by omega
              have HR : Hid (Res s (lev (pre s (k + 1))) (k + 1)) := .inr ⟨by omega, by omega, by omega, HH.out.yes hk2 hlo (.inl hk00), rfl, fun j h1 h2 => HH.out.no j h1 (by omega) (by omega)⟩
              clear hz hk00
              go_wp2
              go_ret2
              exact ⟨⟨_, _, ret2 (by rw [HS.out]; simp) (by simp), HR.out⟩, rfl⟩
          · have hz1 : ((s[k].toNat : Int) == 0) = false := by simp; omega
            have HR : Hid (Res s (lev (pre s (k + 1))) (k + 1)) := .inr ⟨by omega, by omega, by omega, HH.out.yes hk2 hlo (.inr hz), rfl, fun j h1 h2 => HH.out.no j h1 (by omega) (by omega)⟩
            clear hz
            go_wp2
            go_ret2
            exact ⟨⟨_, _, ret2 (by rw [HS.out]; simp) (by simp), HR.out⟩, rfl⟩
      · have HR : Hid (Res s 0 0) := .inl ⟨rfl, rfl, fun j h1 h2 h3 => HH.out.no j h1 (by omega) h3⟩
        go_wp2
        go_ret2
        exact ⟨⟨0, 0, rfl, HR.out⟩, rfl⟩

end ReadVar
end Go.Proofs.YtgfapncaddgmpaaDoor
