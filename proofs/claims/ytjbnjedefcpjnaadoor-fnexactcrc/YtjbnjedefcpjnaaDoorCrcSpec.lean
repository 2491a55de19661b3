/- spec.Crc returns the sum. -/
import Derived.Test.YtjbnjedefcpjnaaDoorCrcL
import Derived.Test.YtjbnjedefcpjnaaDoorProg
import Derived.WalkKit
import Derived.WalkLawsBesides
import Derived.WalkSpells
import Derived.Outline
namespace Go.Proofs.YtjbnjedefcpjnaaDoor
open Go.RowKit
namespace CrcW
open Num CrcM

theorem xor_i64 (a b : Nat) (ha : a < 4294967296) (hb : b < 4294967296) : bits .xor .i64 (a : Int) (b : Int) = ((a ^^^ b : Nat) : Int) := by
  have hx : a ^^^ b < 2 ^ 32 := Nat.xor_lt_two_pow (by omega) (by omega)
  have h1 : (BitVec.ofInt 64 (a : Int)).toNat = a := by
    rw [BitVec.ofInt_natCast, BitVec.toNat_ofNat]; exact Nat.mod_eq_of_lt (by omega)
  have h2 : (BitVec.ofInt 64 (b : Int)).toNat = b := by
    rw [BitVec.ofInt_natCast, BitVec.toNat_ofNat]; exact Nat.mod_eq_of_lt (by omega)
  show IntKind.i64.wrap ((BitVec.ofInt 64 (a : Int) ^^^ BitVec.ofInt 64 (b : Int)).toNat : Int) = _
  rw [BitVec.toNat_xor, h1, h2, IntKind.wrap_i64]
  omega

theorem ret_int {k : IntKind} {a b : Int} (h : a = b) : Ending.returned (.int k a) = .returned (.int k b) := by rw [h]
theorem val_int {k : IntKind} {a b : Int} (h : a = b) : Value.int k a = .int k b := by rw [h]

set_option maxRecDepth 100000 in
set_option maxHeartbeats 800000 in
theorem spec_any (s : ByteArray) (w : World) (hs : s.size ≤ maxLen) :
    Calls Tryd.prog 4 #[.string s] w fun e w' => e = .returned (.int .i64 (4294967295 - (upTo s s.size : Int))) ∧ w' = w := by
  unfold maxLen at hs
  go_enter Tryd.func4, Tryd.ntmps4
  go_wp2
  go_loop [3, 4, 5, 6] (fun v i _ _ => ∃ k : Nat, k ≤ s.size ∧ i = .int .i64 k ∧ v = .int .i64 (upTo s k)) (fun _ i _ _ => s.size - (intOf i).toNat)
  case atStart => exact ⟨0, Nat.zero_le _, rfl, by rw [upTo_zero]; rfl⟩
  case round =>
    obtain ⟨k, hk, rfl, rfl⟩ := hrel
    have hu := upTo_lt s k
    by_cases hlt : k < s.size
    · have hc : s[k].toNat < 256 := s[k].toNat_lt
      have hx := xor_i64 (upTo s k) s[k].toNat hu (by omega)
      have hxl := xor_lt (upTo s k) s[k] hu
      have HS : Hid (upTo s (k + 1) = halves 8 (upTo s k ^^^ s[k].toNat)) := upTo_succ s k hlt
      obtain ⟨x, hx0⟩ : ∃ x, upTo s k ^^^ s[k].toNat = x := ⟨_, rfl⟩
      rw [hx0] at hx hxl HS
      clear hx0
      go_wp2
      go_loop [3, 5, 6] (fun v j _ => ∃ m : Nat, m ≤ 8 ∧ j = .int .i64 m ∧ v = .int .i64 (halves m x)) (fun _ j _ => 8 - (intOf j).toNat)
      case atStart => exact ⟨0, by omega, rfl, rfl⟩
      case round =>
        obtain ⟨m, hm, rfl, rfl⟩ := hrel
        clear hx
        have hl := halves_lt m x hxl
        by_cases hm8 : m < 8
        · have HH : Hid (halves (m + 1) x = half (halves m x)) := rfl
          obtain ⟨c, hc0⟩ : ∃ c, halves m x = c := ⟨_, rfl⟩
          rw [hc0] at HH hl
          rw [hc0]
          clear hc0
          by_cases ho : c % 2 = 1
          · have hh : half c = (c / 2) ^^^ 2197175160 := by unfold half; rw [if_pos ho]
            have hx2 := xor_i64 (c / 2) 2197175160 (by omega) (by omega)
            have HE : Hid (halves (m + 1) x = (c / 2) ^^^ 2197175160) := by show _ = _; rw [HH.out, hh]
            clear hh HH
            go_wp2
            go_round
            case rel => exact ⟨m + 1, by omega, by go_num, val_int (by rw [HE.out, ← hx2]; simp)⟩
            case measure => simp [intOf]; omega
          · have hh : half c = c / 2 := by unfold half; rw [if_neg ho]
            have HE : Hid (halves (m + 1) x = c / 2) := by show _ = _; rw [HH.out, hh]
            clear hh HH
            go_wp2
            go_round
            case rel => exact ⟨m + 1, by omega, by go_num, val_int (by rw [HE.out]; simp)⟩
            case measure => simp [intOf]; omega
        · obtain rfl : m = 8 := by omega
          go_wp2
          go_round
          case rel => exact ⟨k + 1, by omega, by go_num, by rw [HS.out]⟩
          case measure => simp [intOf]; omega
    · obtain rfl : k = s.size := by omega
      go_wp2
      go_ret
      exact ⟨rfl, rfl⟩
end CrcW
end Go.Proofs.YtjbnjedefcpjnaaDoor
