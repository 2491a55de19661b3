/- impl.sumByte takes one byte into the sum. -/
import Derived.Test.YtjbnjedefcpjnaaDoorCrcSpec
import Derived.Laws.BitsAllLaws
namespace Go.Proofs.YtjbnjedefcpjnaaDoor
open Go.RowKit
namespace CrcW
open Num CrcM

/-- the table that the program reads -/
def Half (w : World) : Prop := ∀ i, i < 16 → w.cell? ⟨0, i, none⟩ = some (.int .u32 (row i : Int))

def fours : Nat → Nat → Nat
  | 0, c => c
  | n + 1, c => four (fours n c)
theorem fours_lt (n c : Nat) (h : c < 4294967296) : fours n c < 4294967296 := by
  induction n with
  | zero => exact h
  | succ n ih => exact four_lt _ ih

set_option maxRecDepth 100000 in
set_option maxHeartbeats 800000 in
theorem sumByte (c : Nat) (b : UInt8) (hc : c < 4294967296) (w : World) (hT : Half w) :
    Calls Tryd.prog 7 #[.int .u32 c, .int .u8 b.toNat] w fun e w' => e = .returned (.int .u32 (byte c b)) ∧ w' = w := by
  have hb : b.toNat < 256 := b.toNat_lt
  have hx := u32_xor_nat c b.toNat hc (by omega)
  have hxl := xor_lt c b hc
  have HB : Hid (byte c b = fours 2 (c ^^^ b.toNat)) := rfl
  obtain ⟨x, hx0⟩ : ∃ x, c ^^^ b.toNat = x := ⟨_, rfl⟩
  rw [hx0] at hx hxl HB
  clear hx0
  go_enter Tryd.func7, Tryd.ntmps7
  go_wp2
  go_loop [0, 9] (fun v j => ∃ m : Nat, m ≤ 2 ∧ j = .int .i64 m ∧ v = .int .u32 (fours m x)) (fun _ j => 2 - (intOf j).toNat)
  case atStart => exact ⟨0, by omega, rfl, rfl⟩
  case round =>
    obtain ⟨m, hm, rfl, rfl⟩ := hrel
    clear hx
    have hl := fours_lt m x hxl
    by_cases hm8 : m < 2
    · have HH : Hid (fours (m + 1) x = four (fours m x)) := rfl
      obtain ⟨y, hc0⟩ : ∃ y, fours m x = y := ⟨_, rfl⟩
      rw [hc0] at HH hl
      rw [hc0]
      clear hc0
      have hcell := hT (y % 16) (by omega)
      have hx2 := u32_xor_nat (y / 16) (row (y % 16)) (by omega) (row_lt _ (by omega))
      have HE : Hid (fours (m + 1) x = y / 16 ^^^ row (y % 16)) := by show _ = _; rw [HH.out, four_eq]
      obtain ⟨r, hr⟩ : ∃ r, row (y % 16) = r := ⟨_, rfl⟩
      rw [hr] at hcell hx2 HE
      clear HH hr hT
      go_wp2
      go_round
      case rel => exact ⟨m + 1, by omega, by go_num, val_int (by rw [HE.out, ← hx2]; simp)⟩
      case measure => simp [intOf]; omega
    · obtain rfl : m = 2 := by omega
      go_wp2
      go_ret
      exact ⟨ret_int (by rw [HB.out]), rfl⟩
end CrcW
end Go.Proofs.YtjbnjedefcpjnaaDoor
