/- impl.Crc returns the sum, given what utf8.DecodeRuneInString answers. -/
import Derived.Test.YtjbnjedefcpjnaaDoorCrcByte
import Derived.Laws.RangeAny
import Derived.Lib.OthersKept
import Derived.WalkSmall
import Derived.Deep.DeepFit
namespace Go.Proofs.YtjbnjedefcpjnaaDoor
open Go.RowKit
namespace CrcW
open Num CrcM

theorem Half.on {w w' : World} (h : Half w) (hb : Below w.heap.size w w') : Half w' := fun i hi =>
  (hb.cell (World.block_lt_of_cell? _ _ (h i hi))).trans (h i hi)

/-- what the decoder answers over every world in which what lay in w still lies -/
def Decodes (s : ByteArray) (w : World) : Prop := ∀ wr, Below w.heap.size w wr → ∀ pos, pos < s.size →
  Calls Tryd.prog 6 #[.string (s.extract pos s.size)] wr fun e w' => e = .returned (.tuple #[.int .i32 (Utf8.decode s pos).1, .int .i64 (Utf8.decode s pos).2]) ∧ Below wr.heap.size wr w'

theorem upTo_run (s : ByteArray) (pos m : Nat) (h : pos + m < s.size) : upTo s (pos + (m + 1)) = byte (upTo s (pos + m)) s[pos + m] := upTo_succ s (pos + m) h

set_option maxRecDepth 100000 in
set_option maxHeartbeats 1600000 in
theorem impl_any (s : ByteArray) (w : World) (hs : s.size ≤ maxLen) (hT : Half w) (hD : Decodes s w)
    (hwd : ∀ pos, pos < s.size → 1 ≤ (Utf8.decode s pos).2 ∧ pos + (Utf8.decode s pos).2 ≤ s.size) :
    Calls Tryd.prog 5 #[.string s] w fun e w' => e = .returned (.int .i64 (4294967295 - (upTo s s.size : Int))) ∧ Below w.heap.size w w' := by
  unfold maxLen at hs
  go_enter Tryd.func5, Tryd.ntmps5
  go_wp2
  go_loopw [3] (fun v wr => ∃ pos : Nat, pos ≤ s.size ∧ v = .int .u32 (upTo s pos) ∧ wr.heap[w.heap.size]? = some (.stringIter s pos) ∧ Below w.heap.size w wr) (fun _ wr => s.size - wr.iterPos w.heap.size)
  case atStart => exact ⟨0, Nat.zero_le _, by rw [upTo_zero]; rfl, World.iter_heap w s 0, (Below.refl _ _).alloc (Nat.le_refl _) _⟩
  case round =>
    obtain ⟨pos, hk, rfl, hit, hbw⟩ := hrel
    have hpos0 := iterPos_of hit
    have hu := upTo_lt s pos
    by_cases hp : pos < s.size
    · have hnx : ∀ ty, (Instr.next (.pointer (some ⟨w.heap.size, 0, none⟩)) true ty).run Tryd.prog wr = _ := fun ty => Lib.run_next_any_at wr w.heap.size s pos ty hit hp
      obtain ⟨hw1, hw2⟩ := hwd pos hp
      have hit2 := Lib.iterAt_heap wr w.heap.size s pos (pos + (Utf8.decode s pos).2) hit
      have hbw2 := Lib.below_iterAt hbw (k := w.heap.size) (Nat.le_refl _) s (pos + (Utf8.decode s pos).2)
      obtain ⟨W1, hW1⟩ : ∃ W1, W1 = wr.iterAt w.heap.size s (pos + (Utf8.decode s pos).2) := ⟨_, rfl⟩
      rw [← hW1] at hnx hit2 hbw2
      have cD := hD W1 hbw2 pos hp
      have hlt1 : w.heap.size < W1.heap.size := (Array.getElem?_eq_some_iff.1 hit2).1
      obtain ⟨R, hR⟩ : ∃ R, (Utf8.decode s pos).1 = R := ⟨_, rfl⟩
      obtain ⟨K, hK⟩ : ∃ K, (Utf8.decode s pos).2 = K := ⟨_, rfl⟩
      rw [hR] at hnx
      rw [hR, hK] at cD
      rw [hK] at hit2 hw1 hw2
      clear hW1 hit hD hbw hR hK hwd
      go_wp2_with (go_at_call 6; refine cD.mono ?_; rintro e w2 ⟨rfl, hb2⟩)
      have hit3 : w2.heap[w.heap.size]? = some (.stringIter s (pos + K)) := (hb2.block _ hlt1).trans hit2
      have hbw3 : Below w.heap.size w w2 := hbw2.trans (hb2.mono (by omega))
      have hT3 := hT.on hbw3
      clear cD hnx hb2 hit2 hbw2 hlt1
      go_loop [3, 7, 21] (fun v _ j => ∃ m : Nat, m ≤ K ∧ j = .int .i64 m ∧ v = .int .u32 (upTo s (pos + m))) (fun _ _ j => K - (intOf j).toNat)
      case atStart => exact ⟨0, by omega, rfl, rfl⟩
      case round =>
        obtain ⟨m, hm, rfl, rfl⟩ := hrel
        by_cases hlt : m < K
        · have hpm : pos + m < s.size := by omega
          have hul := upTo_lt s (pos + m)
          have HS : Hid (upTo s (pos + (m + 1)) = byte (upTo s (pos + m)) s[pos + m]) := upTo_run s pos m hpm
          have cB := sumByte (upTo s (pos + m)) s[pos + m] hul w2 hT3
          go_wp2_with (go_at_call 7; go_fit cB; rintro e w3 ⟨rfl, rfl⟩)
          go_round
          case rel => exact ⟨m + 1, by omega, by go_num, by rw [HS.out]⟩
          case measure => simp [intOf]; omega
        · obtain rfl : m = K := by omega
          go_wp2
          go_roundw
          case rel => exact ⟨pos + m, by omega, rfl, hit3, hbw3⟩
          case measure => rw [iterPos_of hit3, hpos0]; omega
    · obtain rfl : pos = s.size := by omega
      have hnx : ∀ ty, (Instr.next (.pointer (some ⟨w.heap.size, 0, none⟩)) true ty).run Tryd.prog wr = _ := fun ty => Lib.run_next_end_at wr w.heap.size s s.size ty hit hp
      go_wp2
      go_ret
      exact ⟨rfl, hbw⟩
end CrcW
end Go.Proofs.YtjbnjedefcpjnaaDoor
