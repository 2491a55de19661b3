/- What the program's RowsOk and Cut answer; slices.Clone of rows. -/
import Derived.Test.YtppikpdphcfomaaLogOk
import Derived.Test.YtppikpdphcfomaaLogPush
import Derived.Lib.SliceRun
set_option linter.unusedVariables false
set_option linter.unusedSimpArgs false
namespace Go.Proofs.Ytppikpdphcfomaa
open Go.RowKit
namespace Logs
open Bas Flat

set_option maxRecDepth 100000 in
set_option maxHeartbeats 3200000 in
theorem implOk (v : Value) (xs : List R2) (B : Nat) (w : World) (hv : Sees2 B w v xs) (hB : B ≤ w.heap.size) :
    Calls Try.prog 75 #[v] w fun e w' => e = .returned (.bool (rowsOk xs)) ∧ Below w.heap.size w w' := by
  obtain ⟨a, cap, rfl⟩ := hv.form
  have hr := hv.room
  have hm : (xs.length : Int) ≤ 9223372036854775807 := by unfold maxLen at hr; omega
  obtain ⟨n, hn⟩ : ∃ n, xs.length = n := ⟨_, rfl⟩
  obtain ⟨g, hg⟩ : ∃ g, w.heap.size = g := ⟨_, rfl⟩
  rw [hg] at hB ⊢
  by_cases h8 : n ≤ 300
  · have HL : Hid (xs.length ≤ 300) := by show _ ≤ _; omega
    rw [hn] at hm hv ⊢
    have h8' : (n : Int) ≤ 300 := by omega
    have b0 : Below g w w := Below.refl _ _
    clear hr
    go_enter Try.func75, Try.ntmps75
    go_wp2
    go_loopw [10] (fun i wr => ∃ k : Nat, k ≤ n ∧ i = .int .i64 k ∧ (∀ j (h : j < xs.length), j < k → okR xs[j] = true) ∧ Below g w wr) (fun i _ => n - (intOf i).toNat)
    case atStart => exact ⟨0, by omega, rfl, fun j _ h => by omega, b0⟩
    case round =>
      obtain ⟨k, hk, rfl, hall, hb⟩ := hrel
      clear b0
      have hsz : g ≤ wr.heap.size := by have := hb.size; omega
      by_cases hlt : k < n
      · obtain ⟨b, off, rfl, hbB, hc⟩ := (hv.on hb hB).open (by omega)
        obtain ⟨a0, a1⟩ := at2 (hc k (by omega))
        have i1 : (k : Int) < n := by omega
        obtain ⟨z, hz⟩ : ∃ z, xs[k] = z := ⟨_, rfl⟩
        rw [hz] at a0 a1
        change wr.cell? ⟨b, off + k * 2, none⟩ = _ at a0
        change wr.cell? ⟨b, off + k * 2 + 1, none⟩ = _ at a1
        have X0 := Blk.new wr #[.int .i64 z.c, .int .i64 z.v] 87
        have x0 := X0.cell 0; have x1 := X0.cell 1
        have bA := hb.trans ((alloc_below wr (.cells #[.int .i64 z.c, .int .i64 z.v] 87)).mono hsz)
        have HZ : Hid (xs[k] = z) := hz
        have HA : Hid (∀ j (h : j < xs.length), j < k → okR xs[j] = true) := hall
        have cC := fun W => isCellC z.c W
        have cV := fun W => isValC z.v W
        obtain ⟨p, hp⟩ : ∃ p, Ops.inn 0 7 z.c = p := ⟨_, rfl⟩
        obtain ⟨q, hq⟩ : ∃ q, Ops.inn 0 65535 z.v = q := ⟨_, rfl⟩
        rw [hp] at cC
        rw [hq] at cV
        have HP : Hid (Ops.inn 0 7 z.c = p) := hp
        have HQ : Hid (Ops.inn 0 65535 z.v = q) := hq
        clear hz hc hall hp hq X0
        cases p
        · have HF : Hid (rowsOk xs = false) := rowsOk_one (j := k) (by omega) (by rw [HZ.out]; exact okR_cell HP.out)
          go_wp2_with (go_at_call 101; refine (cC _).mono ?_; rintro e w1 ⟨rfl, rfl⟩)
          go_ret
          exact ⟨ret_rows HF.out, bA⟩
        cases q
        · have HF : Hid (rowsOk xs = false) := rowsOk_one (j := k) (by omega) (by rw [HZ.out]; exact okR_val HQ.out)
          go_wp2_with (first | (go_at_call 101; refine (cC _).mono ?_; rintro e w1 ⟨rfl, rfl⟩) | (go_at_call 76; refine (cV _).mono ?_; rintro e w1 ⟨rfl, rfl⟩))
          go_ret
          exact ⟨ret_rows HF.out, bA⟩
        go_wp2_with (first | (go_at_call 101; refine (cC _).mono ?_; rintro e w1 ⟨rfl, rfl⟩) | (go_at_call 76; refine (cV _).mono ?_; rintro e w1 ⟨rfl, rfl⟩))
        go_roundw
        case rel => exact ⟨k + 1, by omega, by go_num, fun j hj hjk => by
          rcases Nat.lt_succ_iff_lt_or_eq.1 hjk with h | h
          · exact HA.out j hj h
          · subst h; rw [HZ.out]; simp [okR, HP.out, HQ.out], bA⟩
        case measure => simp [intOf]; omega
      · obtain rfl : k = n := by omega
        have HT : Hid (rowsOk xs = true) := rowsOk_mk HL.out fun j hj => hall j hj (by omega)
        have i1 : ¬ (k : Int) < k := by omega
        clear hall
        go_wp2
        go_ret
        exact ⟨ret_rows HT.out, hb⟩
  · have HF : Hid (rowsOk xs = false) := rowsOk_len (by omega)
    rw [hn] at hm ⊢
    have h8' : (300 : Int) < n := by omega
    clear hn hr hv
    go_enter Try.func75, Try.ntmps75
    go_wp2
    go_ret
    exact ⟨ret_rows HF.out, Below.refl _ _⟩

end Logs
end Go.Proofs.Ytppikpdphcfomaa
