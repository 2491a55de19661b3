/- What the program's RowsOk and Cut answer; slices.Clone of rows. -/
import Derived.Test.YtocfnhlfjeilnaaLogOk
import Derived.Test.YtocfnhlfjeilnaaLogPush
import Derived.Lib.SliceRun
set_option linter.unusedVariables false
set_option linter.unusedSimpArgs false
namespace Go.Proofs.Ytocfnhlfjeilnaa
open Go.RowKit
namespace Logs
open Bas Flat

set_option maxRecDepth 100000 in
set_option maxHeartbeats 3200000 in
theorem implOk (v : Value) (xs : List R2) (B : Nat) (w : World) (hv : Sees2 B w v xs) (hB : B ≤ w.heap.size) :
    Calls Try.prog 26 #[v] w fun e w' => e = .returned (.bool (rowsOk xs)) ∧ Below w.heap.size w w' := by
  obtain ⟨a, cap, rfl⟩ := hv.form
  have hr := hv.room
  have hm : (xs.length : Int) ≤ 9223372036854775807 := by unfold maxLen at hr; omega
  obtain ⟨n, hn⟩ : ∃ n, xs.length = n := ⟨_, rfl⟩
  obtain ⟨g, hg⟩ : ∃ g, w.heap.size = g := ⟨_, rfl⟩
  rw [hg] at hB ⊢
  by_cases h8 : n ≤ 300
  · have HL : Hid (xs.length ≤ 300) := by show _ ≤ _; omega
    rw [hn] at hm hv ⊢
    have h8' : (n : Int) ≤ 300 := by omega
    have b0 : Below g w w := Below.refl _ _
    clear hr
    go_enter Try.func26, Try.ntmps26
    go_wp2
    go_loopw [10] (fun i wr => ∃ k : Nat, k ≤ n ∧ i = .int .i64 k ∧ (∀ j (h : j < xs.length), j < k → okR xs[j] = true) ∧ Below g w wr) (fun i _ => n - (intOf i).toNat)
    case atStart => exact ⟨0, by omega, rfl, fun j _ h => by omega, b0⟩
    case round =>
      obtain ⟨k, hk, rfl, hall, hb⟩ := hrel
      clear b0
      have hsz : g ≤ wr.heap.size := by have := hb.size; omega
      by_cases hlt : k < n
      · obtain ⟨b, off, rfl, hbB, hc⟩ := (hv.on hb hB).open (by omega)
        obtain ⟨a0, a1⟩ := at2 (hc k (by omega))
        have i1 : (k : Int) < n := by omega
        obtain ⟨z, hz⟩ : ∃ z, xs[k] = z := ⟨_, rfl⟩
        rw [hz] at a0 a1
        change wr.cell? ⟨b, off + k * 2, none⟩ = _ at a0
        change wr.cell? ⟨b, off + k * 2 + 1, none⟩ = _ at a1
        have X0 := Blk.new wr #[.int .i64 z.c, .int .i64 z.v] 90
        have x0 := X0.cell 0; have x1 := X0.cell 1
        have bA := hb.trans ((alloc_below wr (.cells #[.int .i64 z.c, .int .i64 z.v] 90)).mono hsz)
        have HZ : Hid (xs[k] = z) := hz
        have HA : Hid (∀ j (h : j < xs.length), j < k → okR xs[j] = true) := hall
        have cC := fun W => isCellC z.c W
        have cV := fun W => isValC z.v W
        obtain ⟨p, hp⟩ : ∃ p, Ops.inn 0 7 z.c = p := ⟨_, rfl⟩
        obtain ⟨q, hq⟩ : ∃ q, Ops.inn 0 65535 z.v = q := ⟨_, rfl⟩
        rw [hp] at cC
        rw [hq] at cV
        have HP : Hid (Ops.inn 0 7 z.c = p) := hp
        have HQ : Hid (Ops.inn 0 65535 z.v = q) := hq
        clear hz hc hall hp hq X0
        cases p
        · have HF : Hid (rowsOk xs = false) := rowsOk_one (j := k) (by omega) (by rw [HZ.out]; exact okR_cell HP.out)
          go_wp2_with (go_at_call 71; refine (cC _).mono ?_; rintro e w1 ⟨rfl, rfl⟩)
          go_ret
          exact ⟨ret_rows HF.out, bA⟩
        cases q
        · have HF : Hid (rowsOk xs = false) := rowsOk_one (j := k) (by omega) (by rw [HZ.out]; exact okR_val HQ.out)
          go_wp2_with (first | (go_at_call 71; refine (cC _).mono ?_; rintro e w1 ⟨rfl, rfl⟩) | (go_at_call 72; refine (cV _).mono ?_; rintro e w1 ⟨rfl, rfl⟩))
          go_ret
          exact ⟨ret_rows HF.out, bA⟩
        go_wp2_with (first | (go_at_call 71; refine (cC _).mono ?_; rintro e w1 ⟨rfl, rfl⟩) | (go_at_call 72; refine (cV _).mono ?_; rintro e w1 ⟨rfl, rfl⟩))
        go_roundw
        case rel => exact ⟨k + 1, by omega, by go_num, fun j hj hjk => by
          rcases Nat.lt_succ_iff_lt_or_eq.1 hjk with h | h
          · exact HA.out j hj h
          · subst h; rw [HZ.out]; simp [okR, HP.out, HQ.out], bA⟩
        case measure => simp [intOf]; omega
      · obtain rfl : k = n := by omega
        have HT : Hid (rowsOk xs = true) := rowsOk_mk HL.out fun j hj => hall j hj (by omega)
        have i1 : ¬ (k : Int) < k := by omega
        clear hall
        go_wp2
        go_ret
        exact ⟨ret_rows HT.out, hb⟩
  · have HF : Hid (rowsOk xs = false) := rowsOk_len (by omega)
    rw [hn] at hm ⊢
    have h8' : (300 : Int) < n := by omega
    clear hn hr hv
    go_enter Try.func26, Try.ntmps26
    go_wp2
    go_ret
    exact ⟨ret_rows HF.out, Below.refl _ _⟩

set_option maxRecDepth 100000 in
set_option maxHeartbeats 1600000 in
theorem cloneR (v : Value) (xs : List R2) (B : Nat) (w : World) (hv : Sees2 B w v xs) (hB : B ≤ w.heap.size) (hlen : xs.length ≤ 1048576) :
    Calls Try.prog 69 #[v] w fun e w' => ∃ v', e = .returned v' ∧ Owns2 w.heap.size w' v' xs ∧ Below w.heap.size w w' := by
  have qT : ∀ (w : World) (a : Option Addr) (n c n' c' : Nat), (binOp .eql 25 (.slice a n c) (.slice none n' c')).run Try.prog w = .ok (.bool a.isNone) w := fun w a n c n' c' => Lib.run_eql_slice_nil w _ _ a n c n' c' Try.underlying25
  obtain ⟨a, cap, rfl, h1, h2, h3⟩ := id hv
  cases a with
  | none =>
    have hz : xs = [] := by
      by_cases h : xs = []
      · exact h
      · obtain ⟨b, off, h, -⟩ := h3 h; cases h
    subst hz
    go_enter Try.func69, Try.ntmps69
    go_wp2
    go_ret
    exact ⟨_, rfl, Owns.nil _ _ _ _, Below.refl _ _⟩
  | some ad =>
    have u0 := owns_litR w (Nat.le_refl _)
    have b0 := alloc_below w (.cells #[] 90)
    have hv0 := hv.on b0 hB
    obtain ⟨q, hq⟩ : ∃ q, w.heap.size = q := ⟨_, rfl⟩
    have hq1 : (w.alloc (.cells #[] 90)).heap.size = q + 1 := by rw [← hq]; simp
    rw [hq] at u0 b0
    obtain ⟨n, hn⟩ : ∃ n, xs.length = n := ⟨_, rfl⟩
    rw [hn] at hv0 ⊢
    obtain ⟨w0, hw0⟩ : ∃ w0, w.alloc (.cells #[] 90) = w0 := ⟨_, rfl⟩
    rw [hw0] at u0 b0 hv0 hq1
    obtain ⟨v3, w4, hr3, O3, G3, L3⟩ := app rowRow (.slice (some ⟨q, 0, none⟩) 0 0) (.slice (some ad) n cap) 25 [] xs B q w0 u0 (by omega) hv0 (by simp; omega)
    rw [List.nil_append] at O3
    have bF : Below q w w4 := b0.grown G3 (by omega) (fun k hk => by cases hk; exact Nat.le_refl _)
    rw [hq]
    clear h3 hn h1 h2
    go_enter Try.func69, Try.ntmps69
    go_wp2_with (at_builtin; refine wpList_app _ rfl (.tmp 5) (.tmp 6) 25 rfl _ _ _ _ rfl rfl hr3 ?_)
    go_ret
    exact ⟨_, rfl, O3, bF⟩

set_option maxRecDepth 100000 in
set_option maxHeartbeats 3200000 in
theorem implCut (v : Value) (xs : List R2) (k : Int) (B : Nat) (w : World) (hv : Sees2 B w v xs) (hB : B ≤ w.heap.size) :
    Calls Try.prog 23 #[v, .int .i64 k] w fun e w' => ∃ v', e = .returned v' ∧ Owns2 w.heap.size w' v' (cutOf xs k) ∧ Below w.heap.size w w' := by
  have c0 := implOk v xs B w hv hB
  obtain ⟨a, cap, rfl⟩ := hv.form
  obtain ⟨n, hn⟩ : ∃ n, xs.length = n := ⟨_, rfl⟩
  obtain ⟨p, hp⟩ : ∃ p, rowsOk xs = p := ⟨_, rfl⟩
  rw [hp] at c0
  have hr := hv.room
  cases p
  · have HF : Hid (cutOf xs k = []) := by show _ = _; unfold cutOf; rw [hp]; rfl
    rw [hn] at c0 ⊢
    clear hp
    go_enter Try.func23, Try.ntmps23
    go_wp2_with (go_at_call 26; refine c0.mono ?_; rintro e w1 ⟨rfl, b1⟩)
    go_ret
    exact ⟨_, rfl, by rw [HF.out]; exact Owns.nil _ _ _ _, b1⟩
  have HS : Hid (cutOf xs k = xs.take k.toNat) := by show _ = _; unfold cutOf; rw [if_pos hp]
  have h3 := rowsOk_out hp
  clear hp
  by_cases h1 : k ≤ 0
  · have HF : Hid (cutOf xs k = []) := by show _ = _; rw [HS.out, show k.toNat = 0 by omega]; rfl
    rw [hn] at c0 ⊢
    go_enter Try.func23, Try.ntmps23
    go_wp2_with (go_at_call 26; refine c0.mono ?_; rintro e w1 ⟨rfl, b1⟩)
    go_ret
    exact ⟨_, rfl, by rw [HF.out]; exact Owns.nil _ _ _ _, b1⟩
  obtain ⟨q, hq⟩ := Int.eq_ofNat_of_zero_le (show 0 ≤ k by omega)
  subst hq
  rw [Int.toNat_natCast] at HS
  rw [hn] at c0 hv h3 ⊢
  have key : ∀ m : Nat, m ≤ n → xs.take q = xs.take m → ∀ w1, Below w.heap.size w w1 → Calls Try.prog 69 #[.slice a m cap] w1 fun e w' => ∃ v', e = .returned v' ∧ Owns2 w1.heap.size w' v' (cutOf xs q) ∧ Below w1.heap.size w1 w' := fun m hmn hT w1 b1 => by
    have hT2 := sees_take hv hn hmn
    rw [HS.out, hT]
    exact cloneR (.slice a m cap) (xs.take m) B w1 (hT2.on b1 hB) (Nat.le_trans hB b1.size) (by rw [List.length_take]; omega)
  have hcap : n ≤ cap := by
    obtain ⟨a', cap', e, hc1, hc2, -⟩ := hv
    simp only [Value.slice.injEq] at e
    omega
  have g4 : ¬ (q : Int) ≤ 0 := h1
  by_cases hnq : n < q
  · have cK := key n (Nat.le_refl _) (by rw [List.take_of_length_le (by omega), List.take_of_length_le (by omega)])
    have g2 : (n : Int) ≤ cap := by omega
    clear key hv
    go_enter Try.func23, Try.ntmps23
    go_wp2_with (first | (go_at_call 26; refine c0.mono ?_; rintro e w1 ⟨rfl, b1⟩) | (go_at_call 69; refine (cK _ b1).mono ?_; rintro e w2 ⟨v2, rfl, O2, b2⟩))
    go_ret
    exact ⟨_, rfl, O2.mono b1.size, b1.trans (b2.mono b1.size)⟩
  · have cK := key q (by omega) rfl
    have g2 : (q : Int) ≤ cap := by omega
    have g3 : (0 : Int) ≤ q := by omega
    clear key hv
    go_enter Try.func23, Try.ntmps23
    go_wp2_with (first | (go_at_call 26; refine c0.mono ?_; rintro e w1 ⟨rfl, b1⟩) | (go_at_call 69; refine (cK _ b1).mono ?_; rintro e w2 ⟨v2, rfl, O2, b2⟩))
    go_ret
    exact ⟨_, rfl, O2.mono b1.size, b1.trans (b2.mono b1.size)⟩
end Logs
end Go.Proofs.Ytocfnhlfjeilnaa
