/- What both Overlay answer. -/
import Derived.Test.YtppikpdphcfomaaLogImpl
import Derived.Test.YtppikpdphcfomaaThVals
import Derived.Test.YtppikpdphcfomaaCloneI
import Derived.Deep.RegionHeld3
set_option linter.unusedVariables false
set_option linter.unusedSimpArgs false
namespace Go.Proofs.Ytppikpdphcfomaa
open Go.RowKit
namespace Logs
open Bas Flat

def overOf (zs : List Int) (xs : List R2) : List Int := if (valsOk zs && rowsOk xs) = true then putAll zs xs else []
theorem vals_eq (zs : List Int) : valsOk zs = Ops.cellsOk zs := rfl
theorem over_no {zs : List Int} {xs : List R2} (h : (valsOk zs && rowsOk xs) = false) : overOf zs xs = [] := by unfold overOf; rw [h]; rfl
theorem over_yes {zs : List Int} {xs : List R2} (h : (valsOk zs && rowsOk xs) = true) : overOf zs xs = putAll zs xs := by unfold overOf; rw [if_pos h]
theorem over_length {zs : List Int} {xs : List R2} (h : (valsOk zs && rowsOk xs) = true) : (overOf zs xs).length = 8 := by
  rw [over_yes h, putAll_length]
  rw [Bool.and_eq_true] at h
  have := h.1
  unfold valsOk at this
  rw [Bool.and_eq_true] at this
  exact of_decide_eq_true this.1
theorem vals_len {zs : List Int} (h : valsOk zs = true) : zs.length = 8 := by
  unfold valsOk at h
  rw [Bool.and_eq_true] at h
  exact of_decide_eq_true h.1
theorem own_someN {B : Nat} {W : World} {a : Option Addr} {n c : Nat} {zs : List Int} (h : Ints.Owns B W (.slice a n c) zs) (hn : 0 < n) : ∃ g, a = some ⟨g, 0, none⟩ ∧ B ≤ g ∧ g < W.heap.size ∧ zs.length = n := by
  have hl : zs.length = n := by
    obtain ⟨a', c', e⟩ := h.form
    simp only [Value.slice.injEq] at e
    exact e.2.1.symm
  rcases h.2 with ⟨h', h0⟩ | ⟨q, c', cur, h', hB, hg, hle, _⟩
  · simp only [Value.slice.injEq] at h'; omega
  · simp only [Value.slice.injEq] at h'
    obtain ⟨rfl, -, -⟩ := h'
    exact ⟨q, rfl, hB, (Array.getElem?_eq_some_iff.1 hg).1, hl⟩

set_option maxRecDepth 100000 in
set_option maxHeartbeats 3200000 in
theorem specOver (v0 v : Value) (zs : List Int) (xs : List R2) (B : Nat) (w : World) (h0 : Ints.Sees B w v0 zs) (hv : Sees2 B w v xs) (hB : B ≤ w.heap.size) :
    Calls Try.prog 17 #[v0, v] w fun e w' => ∃ v', e = .returned v' ∧ Ints.Owns w.heap.size w' v' (overOf zs xs) ∧ Below w.heap.size w w' := by
  have cV := Ths.specCells v0 zs B w h0
  have cO := specOk v xs B w hv
  rw [← vals_eq] at cV
  have u0 := Ints.owns_lit w (B := w.heap.size) (Nat.le_refl _)
  have b0 := alloc_below w (.cells #[] 3)
  obtain ⟨a0, k0, rfl⟩ := h0.form
  obtain ⟨a, cap, rfl⟩ := hv.form
  obtain ⟨n, hn⟩ : ∃ n, xs.length = n := ⟨_, rfl⟩
  rw [hn] at cO ⊢
  obtain ⟨p, hp⟩ : ∃ p, valsOk zs = p := ⟨_, rfl⟩
  obtain ⟨q, hq⟩ : ∃ p, rowsOk xs = p := ⟨_, rfl⟩
  rw [hp] at cV
  rw [hq] at cO
  cases p
  · have HF : Hid (overOf zs xs = []) := over_no (by rw [hp]; rfl)
    rw [← HF.out] at u0
    clear hp hq
    go_enter Try.func17, Try.ntmps17
    go_wp2_with (go_at_call 49; refine cV.mono ?_; rintro e w1 ⟨rfl, rfl⟩)
    go_ret
    exact ⟨_, rfl, u0, b0⟩
  cases q
  · have HF : Hid (overOf zs xs = []) := over_no (by rw [hp, hq]; rfl)
    rw [← HF.out] at u0
    clear hp hq
    go_enter Try.func17, Try.ntmps17
    go_wp2_with (first | (go_at_call 49; refine cV.mono ?_; rintro e w1 ⟨rfl, rfl⟩) | (go_at_call 46; refine cO.mono ?_; rintro e w1 ⟨rfl, rfl⟩))
    go_ret
    exact ⟨_, rfl, u0, b0⟩
  have h8 := vals_len hp
  have h3 := rowsOk_out hq
  have HA := (show Hid _ from (fun x (hx : x ∈ xs) => rowsOk_at hq hx))
  have HY : Hid (overOf zs xs = putAll zs xs) := over_yes (by rw [hp, hq]; rfl)
  clear hp hq
  obtain ⟨v3, w3, hr3, O3, G3, -⟩ := Ints.appJ (.slice (some ⟨w.heap.size, 0, none⟩) 0 0) (.slice a0 zs.length k0) 24 [] zs B w.heap.size _ u0 b0.size (h0.on b0 hB) (by simp; omega)
  rw [List.nil_append] at O3
  have bF := b0.grown G3 b0.size (fun k hk => by cases hk; exact Nat.le_refl _)
  obtain ⟨a3, c3, rfl⟩ := O3.form
  rw [h8] at O3 hr3 cV ⊢
  rw [hn] at hv h3
  obtain ⟨g, rfl, hg1, hg2, -⟩ := own_someN O3 (by omega)
  obtain ⟨g0, hg0⟩ : ∃ g, w.heap.size = g := ⟨_, rfl⟩
  rw [hg0] at O3 hr3 bF hB hg1 ⊢
  have O3' : w3.ownsRow g0 3 1 (.slice (some ⟨g, 0, none⟩) 8 c3) 8 (Ints.iv (putAll zs (xs.take 0))) := by
    have := O3; unfold Ints.Owns at this; rw [h8] at this; exact this
  have hc3 : 8 ≤ c3 := by
    rcases O3.2 with ⟨h', _⟩ | ⟨q, c', cur, h', _, _, hle, _⟩
    · cases h'
    · simp only [Value.slice.injEq] at h'; rw [h8] at hle; omega
  clear u0 b0 G3 O3 h0
  have hnI : (n : Int) ≤ 300 := by omega
  go_enter Try.func17, Try.ntmps17
  go_wp2_with (first | (go_at_call 49; refine cV.mono ?_; rintro e w1 ⟨rfl, rfl⟩) | (go_at_call 46; refine cO.mono ?_; rintro e w1 ⟨rfl, rfl⟩) | (at_builtin; refine wpList_app _ rfl (.tmp 16) (.tmp 17) 24 rfl _ _ _ _ rfl rfl hr3 ?_))
  clear hr3
  go_loopw [6] (fun iv wr => ∃ k : Nat, k ≤ n ∧ iv = .int .i64 k ∧ wr.ownsRow g0 3 1 (.slice (some ⟨g, 0, none⟩) 8 c3) 8 (Ints.iv (putAll zs (xs.take k))) ∧ Below g0 w wr) (fun iv _ => n - (intOf iv).toNat)
  case atStart => exact ⟨0, Nat.zero_le _, rfl, O3', bF⟩
  case round =>
    obtain ⟨k, hk, rfl, hR, hb⟩ := hrel
    clear O3' bF hg2
    have hsz : g0 ≤ wr.heap.size := by have := hb.size; omega
    by_cases hlt : k < n
    · have hkx : k < xs.length := by omega
      obtain ⟨b, off, rfl, hbB, hc⟩ := (hv.on hb hB).open (by omega)
      obtain ⟨e0, e1⟩ := at2 (hc k hkx)
      have HP : Hid ((putAll zs (xs.take k)).set xs[k].c.toNat xs[k].v = putAll zs (xs.take (k + 1))) := putAll_take zs xs k hkx
      obtain ⟨r0, r1, r2, r3⟩ := HA.out xs[k] (List.getElem_mem hkx)
      obtain ⟨x, hx⟩ : ∃ x, xs[k] = x := ⟨_, rfl⟩
      rw [hx] at e0 e1 HP r0 r1 r2 r3
      change wr.cell? ⟨b, off + k * 2, none⟩ = _ at e0
      change wr.cell? ⟨b, off + k * 2 + 1, none⟩ = _ at e1
      obtain ⟨j, hj⟩ := Int.eq_ofNat_of_zero_le r0
      rw [hj] at e0 HP r1
      rw [Int.toNat_natCast] at HP
      have hpl : (putAll zs (xs.take k)).length = 8 := by rw [putAll_length]; exact h8
      have hj8 : j < 8 := by omega
      obtain ⟨y, c0⟩ : ∃ y, wr.cell? ⟨g, j, none⟩ = some (.int .i64 y) := ⟨_, Ints.owns_at hR j (by omega)⟩
      have hfz := fun i => hR.frozenAt i
      have i1 : (k : Int) < n := by omega
      have i2 : (j : Int) < 8 := by omega
      have i3 : (0 : Int) ≤ j := by omega
      have i4 : (0 : Int) ≤ k := by omega
      have hR3 := Ints.owns_set hR j x.v
      rw [HP.out] at hR3
      have HR := (show Hid _ from hR)
      have HR3 := (show Hid _ from hR3)
      have hk0 : ∀ u, (wr.setCell ⟨g, j, none⟩ u).cell? ⟨b, off + k * 2, none⟩ = some (.int .i64 (j : Int)) := fun u => (World.cell?_of_block (Below.heap_setCell wr _ _ _ (show b ≠ g by omega))).trans e0
      have hk1 : ∀ u, (wr.setCell ⟨g, j, none⟩ u).cell? ⟨b, off + k * 2 + 1, none⟩ = some (.int .i64 x.v) := fun u => (World.cell?_of_block (Below.heap_setCell wr _ _ _ (show b ≠ g by omega))).trans e1
      clear hc hx hj hR hR3 hpl r0
      go_wp2
      go_region_held3 (fun W => W.cell? ⟨b, off + k * 2, none⟩ = some (.int .i64 (j : Int)) ∧ W.cell? ⟨b, off + k * 2 + 1, none⟩ = some (.int .i64 x.v)) (first | go_keep | exact ⟨hk0 _, hk1 _⟩) (fail)
      all_goals
        go_wp2
        go_roundw
        case rel => exact ⟨k + 1, by omega, by go_num, HR3.out, hb.drew.setCell (p := ⟨g, j, none⟩) (show g0 ≤ g by omega) _⟩
        case measure => simp [intOf]; omega
    · obtain rfl : k = n := by omega
      have hT : putAll zs (xs.take k) = overOf zs xs := by rw [HY.out, List.take_of_length_le (by omega)]
      rw [hT] at hR
      have hl : (overOf zs xs).length = 8 := by rw [HY.out, putAll_length]; exact h8
      have HR : Hid (Ints.Owns g0 wr (.slice (some ⟨g, 0, none⟩) 8 c3) (overOf zs xs)) := by show Ints.Owns _ _ _ _; unfold Ints.Owns; rw [hl]; exact hR
      have i1 : ¬ (k : Int) < k := by omega
      clear hR hT hl
      go_wp2
      go_ret
      exact ⟨_, rfl, HR.out, hb⟩

set_option maxRecDepth 100000 in
set_option maxHeartbeats 3200000 in
theorem implOver (v0 v : Value) (zs : List Int) (xs : List R2) (B : Nat) (w : World) (h0 : Ints.Sees B w v0 zs) (hv : Sees2 B w v xs) (hB : B ≤ w.heap.size) :
    Calls Try.prog 78 #[v0, v] w fun e w' => ∃ v', e = .returned v' ∧ Ints.Owns w.heap.size w' v' (overOf zs xs) ∧ Below w.heap.size w w' := by
  have cV := Ths.implCells v0 zs B w h0
  have cO := implOk v xs B w hv hB
  rw [← vals_eq] at cV
  obtain ⟨a0, k0, rfl⟩ := h0.form
  obtain ⟨a, cap, rfl⟩ := hv.form
  obtain ⟨n, hn⟩ : ∃ n, xs.length = n := ⟨_, rfl⟩
  rw [hn] at cO ⊢
  obtain ⟨p, hp⟩ : ∃ p, valsOk zs = p := ⟨_, rfl⟩
  obtain ⟨q, hq⟩ : ∃ p, rowsOk xs = p := ⟨_, rfl⟩
  rw [hp] at cV
  rw [hq] at cO
  cases p
  · have HF : Hid (overOf zs xs = []) := over_no (by rw [hp]; rfl)
    clear hp hq
    go_enter Try.func78, Try.ntmps78
    go_wp2_with (go_at_call 42; refine cV.mono ?_; rintro e w1 ⟨rfl, rfl⟩)
    go_ret
    exact ⟨_, rfl, by rw [HF.out]; exact ⟨rfl, .inl ⟨rfl, rfl⟩⟩, Below.refl _ _⟩
  cases q
  · have HF : Hid (overOf zs xs = []) := over_no (by rw [hp, hq]; rfl)
    clear hp hq
    go_enter Try.func78, Try.ntmps78
    go_wp2_with (first | (go_at_call 42; refine cV.mono ?_; rintro e w1 ⟨rfl, rfl⟩) | (go_at_call 75; refine cO.mono ?_; rintro e w1 ⟨rfl, b1⟩))
    go_ret
    exact ⟨_, rfl, by rw [HF.out]; exact ⟨rfl, .inl ⟨rfl, rfl⟩⟩, b1⟩
  have h8 := vals_len hp
  have h3 := rowsOk_out hq
  have HA := (show Hid _ from (fun x (hx : x ∈ xs) => rowsOk_at hq hx))
  have HY : Hid (overOf zs xs = putAll zs xs) := over_yes (by rw [hp, hq]; rfl)
  clear hp hq
  have cK := fun w1 (b1 : Below w.heap.size w w1) => Ints.cloneC (.slice a0 zs.length k0) zs B w1 (h0.on b1 hB) (Nat.le_trans hB b1.size) (by omega)
  rw [h8] at cV cK ⊢
  rw [hn] at hv h3
  have H8 : Hid (zs.length = 8) := h8
  obtain ⟨g0, hg0⟩ : ∃ g, w.heap.size = g := ⟨_, rfl⟩
  rw [hg0] at hB cO cK ⊢
  clear h8
  go_enter Try.func78, Try.ntmps78
  go_wp2_with (first | (go_at_call 42; refine cV.mono ?_; rintro e w1 ⟨rfl, rfl⟩) | (go_at_call 75; refine cO.mono ?_; rintro e w1 ⟨rfl, b1⟩) | (go_at_call 43; go_loud (refine (cK _ b1).mono ?_; rintro e w2 ⟨v2, rfl, O2, b2⟩; have z1 : g0 ≤ w1.heap.size := (by have := b1.size; omega); have O3 := O2.mono z1; have bF := b1.trans (b2.mono z1); clear cK cV cO O2 b1 b2; obtain ⟨a3, c3, rfl⟩ := O3.form; rw [H8.out] at O3 ⊢)))
  obtain ⟨g, rfl, hg1, hg2, -⟩ := own_someN O3 (by omega)
  have O3' : w2.ownsRow g0 3 1 (.slice (some ⟨g, 0, none⟩) 8 c3) 8 (Ints.iv (putAll zs (xs.take 0))) := by
    have := O3; unfold Ints.Owns at this; rw [H8.out] at this; exact this
  have hc3 : 8 ≤ c3 := by
    rcases O3.2 with ⟨h', _⟩ | ⟨q, c', cur, h', _, _, hle, _⟩
    · cases h'
    · simp only [Value.slice.injEq] at h'; rw [H8.out] at hle; omega
  clear O3 h0
  have hnI : (n : Int) ≤ 300 := by omega
  go_loopw [20] (fun iv wr => ∃ k : Nat, k ≤ n ∧ iv = .int .i64 k ∧ wr.ownsRow g0 3 1 (.slice (some ⟨g, 0, none⟩) 8 c3) 8 (Ints.iv (putAll zs (xs.take k))) ∧ Below g0 w wr) (fun iv _ => n - (intOf iv).toNat)
  case atStart => exact ⟨0, Nat.zero_le _, rfl, O3', bF⟩
  case round =>
    obtain ⟨k, hk, rfl, hR, hb⟩ := hrel
    clear O3' bF hg2
    have hsz : g0 ≤ wr.heap.size := by have := hb.size; omega
    by_cases hlt : k < n
    · have hkx : k < xs.length := by omega
      obtain ⟨b, off, rfl, hbB, hc⟩ := (hv.on hb hB).open (by omega)
      obtain ⟨e0, e1⟩ := at2 (hc k hkx)
      have HP : Hid ((putAll zs (xs.take k)).set xs[k].c.toNat xs[k].v = putAll zs (xs.take (k + 1))) := putAll_take zs xs k hkx
      obtain ⟨r0, r1, r2, r3⟩ := HA.out xs[k] (List.getElem_mem hkx)
      obtain ⟨x, hx⟩ : ∃ x, xs[k] = x := ⟨_, rfl⟩
      rw [hx] at e0 e1 HP r0 r1 r2 r3
      change wr.cell? ⟨b, off + k * 2, none⟩ = _ at e0
      change wr.cell? ⟨b, off + k * 2 + 1, none⟩ = _ at e1
      obtain ⟨j, hj⟩ := Int.eq_ofNat_of_zero_le r0
      rw [hj] at e0 HP r1
      rw [Int.toNat_natCast] at HP
      have X0 := Blk.new wr #[.int .i64 (j : Int), .int .i64 x.v] 87
      have x0 := X0.cell 0; have x1 := X0.cell 1
      have bA := (alloc_below wr (.cells #[.int .i64 (j : Int), .int .i64 x.v] 87))
      have hR2 := owns_on hR bA (Nat.le_refl _)
      have bb := hb.trans (bA.mono hsz)
      have hpl : (putAll zs (xs.take k)).length = 8 := by rw [putAll_length]; exact H8.out
      have hj8 : j < 8 := by omega
      obtain ⟨y, c0⟩ : ∃ y, (wr.alloc (.cells #[.int .i64 (j : Int), .int .i64 x.v] 87)).cell? ⟨g, j, none⟩ = some (.int .i64 y) := ⟨_, Ints.owns_at hR2 j (by omega)⟩
      have hfz := fun i => hR2.frozenAt i
      have i1 : (k : Int) < n := by omega
      have i2 : (j : Int) < 8 := by omega
      have i3 : (0 : Int) ≤ j := by omega
      have hR3 := Ints.owns_set hR2 j x.v
      rw [HP.out] at hR3
      have HR3 := (show Hid _ from hR3)
      clear hc hx hj hR hR2 hR3 hpl r0 X0
      go_wp2
      go_roundw
      case rel => exact ⟨k + 1, by omega, by go_num, HR3.out, bb.setCell (p := ⟨g, j, none⟩) (show g0 ≤ g by omega) _⟩
      case measure => simp [intOf]; omega
    · obtain rfl : k = n := by omega
      have hT : putAll zs (xs.take k) = overOf zs xs := by rw [HY.out, List.take_of_length_le (by omega)]
      rw [hT] at hR
      have hl : (overOf zs xs).length = 8 := by rw [HY.out, putAll_length]; exact H8.out
      have HR : Hid (Ints.Owns g0 wr (.slice (some ⟨g, 0, none⟩) 8 c3) (overOf zs xs)) := by show Ints.Owns _ _ _ _; unfold Ints.Owns; rw [hl]; exact hR
      have i1 : ¬ (k : Int) < k := by omega
      clear hR hT hl
      go_wp2
      go_ret
      exact ⟨_, rfl, HR.out, hb⟩
end Logs
end Go.Proofs.Ytppikpdphcfomaa
