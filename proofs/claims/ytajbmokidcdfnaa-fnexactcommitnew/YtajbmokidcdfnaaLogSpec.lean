/- What the specification's Last, Cut, Net and CellsOf answer. -/
import Derived.Test.YtajbmokidcdfnaaLogOk
import Derived.Test.YtajbmokidcdfnaaLogPush
set_option linter.unusedVariables false
set_option linter.unusedSimpArgs false
namespace Go.Proofs.Ytajbmokidcdfnaa
open Go.RowKit
namespace Logs
open Bas Flat

theorem ret_last {a b : Option Int} (h : a = b) : Ending.returned (.tuple #[.int .i64 (a.getD 0), .bool a.isSome]) = .returned (.tuple #[.int .i64 (b.getD 0), .bool b.isSome]) := by rw [h]

set_option maxRecDepth 100000 in
set_option maxHeartbeats 1600000 in
theorem specLast (v : Value) (xs : List R2) (c : Int) (B : Nat) (w : World) (hv : Sees2 B w v xs) :
    Calls Try.prog 106 #[v, .int .i64 c] w fun e w' => e = .returned (.tuple #[.int .i64 ((lastOf xs c).getD 0), .bool (lastOf xs c).isSome]) ∧ w = w' := by
  have c0 := specOk v xs B w hv
  obtain ⟨a, cap, rfl⟩ := hv.form
  obtain ⟨n, hn⟩ : ∃ n, xs.length = n := ⟨_, rfl⟩
  obtain ⟨p, hp⟩ : ∃ p, rowsOk xs = p := ⟨_, rfl⟩
  rw [hp] at c0
  cases p
  · have HF : Hid (none = lastOf xs c) := (lastOf_no hp c).symm
    rw [hn] at c0 ⊢
    clear hp
    go_enter Try.func106, Try.ntmps106
    go_wp2_with fail
    refine c0.mono ?_
    rintro e w1 ⟨rfl, rfl⟩
    go_wp2
    go_ret2
    exact ⟨ret_last HF.out, rfl⟩
  have h3 := rowsOk_out hp
  rw [hn] at c0 hv h3 ⊢
  have HS : Hid (lastOf xs c = lastV xs c) := lastOf_ok hp c
  have HE : Hid (lastV xs c = lastV (xs.take n) c) := by show _ = _; rw [List.take_of_length_le (by omega)]
  clear hp
  go_enter Try.func106, Try.ntmps106
  go_wp2_with fail
  refine c0.mono ?_
  rintro e w1 ⟨rfl, rfl⟩
  clear c0
  go_wp2
  go_loop [6] (fun i => ∃ k : Nat, k ≤ n ∧ i = .int .i64 ((k : Int) - 1) ∧ lastV xs c = lastV (xs.take k) c) (fun i => (intOf i + 1).toNat)
  case atStart => exact ⟨n, Nat.le_refl _, by go_num, HE.out⟩
  case round =>
    obtain ⟨k, hk, rfl, he⟩ := hrel
    clear HE
    match k, hk, he with
    | 0, hk, he =>
      have HF : Hid (none = lastOf xs c) := by show _ = _; rw [HS.out, he]; rfl
      clear he
      go_wp2
      go_ret2
      exact ⟨ret_last HF.out, rfl⟩
    | k + 1, hk, he =>
      obtain ⟨b, off, rfl, hbB, hc⟩ := hv.open (by omega)
      have e1 : ((k + 1 : Nat) : Int) - 1 = (k : Int) := by omega
      rw [e1]
      rw [lastV_take xs c k (by omega)] at he
      obtain ⟨a0, a1⟩ := at2 (hc k (by omega))
      obtain ⟨x, hx⟩ : ∃ x, xs[k] = x := ⟨_, rfl⟩
      rw [hx] at a0 a1 he
      change w.cell? ⟨b, off + k * 2, none⟩ = _ at a0
      change w.cell? ⟨b, off + k * 2 + 1, none⟩ = _ at a1
      have i1 : (k : Int) < n := by omega
      have i0 : (0 : Int) ≤ k := by omega
      by_cases hcx : x.c = c
      · rw [if_pos hcx] at he
        have HF : Hid (some x.v = lastOf xs c) := by show _ = _; rw [HS.out, he]
        have h9 : (x.c == c) = true := by simpa using hcx
        clear he hx hc hcx
        go_wp2
        go_ret2
        exact ⟨ret_last HF.out, rfl⟩
      · rw [if_neg hcx] at he
        have HE2 := (show Hid _ from he)
        have h9 : (x.c == c) = false := by simpa using hcx
        clear he hx hc hcx
        go_wp2
        go_round
        case rel => exact ⟨k, by omega, by go_num, HE2.out⟩
        case measure => simp [intOf]

set_option maxRecDepth 100000 in
set_option maxHeartbeats 3200000 in
theorem specNet (v : Value) (xs : List R2) (B : Nat) (w : World) (hv : Sees2 B w v xs) (hB : B ≤ w.heap.size) :
    Calls Try.prog 60 #[v] w fun e w' => ∃ v', e = .returned v' ∧ Owns2 w.heap.size w' v' (netOf xs) ∧ Below w.heap.size w w' := by
  obtain ⟨a, cap, rfl⟩ := hv.form
  have u0 := owns_litR w (B := w.heap.size) (Nat.le_refl _)
  have b0 := alloc_below w (.cells #[] 88)
  obtain ⟨g, hg⟩ : ∃ g, w.heap.size = g := ⟨_, rfl⟩
  rw [hg] at u0 b0 hB ⊢
  obtain ⟨n, hn⟩ : ∃ n, xs.length = n := ⟨_, rfl⟩
  rw [hn] at hv ⊢
  go_enter Try.func60, Try.ntmps60
  go_wp2
  go_loopw [3, 4] (fun ov iv wr => ∃ (k : Nat) (ax : Option Addr) (mx cx : Nat), k ≤ 8 ∧ iv = .int .i64 k ∧ ov = .slice ax mx cx ∧ (netTo xs k).length = mx ∧ Owns2 g wr (.slice ax mx cx) (netTo xs k) ∧ Below g w wr) (fun _ iv _ => 8 - (intOf iv).toNat)
  case atStart => exact ⟨0, _, _, _, Nat.zero_le _, rfl, rfl, rfl, u0, b0⟩
  case round =>
    obtain ⟨k, ax, mx, cx, hk, rfl, rfl, hm, O, hb⟩ := hrel
    clear u0 b0
    have hsz : g ≤ wr.heap.size := by have := hb.size; omega
    by_cases hlt : k < 8
    · have i1 : (k : Int) < 8 := by omega
      have cL := specLast _ xs (k : Int) B wr (hv.on hb hB)
      have HM := (show Hid _ from hm)
      cases hl : lastOf xs (k : Int) with
      | none =>
        rw [hl] at cL
        have HE : Hid (netTo xs (k + 1) = netTo xs k) := netTo_none hl
        clear hl hm
        change Calls _ _ _ _ (fun e w' => e = .returned (.tuple #[.int .i64 0, .bool false]) ∧ _) at cL
        go_wp2_with fail
        refine cL.mono ?_
        rintro e w2 ⟨rfl, rfl⟩
        clear cL
        go_wp2
        go_roundw
        case rel => exact ⟨k + 1, _, _, _, by omega, by go_num, rfl, by rw [HE.out]; exact HM.out, by rw [HE.out]; exact O, hb⟩
        case measure => simp [intOf]; omega
      | some y =>
        rw [hl] at cL
        have HE : Hid (netTo xs (k + 1) = netTo xs k ++ [⟨(k : Int), y⟩]) := netTo_some hl
        have hl8 := netTo_length xs k
        obtain ⟨v3, w3, hr3, O3, G3, -⟩ := pushR _ (netTo xs k) g wr O hsz (by omega) ⟨(k : Int), y⟩
        rw [← HE.out] at O3
        have b3 := hb.grown G3 hsz (fun q hq => (O.at q hq).1)
        obtain ⟨a3, c3, rfl⟩ := O3.form
        obtain ⟨m3, hm3⟩ : ∃ n, (netTo xs (k + 1)).length = n := ⟨_, rfl⟩
        rw [hm3] at O3 hr3
        have HM3 := (show Hid _ from hm3)
        clear hl hm hm3 HE O
        change Calls _ _ _ _ (fun e w' => e = .returned (.tuple #[.int .i64 y, .bool true]) ∧ _) at cL
        change (Builtin.append_ #[28, 28] 28 #[.slice ax mx cx, .slice (some ⟨wr.heap.size, 0, none⟩) 1 1]).run Try.prog (wr.alloc (.cells #[.int .i64 (k : Int), .int .i64 y] 88)) = _ at hr3
        go_wp2_with (first | (go_at_call 106; refine cL.mono ?_; rintro e w2 ⟨rfl, rfl⟩; clear cL) | (at_builtin; refine wpList_app _ rfl _ _ 28 rfl _ _ _ _ rfl rfl hr3 ?_))
        clear hr3
        go_roundw
        case rel => exact ⟨k + 1, _, _, _, by omega, by go_num, rfl, HM3.out, O3, b3⟩
        case measure => simp [intOf]; omega
    · obtain rfl : k = 8 := by omega
      rw [netTo_eight] at O hm
      subst hm
      go_wp2
      go_ret
      exact ⟨_, rfl, O, hb⟩

set_option maxRecDepth 100000 in
set_option maxHeartbeats 3200000 in
theorem specCellsOf (v : Value) (xs : List R2) (B : Nat) (w : World) (hv : Sees2 B w v xs) (hB : B ≤ w.heap.size) :
    Calls Try.prog 61 #[v] w fun e w' => ∃ v', e = .returned v' ∧ Ints.Owns w.heap.size w' v' (cellsOf xs) ∧ Below w.heap.size w w' := by
  have u0 := Ints.owns_lit w (B := w.heap.size) (Nat.le_refl _)
  have b0 := alloc_below w (.cells #[] 3)
  have cN := specNet v xs B _ (hv.on b0 hB) (Nat.le_trans hB b0.size)
  obtain ⟨a, cap, rfl⟩ := hv.form
  obtain ⟨g, hg⟩ : ∃ g, w.heap.size = g := ⟨_, rfl⟩
  obtain ⟨w0, hw0⟩ : ∃ W, w.alloc (.cells #[] 3) = W := ⟨_, rfl⟩
  have z0 : w.heap.size < w0.heap.size := by rw [← hw0]; simp
  rw [hw0] at u0 b0 cN
  rw [hg] at u0 b0 hB z0 ⊢
  have hl8 := netOf_length xs
  obtain ⟨ns, hns⟩ : ∃ l, netOf xs = l := ⟨_, rfl⟩
  have HC : Hid (cellsOf xs = ns.map R2.c) := by show _ = _; unfold cellsOf; rw [hns]
  rw [hns] at cN hl8
  obtain ⟨m, hm⟩ : ∃ m, ns.length = m := ⟨_, rfl⟩
  have HM := (show Hid _ from hm)
  go_enter Try.func61, Try.ntmps61
  go_wp2_with fail
  refine cN.mono ?_
  rintro e w1 ⟨vn, rfl, On, b1⟩
  clear cN
  have bb := b0.trans (b1.mono (by omega))
  have u1 := u0.on b1 (Nat.le_refl _)
  have sN := On.sees
  have hlt1 : w0.heap.size ≤ w1.heap.size := b1.size
  obtain ⟨an, cn, rfl⟩ := sN.form
  rw [hm] at sN
  rw [hm]
  rw [hm] at hl8
  have hl8' : (m : Int) ≤ 8 := by omega
  clear hm hw0 hns u0
  go_wp2
  go_loopw [3, 5] (fun ov iv wr => ∃ (k cx : Nat) (ax : Option Addr), k ≤ m ∧ iv = .int .i64 k ∧ ov = .slice ax k cx ∧ Ints.Owns g wr (.slice ax k cx) ((ns.map R2.c).take k) ∧ Sees2 wr.heap.size wr (.slice an m cn) ns ∧ (∀ q, (Value.slice ax k cx).ownBlock = some q → (Value.slice an m cn).ownBlock ≠ some q) ∧ Below g w wr) (fun _ iv _ => m - (intOf iv).toNat)
  case atStart => exact ⟨0, _, _, Nat.zero_le _, rfl, rfl, by simpa using u1, sN, fun q hq h => by cases hq; have h2 : w0.heap.size ≤ g := (On.at _ (by rw [HM.out]; exact h)).1; omega, bb⟩
  case round =>
    obtain ⟨k, cx, ax, hk, rfl, rfl, O, sR, hne, hb⟩ := hrel
    clear u1 sN bb
    have hsz : g ≤ wr.heap.size := by have := hb.size; omega
    by_cases hlt : k < m
    · have hkm : k < ns.length := by rw [HM.out]; exact hlt
      obtain ⟨b, off, rfl, hbB, hc⟩ := sR.open (by omega)
      obtain ⟨a0, a1⟩ := at2 (hc k hkm)
      have i1 : (k : Int) < m := by omega
      have i0 : (0 : Int) ≤ k := by omega
      have HE : Hid ((ns.map R2.c).take (k + 1) = (ns.map R2.c).take k ++ [ns[k].c]) := by
        show _ = _
        rw [List.take_succ_eq_append_getElem (by simpa using hkm)]; simp
      have hl : ((ns.map R2.c).take k).length = k := by rw [List.length_take, List.length_map]; omega
      have hl1 : ((ns.map R2.c).take (k + 1)).length = k + 1 := by rw [List.length_take, List.length_map]; omega
      obtain ⟨x, hx⟩ : ∃ x, ns[k] = x := ⟨_, rfl⟩
      rw [hx] at a0 a1 HE
      change wr.cell? ⟨b, off + k * 2, none⟩ = _ at a0
      obtain ⟨v3, w3, hr3, O3, G3, L3⟩ := pushI _ _ g wr O hsz (by omega) x.c
      rw [← HE.out] at O3
      have b3 := hb.grown G3 hsz (fun q hq => (O.at q hq).1)
      obtain ⟨a3, c3, rfl⟩ := O3.form
      rw [hl1] at O3 hr3 L3
      clear hc hx hl hl1
      go_wp2_with (at_builtin; refine wpList_app _ rfl _ _ 23 rfl _ _ _ _ rfl rfl hr3 ?_)
      clear hr3
      go_roundw
      case rel =>
        refine ⟨k + 1, _, _, by omega, by go_num, rfl, O3, ?_, fun q hq h => ?_, b3⟩
        · obtain ⟨a', c', e, q1, q2, q3⟩ := sR
          refine ⟨a', c', e, q1, q2, fun hne2 => ?_⟩
          obtain ⟨b', off', rfl, hb', hc'⟩ := q3 hne2
          simp only [Value.slice.injEq, Option.some.injEq, Addr.mk.injEq] at e
          obtain ⟨⟨rfl, rfl, -⟩, -, -⟩ := e
          refine ⟨b, off, rfl, Nat.lt_of_lt_of_le hb' G3.size, fun j hj => (hc' j hj).keep (G3.block b hb' fun e2 => hne b e2.symm ?_)⟩
          rfl
        · rcases L3 q hq with h' | h'
          · exact hne q h' h
          · cases h
            have h2 : wr.heap.size ≤ b := h'
            omega
      case measure => simp [intOf]; omega
    · obtain rfl : k = m := by omega
      have hT : (ns.map R2.c).take k = cellsOf xs := by rw [HC.out, List.take_of_length_le (by rw [List.length_map, HM.out]; exact Nat.le_refl _)]
      rw [hT] at O
      go_wp2
      go_ret
      exact ⟨_, rfl, O, hb⟩
end Logs
end Go.Proofs.Ytajbmokidcdfnaa
