/- A new cursor over a code; one of n; a number out of a list; a number drawn. -/
import Derived.Test.YtgfapncaddgmpaaDoorDrawWalks
namespace Go.Proofs.YtgfapncaddgmpaaDoor
open Go.RowKit
namespace Draw
open Num Bytes

set_option maxRecDepth 100000 in
set_option maxHeartbeats 800000 in
theorem newC (B : Nat) (v : Value) (l : List UInt8) (w : World) (hC : Code B w v l) (hB : B ≤ w.heap.size) (hl : l.length ≤ 1048576) :
    Calls Tryd.prog 20 #[v] w fun e w' => e = .returned (.pointer (some ⟨w.heap.size, 0, none⟩)) ∧ Ctx B w.heap.size v l (st0 l) w' ∧ w.grownBy w' none := by
  have HC : Hid (Code B w v l) := hC
  obtain ⟨a, cap, rfl, hcap, hcode⟩ := hC
  have HCo : Hid (l ≠ [] → ∃ b off, a = some ⟨b, off, none⟩ ∧ b < B ∧ ∀ j (h : j < l.length), w.cell? ⟨b, off + j, none⟩ = some (.int .u8 (l[j].toNat : Int))) := hcode
  have h30 := i64_and30
  clear hcode
  go_enter Tryd.func20, Tryd.ntmps20
  go_wp2
  go_loop [3, 4] (fun x i => ∃ k : Nat, k ≤ l.length ∧ k ≤ 4000 ∧ i = .int .i64 k ∧ x = .int .i64 (h0To l k)) (fun _ i => 4000 - (intOf i).toNat)
  case atStart => exact ⟨0, by omega, by omega, rfl, rfl⟩
  case round =>
    obtain ⟨k, hk1, hk2, rfl, rfl⟩ := hrel
    have hr := h0To_range l hl k
    by_cases hlt : k < l.length ∧ k < 4000
    · obtain ⟨hlt1, hlt2⟩ := hlt
      obtain ⟨b, off, rfl, hbB, hcells⟩ := HCo.out (by intro e; rw [e] at hlt1; simp at hlt1)
      have hcw := hcells k hlt1
      have hby : l[k].toNat < 256 := l[k].toNat_lt
      have hltI : (k : Int) < (l.length : Int) := by omega
      have h0I : (0 : Int) ≤ (k : Int) := by omega
      have HS : Hid (h0To l (k + 1) = (h0To l k * 131 + (l[k].toNat : Int) + 7) % 1073741824) := by
        show _ = _
        rw [h0To]
        have e : l.getD k 0 = l[k] := by simp [List.getD, hlt1]
        rw [e]
      obtain ⟨H, hH⟩ : ∃ H, h0To l k = H := ⟨_, rfl⟩
      rw [hH] at HS hr
      rw [hH]
      clear hH hcells HCo
      go_wp2
      go_round
      case rel => exact ⟨k + 1, by omega, by omega, by go_num, by rw [HS.out]⟩
      case measure => simp only [intOf]; omega
    · have HM : Hid (st0 l = (0, h0To l k)) := by
        show _ = _
        unfold st0
        rw [show min l.length 4000 = k by omega]
      obtain ⟨H, hH⟩ : ∃ H, h0To l k = H := ⟨_, rfl⟩
      rw [hH] at HM hr
      rw [hH]
      clear hH h30
      by_cases hkl : (k : Int) < (l.length : Int)
      all_goals
        go_wp2
        go_ret
        refine ⟨rfl, ⟨HC.out.below ((Below.refl _ _).alloc hB _), ?_, hB, hl, by rw [HM.out]; exact Nat.zero_le _⟩, World.grownBy_alloc _ _ _⟩
        rw [HM.out]
        unfold Cur
        show (w.heap.push _)[w.heap.size]? = _
        simp

theorem onceC (B g : Nat) (v : Value) (l : List UInt8) (s : St) (n : Int) (w : World) (h : Ctx B g v l s w) :
    Calls Tryd.prog 28 #[.pointer (some ⟨g, 0, none⟩), .int .i64 n] w fun e w' => e = .returned (.bool (below l s n == 0)) ∧ Ctx B g v l (belowSt l s n) w' ∧ w.grownBy w' (some g) := by
  have HC : Hid (Ctx B g v l s w) := h
  clear h
  go_enter Tryd.func28, Tryd.ntmps28
  go_wp2_with fail
  refine (belowC B g v l s n _ HC.out).mono ?_
  rintro e w1 ⟨rfl, hc, hg⟩
  go_wp2
  go_ret
  exact ⟨rfl, hc, hg⟩

set_option maxRecDepth 100000 in
theorem pickC (B g p m : Nat) (v : Value) (l : List UInt8) (s : St) (zs : List Int) (w : World) (h : Ctx B g v l s w) (hp : p ≠ g) (hpz : p < w.heap.size) (hm : 0 < m) (hm2 : m ≤ 1000)
    (hz : ∀ j, j < m → w.cell? ⟨p, j, none⟩ = some (.int .i64 (zs.getD j 0))) :
    Calls Tryd.prog 31 #[.pointer (some ⟨g, 0, none⟩), .slice (some ⟨p, 0, none⟩) m m] w
      fun e w' => e = .returned (.int .i64 (zs.getD (below l s m).toNat 0)) ∧ Ctx B g v l (belowSt l s m) w' ∧ w.grownBy w' (some g) := by
  have HC : Hid (Ctx B g v l s w) := h
  have HZ : Hid (∀ j, j < m → w.cell? ⟨p, j, none⟩ = some (.int .i64 (zs.getD j 0))) := hz
  have hr := below_range l s m (by omega)
  clear h hz
  go_enter Tryd.func31, Tryd.ntmps31
  go_wp2_with fail
  refine (belowC B g v l s m _ HC.out).mono ?_
  obtain ⟨d, hd⟩ := Int.eq_ofNat_of_zero_le hr.1
  rw [hd]
  rw [hd] at hr
  rintro e w1 ⟨rfl, hc, hg⟩
  have hcell : w1.cell? ⟨p, d, none⟩ = some (.int .i64 (zs.getD d 0)) := by
    rw [World.cell?_of_block (w := w) (hg.block p hpz (fun e => hp (by injection e)))]
    exact HZ.out d (by omega)
  have HD : Hid (below l s m = (d : Int)) := hd
  obtain ⟨q, hq⟩ : ∃ q, zs.getD d 0 = q := ⟨_, rfl⟩
  rw [hq] at hcell
  have HQ : Hid (zs.getD d 0 = q) := hq
  have hdm : (d : Int) < (m : Int) := hr.2
  have hd0 : (0 : Int) ≤ (d : Int) := by omega
  clear hd hq hr
  go_wp2
  go_ret
  exact ⟨ret_i (by rw [HD.out, Int.toNat_natCast]; exact HQ.out.symm), hc, hg⟩

theorem nums_cells (w : World) (j : Nat) (hj : j < 17) :
    (w.alloc (.cells #[.int .i64 (-1), .int .i64 0, .int .i64 127, .int .i64 128, .int .i64 255, .int .i64 256, .int .i64 16383, .int .i64 16384, .int .i64 65535, .int .i64 65536, .int .i64 562949953421311, .int .i64 562949953421312, .int .i64 999999999, .int .i64 1000000000, .int .i64 (-999999999), .int .i64 9223372036854775807, .int .i64 (-9223372036854775808)] 3)).cell? ⟨w.heap.size, j, none⟩ = some (.int .i64 (nums.getD j 0)) := by
  rw [World.cell?_alloc_at _ _ _ _ rfl]
  match j, hj with
  | 0, _ => rfl
  | 1, _ => rfl
  | 2, _ => rfl
  | 3, _ => rfl
  | 4, _ => rfl
  | 5, _ => rfl
  | 6, _ => rfl
  | 7, _ => rfl
  | 8, _ => rfl
  | 9, _ => rfl
  | 10, _ => rfl
  | 11, _ => rfl
  | 12, _ => rfl
  | 13, _ => rfl
  | 14, _ => rfl
  | 15, _ => rfl
  | 16, _ => rfl
  | n + 17, h => omega

set_option maxRecDepth 100000 in
set_option maxHeartbeats 800000 in
theorem numC (B g : Nat) (v : Value) (l : List UInt8) (s : St) (w : World) (h : Ctx B g v l s w) :
    Calls Tryd.prog 21 #[.pointer (some ⟨g, 0, none⟩)] w fun e w' => e = .returned (.int .i64 (num l s)) ∧ Ctx B g v l (numSt l s) w' ∧ w.grownBy w' (some g) := by
  have HC : Hid (Ctx B g v l s w) := h
  clear h
  have hr := below_range l s 8 (by omega)
  by_cases h0 : below l s 8 = 0
  · have HX : Hid (num l s = nums.getD (below l (belowSt l s 8) 17).toNat 0) := by show _ = _; unfold num; rw [if_pos h0]
    have HS : Hid (numSt l s = belowSt l (belowSt l s 8) 17) := by show _ = _; unfold numSt; rw [if_pos h0]
    have HD : Hid (below l s 8 = 0) := h0
    clear h0 hr
    go_enter Tryd.func21, Tryd.ntmps21
    go_wp2_with fail
    refine (belowC B g v l s 8 _ HC.out).mono ?_
    rw [HD.out]
    rintro e w1 ⟨rfl, hc, hg⟩
    have hgl := hc.cur.lt
    have HCC : Hid (Ctx B g v l (belowSt l s 8) w1) := hc
    clear hc
    go_wp2_with fail
    refine (pickC B g w1.heap.size 17 v l (belowSt l s 8) nums _ (HCC.out.alloc _) (by omega) (by simp) (by omega) (by omega) (nums_cells w1)).mono ?_
    rintro e w2 ⟨rfl, hc2, hg2⟩
    go_wp2
    go_ret
    refine ⟨ret_i HX.out.symm, by rw [HS.out]; exact hc2, grown_trans hg (grown_trans (World.grownBy_alloc _ _ _) hg2)⟩
  · obtain ⟨d, hd⟩ : ∃ d, below l s 8 = d := ⟨_, rfl⟩
    have HD : Hid (below l s 8 = d) := hd
    have hd0 : (d == 0) = false := by rw [beq_eq_false_iff_ne]; omega
    by_cases h1 : below l s 8 = 1
    · have HX : Hid (num l s = below l (belowSt l s 8) 1000000000 * below l (belowSt l (belowSt l s 8) 1000000000) 1000000000) := by show _ = _; unfold num; rw [if_neg h0, if_pos h1]
      have HS : Hid (numSt l s = belowSt l (belowSt l (belowSt l s 8) 1000000000) 1000000000) := by show _ = _; unfold numSt; rw [if_neg h0, if_pos h1]
      have hb1 := below_range l (belowSt l s 8) 1000000000 (by omega)
      have hb2 := below_range l (belowSt l (belowSt l s 8) 1000000000) 1000000000 (by omega)
      have hmb := mul_bound _ _ hb1 hb2
      obtain ⟨x, hx⟩ : ∃ x, below l (belowSt l s 8) 1000000000 = x := ⟨_, rfl⟩
      obtain ⟨y, hy⟩ : ∃ y, below l (belowSt l (belowSt l s 8) 1000000000) 1000000000 = y := ⟨_, rfl⟩
      rw [hx, hy] at HX hmb
      have HX1 : Hid (below l (belowSt l s 8) 1000000000 = x) := hx
      have HX2 : Hid (below l (belowSt l (belowSt l s 8) 1000000000) 1000000000 = y) := hy
      have hd1 : (d == 1) = true := by rw [beq_iff_eq]; omega
      clear h0 h1 hr hx hy hb1 hb2 hd
      go_enter Tryd.func21, Tryd.ntmps21
      go_wp2_with fail
      refine (belowC B g v l s 8 _ HC.out).mono ?_
      rw [HD.out]
      rintro e w1 ⟨rfl, hc, hg⟩
      go_wp2_with fail
      refine (belowC B g v l _ 1000000000 _ hc).mono ?_
      rw [HX1.out]
      rintro e w2 ⟨rfl, hc2, hg2⟩
      go_wp2_with fail
      refine (belowC B g v l _ 1000000000 _ hc2).mono ?_
      rw [HX2.out]
      rintro e w3 ⟨rfl, hc3, hg3⟩
      go_wp2
      go_ret
      exact ⟨ret_i HX.out.symm, by rw [HS.out]; exact hc3, grown_trans hg (grown_trans hg2 hg3)⟩
    · have hd1 : (d == 1) = false := by rw [beq_eq_false_iff_ne]; omega
      by_cases h2 : below l s 8 = 2
      · have HX : Hid (num l s = -(below l (belowSt l s 8) 100000)) := by show _ = _; unfold num; rw [if_neg h0, if_neg h1, if_pos h2]
        have HS : Hid (numSt l s = belowSt l (belowSt l s 8) 100000) := by show _ = _; unfold numSt; rw [if_neg h0, if_neg h1, if_pos h2]
        have hb1 := below_range l (belowSt l s 8) 100000 (by omega)
        obtain ⟨x, hx⟩ : ∃ x, below l (belowSt l s 8) 100000 = x := ⟨_, rfl⟩
        rw [hx] at HX hb1
        have HX1 : Hid (below l (belowSt l s 8) 100000 = x) := hx
        have hd2 : (d == 2) = true := by rw [beq_iff_eq]; omega
        clear h0 h1 h2 hr hx hd
        go_enter Tryd.func21, Tryd.ntmps21
        go_wp2_with fail
        refine (belowC B g v l s 8 _ HC.out).mono ?_
        rw [HD.out]
        rintro e w1 ⟨rfl, hc, hg⟩
        go_wp2_with fail
        refine (belowC B g v l _ 100000 _ hc).mono ?_
        rw [HX1.out]
        rintro e w2 ⟨rfl, hc2, hg2⟩
        go_wp2
        go_ret
        exact ⟨ret_i HX.out.symm, by rw [HS.out]; exact hc2, grown_trans hg hg2⟩
      · have HX : Hid (num l s = below l (belowSt l s 8) 70000) := by show _ = _; unfold num; rw [if_neg h0, if_neg h1, if_neg h2]
        have HS : Hid (numSt l s = belowSt l (belowSt l s 8) 70000) := by show _ = _; unfold numSt; rw [if_neg h0, if_neg h1, if_neg h2]
        have hd2 : (d == 2) = false := by rw [beq_eq_false_iff_ne]; omega
        clear h0 h1 h2 hr hd
        go_enter Tryd.func21, Tryd.ntmps21
        go_wp2_with fail
        refine (belowC B g v l s 8 _ HC.out).mono ?_
        rw [HD.out]
        rintro e w1 ⟨rfl, hc, hg⟩
        go_wp2_with fail
        refine (belowC B g v l _ 70000 _ hc).mono ?_
        rintro e w2 ⟨rfl, hc2, hg2⟩
        go_wp2
        go_ret
        exact ⟨ret_i HX.out.symm, by rw [HS.out]; exact hc2, grown_trans hg hg2⟩
end Draw
end Go.Proofs.YtgfapncaddgmpaaDoor
