/- A new cursor over a code; one of n; a number out of a list; a number drawn. -/
import Derived.Test.YtppikpdphcfomaaDrawWalks
namespace Go.Proofs.Ytppikpdphcfomaa
open Go.RowKit
namespace Draw
open Num Bytes

set_option maxRecDepth 100000 in
set_option maxHeartbeats 800000 in
theorem newC (B : Nat) (v : Value) (l : List UInt8) (w : World) (hC : Code B w v l) (hB : B ≤ w.heap.size) (hl : l.length ≤ 1048576) :
    Calls Try.prog 36 #[v] w fun e w' => e = .returned (.pointer (some ⟨w.heap.size, 0, none⟩)) ∧ Ctx B w.heap.size v l (st0 l) w' ∧ w.grownBy w' none := by
  have HC : Hid (Code B w v l) := hC
  obtain ⟨a, cap, rfl, hcap, hcode⟩ := hC
  have HCo : Hid (l ≠ [] → ∃ b off, a = some ⟨b, off, none⟩ ∧ b < B ∧ ∀ j (h : j < l.length), w.cell? ⟨b, off + j, none⟩ = some (.int .u8 (l[j].toNat : Int))) := hcode
  have h30 := i64_and30
  clear hcode
  go_enter Try.func36, Try.ntmps36
  go_wp2
  go_loop [3, 4] (fun x i => ∃ k : Nat, k ≤ l.length ∧ k ≤ 4000 ∧ i = .int .i64 k ∧ x = .int .i64 (h0To l k)) (fun _ i => 4000 - (intOf i).toNat)
  case atStart => exact ⟨0, by omega, by omega, rfl, rfl⟩
  case round =>
    obtain ⟨k, hk1, hk2, rfl, rfl⟩ := hrel
    have hr := h0To_range l hl k
    by_cases hlt : k < l.length ∧ k < 4000
    · obtain ⟨hlt1, hlt2⟩ := hlt
      obtain ⟨b, off, rfl, hbB, hcells⟩ := HCo.out (by intro e; rw [e] at hlt1; simp at hlt1)
      have hcw := hcells k hlt1
      have hby : l[k].toNat < 256 := l[k].toNat_lt
      have hltI : (k : Int) < (l.length : Int) := by omega
      have h0I : (0 : Int) ≤ (k : Int) := by omega
      have HS : Hid (h0To l (k + 1) = (h0To l k * 131 + (l[k].toNat : Int) + 7) % 1073741824) := by
        show _ = _
        rw [h0To]
        have e : l.getD k 0 = l[k] := by simp [List.getD, hlt1]
        rw [e]
      obtain ⟨H, hH⟩ : ∃ H, h0To l k = H := ⟨_, rfl⟩
      rw [hH] at HS hr
      rw [hH]
      clear hH hcells HCo
      go_wp2
      go_round
      case rel => exact ⟨k + 1, by omega, by omega, by go_num, by rw [HS.out]⟩
      case measure => simp only [intOf]; omega
    · have HM : Hid (st0 l = (0, h0To l k)) := by
        show _ = _
        unfold st0
        rw [show min l.length 4000 = k by omega]
      obtain ⟨H, hH⟩ : ∃ H, h0To l k = H := ⟨_, rfl⟩
      rw [hH] at HM hr
      rw [hH]
      clear hH h30
      by_cases hkl : (k : Int) < (l.length : Int)
      all_goals
        go_wp2
        go_ret
        refine ⟨rfl, ⟨HC.out.below ((Below.refl _ _).alloc hB _), ?_, hB, hl, by rw [HM.out]; exact Nat.zero_le _⟩, World.grownBy_alloc _ _ _⟩
        rw [HM.out]
        unfold Cur
        show (w.heap.push _)[w.heap.size]? = _
        simp

theorem onceC (B g : Nat) (v : Value) (l : List UInt8) (s : St) (n : Int) (w : World) (h : Ctx B g v l s w) :
    Calls Try.prog 38 #[.pointer (some ⟨g, 0, none⟩), .int .i64 n] w fun e w' => e = .returned (.bool (below l s n == 0)) ∧ Ctx B g v l (belowSt l s n) w' ∧ w.grownBy w' (some g) := by
  have HC : Hid (Ctx B g v l s w) := h
  clear h
  go_enter Try.func38, Try.ntmps38
  go_wp2_with fail
  refine (belowC B g v l s n _ HC.out).mono ?_
  rintro e w1 ⟨rfl, hc, hg⟩
  go_wp2
  go_ret
  exact ⟨rfl, hc, hg⟩

set_option maxRecDepth 100000 in
theorem pickC (B g p m : Nat) (v : Value) (l : List UInt8) (s : St) (zs : List Int) (w : World) (h : Ctx B g v l s w) (hp : p ≠ g) (hpz : p < w.heap.size) (hm : 0 < m) (hm2 : m ≤ 1000)
    (hz : ∀ j, j < m → w.cell? ⟨p, j, none⟩ = some (.int .i64 (zs.getD j 0))) :
    Calls Try.prog 96 #[.pointer (some ⟨g, 0, none⟩), .slice (some ⟨p, 0, none⟩) m m] w
      fun e w' => e = .returned (.int .i64 (zs.getD (below l s m).toNat 0)) ∧ Ctx B g v l (belowSt l s m) w' ∧ w.grownBy w' (some g) := by
  have HC : Hid (Ctx B g v l s w) := h
  have HZ : Hid (∀ j, j < m → w.cell? ⟨p, j, none⟩ = some (.int .i64 (zs.getD j 0))) := hz
  have hr := below_range l s m (by omega)
  clear h hz
  go_enter Try.func96, Try.ntmps96
  go_wp2_with fail
  refine (belowC B g v l s m _ HC.out).mono ?_
  obtain ⟨d, hd⟩ := Int.eq_ofNat_of_zero_le hr.1
  rw [hd]
  rw [hd] at hr
  rintro e w1 ⟨rfl, hc, hg⟩
  have hcell : w1.cell? ⟨p, d, none⟩ = some (.int .i64 (zs.getD d 0)) := by
    rw [World.cell?_of_block (w := w) (hg.block p hpz (fun e => hp (by injection e)))]
    exact HZ.out d (by omega)
  have HD : Hid (below l s m = (d : Int)) := hd
  obtain ⟨q, hq⟩ : ∃ q, zs.getD d 0 = q := ⟨_, rfl⟩
  rw [hq] at hcell
  have HQ : Hid (zs.getD d 0 = q) := hq
  have hdm : (d : Int) < (m : Int) := hr.2
  have hd0 : (0 : Int) ≤ (d : Int) := by omega
  clear hd hq hr
  go_wp2
  go_ret
  exact ⟨ret_i (by rw [HD.out, Int.toNat_natCast]; exact HQ.out.symm), hc, hg⟩

theorem nums_cells (w : World) (j : Nat) (hj : j < 17) :
    (w.alloc (.cells #[.int .i64 (-1), .int .i64 0, .int .i64 127, .int .i64 128, .int .i64 255, .int .i64 256, .int .i64 16383, .int .i64 16384, .int .i64 65535, .int .i64 65536, .int .i64 562949953421311, .int .i64 562949953421312, .int .i64 999999999, .int .i64 1000000000, .int .i64 (-999999999), .int .i64 9223372036854775807, .int .i64 (-9223372036854775808)] 3)).cell? ⟨w.heap.size, j, none⟩ = some (.int .i64 (nums.getD j 0)) := by
  rw [World.cell?_alloc_at _ _ _ _ rfl]
  match j, hj with
  | 0, _ => rfl
  | 1, _ => rfl
  | 2, _ => rfl
  | 3, _ => rfl
  | 4, _ => rfl
  | 5, _ => rfl
  | 6, _ => rfl
  | 7, _ => rfl
  | 8, _ => rfl
  | 9, _ => rfl
  | 10, _ => rfl
  | 11, _ => rfl
  | 12, _ => rfl
  | 13, _ => rfl
  | 14, _ => rfl
  | 15, _ => rfl
  | 16, _ => rfl
  | n + 17, h => omega

end Draw
end Go.Proofs.Ytppikpdphcfomaa
