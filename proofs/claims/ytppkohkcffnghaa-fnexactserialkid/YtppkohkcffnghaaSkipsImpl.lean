/- What the program's skipsStayHome and forksOnceOutside answer. -/
import Derived.Test.YtppkohkcffnghaaHomesImpl
import Derived.Deep.QuietTactic
import Derived.BigQuiet
set_option linter.unusedVariables false
set_option linter.unusedSimpArgs false
namespace Go.Proofs.Ytppkohkcffnghaa
open Go.RowKit
namespace Ops
open Bas Flat

set_option maxRecDepth 100000 in
theorem eqB2 (x y : B2) (W : World) : (Op.equalIn 10000 156 (.agg #[.int .i64 x.b, .int .i64 x.d]) (.agg #[.int .i64 y.b, .int .i64 y.d])).run Try.prog W = .ok (sameB x y) W := by
  have hu : Try.prog.underlying 156 = some (.struct (Try.prog.fieldsOf 156)) := by kernel_rfl
  have hp : Try.prog.stoodInHeld 156 = false := by kernel_rfl
  rw [run_equalIn_agg (d := 9999) (ht := hu) (hp := hp)]
  have h1 := hu.symm.trans Try.underlying156
  simp only [Option.some.injEq, TypeDesc.struct.injEq] at h1
  rw [h1]
  obtain ⟨x0, x1⟩ := x
  obtain ⟨y0, y1⟩ := y
  unfold sameB
  by_cases h0 : x0 = y0 <;> by_cases h1 : x1 = y1 <;> simp [Op.eqFields, go_sem, h0, h1]

theorem bdrewN {B : Nat} {a w : World} (h : Below B a w) (n : Nat) : Below B a (w.drewN n) := h.trans ⟨rfl, rfl, rfl, Nat.le_refl _, fun _ _ => rfl⟩
theorem ok_skipI {x : O4} (h : okOp x = true) (h7 : x.k = 7) : 1 ≤ x.b ∧ x.b ≤ 20 := by
  unfold okOp at h
  rw [h7] at h
  have h' : (inn 0 3 x.a && inn 1 20 x.b && inn 0 0 x.c) = true := h
  rw [Bool.and_eq_true, Bool.and_eq_true] at h'
  have := h'.1.2
  unfold inn at this
  simpa using this
theorem skip_noI {xs : List O4} {i t : Nat} (hi : i < xs.length) (ht : xs[i].b = (t : Int)) (h : ¬ i + 1 + t ≤ xs.length) : skipOk xs i = false := by
  unfold skipOk
  have hg : xs.getD i z4 = xs[i] := by simp [List.getD, hi]
  rw [hg, ht, decide_eq_false (by omega), Bool.false_and]

set_option maxRecDepth 100000 in
set_option maxHeartbeats 6400000 in
theorem skipsC (v vh : Value) (xs : List O4) (B : Nat) (w : World) (hv : Sees4 B w v xs) (hh : Sees bEl B w vh (homes xs (xs.length + 1))) (hB : B ≤ w.heap.size) (hlen : xs.length ≤ 1000) (hc : closedGo xs 0 = true) (hok : ∀ j (h : j < xs.length), okOp xs[j] = true) :
    Calls Try.prog 111 #[v, vh] w fun e w' => e = .returned (.bool (skipsGo xs xs 0)) ∧ Below w.heap.size w w' := by
  obtain ⟨a, cap, rfl⟩ := hv.form
  obtain ⟨ah, ch, rfl⟩ := hh.form
  obtain ⟨n, hn⟩ : ∃ n, xs.length = n := ⟨_, rfl⟩
  rw [homes_length] at hh ⊢
  rw [hn] at hv hh hlen ⊢
  obtain ⟨n1, hn1⟩ : ∃ n1, n + 1 = n1 := ⟨_, rfl⟩
  rw [hn1] at hh ⊢
  obtain ⟨g, hg⟩ : ∃ g, w.heap.size = g := ⟨_, rfl⟩
  rw [hg] at hB ⊢
  have hb0 : Below g w w := Below.refl _ _
  have HC : Hid (closedGo xs 0 = true) := hc
  have HO := (show Hid _ from hok)
  have HE : Hid (skipsGo xs xs 0 = skipsGo xs (xs.drop 0) 0) := rfl
  clear hc hok
  go_enter Try.func111, Try.ntmps111
  go_wp2
  go_loopw [10] (fun iv wr => ∃ k : Nat, k ≤ n ∧ iv = .int .i64 k ∧ skipsGo xs xs 0 = skipsGo xs (xs.drop k) k ∧ Below g w wr) (fun iv _ => n - (intOf iv).toNat)
  case atStart => exact ⟨0, Nat.zero_le _, rfl, HE.out, hb0⟩
  case round =>
    obtain ⟨k, hk, rfl, he, hb⟩ := hrel
    clear HE hb0
    have hsz : g ≤ wr.heap.size := by have := hb.size; omega
    by_cases hlt : k < n
    · obtain ⟨b, off, rfl, hbB, hc⟩ := (hv.on hb hB).open (by omega)
      obtain ⟨b', off', rfl, hbB', hc'⟩ := (hh.on hb hB).open (by rw [homes_length]; omega)
      obtain ⟨e0, e1, e2, e3⟩ := seeI hc k (by omega)
      have i1 : (k : Int) < n := by omega
      rw [skipsGo_step (by omega)] at he
      have hx7 := HO.out k (by omega)
      have HS := (show Hid _ from (fun (h7 : xs[k].k = 7) (t : Nat) (ht : xs[k].b = (t : Int)) (hto : k + 1 + t ≤ xs.length) => skip_home HC.out (by omega) h7 ht hto))
      have HN := (show Hid _ from (fun (t : Nat) (ht : xs[k].b = (t : Int)) (hto : ¬ k + 1 + t ≤ xs.length) => skip_noI (xs := xs) (i := k) (by omega) ht hto))
      obtain ⟨o, ho⟩ : ∃ o, xs[k] = o := ⟨_, rfl⟩
      rw [ho] at e0 e1 e2 e3 he hx7 HS HN
      clear ho hc
      have X0 := Blk.new wr #[.int .i64 o.k, .int .i64 o.a, .int .i64 o.b, .int .i64 o.c] 30
      by_cases h7 : o.k = 7
      · obtain ⟨b1, b2⟩ := ok_skipI hx7 h7
        obtain ⟨t, ht⟩ := Int.eq_ofNat_of_zero_le (show 0 ≤ o.b by omega)
        have d7 : (!(o.k == 7) || skipOk xs k) = skipOk xs k := by simp [h7]
        rw [d7] at he
        obtain ⟨m, hm⟩ : ∃ m, k + 1 + t = m := ⟨_, rfl⟩
        have hmI : (k : Int) + 1 + t = m := by omega
        have hmU : (m : Int) ≤ 2000 := by omega
        by_cases hto : m ≤ n
        · have HK : Hid (skipOk xs k = sameB (topB (stAt xs m)) (topB (stAt xs k))) := by rw [← hm]; exact HS.out h7 t ht (by omega)
          have s1 := hc' m (by rw [homes_length]; omega)
          have s2 := hc' k (by rw [homes_length]; omega)
          rw [homes_at] at s1 s2
          obtain ⟨f0, f1⟩ := atB s1
          obtain ⟨g0, g1⟩ := atB s2
          change wr.cell? ⟨b', off' + m * 2, none⟩ = _ at f0
          change wr.cell? ⟨b', off' + m * 2 + 1, none⟩ = _ at f1
          change wr.cell? ⟨b', off' + k * 2, none⟩ = _ at g0
          change wr.cell? ⟨b', off' + k * 2 + 1, none⟩ = _ at g1
          obtain ⟨p, hp⟩ : ∃ p, topB (stAt xs m) = p := ⟨_, rfl⟩
          obtain ⟨q, hq⟩ : ∃ q, topB (stAt xs k) = q := ⟨_, rfl⟩
          rw [hp] at f0 f1 HK
          rw [hq] at g0 g1 HK
          have hE := fun W => eqB2 p q W
          rw [h7, ht] at X0
          rw [h7] at e0
          rw [ht] at e2
          have bA := alloc_below wr (.cells #[.int .i64 7, .int .i64 o.a, .int .i64 t, .int .i64 o.c] 30)
          obtain ⟨hcl, -⟩ := bcell bA
          have f0 := (hcl b' (off' + m * 2) (by omega)).trans f0
          have f1 := (hcl b' (off' + m * 2 + 1) (by omega)).trans f1
          have g0 := (hcl b' (off' + k * 2) (by omega)).trans g0
          have g1 := (hcl b' (off' + k * 2 + 1) (by omega)).trans g1
          have x0 := X0.cell 0
          have x2 := X0.cell 2
          obtain ⟨s, hs⟩ : ∃ s, sameB p q = s := ⟨_, rfl⟩
          rw [hs] at hE HK
          rw [HK.out] at he
          have HF := (show Hid _ from he)
          have i3 : (m : Int) < n1 := by omega
          have i4 : (k : Int) < n1 := by omega
          have i5 : (0 : Int) ≤ m := by omega
          have i6 : (0 : Int) ≤ k := by omega
          have d1 : decide (n < m) = false := decide_eq_false (by omega)
          clear he hp hq hs s1 s2 hc' HS HN d7 hcl hm HK h7 ht b1 b2 hto hx7 HO HC
          cases s
          · go_wp2_with fail
            go_quiet (fail)
            go_wp2
            go_ret
            exact ⟨retB (by rw [HF.out, Bool.false_and]), bdrewN (hb.trans (bA.mono hsz)) _⟩
          · go_wp2_with fail
            go_quiet (fail)
            go_wp2
            go_roundw
            case rel => exact ⟨k + 1, by omega, by go_num, by rw [HF.out, Bool.true_and], bdrewN (hb.trans (bA.mono hsz)) _⟩
            case measure => simp [intOf]; omega
        · have HF : Hid (false = skipsGo xs xs 0) := by
            show _ = _
            rw [he, HN.out t ht (by omega), Bool.false_and]
          have d1 : decide (n < m) = true := decide_eq_true (by omega)
          rw [h7, ht] at X0
          rw [h7] at e0
          rw [ht] at e2
          have x0 := X0.cell 0
          have x2 := X0.cell 2
          clear he hc' HS HN d7 hm h7 ht b1 b2 hto hx7 HO HC
          go_wp2_with fail
          go_quiet (fail)
          go_wp2
          go_ret
          exact ⟨retB HF.out, bdrewN (hb.trans ((alloc_below wr _).mono hsz)) _⟩
      · have HF : Hid (skipsGo xs xs 0 = skipsGo xs (xs.drop (k + 1)) (k + 1)) := by
          show _ = _
          rw [he]; simp [h7]
        have d7 : (o.k == 7) = false := by simp [h7]
        clear he h7 HS HN hc' hx7
        go_wp2
        go_roundw
        case rel => exact ⟨k + 1, by omega, by go_num, HF.out, hb.alloc hsz _⟩
        case measure => simp [intOf]; omega
    · obtain rfl : k = n := by omega
      have HF : Hid (true = skipsGo xs xs 0) := by
        show _ = _
        rw [he, List.drop_of_length_le (by omega)]; rfl
      have i1 : ¬ (k : Int) < k := by omega
      clear he
      go_wp2
      go_ret
      exact ⟨retB HF.out, hb⟩

set_option maxRecDepth 100000 in
set_option maxHeartbeats 6400000 in
theorem forksC (v vh : Value) (xs : List O4) (B : Nat) (w : World) (hv : Sees4 B w v xs) (hh : Sees bEl B w vh (homes xs (xs.length + 1))) (hB : B ≤ w.heap.size) (hlen : xs.length ≤ 1000) (hc : closedGo xs 0 = true) :
    Calls Try.prog 112 #[v, vh] w fun e w' => e = .returned (.bool (forksGo xs 0 0)) ∧ Below w.heap.size w w' := by
  obtain ⟨a, cap, rfl⟩ := hv.form
  obtain ⟨ah, ch, rfl⟩ := hh.form
  obtain ⟨n, hn⟩ : ∃ n, xs.length = n := ⟨_, rfl⟩
  rw [homes_length] at hh ⊢
  rw [hn] at hv hh hlen ⊢
  obtain ⟨n1, hn1⟩ : ∃ n1, n + 1 = n1 := ⟨_, rfl⟩
  rw [hn1] at hh ⊢
  obtain ⟨g, hg⟩ : ∃ g, w.heap.size = g := ⟨_, rfl⟩
  rw [hg] at hB ⊢
  have hb0 : Below g w w := Below.refl _ _
  have HC := (show Hid _ from (fun k (h : k ≤ xs.length) => (closed_at hc k h).1))
  have HE : Hid (forksGo xs 0 0 = forksGo (xs.drop 0) (((stAt xs 0).length : Int) - 1) 0) := rfl
  clear hc
  go_enter Try.func112, Try.ntmps112
  go_wp2
  go_loopw [5, 10] (fun fv' iv wr => ∃ k f : Nat, k ≤ n ∧ f ≤ k ∧ fv' = .int .i64 f ∧ iv = .int .i64 k ∧ forksGo xs 0 0 = forksGo (xs.drop k) (((stAt xs k).length : Int) - 1) f ∧ Below g w wr) (fun _ iv _ => n - (intOf iv).toNat)
  case atStart => exact ⟨0, 0, Nat.zero_le _, Nat.le_refl _, rfl, rfl, HE.out, hb0⟩
  case round =>
    obtain ⟨k, f, hk, hf, rfl, rfl, he, hb⟩ := hrel
    clear HE hb0
    have hsz : g ≤ wr.heap.size := by have := hb.size; omega
    by_cases hlt : k < n
    · obtain ⟨b, off, rfl, hbB, hc⟩ := (hv.on hb hB).open (by omega)
      obtain ⟨b', off', rfl, hbB', hc'⟩ := (hh.on hb hB).open (by rw [homes_length]; omega)
      obtain ⟨e0, e1, e2, e3⟩ := seeI hc k (by omega)
      have i1 : (k : Int) < n := by omega
      rw [forksGo_step (by omega)] at he
      have h1 := HC.out k (by omega)
      have hnx : (((stAt xs (k + 1)).length : Int) - 1) = (((stAt xs k).length : Int) - 1) + delta xs[k] := by
        rw [stAt_succ (by omega), step_len h1]; omega
      rw [← hnx] at he
      have s2 := hc' k (by rw [homes_length]; omega)
      rw [homes_at] at s2
      obtain ⟨-, g1⟩ := atB s2
      change wr.cell? ⟨b', off' + k * 2 + 1, none⟩ = some (.int .i64 (((stAt xs k).length : Int) - 1)) at g1
      obtain ⟨d, hd⟩ : ∃ d, (((stAt xs k).length : Int) - 1) = d := ⟨_, rfl⟩
      have hd0 : 0 ≤ d := by omega
      rw [hd] at g1 he
      obtain ⟨o, ho⟩ : ∃ o, xs[k] = o := ⟨_, rfl⟩
      rw [ho] at e0 e1 e2 e3 he
      clear ho hc hc' hnx hd s2 h1
      by_cases h11 : o.k = 11
      · rw [h11] at e0
        have X0 := Blk.new wr #[.int .i64 11, .int .i64 o.a, .int .i64 o.b, .int .i64 o.c] 30
        have bA := alloc_below wr (.cells #[.int .i64 11, .int .i64 o.a, .int .i64 o.b, .int .i64 o.c] 30)
        have x0 := X0.cell 0
        obtain ⟨hcl, -⟩ := bcell bA
        have g1 := (hcl b' (off' + k * 2 + 1) (by omega)).trans g1
        have i4 : (k : Int) < n1 := by omega
        have i6 : (0 : Int) ≤ k := by omega
        have he' : forksGo xs 0 0 = ((decide (d ≤ 0) && decide (f = 0)) && forksGo (xs.drop (k + 1)) (((stAt xs (k + 1)).length : Int) - 1) (f + 1)) := by
          rw [he]; simp [h11]
        clear he hcl h11
        by_cases hf0 : f = 0
        · subst hf0
          by_cases hd1 : d = 0
          · subst hd1
            have HF : Hid (forksGo xs 0 0 = forksGo (xs.drop (k + 1)) (((stAt xs (k + 1)).length : Int) - 1) 1) := by
              show _ = _
              rw [he']; simp
            clear he'
            go_wp2
            go_roundw
            case rel => exact ⟨k + 1, 1, by omega, by omega, rfl, by go_num, HF.out, hb.trans (bA.mono hsz)⟩
            case measure => simp [intOf]; omega
          · have HF : Hid (false = forksGo xs 0 0) := by
              show _ = _
              rw [he', decide_eq_false (by omega)]; simp
            have dd : (d != 0) = true := by simp [hd1]
            clear he' hd1
            go_wp2
            go_ret
            exact ⟨retB HF.out, hb.trans (bA.mono hsz)⟩
        · have HF : Hid (false = forksGo xs 0 0) := by
            show _ = _
            rw [he', decide_eq_false hf0]; simp
          have hf1 : (1 : Int) < (f : Int) + 1 := by omega
          clear he'
          go_wp2
          go_ret
          exact ⟨retB HF.out, hb.trans (bA.mono hsz)⟩
      · have HF : Hid (forksGo xs 0 0 = forksGo (xs.drop (k + 1)) (((stAt xs (k + 1)).length : Int) - 1) f) := by
          show _ = _
          rw [he]; simp [h11]
        have d11 : (o.k == 11) = false := by simp [h11]
        clear he h11
        go_wp2
        go_roundw
        case rel => exact ⟨k + 1, f, by omega, by omega, rfl, by go_num, HF.out, hb.alloc hsz _⟩
        case measure => simp [intOf]; omega
    · obtain rfl : k = n := by omega
      have HF : Hid (true = forksGo xs 0 0) := by
        show _ = _
        rw [he, List.drop_of_length_le (by omega)]; rfl
      have i1 : ¬ (k : Int) < k := by omega
      clear he
      go_wp2
      go_ret
      exact ⟨retB HF.out, hb⟩
end Ops
end Go.Proofs.Ytppkohkcffnghaa
