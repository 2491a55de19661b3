/- Several texts of one proof, in build order: SkipsImpl, CodeImpl, ImplCode, BeginKid, ImplShow, ImplShowCode. -/
import Derived.Deep.QuietTactic
import Derived.BigQuiet
import Derived.LaidEql
import Derived.Test.YtjopmakbnompnaaGreatDoorRdPr2
import Derived.Test.YtjopmakbnompnaaGreatDoorRdPr4
import Derived.Test.YtjopmakbnompnaaGreatDoorRdPr5
import Derived.Test.YtjopmakbnompnaaGreatDoorRdPr6
import Derived.Test.YtjopmakbnompnaaGreatDoorRdPr8
import Derived.Test.YtjopmakbnompnaaGreatDoorRdPr9
/- What the program's skipsStayHome and forksOnceOutside answer. -/
set_option linter.unusedVariables false
set_option linter.unusedSimpArgs false
namespace Go.Proofs.YtjopmakbnompnaaGreatDoor
open Go.RowKit
namespace Ops
open Bas Flat

set_option maxRecDepth 100000 in
theorem eqB2 (x y : B2) (W : World) : (Op.equalIn 10000 137 (.agg #[.int .i64 x.b, .int .i64 x.d]) (.agg #[.int .i64 y.b, .int .i64 y.d])).run Tryz.prog W = .ok (sameB x y) W := by
  have hu : Tryz.prog.underlying 137 = some (.struct (Tryz.prog.fieldsOf 137)) := by kernel_rfl
  have hp : Tryz.prog.stoodInHeld 137 = false := by kernel_rfl
  rw [run_equalIn_agg (d := 9999) (ht := hu) (hp := hp)]
  have h1 := hu.symm.trans Tryz.underlying137
  simp only [Option.some.injEq, TypeDesc.struct.injEq] at h1
  rw [h1]
  obtain ⟨x0, x1⟩ := x
  obtain ⟨y0, y1⟩ := y
  unfold sameB
  by_cases h0 : x0 = y0 <;> by_cases h1 : x1 = y1 <;> simp [Op.eqFields, go_sem, h0, h1]

theorem bdrewN {B : Nat} {a w : World} (h : Below B a w) (n : Nat) : Below B a (w.drewN n) := h.trans ⟨rfl, rfl, rfl, Nat.le_refl _, fun _ _ => rfl⟩
theorem ok_skipI {x : O4} (h : okOp x = true) (h7 : x.k = 7) : 1 ≤ x.b ∧ x.b ≤ 20 := by
  unfold okOp at h
  rw [h7] at h
  have h' : (inn 0 3 x.a && inn 1 20 x.b && inn 0 0 x.c) = true := h
  rw [Bool.and_eq_true, Bool.and_eq_true] at h'
  have := h'.1.2
  unfold inn at this
  simpa using this
theorem skip_noI {xs : List O4} {i t : Nat} (hi : i < xs.length) (ht : xs[i].b = (t : Int)) (h : ¬ i + 1 + t ≤ xs.length) : skipOk xs i = false := by
  unfold skipOk
  have hg : xs.getD i z4 = xs[i] := by simp [List.getD, hi]
  rw [hg, ht, decide_eq_false (by omega), Bool.false_and]

set_option maxRecDepth 100000 in
set_option maxHeartbeats 6400000 in
theorem skipsC (v vh : Value) (xs : List O4) (B : Nat) (w : World) (hv : Sees4 B w v xs) (hh : Sees bEl B w vh (homes xs (xs.length + 1))) (hB : B ≤ w.heap.size) (hlen : xs.length ≤ 1000) (hc : closedGo xs 0 = true) (hok : ∀ j (h : j < xs.length), okOp xs[j] = true) :
    Calls Tryz.prog 82 #[v, vh] w fun e w' => e = .returned (.bool (skipsGo xs xs 0)) ∧ Below w.heap.size w w' := by
  obtain ⟨a, cap, rfl⟩ := hv.form
  obtain ⟨ah, ch, rfl⟩ := hh.form
  obtain ⟨n, hn⟩ : ∃ n, xs.length = n := ⟨_, rfl⟩
  rw [homes_length] at hh ⊢
  rw [hn] at hv hh hlen ⊢
  obtain ⟨n1, hn1⟩ : ∃ n1, n + 1 = n1 := ⟨_, rfl⟩
  rw [hn1] at hh ⊢
  obtain ⟨g, hg⟩ : ∃ g, w.heap.size = g := ⟨_, rfl⟩
  rw [hg] at hB ⊢
  have hb0 : Below g w w := Below.refl _ _
  have HC : Hid (closedGo xs 0 = true) := hc
  have HO := (show Hid _ from hok)
  have HE : Hid (skipsGo xs xs 0 = skipsGo xs (xs.drop 0) 0) := rfl
  clear hc hok
  go_enter Tryz.func82, Tryz.ntmps82
  go_wp2
  go_loopw [10] (fun iv wr => ∃ k : Nat, k ≤ n ∧ iv = .int .i64 k ∧ skipsGo xs xs 0 = skipsGo xs (xs.drop k) k ∧ Below g w wr) (fun iv _ => n - (intOf iv).toNat)
  case atStart => exact ⟨0, Nat.zero_le _, rfl, HE.out, hb0⟩
  case round =>
    obtain ⟨k, hk, rfl, he, hb⟩ := hrel
    clear HE hb0
    have hsz : g ≤ wr.heap.size := by have := hb.size; omega
    by_cases hlt : k < n
    · obtain ⟨b, off, rfl, hbB, hc⟩ := (hv.on hb hB).open (by omega)
      obtain ⟨b', off', rfl, hbB', hc'⟩ := (hh.on hb hB).open (by rw [homes_length]; omega)
      obtain ⟨e0, e1, e2, e3⟩ := seeI hc k (by omega)
      have i1 : (k : Int) < n := by omega
      rw [skipsGo_step (by omega)] at he
      have hx7 := HO.out k (by omega)
      have HS := (show Hid _ from (fun (h7 : xs[k].k = 7) (t : Nat) (ht : xs[k].b = (t : Int)) (hto : k + 1 + t ≤ xs.length) => skip_home HC.out (by omega) h7 ht hto))
      have HN := (show Hid _ from (fun (t : Nat) (ht : xs[k].b = (t : Int)) (hto : ¬ k + 1 + t ≤ xs.length) => skip_noI (xs := xs) (i := k) (by omega) ht hto))
      obtain ⟨o, ho⟩ : ∃ o, xs[k] = o := ⟨_, rfl⟩
      rw [ho] at e0 e1 e2 e3 he hx7 HS HN
      clear ho hc
      have X0 := Blk.new wr #[.int .i64 o.k, .int .i64 o.a, .int .i64 o.b, .int .i64 o.c] 36
      by_cases h7 : o.k = 7
      · obtain ⟨b1, b2⟩ := ok_skipI hx7 h7
        obtain ⟨t, ht⟩ := Int.eq_ofNat_of_zero_le (show 0 ≤ o.b by omega)
        have d7 : (!(o.k == 7) || skipOk xs k) = skipOk xs k := by simp [h7]
        rw [d7] at he
        obtain ⟨m, hm⟩ : ∃ m, k + 1 + t = m := ⟨_, rfl⟩
        have hmI : (k : Int) + 1 + t = m := by omega
        have hmU : (m : Int) ≤ 2000 := by omega
        by_cases hto : m ≤ n
        · have HK : Hid (skipOk xs k = sameB (topB (stAt xs m)) (topB (stAt xs k))) := by rw [← hm]; exact HS.out h7 t ht (by omega)
          have s1 := hc' m (by rw [homes_length]; omega)
          have s2 := hc' k (by rw [homes_length]; omega)
          rw [homes_at] at s1 s2
          obtain ⟨f0, f1⟩ := atB s1
          obtain ⟨g0, g1⟩ := atB s2
          change wr.cell? ⟨b', off' + m * 2, none⟩ = _ at f0
          change wr.cell? ⟨b', off' + m * 2 + 1, none⟩ = _ at f1
          change wr.cell? ⟨b', off' + k * 2, none⟩ = _ at g0
          change wr.cell? ⟨b', off' + k * 2 + 1, none⟩ = _ at g1
          obtain ⟨p, hp⟩ : ∃ p, topB (stAt xs m) = p := ⟨_, rfl⟩
          obtain ⟨q, hq⟩ : ∃ q, topB (stAt xs k) = q := ⟨_, rfl⟩
          rw [hp] at f0 f1 HK
          rw [hq] at g0 g1 HK
          have hE := fun W => eqB2 p q W
          rw [h7, ht] at X0
          rw [h7] at e0
          rw [ht] at e2
          have bA := alloc_below wr (.cells #[.int .i64 7, .int .i64 o.a, .int .i64 t, .int .i64 o.c] 36)
          obtain ⟨hcl, -⟩ := bcell bA
          have f0 := (hcl b' (off' + m * 2) (by omega)).trans f0
          have f1 := (hcl b' (off' + m * 2 + 1) (by omega)).trans f1
          have g0 := (hcl b' (off' + k * 2) (by omega)).trans g0
          have g1 := (hcl b' (off' + k * 2 + 1) (by omega)).trans g1
          have x0 := X0.cell 0
          have x2 := X0.cell 2
          obtain ⟨s, hs⟩ : ∃ s, sameB p q = s := ⟨_, rfl⟩
          rw [hs] at hE HK
          rw [HK.out] at he
          have HF := (show Hid _ from he)
          have i3 : (m : Int) < n1 := by omega
          have i4 : (k : Int) < n1 := by omega
          have i5 : (0 : Int) ≤ m := by omega
          have i6 : (0 : Int) ≤ k := by omega
          have d1 : decide (n < m) = false := decide_eq_false (by omega)
          clear he hp hq hs s1 s2 hc' HS HN d7 hcl hm HK h7 ht b1 b2 hto hx7 HO HC
          cases s
          · go_wp2_with fail
            go_quiet (fail)
            go_wp2
            go_ret
            exact ⟨retB (by rw [HF.out, Bool.false_and]), bdrewN (hb.trans (bA.mono hsz)) _⟩
          · go_wp2_with fail
            go_quiet (fail)
            go_wp2
            go_roundw
            case rel => exact ⟨k + 1, by omega, by go_num, by rw [HF.out, Bool.true_and], bdrewN (hb.trans (bA.mono hsz)) _⟩
            case measure => simp [intOf]; omega
        · have HF : Hid (false = skipsGo xs xs 0) := by
            show _ = _
            rw [he, HN.out t ht (by omega), Bool.false_and]
          have d1 : decide (n < m) = true := decide_eq_true (by omega)
          rw [h7, ht] at X0
          rw [h7] at e0
          rw [ht] at e2
          have x0 := X0.cell 0
          have x2 := X0.cell 2
          clear he hc' HS HN d7 hm h7 ht b1 b2 hto hx7 HO HC
          go_wp2_with fail
          go_quiet (fail)
          go_wp2
          go_ret
          exact ⟨retB HF.out, bdrewN (hb.trans ((alloc_below wr _).mono hsz)) _⟩
      · have HF : Hid (skipsGo xs xs 0 = skipsGo xs (xs.drop (k + 1)) (k + 1)) := by
          show _ = _
          rw [he]; simp [h7]
        have d7 : (o.k == 7) = false := by simp [h7]
        clear he h7 HS HN hc' hx7
        go_wp2
        go_roundw
        case rel => exact ⟨k + 1, by omega, by go_num, HF.out, hb.alloc hsz _⟩
        case measure => simp [intOf]; omega
    · obtain rfl : k = n := by omega
      have HF : Hid (true = skipsGo xs xs 0) := by
        show _ = _
        rw [he, List.drop_of_length_le (by omega)]; rfl
      have i1 : ¬ (k : Int) < k := by omega
      clear he
      go_wp2
      go_ret
      exact ⟨retB HF.out, hb⟩

set_option maxRecDepth 100000 in
set_option maxHeartbeats 6400000 in
theorem forksC (v vh : Value) (xs : List O4) (B : Nat) (w : World) (hv : Sees4 B w v xs) (hh : Sees bEl B w vh (homes xs (xs.length + 1))) (hB : B ≤ w.heap.size) (hlen : xs.length ≤ 1000) (hc : closedGo xs 0 = true) :
    Calls Tryz.prog 83 #[v, vh] w fun e w' => e = .returned (.bool (forksGo xs 0 0)) ∧ Below w.heap.size w w' := by
  obtain ⟨a, cap, rfl⟩ := hv.form
  obtain ⟨ah, ch, rfl⟩ := hh.form
  obtain ⟨n, hn⟩ : ∃ n, xs.length = n := ⟨_, rfl⟩
  rw [homes_length] at hh ⊢
  rw [hn] at hv hh hlen ⊢
  obtain ⟨n1, hn1⟩ : ∃ n1, n + 1 = n1 := ⟨_, rfl⟩
  rw [hn1] at hh ⊢
  obtain ⟨g, hg⟩ : ∃ g, w.heap.size = g := ⟨_, rfl⟩
  rw [hg] at hB ⊢
  have hb0 : Below g w w := Below.refl _ _
  have HC := (show Hid _ from (fun k (h : k ≤ xs.length) => (closed_at hc k h).1))
  have HE : Hid (forksGo xs 0 0 = forksGo (xs.drop 0) (((stAt xs 0).length : Int) - 1) 0) := rfl
  clear hc
  go_enter Tryz.func83, Tryz.ntmps83
  go_wp2
  go_loopw [5, 10] (fun fv' iv wr => ∃ k f : Nat, k ≤ n ∧ f ≤ k ∧ fv' = .int .i64 f ∧ iv = .int .i64 k ∧ forksGo xs 0 0 = forksGo (xs.drop k) (((stAt xs k).length : Int) - 1) f ∧ Below g w wr) (fun _ iv _ => n - (intOf iv).toNat)
  case atStart => exact ⟨0, 0, Nat.zero_le _, Nat.le_refl _, rfl, rfl, HE.out, hb0⟩
  case round =>
    obtain ⟨k, f, hk, hf, rfl, rfl, he, hb⟩ := hrel
    clear HE hb0
    have hsz : g ≤ wr.heap.size := by have := hb.size; omega
    by_cases hlt : k < n
    · obtain ⟨b, off, rfl, hbB, hc⟩ := (hv.on hb hB).open (by omega)
      obtain ⟨b', off', rfl, hbB', hc'⟩ := (hh.on hb hB).open (by rw [homes_length]; omega)
      obtain ⟨e0, e1, e2, e3⟩ := seeI hc k (by omega)
      have i1 : (k : Int) < n := by omega
      rw [forksGo_step (by omega)] at he
      have h1 := HC.out k (by omega)
      have hnx : (((stAt xs (k + 1)).length : Int) - 1) = (((stAt xs k).length : Int) - 1) + delta xs[k] := by
        rw [stAt_succ (by omega), step_len h1]; omega
      rw [← hnx] at he
      have s2 := hc' k (by rw [homes_length]; omega)
      rw [homes_at] at s2
      obtain ⟨-, g1⟩ := atB s2
      change wr.cell? ⟨b', off' + k * 2 + 1, none⟩ = some (.int .i64 (((stAt xs k).length : Int) - 1)) at g1
      obtain ⟨d, hd⟩ : ∃ d, (((stAt xs k).length : Int) - 1) = d := ⟨_, rfl⟩
      have hd0 : 0 ≤ d := by omega
      rw [hd] at g1 he
      obtain ⟨o, ho⟩ : ∃ o, xs[k] = o := ⟨_, rfl⟩
      rw [ho] at e0 e1 e2 e3 he
      clear ho hc hc' hnx hd s2 h1
      by_cases h11 : o.k = 11
      · rw [h11] at e0
        have X0 := Blk.new wr #[.int .i64 11, .int .i64 o.a, .int .i64 o.b, .int .i64 o.c] 36
        have bA := alloc_below wr (.cells #[.int .i64 11, .int .i64 o.a, .int .i64 o.b, .int .i64 o.c] 36)
        have x0 := X0.cell 0
        obtain ⟨hcl, -⟩ := bcell bA
        have g1 := (hcl b' (off' + k * 2 + 1) (by omega)).trans g1
        have i4 : (k : Int) < n1 := by omega
        have i6 : (0 : Int) ≤ k := by omega
        have he' : forksGo xs 0 0 = ((decide (d ≤ 0) && decide (f = 0)) && forksGo (xs.drop (k + 1)) (((stAt xs (k + 1)).length : Int) - 1) (f + 1)) := by
          rw [he]; simp [h11]
        clear he hcl h11
        by_cases hf0 : f = 0
        · subst hf0
          by_cases hd1 : d = 0
          · subst hd1
            have HF : Hid (forksGo xs 0 0 = forksGo (xs.drop (k + 1)) (((stAt xs (k + 1)).length : Int) - 1) 1) := by
              show _ = _
              rw [he']; simp
            clear he'
            go_wp2
            go_roundw
            case rel => exact ⟨k + 1, 1, by omega, by omega, rfl, by go_num, HF.out, hb.trans (bA.mono hsz)⟩
            case measure => simp [intOf]; omega
          · have HF : Hid (false = forksGo xs 0 0) := by
              show _ = _
              rw [he', decide_eq_false (by omega)]; simp
            have dd : (d != 0) = true := by simp [hd1]
            clear he' hd1
            go_wp2
            go_ret
            exact ⟨retB HF.out, hb.trans (bA.mono hsz)⟩
        · have HF : Hid (false = forksGo xs 0 0) := by
            show _ = _
            rw [he', decide_eq_false hf0]; simp
          have hf1 : (1 : Int) < (f : Int) + 1 := by omega
          clear he'
          go_wp2
          go_ret
          exact ⟨retB HF.out, hb.trans (bA.mono hsz)⟩
      · have HF : Hid (forksGo xs 0 0 = forksGo (xs.drop (k + 1)) (((stAt xs (k + 1)).length : Int) - 1) f) := by
          show _ = _
          rw [he]; simp [h11]
        have d11 : (o.k == 11) = false := by simp [h11]
        clear he h11
        go_wp2
        go_roundw
        case rel => exact ⟨k + 1, f, by omega, by omega, rfl, by go_num, HF.out, hb.alloc hsz _⟩
        case measure => simp [intOf]; omega
    · obtain rfl : k = n := by omega
      have HF : Hid (true = forksGo xs 0 0) := by
        show _ = _
        rw [he, List.drop_of_length_le (by omega)]; rfl
      have i1 : ¬ (k : Int) < k := by omega
      clear he
      go_wp2
      go_ret
      exact ⟨retB HF.out, hb⟩
end Ops
end Go.Proofs.YtjopmakbnompnaaGreatDoor
/- What the program's CodeOk and KidOk answer. -/
set_option linter.unusedVariables false
set_option linter.unusedSimpArgs false
namespace Go.Proofs.YtjopmakbnompnaaGreatDoor
open Go.RowKit
namespace Ops
open Bas Flat

set_option maxRecDepth 100000 in
set_option maxHeartbeats 6400000 in
theorem codeImpl (v : Value) (xs : List O4) (B : Nat) (w : World) (hv : Sees4 B w v xs) (hB : B ≤ w.heap.size) (hlen : xs.length ≤ 1048576) :
    Calls Tryz.prog 51 #[v] w fun e w' => e = .returned (.bool (codeOk xs)) ∧ Below w.heap.size w w' := by
  obtain ⟨a, cap, rfl⟩ := hv.form
  obtain ⟨n, hn⟩ : ∃ n, xs.length = n := ⟨_, rfl⟩
  rw [hn] at hv hlen ⊢
  by_cases h24 : n ≤ 24
  · have h24' : ¬ (24 : Int) < n := by omega
    obtain ⟨g, hg⟩ : ∃ g, w.heap.size = g := ⟨_, rfl⟩
    rw [hg] at hB ⊢
    have hb0 : Below g w w := Below.refl _ _
    go_enter Tryz.func51, Tryz.ntmps51
    go_wp2
    go_loopw [12] (fun i' wr => ∃ k : Nat, k ≤ n ∧ i' = .int .i64 k ∧ (∀ j (h : j < xs.length), j < k → okOp xs[j] = true) ∧ Below g w wr) (fun i' _ => n - (intOf i').toNat)
    case atStart => exact ⟨0, Nat.zero_le _, rfl, fun j _ h => by omega, hb0⟩
    case round =>
      obtain ⟨k, hk, rfl, hall, hb⟩ := hrel
      clear hb0
      have hsz : g ≤ wr.heap.size := by have := hb.size; omega
      have HA := (show Hid _ from hall)
      clear hall
      by_cases hlt : k < n
      · obtain ⟨b, off, rfl, hbB, hc⟩ := (hv.on hb hB).open (by omega)
        obtain ⟨a0, a1, a2, a3⟩ := seeI hc k (by omega)
        have i1 : (k : Int) < n := by omega
        have hkx : k < xs.length := by omega
        obtain ⟨p, hp⟩ : ∃ p, okOp xs[k] = p := ⟨_, rfl⟩
        have HP : Hid (okOp xs[k] = p) := hp
        obtain ⟨x, hx⟩ : ∃ x, xs[k] = x := ⟨_, rfl⟩
        rw [hx] at a0 a1 a2 a3 hp
        have bA := alloc_below wr (.cells #[.int .i64 x.k, .int .i64 x.a, .int .i64 x.b, .int .i64 x.c] 36)
        have cO := implC x.k x.a x.b x.c (wr.alloc (.cells #[.int .i64 x.k, .int .i64 x.a, .int .i64 x.b, .int .i64 x.c] 36))
        have eV : opV x.k x.a x.b x.c = .agg #[.int .i64 x.k, .int .i64 x.a, .int .i64 x.b, .int .i64 x.c] := rfl
        have eO : opOk x.k x.a x.b x.c = okOp x := rfl
        rw [eV, eO, hp] at cO
        clear hp hx eV eO hc
        cases p
        · have HF : Hid (false = codeOk xs) := by
            show _ = _
            exact (code_bad1 (all_no hkx HP.out)).symm
          go_wp2_with fail
          refine cO.mono ?_
          rintro e w2 ⟨rfl, hb2⟩
          clear cO
          go_wp2
          go_ret
          exact ⟨retB HF.out, hb.trans ((bA.trans (hb2.mono bA.size)).mono hsz)⟩
        · have HF : Hid (∀ j (h : j < xs.length), j < k + 1 → okOp xs[j] = true) := fun j hj hjk => by
            rcases Nat.lt_succ_iff_lt_or_eq.1 hjk with h | h
            · exact HA.out j hj h
            · subst h; exact HP.out
          go_wp2_with fail
          refine cO.mono ?_
          rintro e w2 ⟨rfl, hb2⟩
          clear cO
          go_wp2
          go_roundw
          case rel => exact ⟨k + 1, by omega, by go_num, HF.out, hb.trans ((bA.trans (hb2.mono bA.size)).mono hsz)⟩
          case measure => simp [intOf]; omega
      · obtain rfl : k = n := by omega
        have i1 : ¬ (k : Int) < k := by omega
        have HO : Hid (∀ j (h : j < xs.length), okOp xs[j] = true) := fun j hj => HA.out j hj (by omega)
        have cH := homesC _ xs B wr (hv.on hb hB) (by omega) (by omega)
        obtain ⟨p, hp⟩ : ∃ p, closedGo xs 0 = p := ⟨_, rfl⟩
        have HP : Hid (closedGo xs 0 = p) := hp
        rw [hp, hn] at cH
        clear hp HA
        cases p
        · have HF : Hid (false = codeOk xs) := (code_bad2 HP.out).symm
          go_wp2_with fail
          refine cH.mono ?_
          rintro e w2 ⟨v2, rfl, -, b2⟩
          clear cH
          go_wp2
          go_ret
          exact ⟨retB HF.out, hb.trans (b2.mono hsz)⟩
        · go_wp2_with fail
          refine cH.mono ?_
          rintro e w2 ⟨v2, rfl, O2, b2⟩
          clear cH
          have O2 := O2 (by first | trivial | rfl)
          have bb2 := hb.trans (b2.mono hsz)
          have hz2 : g ≤ w2.heap.size := by have := bb2.size; omega
          have hv2 := (hv.on bb2 hB).up (show B ≤ w2.heap.size by omega)
          have s2 := O2.sees
          rw [← hn] at s2
          have cS := skipsC _ v2 xs w2.heap.size w2 hv2 s2 (Nat.le_refl _) (by omega) HP.out HO.out
          obtain ⟨p, hp⟩ : ∃ p, skipsGo xs xs 0 = p := ⟨_, rfl⟩
          have HS : Hid (skipsGo xs xs 0 = p) := hp
          rw [hp] at cS
          clear hp
          go_wp2_with fail
          refine cS.mono ?_
          rintro e w3 ⟨rfl, b3⟩
          clear cS
          have bb3 := bb2.trans (b3.mono hz2)
          cases p
          · have HF : Hid (false = codeOk xs) := (code_bad3 HS.out).symm
            go_wp2
            go_ret
            exact ⟨retB HF.out, bb3⟩
          · have hz3 : g ≤ w3.heap.size := by have := bb3.size; omega
            have hv3 := (hv.on bb3 hB).up (show B ≤ w3.heap.size by omega)
            have s3 := (O2.on b3 (Nat.le_refl _)).sees
            rw [← hn] at s3
            have cF := forksC _ v2 xs w3.heap.size w3 hv3 s3 (Nat.le_refl _) (by omega) HP.out
            have HF : Hid (forksGo xs 0 0 = codeOk xs) := (code_all (by omega) (all_yes HO.out) HP.out HS.out).symm
            go_wp2_with fail
            refine cF.mono ?_
            rintro e w4 ⟨rfl, b4⟩
            clear cF
            go_wp2
            go_ret
            exact ⟨retB HF.out, bb3.trans (b4.mono hz3)⟩
  · have HF : Hid (false = codeOk xs) := by
      show _ = _
      unfold codeOk
      rw [decide_eq_false (show ¬ xs.length ≤ 24 by omega), Bool.false_and]
    have h24' : (24 : Int) < n := by omega
    go_enter Tryz.func51, Tryz.ntmps51
    go_wp2
    go_ret
    exact ⟨retB HF.out, Below.refl _ _⟩

theorem kid_no1I {xs : List O4} (h : codeOk xs = false) : kidOk xs = false := by unfold kidOk; rw [h]; rfl
theorem kid_no2I {xs : List O4} (h : hasFork xs = true) : kidOk xs = false := by unfold kidOk; rw [h]; simp
theorem kid_allI {xs : List O4} (h1 : codeOk xs = true) (h2 : hasFork xs = false) : kidOk xs = xs.all fun o => !(touch o == 2) := by unfold kidOk; rw [h1, h2]; simp

set_option maxRecDepth 100000 in
set_option maxHeartbeats 3200000 in
theorem kidImpl (v : Value) (xs : List O4) (B : Nat) (w : World) (hv : Sees4 B w v xs) (hB : B ≤ w.heap.size) (hlen : xs.length ≤ 1048576) :
    Calls Tryz.prog 53 #[v] w fun e w' => e = .returned (.bool (kidOk xs)) ∧ Below w.heap.size w w' := by
  have c0 := codeImpl v xs B w hv hB hlen
  obtain ⟨a, cap, rfl⟩ := hv.form
  obtain ⟨n, hn⟩ : ∃ n, xs.length = n := ⟨_, rfl⟩
  rw [hn] at hv hlen c0 ⊢
  obtain ⟨p, hp⟩ : ∃ p, codeOk xs = p := ⟨_, rfl⟩
  rw [hp] at c0
  obtain ⟨g, hg⟩ : ∃ g, w.heap.size = g := ⟨_, rfl⟩
  rw [hg] at hB c0 ⊢
  cases p
  · have HF : Hid (false = kidOk xs) := (kid_no1I hp).symm
    clear hp
    go_enter Tryz.func53, Tryz.ntmps53
    go_wp2_with fail
    refine c0.mono ?_
    rintro e w1 ⟨rfl, b1⟩
    go_wp2
    go_ret
    exact ⟨retB HF.out, b1⟩
  have HP : Hid (codeOk xs = true) := hp
  clear hp
  go_enter Tryz.func53, Tryz.ntmps53
  go_wp2_with fail
  refine c0.mono ?_
  rintro e w1 ⟨rfl, b1⟩
  clear c0
  have hz1 : g ≤ w1.heap.size := by have := b1.size; omega
  have c1 := forkImpl _ xs B w1 (hv.on b1 hB) (by omega) (by omega)
  obtain ⟨q, hq⟩ : ∃ q, hasFork xs = q := ⟨_, rfl⟩
  rw [hq] at c1
  cases q
  · have HE : Hid (kidOk xs = xs.all fun o => !(touch o == 2)) := kid_allI HP.out hq
    clear hq
    go_wp2_with fail
    refine c1.mono ?_
    rintro e w2 ⟨rfl, b2⟩
    clear c1
    have bb2 := b1.trans (b2.mono hz1)
    go_wp2
    go_loopw [14] (fun i' wr => ∃ k : Nat, k ≤ n ∧ i' = .int .i64 k ∧ (∀ j (h : j < xs.length), j < k → (!(touch xs[j] == 2)) = true) ∧ Below g w wr) (fun i' _ => n - (intOf i').toNat)
    case atStart => exact ⟨0, Nat.zero_le _, rfl, fun j _ h => by omega, bb2⟩
    case round =>
      obtain ⟨k, hk, rfl, hall, hb⟩ := hrel
      clear b1 b2 bb2
      have hsz : g ≤ wr.heap.size := by have := hb.size; omega
      have HA := (show Hid _ from hall)
      clear hall
      by_cases hlt : k < n
      · obtain ⟨b, off, rfl, hbB, hc⟩ := (hv.on hb hB).open (by omega)
        obtain ⟨a0, a1, a2, a3⟩ := seeI hc k (by omega)
        have i1 : (k : Int) < n := by omega
        have hkx : k < xs.length := by omega
        obtain ⟨t, ht⟩ : ∃ t, touch xs[k] = t := ⟨_, rfl⟩
        have HT : Hid (touch xs[k] = t) := ht
        obtain ⟨x, hx⟩ : ∃ x, xs[k] = x := ⟨_, rfl⟩
        rw [hx] at a0 a1 a2 a3 ht
        have bA := alloc_below wr (.cells #[.int .i64 x.k, .int .i64 x.a, .int .i64 x.b, .int .i64 x.c] 36)
        have cT := touchImpl x.k x.a x.b x.c (wr.alloc (.cells #[.int .i64 x.k, .int .i64 x.a, .int .i64 x.b, .int .i64 x.c] 36))
        have eV : opV x.k x.a x.b x.c = .agg #[.int .i64 x.k, .int .i64 x.a, .int .i64 x.b, .int .i64 x.c] := rfl
        have eT : touches x.k x.a x.b x.c = touch x := rfl
        rw [eV, eT, ht] at cT
        clear ht hx eV eT hc
        by_cases h2 : t = 2
        · have HF : Hid (false = kidOk xs) := by
            show _ = _
            rw [HE.out]
            exact (all_no (k := k) hkx (by rw [HT.out, h2]; rfl)).symm
          rw [h2] at cT
          clear h2
          go_wp2_with fail
          refine cT.mono ?_
          rintro e w2 ⟨rfl, hb2⟩
          clear cT
          go_wp2
          go_ret
          exact ⟨retB HF.out, hb.trans ((bA.trans (hb2.mono bA.size)).mono hsz)⟩
        · have HF : Hid (∀ j (h : j < xs.length), j < k + 1 → (!(touch xs[j] == 2)) = true) := fun j hj hjk => by
            rcases Nat.lt_succ_iff_lt_or_eq.1 hjk with h | h
            · exact HA.out j hj h
            · subst h; rw [HT.out]; simp [h2]
          have e2 : (t == 2) = false := by simp [h2]
          clear h2
          go_wp2_with fail
          refine cT.mono ?_
          rintro e w2 ⟨rfl, hb2⟩
          clear cT
          go_wp2
          go_roundw
          case rel => exact ⟨k + 1, by omega, by go_num, HF.out, hb.trans ((bA.trans (hb2.mono bA.size)).mono hsz)⟩
          case measure => simp [intOf]; omega
      · have HF : Hid (true = kidOk xs) := by
          show _ = _
          rw [HE.out]
          exact (all_yes fun j hj => HA.out j hj (by omega)).symm
        have i1 : ¬ (k : Int) < n := by omega
        go_wp2
        go_ret
        exact ⟨retB HF.out, hb⟩
  · have HF : Hid (false = kidOk xs) := (kid_no2I hq).symm
    clear hq
    go_wp2_with fail
    refine c1.mono ?_
    rintro e w2 ⟨rfl, b2⟩
    clear c1
    go_wp2
    go_ret
    exact ⟨retB HF.out, b1.trans (b2.mono hz1)⟩
end Ops
end Go.Proofs.YtjopmakbnompnaaGreatDoor
/- What the program's readOps and ReadCode answer. -/
set_option linter.unusedVariables false
set_option linter.unusedSimpArgs false
namespace Go.Proofs.YtjopmakbnompnaaGreatDoor
open Go.RowKit
namespace Ops
open Bas Flat Strs Num

/-! ### lines -/
theorem suffix_yes (M : Txt) : Lib.hasSuffix (M ++ [10]) [10] = true ∧ Lib.trimSuffix (M ++ [10]) [10] = M := by
  have h : Lib.hasSuffix (M ++ [10]) [10] = true := by
    unfold Lib.hasSuffix
    rw [List.isSuffixOf_iff_suffix]
    exact ⟨M, rfl⟩
  refine ⟨h, ?_⟩
  unfold Lib.trimSuffix
  rw [if_pos h]
  simp
theorem suffix_no {S : Txt} (h : ∀ x ∈ S, x ≠ 10) : Lib.hasSuffix S [10] = false ∧ Lib.trimSuffix S [10] = S := by
  have hn : Lib.hasSuffix S [10] = false := by
    cases hs : Lib.hasSuffix S [10] with
    | false => rfl
    | true =>
      unfold Lib.hasSuffix at hs
      rw [List.isSuffixOf_iff_suffix] at hs
      obtain ⟨M, rfl⟩ := hs
      exact absurd rfl (h 10 (by simp))
  refine ⟨hn, ?_⟩
  unfold Lib.trimSuffix
  rw [if_neg (by simp [hn])]
theorem first_cases (S : Txt) : (firstOf S = (S, []) ∧ ∀ x ∈ S, x ≠ 10) ∨ ∃ M R, firstOf S = (M ++ [10], R) ∧ S = M ++ 10 :: R ∧ ∀ x ∈ M, x ≠ 10 := by
  rcases index_two S 10 with hi | ⟨i, hi⟩
  · exact .inl ⟨by unfold firstOf; rw [if_pos hi], none_at hi⟩
  · obtain ⟨hlt, he, hn⟩ := at_index hi
    refine .inr ⟨S.take i, S.drop (i + 1), ?_, he, hn⟩
    unfold firstOf
    rw [hi, if_neg (by omega), Int.toNat_natCast]
    congr 1
    have : S[i] = 10 := by
      have h1 := Lib.indexByte_some hi
      rw [List.getElem?_eq_getElem hlt] at h1
      exact Option.some.inj h1.1
    rw [List.take_succ_eq_append_getElem hlt, this]

/-- an error, as a value -/
def errV : Option Txt → Value
  | none => .nilIface
  | some ln => .iface 89 (.agg #[.string ⟨ln.toArray⟩])
/-- what readOps answers -/
def ToldRd (B : Nat) (L : Txt) (e : Ending) (w' : World) : Prop := ∃ v xs rest er, e = .returned (.tuple #[v, .string ⟨rest.toArray⟩, errV er]) ∧ Owns4 B w' v xs ∧ AllOk xs ∧ xs.length ≤ 25 ∧ rest.length ≤ L.length ∧ ToldOps L xs rest er
theorem rd_true {M : Txt} {o : O4} (h : RdOp M o true) : okOp o = true ∧ showOp o = M := by
  rcases h with ⟨-, a, b⟩ | ⟨e, -⟩
  · exact ⟨a, b⟩
  · cases e
theorem rd_false {M : Txt} {o : O4} (h : RdOp M o false) : ∀ o', okOp o' = true → showOp o' ≠ M := by
  rcases h with ⟨e, -⟩ | ⟨-, -, h⟩
  · cases e
  · exact h

set_option maxRecDepth 100000 in
set_option maxHeartbeats 6400000 in
theorem readOpsI (L : Txt) (hs : L.length ≤ 1048576) (w : World) (hl : Laid w) :
    Calls Tryz.prog 26 #[.string ⟨L.toArray⟩] w fun e w' => ToldRd w.heap.size L e w' ∧ Below w.heap.size w w' := by
  have HLd : Hid (∀ W, Below w.heap.size w W → Laid W) := fun W hb => hl.on hb
  clear hl
  obtain ⟨g, hg⟩ : ∃ g, w.heap.size = g := ⟨_, rfl⟩
  have O0 : Owns4 g w (.slice none 0 0) [] := Owns.nil _ _ _ _
  have b0 : Below g w w := Below.refl _ _
  rw [hg] at HLd ⊢
  have HL0 : Hid (L = linesOf [] ++ L) := rfl
  have HA0 : Hid (AllOk []) := fun o ho => by simp at ho
  go_enter Tryz.func26, Tryz.ntmps26
  go_wp2
  go_loopw [0, 5, 6, 7, 8, 9, 10, 11] (fun sv cv _ _ _ _ _ _ wr => ∃ (S : Txt) (xs : List O4) (a : Option Addr) (m c : Nat), sv = .string ⟨S.toArray⟩ ∧ cv = .slice a m c ∧ xs.length = m ∧ m ≤ 25 ∧ S.length ≤ L.length ∧ Hid (L = linesOf xs ++ S) ∧ Hid (AllOk xs) ∧ Owns4 g wr (.slice a m c) xs ∧ Below g w wr) (fun sv _ _ _ _ _ _ _ _ => match sv with | .string b => b.size | _ => 0)
  case atStart => exact ⟨L, [], none, 0, 0, rfl, rfl, rfl, by omega, Nat.le_refl _, HL0, HA0, O0, b0⟩
  case round =>
    obtain ⟨S, xs, a, m, c, rfl, rfl, hxm, hm, hSl, HE, HA, O, b⟩ := hrel
    clear O0 b0 HL0 HA0
    have hsz : g ≤ wr.heap.size := by have := b.size; omega
    by_cases hS0 : S = []
    · subst hS0
      have HT : Hid (ToldOps L xs [] none) := .all rfl (by rw [HE.out, List.append_nil])
      go_wp2
      refine bodyPost_ret (v := .tuple #[.slice a m c, .string ⟨([] : Txt).toArray⟩, .nilIface]) (by simp [results, Tryz.results26, go_sem]) rfl ?_
      exact ⟨⟨_, xs, [], none, rfl, O, HA.out, by omega, by simp, HT.out⟩, b⟩
    by_cases hm25 : m = 25
    · have HT : Hid (ToldOps L xs S none) := .long (by omega) HE.out
      have dS : (S == []) = false := by simp [hS0]
      subst hm25
      go_wp2
      refine bodyPost_ret (v := .tuple #[.slice a 25 c, .string ⟨S.toArray⟩, .nilIface]) (by simp [results, Tryz.results26, go_sem]) rfl ?_
      exact ⟨⟨_, xs, S, none, rfl, O, HA.out, by omega, hSl, HT.out⟩, b⟩
    have hm24 : (m : Int) ≤ 24 := by omega
    have dS : (S == []) = false := by simp [hS0]
    have c1 := firstC S (by omega) wr
    rcases first_cases S with ⟨hf, hno⟩ | ⟨M, R, hf, hSe, hno⟩
    · rw [hf] at c1
      have HT : Hid (ToldOps L xs [] (some S)) := .wrong S (by rw [List.append_nil]; exact HE.out) (.inr ⟨hno, hS0, rfl⟩)
      obtain ⟨hs1, hs2⟩ := suffix_no hno
      have HSF : Hid (Lib.hasSuffix S [10] = false ∧ Lib.trimSuffix S [10] = S) := ⟨hs1, hs2⟩
      clear hs1 hs2 hf hno
      go_wp2_with fail
      refine c1.mono ?_
      rintro e w1 ⟨rfl, b1⟩
      clear c1
      have bb1 := b.trans (b1.mono hsz)
      have hz1 : g ≤ w1.heap.size := by have := bb1.size; omega
      have O1 := O.on b1 (Nat.le_refl _)
      have c2 := cutC S (by omega) w1
      rw [HSF.out.1, HSF.out.2] at c2
      go_wp2_with fail
      refine c2.mono ?_
      rintro e w2 ⟨rfl, rfl⟩
      clear c2
      have c3 := readOpI S (by omega) w1 (HLd.out w1 bb1)
      go_wp2_with fail
      refine c3.mono ?_
      rintro e w3 ⟨⟨o, bo, rfl, hro⟩, b3⟩
      clear c3 hro
      have bb3 := bb1.trans (b3.mono hz1)
      have O3 := O1.on b3 (Nat.le_refl _)
      have hz3 : g ≤ w3.heap.size := by have := bb3.size; omega
      have eV : o.val = .agg #[.int .i64 o.k, .int .i64 o.a, .int .i64 o.b, .int .i64 o.c] := rfl
      rw [eV]
      have bA := alloc_below w3 (.cells #[.int .i64 o.k, .int .i64 o.a, .int .i64 o.b, .int .i64 o.c] 36)
      have O4 := O3.on bA (Nat.le_refl _)
      have bb4 := bb3.trans (bA.mono hz3)
      clear eV O O1 O3 bA
      go_wp2
      refine bodyPost_ret (v := .tuple #[.slice a m c, .string ⟨([] : Txt).toArray⟩, .iface 89 (.agg #[.string ⟨S.toArray⟩])]) (by simp [results, Tryz.results26, go_sem]) rfl ?_
      exact ⟨⟨_, xs, [], some S, rfl, O4, HA.out, by omega, by simp, HT.out⟩, bb4⟩
    · rw [hf] at c1
      obtain ⟨hs1, hs2⟩ := suffix_yes M
      have HSF : Hid (Lib.hasSuffix (M ++ [10]) [10] = true ∧ Lib.trimSuffix (M ++ [10]) [10] = M) := ⟨hs1, hs2⟩
      have hlS : S.length = M.length + 1 + R.length := by rw [hSe]; simp; omega
      have HSE : Hid (S = M ++ 10 :: R) := hSe
      have HNo : Hid (∀ x ∈ M, x ≠ 10) := hno
      clear hs1 hs2 hf hno hSe
      obtain ⟨ln, hln⟩ : ∃ ln, M ++ [10] = ln := ⟨_, rfl⟩
      have HLN : Hid (M ++ [10] = ln) := hln
      have hlln : ln.length = M.length + 1 := by rw [← hln]; simp
      rw [hln] at c1 HSF
      clear hln
      go_wp2_with fail
      refine c1.mono ?_
      rintro e w1 ⟨rfl, b1⟩
      clear c1
      have bb1 := b.trans (b1.mono hsz)
      have hz1 : g ≤ w1.heap.size := by have := bb1.size; omega
      have O1 := O.on b1 (Nat.le_refl _)
      have c2 := cutC ln (by omega) w1
      rw [HSF.out.1, HSF.out.2] at c2
      go_wp2_with fail
      refine c2.mono ?_
      rintro e w2 ⟨rfl, rfl⟩
      clear c2
      have c3 := readOpI M (by omega) w1 (HLd.out w1 bb1)
      go_wp2_with fail
      refine c3.mono ?_
      rintro e w3 ⟨⟨o, bo, rfl, hro⟩, b3⟩
      clear c3
      have bb3 := bb1.trans (b3.mono hz1)
      have O3 := O1.on b3 (Nat.le_refl _)
      have hz3 : g ≤ w3.heap.size := by have := bb3.size; omega
      have eV : o.val = .agg #[.int .i64 o.k, .int .i64 o.a, .int .i64 o.b, .int .i64 o.c] := rfl
      rw [eV]
      have bA := alloc_below w3 (.cells #[.int .i64 o.k, .int .i64 o.a, .int .i64 o.b, .int .i64 o.c] 36)
      have XA := Blk.new w3 #[.int .i64 o.k, .int .i64 o.a, .int .i64 o.b, .int .i64 o.c] 36
      have OA := O3.on bA (Nat.le_refl _)
      have bbA := bb3.trans (bA.mono hz3)
      have hzA : g ≤ (w3.alloc (.cells #[.int .i64 o.k, .int .i64 o.a, .int .i64 o.b, .int .i64 o.c] 36)).heap.size := by have := bbA.size; omega
      clear eV O O1 O3
      cases bo
      · have HT : Hid (ToldOps L xs R (some ln)) := .wrong ln (by rw [HE.out, HSE.out, ← HLN.out]; simp) (.inl ⟨M, HLN.out.symm, HNo.out, rd_false hro⟩)
        clear hro HSE HLN
        go_wp2
        refine bodyPost_ret (v := .tuple #[.slice a m c, .string ⟨R.toArray⟩, .iface 89 (.agg #[.string ⟨ln.toArray⟩])]) (by simp [results, Tryz.results26, go_sem]) rfl ?_
        exact ⟨⟨_, xs, R, some ln, rfl, OA, HA.out, by omega, by omega, HT.out⟩, bbA⟩
      · have HE' : Hid (L = linesOf (xs ++ [o]) ++ R) := by
          show _ = _
          rw [HE.out, HSE.out, lines_snoc, (rd_true hro).2]; simp
        have HA' : Hid (AllOk (xs ++ [o])) := by
          intro q hq
          rcases List.mem_append.1 hq with hq | hq
          · exact HA.out q hq
          · simp at hq; rw [hq]; exact (rd_true hro).1
        have c0 := XA.cell 0; have c1 := XA.cell 1; have c2 := XA.cell 2; have c3 := XA.cell 3
        obtain ⟨v5, w5, hr5, O5, G5⟩ := pushO _ xs g _ OA hzA (by omega) o
        have hzz : (w3.alloc (.cells #[.int .i64 o.k, .int .i64 o.a, .int .i64 o.b, .int .i64 o.c] 36)).heap.size = w3.heap.size + 1 := by simp
        rw [hzz] at hr5
        have b5 := bbA.grown G5 hzA (fun q hq => (OA.at q hq).1)
        obtain ⟨a5, c5, rfl⟩ := O5.form
        have hx1 : (xs ++ [o]).length = m + 1 := by simp [hxm]
        rw [hx1] at O5 hr5
        clear hro HSE HLN HE HA OA XA hzz hzA bA G5 bbA
        go_wp2_with (at_builtin; refine wpList_app _ rfl _ _ 24 rfl _ _ _ _ rfl rfl hr5 ?_)
        clear hr5 c0 c1 c2 c3
        go_roundw
        case rel => exact ⟨R, xs ++ [o], _, _, _, rfl, rfl, hx1, by omega, by omega, HE', HA', O5, b5⟩
        case measure => show R.toArray.size < S.toArray.size; rw [List.size_toArray, List.size_toArray]; omega

/-! ### ReadCode -/
theorem told_nilI {B : Nat} {w' : World} {L : Txt} (h : RdCode L [] false) {e : Ending} (he : e = .returned (.tuple #[.slice none 0 0, .bool false])) : ToldCode B L e w' :=
  ⟨_, [], false, he, Owns.nil _ _ _ _, h⟩
end Ops
end Go.Proofs.YtjopmakbnompnaaGreatDoor
/- What the program's beginsKid answers: is the line that is wrong the line kid? -/
set_option linter.unusedVariables false
set_option linter.unusedSimpArgs false
namespace Go.Proofs.YtjopmakbnompnaaGreatDoor
open Go.RowKit
namespace AsErr
open Bas

/-- what errors.As leaves of the world -/
theorem as_hit (s : ByteArray) (w : World) (hg : EType w) (g : Nat) (hgl : g < w.heap.size) (X : Blk w g #[.string ByteArray.empty] 89) :
    Calls Tryz.prog 59 #[.iface 89 (.agg #[.string s]), .iface 91 (.pointer (some ⟨g, 0, none⟩))] w fun e w' => e = .returned (.bool true) ∧ Blk w' g #[.string s] 89 ∧ w.grownBy w' (some g) := by
  refine (as_line s ⟨g, 0, none⟩ _ w hg (X.cell 0) (X.froz 0)).mono ?_
  rintro e w' ⟨rfl, rfl⟩
  obtain ⟨W, hW⟩ : ∃ W, (((w.alloc (.cells #[.pointer (some ⟨g, 0, none⟩)] 91)).alloc (.cells #[hd 91, .pointer (some ⟨w.heap.size, 0, none⟩), .int .u64 150] 120)).alloc (.cells #[hd 91, .pointer (some ⟨w.heap.size, 0, none⟩), .int .u64 150] 120)).alloc (.cells #[.string s] 89) = W := ⟨_, rfl⟩
  have b : Below w.heap.size w W := by
    rw [← hW]
    have b1 := alloc_below w (.cells #[.pointer (some ⟨g, 0, none⟩)] 91)
    have b2 := b1.trans ((alloc_below _ (.cells #[hd 91, .pointer (some ⟨w.heap.size, 0, none⟩), .int .u64 150] 120)).mono b1.size)
    have b3 := b2.trans ((alloc_below _ (.cells #[hd 91, .pointer (some ⟨w.heap.size, 0, none⟩), .int .u64 150] 120)).mono b2.size)
    exact b3.trans ((alloc_below _ (.cells #[.string s] 89)).mono b3.size)
  rw [hW]
  have X' := (X.on b hgl).set 0 (.string s)
  refine ⟨rfl, X', ⟨b.os, b.tape, b.output, ?_, fun k hk hne => ?_⟩⟩
  · have := b.size; simpa using this
  · rw [Below.heap_setCell W ⟨g, 0, none⟩ _ k (fun e => hne (by rw [e]))]
    exact b.block k hk
set_option maxRecDepth 100000 in
set_option maxHeartbeats 1600000 in
/-- the line that is wrong is the line kid -/
theorem beginsC (er : Option Ops.Txt) (w : World) (hg : EType w) :
    Calls Tryz.prog 27 #[Ops.errV er] w fun e w' => e = .returned (.bool (er == some Ops.kidL)) ∧ Below w.heap.size w w' := by
  have b0 := alloc_below w (.cells #[.string ByteArray.empty] 89)
  have X0 := Blk.new w #[.string ByteArray.empty] 89
  cases er with
  | none =>
    show Calls _ _ #[.nilIface] _ _
    go_enter Tryz.func27, Tryz.ntmps27
    go_wp2_with fail
    refine (as_none _ _).mono ?_
    rintro e w1 ⟨rfl, rfl⟩
    go_wp2
    go_ret
    exact ⟨by rfl, b0⟩
  | some ln =>
    show Calls _ _ #[.iface 89 (.agg #[.string ⟨ln.toArray⟩])] _ _
    have hg0 := hg.on b0
    have cA := as_hit ⟨ln.toArray⟩ _ hg0 w.heap.size X0.lt X0
    go_enter Tryz.func27, Tryz.ntmps27
    go_wp2_with fail
    refine cA.mono ?_
    rintro e w1 ⟨rfl, X1, G1⟩
    clear cA
    have b1 := b0.grown G1 b0.size (fun k hk => by injection hk with e; omega)
    have x0 := X1.cell 0
    by_cases hk : ln = Ops.kidL
    · subst hk
      go_wp2
      go_ret
      exact ⟨by simp [Ops.kidL], b1⟩
    · have hb : (some ln == some Ops.kidL) = false := by simp [hk]
      have hl : (ln == [107, 105, 100, 10]) = false := by simpa [Ops.kidL] using hk
      go_wp2
      go_ret
      exact ⟨by rw [hb]; first | rfl | simp [hl], b1⟩
end AsErr
end Go.Proofs.YtjopmakbnompnaaGreatDoor
/- What the program's ShowOp answers. -/
set_option linter.unusedVariables false
set_option linter.unusedSimpArgs false
namespace Go.Proofs.YtjopmakbnompnaaGreatDoor
open Go.RowKit
namespace Ops
open Bas

theorem showI_no {o : O4} (h : okOp o = false) : showOp o = [] := by unfold showOp; rw [if_neg (by simp [h])]
theorem showI_is {o : O4} (h : okOp o = true) : showOp o = wordOf o.k ++ joinN ([o.a, o.b, o.c].take (nargs o.k)) := by unfold showOp nums; rw [if_pos h]
theorem joinN_app (l r : List Int) : joinN (l ++ r) = joinN l ++ joinN r := by
  induction l with
  | nil => rfl
  | cons x l ih => simp [joinN, ih]
theorem joinN_take {l : List Int} {j : Nat} (h : j < l.length) : joinN (l.take (j + 1)) = joinN (l.take j) ++ 32 :: Lib.itoa l[j] := by
  rw [List.take_succ_eq_append_getElem h, joinN_app]; simp [joinN]
theorem retI_s {a b : List UInt8} (h : a = b) : Ending.returned (.string ⟨a.toArray⟩) = .returned (.string ⟨b.toArray⟩) := by rw [h]
theorem itoaI_len {x : Int} (h : 0 ≤ x ∧ x ≤ 65535) : (Lib.itoa x).length ≤ 10 := (Num.spec_of x (by omega) (by omega)).2.2
theorem fAt3 (a b c : Int) {j : Nat} (h : j < [a, b, c].length) : (#[.int .i64 a, .int .i64 b, .int .i64 c] : Array Value)[j]? = some (.int .i64 [a, b, c][j]) := by
  match j, h with
  | 0, _ => rfl
  | 1, _ => rfl
  | 2, _ => rfl

set_option maxRecDepth 100000 in
set_option maxHeartbeats 3200000 in
theorem showOpI (o : O4) (w : World) (hT : WTab w) (ht : Dec.Tab w) : Calls Tryz.prog 15 #[o.val] w fun e w' => e = .returned (.string ⟨(showOp o).toArray⟩) ∧ Below w.heap.size w w' := by
  obtain ⟨k, a, b, c⟩ := o
  show Calls _ _ #[.agg #[.int .i64 k, .int .i64 a, .int .i64 b, .int .i64 c]] _ _
  have X0 := Blk.new w #[.int .i64 k, .int .i64 a, .int .i64 b, .int .i64 c] 36
  have b0 := alloc_below w (.cells #[.int .i64 k, .int .i64 a, .int .i64 b, .int .i64 c] 36)
  have cO := implC k a b c (w.alloc (.cells #[.int .i64 k, .int .i64 a, .int .i64 b, .int .i64 c] 36))
  have eV : opV k a b c = .agg #[.int .i64 k, .int .i64 a, .int .i64 b, .int .i64 c] := rfl
  have eO : opOk k a b c = okOp ⟨k, a, b, c⟩ := rfl
  rw [eV, eO] at cO
  obtain ⟨p, hp⟩ : ∃ p, okOp ⟨k, a, b, c⟩ = p := ⟨_, rfl⟩
  rw [hp] at cO
  clear eV eO
  cases p
  · have HF : Hid ([] = showOp ⟨k, a, b, c⟩) := (showI_no hp).symm
    clear hp
    go_enter Tryz.func15, Tryz.ntmps15
    go_wp2_with fail
    refine cO.mono ?_
    rintro e w1 ⟨rfl, b1⟩
    go_wp2
    go_ret
    exact ⟨retI_s HF.out, b0.trans (b1.mono b0.size)⟩
  obtain ⟨hk1, hk2⟩ := ok_kind hp
  obtain ⟨⟨ha, hb, hc⟩, -⟩ := ok_fields hp
  have HS : Hid (showOp ⟨k, a, b, c⟩ = wordOf k ++ joinN ([a, b, c].take (nargs k))) := showI_is hp
  simp only at hk1 hk2 ha hb hc
  obtain ⟨i, rfl⟩ := Int.eq_ofNat_of_zero_le (show 0 ≤ k by omega)
  have hi : i < words.length := by rw [words_length]; omega
  have i1 : (i : Int) < 17 := by omega
  have i0 : (0 : Int) ≤ i := by omega
  have HW : Hid (words[i] = wordOf (i : Int)) := by
    show _ = _
    unfold wordOf
    rw [Int.toNat_natCast, List.getD_eq_getElem?_getD, List.getElem?_eq_getElem hi]; rfl
  have HSm : Hid (∀ x ∈ [a, b, c], 0 ≤ x ∧ x ≤ 65535) := fun x hx => by
    simp at hx
    rcases hx with rfl | rfl | rfl <;> assumption
  have hT1 := (show Hid _ from hT)
  have ht1 := (show Hid _ from ht)
  clear hp ha hb hc hT ht
  go_enter Tryz.func15, Tryz.ntmps15
  go_wp2_with fail
  refine cO.mono ?_
  rintro e w1 ⟨rfl, b1⟩
  clear cO
  have X1 := X0.on b1 X0.lt
  have bb1 := b0.trans (b1.mono b0.size)
  have x0 := X1.cell 0; have x1 := X1.cell 1; have x2 := X1.cell 2; have x3 := X1.cell 3
  have cw := WTab.on hT1.out bb1 i hi
  have lw : (words[i]).length ≤ 5 := by
    have : ∀ q ∈ words, q.length ≤ 5 := by decide
    exact this _ (List.getElem_mem hi)
  obtain ⟨wd, hwd⟩ : ∃ wd, words[i] = wd := ⟨_, rfl⟩
  have HS' : Hid (showOp ⟨i, a, b, c⟩ = wd ++ joinN ([a, b, c].take (nargs i))) := by rw [← hwd, HW.out]; exact HS.out
  rw [hwd] at cw lw
  clear hwd HW HS X0 b0 b1
  have F2 := Blk.new w1 #[.int .i64 a, .int .i64 b, .int .i64 c] 64
  have b2 := alloc_below w1 (.cells #[.int .i64 a, .int .i64 b, .int .i64 c] 64)
  have X2 := X1.on b2 X1.lt
  have y0 := X2.cell 0
  have bb2 := bb1.trans (b2.mono bb1.size)
  go_wp2_with fail
  refine (namedC i ⟨hk1, hk2⟩ _).mono ?_
  rintro e w3 ⟨rfl, b3⟩
  have F3 := F2.on b3 F2.lt
  have bb3 := bb2.trans (b3.mono bb2.size)
  obtain ⟨q, hq⟩ : ∃ q, w1.heap.size = q := ⟨_, rfl⟩
  have hz1 := X1.lt
  rw [hq] at F3 hz1 ⊢
  have hna := nargs_le i
  obtain ⟨m, hm⟩ : ∃ m, nargs i = m := ⟨_, rfl⟩
  rw [hm] at hna HS' ⊢
  have m1 : (m : Int) ≤ 3 := by omega
  have m0 : (0 : Int) ≤ m := by omega
  clear hm x0 x1 x2 x3 y0 cw X1 X2 bb1 bb2 b2 b3 F2 hq
  go_wp2
  go_loopw [3, 6, 26] (fun tv _ iv wr => ∃ (j : Nat) (T : Txt), j ≤ m ∧ iv = .int .i64 j ∧ tv = .string ⟨T.toArray⟩ ∧ T = wd ++ joinN ([a, b, c].take j) ∧ T.length ≤ 5 + 11 * j ∧ Blk wr q #[.int .i64 a, .int .i64 b, .int .i64 c] 64 ∧ Below w.heap.size w wr) (fun _ _ iv _ => m - (intOf iv).toNat)
  case atStart => exact ⟨0, wd, Nat.zero_le _, rfl, rfl, by simp [joinN], by omega, F3, bb3⟩
  case round =>
    obtain ⟨j, T, hj, rfl, rfl, hTe, hTl, F, bb⟩ := hrel
    clear F3 bb3
    have HTE : Hid (T = wd ++ joinN ([a, b, c].take j)) := hTe
    clear hTe
    by_cases hlt : j < m
    · have hj3 : j < [a, b, c].length := by simp; omega
      have cj := (F.cell j).trans (fAt3 a b c hj3)
      have hx := HSm.out _ (List.getElem_mem hj3)
      have HJ : Hid (joinN ([a, b, c].take (j + 1)) = joinN ([a, b, c].take j) ++ 32 :: Lib.itoa [a, b, c][j]) := joinN_take hj3
      obtain ⟨x, hxe⟩ : ∃ x, [a, b, c][j] = x := ⟨_, rfl⟩
      rw [hxe] at cj hx HJ
      have lx := itoaI_len hx
      have cD := Dec.impl_any x (by omega) (by omega) wr (Dec.Tab.on ht1.out bb)
      obtain ⟨tx, htx⟩ : ∃ t, Lib.itoa x = t := ⟨_, rfl⟩
      rw [htx] at cD lx HJ
      have j1 : (j : Int) < m := by omega
      have j0 : (0 : Int) ≤ j := by omega
      obtain ⟨lt, hlt'⟩ : ∃ l, T.length = l := ⟨_, rfl⟩
      obtain ⟨lx', hlx⟩ : ∃ l, tx.length = l := ⟨_, rfl⟩
      have hl3 : (T ++ 32 :: tx).length ≤ 5 + 11 * (j + 1) := by simp; omega
      rw [hlt'] at hTl
      rw [hlx] at lx
      clear hxe htx hx
      go_wp2_with fail
      refine cD.mono ?_
      rintro e w4 ⟨rfl, b4⟩
      clear cD cj
      go_wp2
      go_roundw
      case rel =>
        refine ⟨j + 1, T ++ 32 :: tx, by omega, by go_num, ?_, by rw [HJ.out, HTE.out]; simp, hl3, F.on b4 F.lt, bb.trans (b4.mono bb.size)⟩
        simp [ByteArray.mk_append_mk]
      case measure => simp [intOf]; omega
    · obtain rfl : j = m := by omega
      have HF : Hid (T = showOp ⟨i, a, b, c⟩) := HTE.out.trans HS'.out.symm
      have j1 : ¬ (j : Int) < j := by omega
      go_wp2
      go_ret
      exact ⟨retI_s HF.out, bb⟩
end Ops
end Go.Proofs.YtjopmakbnompnaaGreatDoor
/- What the program's ShowCode answers. -/
set_option linter.unusedVariables false
set_option linter.unusedSimpArgs false
namespace Go.Proofs.YtjopmakbnompnaaGreatDoor
open Go.RowKit
namespace Ops
open Bas Flat Num

theorem scI_no {xs : List O4} (h : codeOk xs = false) : showCode xs = [] := by unfold showCode; rw [if_neg (by simp [h])]
theorem scI_yes {xs : List O4} (h : codeOk xs = true) : showCode xs = linesOf xs := by unfold showCode; rw [if_pos h]
theorem codeI_len {xs : List O4} (h : codeOk xs = true) : xs.length ≤ 24 := by
  unfold codeOk at h
  rw [Bool.and_eq_true] at h
  exact of_decide_eq_true h.1
theorem linesI_take {xs : List O4} {k : Nat} (h : k < xs.length) : linesOf (xs.take (k + 1)) = linesOf (xs.take k) ++ showOp xs[k] ++ [10] := by rw [List.take_succ_eq_append_getElem h, lines_snoc]

set_option maxRecDepth 100000 in
set_option maxHeartbeats 3200000 in
theorem showCodeI (v : Value) (xs : List O4) (B : Nat) (w : World) (hv : Sees4 B w v xs) (hB : B ≤ w.heap.size) (hlen : xs.length ≤ 1048576) (hT : WTab w) (ht : Dec.Tab w) :
    Calls Tryz.prog 22 #[v] w fun e w' => e = .returned (.string ⟨(showCode xs).toArray⟩) ∧ Below w.heap.size w w' := by
  have c0 := codeImpl v xs B w hv hB hlen
  obtain ⟨a, cap, rfl⟩ := hv.form
  obtain ⟨n, hn⟩ : ∃ n, xs.length = n := ⟨_, rfl⟩
  rw [hn] at hv hlen c0 ⊢
  obtain ⟨p, hp⟩ : ∃ p, codeOk xs = p := ⟨_, rfl⟩
  rw [hp] at c0
  have HT : Hid (∀ W, Below w.heap.size w W → WTab W ∧ Dec.Tab W) := fun W hb => ⟨hT.on hb, ht.on hb⟩
  clear hT ht
  obtain ⟨g, hg⟩ : ∃ g, w.heap.size = g := ⟨_, rfl⟩
  rw [hg] at hB c0 HT ⊢
  cases p
  · have HF : Hid ([] = showCode xs) := (scI_no hp).symm
    clear hp
    go_enter Tryz.func22, Tryz.ntmps22
    go_wp2_with fail
    refine c0.mono ?_
    rintro e w1 ⟨rfl, b1⟩
    go_wp2
    go_ret
    exact ⟨retI_s HF.out, b1⟩
  have h24 := codeI_len hp
  rw [hn] at h24
  have HS : Hid (showCode xs = linesOf xs) := scI_yes hp
  clear hp
  go_enter Tryz.func22, Tryz.ntmps22
  go_wp2_with fail
  refine c0.mono ?_
  rintro e w1 ⟨rfl, b1⟩
  clear c0
  go_wp2
  go_loopw [3, 11] (fun sv iv wr => ∃ (k : Nat) (T : Txt), k ≤ n ∧ iv = .int .i64 k ∧ sv = .string ⟨T.toArray⟩ ∧ T = linesOf (xs.take k) ∧ Below g w wr) (fun _ iv _ => n - (intOf iv).toNat)
  case atStart => exact ⟨0, [], Nat.zero_le _, rfl, rfl, rfl, b1⟩
  case round =>
    obtain ⟨k, T, hk, rfl, rfl, hT, hb⟩ := hrel
    clear b1
    have hsz : g ≤ wr.heap.size := by have := hb.size; omega
    by_cases hlt : k < n
    · obtain ⟨b, off, rfl, hbB, hc⟩ := (hv.on hb hB).open (by omega)
      obtain ⟨a0, a1, a2, a3⟩ := see4 (B := B) hc k (by omega)
      have i1 : (k : Int) < n := by omega
      have i2 : (0 : Int) ≤ k := by omega
      have HL : Hid (linesOf (xs.take (k + 1)) = linesOf (xs.take k) ++ showOp xs[k] ++ [10]) := linesI_take (by omega)
      have lT := lines_len (xs.take k)
      rw [← hT] at lT
      have lk : (xs.take k).length ≤ k := List.length_take_le _ _
      have lS := show_len xs[k]
      obtain ⟨x, hx⟩ : ∃ x, xs[k] = x := ⟨_, rfl⟩
      rw [hx] at a0 a1 a2 a3 HL lS
      have bA := alloc_below wr (.cells #[.int .i64 x.k, .int .i64 x.a, .int .i64 x.b, .int .i64 x.c] 36)
      have XA := Blk.new wr #[.int .i64 x.k, .int .i64 x.a, .int .i64 x.b, .int .i64 x.c] 36
      have bbA := hb.trans (bA.mono hsz)
      have cO := showOpI x (wr.alloc (.cells #[.int .i64 x.k, .int .i64 x.a, .int .i64 x.b, .int .i64 x.c] 36)) (HT.out _ bbA).1 (HT.out _ bbA).2
      have eV : x.val = .agg #[.int .i64 x.k, .int .i64 x.a, .int .i64 x.b, .int .i64 x.c] := rfl
      rw [eV] at cO
      obtain ⟨U, hU⟩ : ∃ U, showOp x = U := ⟨_, rfl⟩
      rw [hU] at cO HL lS
      have HTT : Hid (T = linesOf (xs.take k)) := hT
      obtain ⟨lt, hlt'⟩ : ∃ l, T.length = l := ⟨_, rfl⟩
      obtain ⟨lu, hlu⟩ : ∃ l, U.length = l := ⟨_, rfl⟩
      rw [hlt'] at lT
      rw [hlu] at lS
      have lT' : lt ≤ 1000 := by omega
      have hzA : g ≤ (wr.alloc (.cells #[.int .i64 x.k, .int .i64 x.a, .int .i64 x.b, .int .i64 x.c] 36)).heap.size := by have := bbA.size; omega
      clear hc hx eV hU hT lT lk
      go_wp2_with fail
      refine cO.mono ?_
      rintro e w2 ⟨rfl, b2⟩
      clear cO a0 a1 a2 a3
      go_wp2
      go_roundw
      case rel =>
        refine ⟨k + 1, T ++ U ++ [10], by omega, by go_num, ?_, by rw [HL.out, ← HTT.out], bbA.trans (b2.mono hzA)⟩
        simp [ByteArray.mk_append_mk]
      case measure => simp [intOf]; omega
    · obtain rfl : k = n := by omega
      have HF : Hid (T = showCode xs) := by show _ = _; rw [HS.out, hT, List.take_of_length_le (by omega)]
      have i1 : ¬ (k : Int) < k := by omega
      clear hT
      go_wp2
      go_ret
      exact ⟨retI_s HF.out, hb⟩
end Ops
end Go.Proofs.YtjopmakbnompnaaGreatDoor
