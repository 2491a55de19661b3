/- What the program's CodeOk and KidOk answer. -/
import Derived.Test.YtppkohkcffnghaaSkipsImpl
import Derived.Test.YtppkohkcffnghaaOpLaw
set_option linter.unusedVariables false
set_option linter.unusedSimpArgs false
namespace Go.Proofs.Ytppkohkcffnghaa
open Go.RowKit
namespace Ops
open Bas Flat

set_option maxRecDepth 100000 in
set_option maxHeartbeats 6400000 in
theorem codeImpl (v : Value) (xs : List O4) (B : Nat) (w : World) (hv : Sees4 B w v xs) (hB : B ≤ w.heap.size) (hlen : xs.length ≤ 1048576) :
    Calls Try.prog 92 #[v] w fun e w' => e = .returned (.bool (codeOk xs)) ∧ Below w.heap.size w w' := by
  obtain ⟨a, cap, rfl⟩ := hv.form
  obtain ⟨n, hn⟩ : ∃ n, xs.length = n := ⟨_, rfl⟩
  rw [hn] at hv hlen ⊢
  by_cases h24 : n ≤ 24
  · have h24' : ¬ (24 : Int) < n := by omega
    obtain ⟨g, hg⟩ : ∃ g, w.heap.size = g := ⟨_, rfl⟩
    rw [hg] at hB ⊢
    have hb0 : Below g w w := Below.refl _ _
    go_enter Try.func92, Try.ntmps92
    go_wp2
    go_loopw [12] (fun i' wr => ∃ k : Nat, k ≤ n ∧ i' = .int .i64 k ∧ (∀ j (h : j < xs.length), j < k → okOp xs[j] = true) ∧ Below g w wr) (fun i' _ => n - (intOf i').toNat)
    case atStart => exact ⟨0, Nat.zero_le _, rfl, fun j _ h => by omega, hb0⟩
    case round =>
      obtain ⟨k, hk, rfl, hall, hb⟩ := hrel
      clear hb0
      have hsz : g ≤ wr.heap.size := by have := hb.size; omega
      have HA := (show Hid _ from hall)
      clear hall
      by_cases hlt : k < n
      · obtain ⟨b, off, rfl, hbB, hc⟩ := (hv.on hb hB).open (by omega)
        obtain ⟨a0, a1, a2, a3⟩ := seeI hc k (by omega)
        have i1 : (k : Int) < n := by omega
        have hkx : k < xs.length := by omega
        obtain ⟨p, hp⟩ : ∃ p, okOp xs[k] = p := ⟨_, rfl⟩
        have HP : Hid (okOp xs[k] = p) := hp
        obtain ⟨x, hx⟩ : ∃ x, xs[k] = x := ⟨_, rfl⟩
        rw [hx] at a0 a1 a2 a3 hp
        have bA := alloc_below wr (.cells #[.int .i64 x.k, .int .i64 x.a, .int .i64 x.b, .int .i64 x.c] 30)
        have cO := implC x.k x.a x.b x.c (wr.alloc (.cells #[.int .i64 x.k, .int .i64 x.a, .int .i64 x.b, .int .i64 x.c] 30))
        have eV : opV x.k x.a x.b x.c = .agg #[.int .i64 x.k, .int .i64 x.a, .int .i64 x.b, .int .i64 x.c] := rfl
        have eO : opOk x.k x.a x.b x.c = okOp x := rfl
        rw [eV, eO, hp] at cO
        clear hp hx eV eO hc
        cases p
        · have HF : Hid (false = codeOk xs) := by
            show _ = _
            exact (code_bad1 (all_no hkx HP.out)).symm
          go_wp2_with fail
          refine cO.mono ?_
          rintro e w2 ⟨rfl, hb2⟩
          clear cO
          go_wp2
          go_ret
          exact ⟨retB HF.out, hb.trans ((bA.trans (hb2.mono bA.size)).mono hsz)⟩
        · have HF : Hid (∀ j (h : j < xs.length), j < k + 1 → okOp xs[j] = true) := fun j hj hjk => by
            rcases Nat.lt_succ_iff_lt_or_eq.1 hjk with h | h
            · exact HA.out j hj h
            · subst h; exact HP.out
          go_wp2_with fail
          refine cO.mono ?_
          rintro e w2 ⟨rfl, hb2⟩
          clear cO
          go_wp2
          go_roundw
          case rel => exact ⟨k + 1, by omega, by go_num, HF.out, hb.trans ((bA.trans (hb2.mono bA.size)).mono hsz)⟩
          case measure => simp [intOf]; omega
      · obtain rfl : k = n := by omega
        have i1 : ¬ (k : Int) < k := by omega
        have HO : Hid (∀ j (h : j < xs.length), okOp xs[j] = true) := fun j hj => HA.out j hj (by omega)
        have cH := homesC _ xs B wr (hv.on hb hB) (by omega) (by omega)
        obtain ⟨p, hp⟩ : ∃ p, closedGo xs 0 = p := ⟨_, rfl⟩
        have HP : Hid (closedGo xs 0 = p) := hp
        rw [hp, hn] at cH
        clear hp HA
        cases p
        · have HF : Hid (false = codeOk xs) := (code_bad2 HP.out).symm
          go_wp2_with fail
          refine cH.mono ?_
          rintro e w2 ⟨v2, rfl, -, b2⟩
          clear cH
          go_wp2
          go_ret
          exact ⟨retB HF.out, hb.trans (b2.mono hsz)⟩
        · go_wp2_with fail
          refine cH.mono ?_
          rintro e w2 ⟨v2, rfl, O2, b2⟩
          clear cH
          have O2 := O2 (by first | trivial | rfl)
          have bb2 := hb.trans (b2.mono hsz)
          have hz2 : g ≤ w2.heap.size := by have := bb2.size; omega
          have hv2 := (hv.on bb2 hB).up (show B ≤ w2.heap.size by omega)
          have s2 := O2.sees
          rw [← hn] at s2
          have cS := skipsC _ v2 xs w2.heap.size w2 hv2 s2 (Nat.le_refl _) (by omega) HP.out HO.out
          obtain ⟨p, hp⟩ : ∃ p, skipsGo xs xs 0 = p := ⟨_, rfl⟩
          have HS : Hid (skipsGo xs xs 0 = p) := hp
          rw [hp] at cS
          clear hp
          go_wp2_with fail
          refine cS.mono ?_
          rintro e w3 ⟨rfl, b3⟩
          clear cS
          have bb3 := bb2.trans (b3.mono hz2)
          cases p
          · have HF : Hid (false = codeOk xs) := (code_bad3 HS.out).symm
            go_wp2
            go_ret
            exact ⟨retB HF.out, bb3⟩
          · have hz3 : g ≤ w3.heap.size := by have := bb3.size; omega
            have hv3 := (hv.on bb3 hB).up (show B ≤ w3.heap.size by omega)
            have s3 := (O2.on b3 (Nat.le_refl _)).sees
            rw [← hn] at s3
            have cF := forksC _ v2 xs w3.heap.size w3 hv3 s3 (Nat.le_refl _) (by omega) HP.out
            have HF : Hid (forksGo xs 0 0 = codeOk xs) := (code_all (by omega) (all_yes HO.out) HP.out HS.out).symm
            go_wp2_with fail
            refine cF.mono ?_
            rintro e w4 ⟨rfl, b4⟩
            clear cF
            go_wp2
            go_ret
            exact ⟨retB HF.out, bb3.trans (b4.mono hz3)⟩
  · have HF : Hid (false = codeOk xs) := by
      show _ = _
      unfold codeOk
      rw [decide_eq_false (show ¬ xs.length ≤ 24 by omega), Bool.false_and]
    have h24' : (24 : Int) < n := by omega
    go_enter Try.func92, Try.ntmps92
    go_wp2
    go_ret
    exact ⟨retB HF.out, Below.refl _ _⟩

theorem kid_no1I {xs : List O4} (h : codeOk xs = false) : kidOk xs = false := by unfold kidOk; rw [h]; rfl
theorem kid_no2I {xs : List O4} (h : hasFork xs = true) : kidOk xs = false := by unfold kidOk; rw [h]; simp
theorem kid_allI {xs : List O4} (h1 : codeOk xs = true) (h2 : hasFork xs = false) : kidOk xs = xs.all fun o => !(touch o == 2) := by unfold kidOk; rw [h1, h2]; simp

set_option maxRecDepth 100000 in
set_option maxHeartbeats 3200000 in
theorem kidImpl (v : Value) (xs : List O4) (B : Nat) (w : World) (hv : Sees4 B w v xs) (hB : B ≤ w.heap.size) (hlen : xs.length ≤ 1048576) :
    Calls Try.prog 53 #[v] w fun e w' => e = .returned (.bool (kidOk xs)) ∧ Below w.heap.size w w' := by
  have c0 := codeImpl v xs B w hv hB hlen
  obtain ⟨a, cap, rfl⟩ := hv.form
  obtain ⟨n, hn⟩ : ∃ n, xs.length = n := ⟨_, rfl⟩
  rw [hn] at hv hlen c0 ⊢
  obtain ⟨p, hp⟩ : ∃ p, codeOk xs = p := ⟨_, rfl⟩
  rw [hp] at c0
  obtain ⟨g, hg⟩ : ∃ g, w.heap.size = g := ⟨_, rfl⟩
  rw [hg] at hB c0 ⊢
  cases p
  · have HF : Hid (false = kidOk xs) := (kid_no1I hp).symm
    clear hp
    go_enter Try.func53, Try.ntmps53
    go_wp2_with fail
    refine c0.mono ?_
    rintro e w1 ⟨rfl, b1⟩
    go_wp2
    go_ret
    exact ⟨retB HF.out, b1⟩
  have HP : Hid (codeOk xs = true) := hp
  clear hp
  go_enter Try.func53, Try.ntmps53
  go_wp2_with fail
  refine c0.mono ?_
  rintro e w1 ⟨rfl, b1⟩
  clear c0
  have hz1 : g ≤ w1.heap.size := by have := b1.size; omega
  have c1 := forkImpl _ xs B w1 (hv.on b1 hB) (by omega) (by omega)
  obtain ⟨q, hq⟩ : ∃ q, hasFork xs = q := ⟨_, rfl⟩
  rw [hq] at c1
  cases q
  · have HE : Hid (kidOk xs = xs.all fun o => !(touch o == 2)) := kid_allI HP.out hq
    clear hq
    go_wp2_with fail
    refine c1.mono ?_
    rintro e w2 ⟨rfl, b2⟩
    clear c1
    have bb2 := b1.trans (b2.mono hz1)
    go_wp2
    go_loopw [14] (fun i' wr => ∃ k : Nat, k ≤ n ∧ i' = .int .i64 k ∧ (∀ j (h : j < xs.length), j < k → (!(touch xs[j] == 2)) = true) ∧ Below g w wr) (fun i' _ => n - (intOf i').toNat)
    case atStart => exact ⟨0, Nat.zero_le _, rfl, fun j _ h => by omega, bb2⟩
    case round =>
      obtain ⟨k, hk, rfl, hall, hb⟩ := hrel
      clear b1 b2 bb2
      have hsz : g ≤ wr.heap.size := by have := hb.size; omega
      have HA := (show Hid _ from hall)
      clear hall
      by_cases hlt : k < n
      · obtain ⟨b, off, rfl, hbB, hc⟩ := (hv.on hb hB).open (by omega)
        obtain ⟨a0, a1, a2, a3⟩ := seeI hc k (by omega)
        have i1 : (k : Int) < n := by omega
        have hkx : k < xs.length := by omega
        obtain ⟨t, ht⟩ : ∃ t, touch xs[k] = t := ⟨_, rfl⟩
        have HT : Hid (touch xs[k] = t) := ht
        obtain ⟨x, hx⟩ : ∃ x, xs[k] = x := ⟨_, rfl⟩
        rw [hx] at a0 a1 a2 a3 ht
        have bA := alloc_below wr (.cells #[.int .i64 x.k, .int .i64 x.a, .int .i64 x.b, .int .i64 x.c] 30)
        have cT := touchImpl x.k x.a x.b x.c (wr.alloc (.cells #[.int .i64 x.k, .int .i64 x.a, .int .i64 x.b, .int .i64 x.c] 30))
        have eV : opV x.k x.a x.b x.c = .agg #[.int .i64 x.k, .int .i64 x.a, .int .i64 x.b, .int .i64 x.c] := rfl
        have eT : touches x.k x.a x.b x.c = touch x := rfl
        rw [eV, eT, ht] at cT
        clear ht hx eV eT hc
        by_cases h2 : t = 2
        · have HF : Hid (false = kidOk xs) := by
            show _ = _
            rw [HE.out]
            exact (all_no (k := k) hkx (by rw [HT.out, h2]; rfl)).symm
          rw [h2] at cT
          clear h2
          go_wp2_with fail
          refine cT.mono ?_
          rintro e w2 ⟨rfl, hb2⟩
          clear cT
          go_wp2
          go_ret
          exact ⟨retB HF.out, hb.trans ((bA.trans (hb2.mono bA.size)).mono hsz)⟩
        · have HF : Hid (∀ j (h : j < xs.length), j < k + 1 → (!(touch xs[j] == 2)) = true) := fun j hj hjk => by
            rcases Nat.lt_succ_iff_lt_or_eq.1 hjk with h | h
            · exact HA.out j hj h
            · subst h; rw [HT.out]; simp [h2]
          have e2 : (t == 2) = false := by simp [h2]
          clear h2
          go_wp2_with fail
          refine cT.mono ?_
          rintro e w2 ⟨rfl, hb2⟩
          clear cT
          go_wp2
          go_roundw
          case rel => exact ⟨k + 1, by omega, by go_num, HF.out, hb.trans ((bA.trans (hb2.mono bA.size)).mono hsz)⟩
          case measure => simp [intOf]; omega
      · have HF : Hid (true = kidOk xs) := by
          show _ = _
          rw [HE.out]
          exact (all_yes fun j hj => HA.out j hj (by omega)).symm
        have i1 : ¬ (k : Int) < n := by omega
        go_wp2
        go_ret
        exact ⟨retB HF.out, hb⟩
  · have HF : Hid (false = kidOk xs) := (kid_no2I hq).symm
    clear hq
    go_wp2_with fail
    refine c1.mono ?_
    rintro e w2 ⟨rfl, b2⟩
    clear c1
    go_wp2
    go_ret
    exact ⟨retB HF.out, b1.trans (b2.mono hz1)⟩
end Ops
end Go.Proofs.Ytppkohkcffnghaa
