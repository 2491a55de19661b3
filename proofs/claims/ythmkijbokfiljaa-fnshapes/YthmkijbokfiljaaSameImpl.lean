/- What the program's SameProg answers. -/
import Derived.Test.YthmkijbokfiljaaProgImpl
import Derived.Test.YthmkijbokfiljaaShapeSpec6
set_option linter.unusedVariables false
set_option linter.unusedSimpArgs false
namespace Go.Proofs.Ythmkijbokfiljaa
open Go.RowKit
namespace Ops
open Bas Flat

set_option maxRecDepth 100000 in
set_option maxHeartbeats 1600000 in
theorem sameImpl (v u : Value) (xs ys : List O4) (B : Nat) (w : World) (hv : Sees4 B w v xs) (hu : Sees4 B w u ys) (hB : B ≤ w.heap.size) :
    Calls Try.prog 27 #[v, u] w fun e w' => e = .returned (.bool (sameGo xs ys)) ∧ Below w.heap.size w w' := by
  have r1 := hv.room; have r2 := hu.room
  obtain ⟨a, cap, rfl⟩ := hv.form
  obtain ⟨a', cap', rfl⟩ := hu.form
  obtain ⟨n, hn⟩ : ∃ n, xs.length = n := ⟨_, rfl⟩
  obtain ⟨n', hn'⟩ : ∃ n, ys.length = n := ⟨_, rfl⟩
  rw [hn] at hv r1 ⊢
  rw [hn'] at hu r2 ⊢
  have q1 : (n : Int) ≤ 9223372036854775807 := by unfold maxLen at r1; omega
  have q2 : (n' : Int) ≤ 9223372036854775807 := by unfold maxLen at r2; omega
  clear r1 r2
  by_cases hnn : n = n'
  · subst hnn
    have HE : Hid (sameGo xs ys = sameGo (xs.drop 0) (ys.drop 0)) := rfl
    obtain ⟨g, hg⟩ : ∃ g, w.heap.size = g := ⟨_, rfl⟩
    rw [hg] at hB ⊢
    have hb0 : Below g w w := Below.refl _ _
    go_enter Try.func27, Try.ntmps27
    go_wp2
    go_loopw [13] (fun i' wr => ∃ k : Nat, k ≤ n ∧ i' = .int .i64 k ∧ sameGo xs ys = sameGo (xs.drop k) (ys.drop k) ∧ Below g w wr) (fun i' _ => n - (intOf i').toNat)
    case atStart => exact ⟨0, Nat.zero_le _, rfl, HE.out, hb0⟩
    case round =>
      obtain ⟨k, hk, rfl, he, hb⟩ := hrel
      clear hb0 HE
      by_cases hlt : k < n
      · obtain ⟨b, off, rfl, hbB, hc⟩ := (hv.on hb hB).open (by omega)
        obtain ⟨b', off', rfl, hbB', hc'⟩ := (hu.on hb hB).open (by omega)
        obtain ⟨a0, a1, a2, a3⟩ := seeI hc k (by omega)
        obtain ⟨d0, d1, d2, d3⟩ := seeI hc' k (by omega)
        rw [sameGo_step (by omega) (by omega)] at he
        obtain ⟨x, hx⟩ : ∃ x, xs[k] = x := ⟨_, rfl⟩
        obtain ⟨y, hy⟩ : ∃ y, ys[k] = y := ⟨_, rfl⟩
        rw [hx, hy] at he
        rw [hx] at a0 a1 a2 a3
        rw [hy] at d0 d1 d2 d3
        have i1 : (k : Int) < n := by omega
        have i2 : (0 : Int) ≤ k := by omega
        have hq := fun W => eqOp4 x y W
        have eX : x.val = .agg #[.int .i64 x.k, .int .i64 x.a, .int .i64 x.b, .int .i64 x.c] := rfl
        have eY : y.val = .agg #[.int .i64 y.k, .int .i64 y.a, .int .i64 y.b, .int .i64 y.c] := rfl
        rw [eX, eY] at hq
        clear hx hy hc hc' eX eY
        obtain ⟨p, hp⟩ : ∃ p, same4 x y = p := ⟨_, rfl⟩
        rw [hp] at he hq
        clear hp
        cases p
        · have HF : Hid (false = sameGo xs ys) := by show _ = _; rw [he, Bool.false_and]
          clear he
          go_wp2_with fail
          go_region
          all_goals
            go_wp2
            go_ret
            exact ⟨retB HF.out, by first | exact hb.drew | exact hb.drew.drew | exact hb⟩
        · have HF := (show Hid _ from he)
          clear he
          go_wp2_with fail
          go_region
          all_goals
            go_wp2
            go_roundw
            case rel => exact ⟨k + 1, by omega, by go_num, by rw [HF.out, Bool.true_and], by first | exact hb.drew | exact hb.drew.drew | exact hb⟩
            case measure => simp [intOf]; omega
      · obtain rfl : k = n := by omega
        have HF : Hid (true = sameGo xs ys) := by
          show _ = _
          rw [he, List.drop_of_length_le (by omega), List.drop_of_length_le (by omega)]; rfl
        clear he
        go_wp2
        go_ret
        exact ⟨retB HF.out, hb⟩
  · have HF : Hid (false = sameGo xs ys) := (sameGo_len (by omega)).symm
    have dn : ((n : Int) != n') = true := by simp; omega
    clear hnn
    go_enter Try.func27, Try.ntmps27
    go_wp2
    go_ret
    exact ⟨retB HF.out, Below.refl _ _⟩

set_option maxRecDepth 100000 in
set_option maxHeartbeats 800000 in
theorem sameKidC (v u : Value) (xs ys : List O4) (B : Nat) (w : World) (hv : Sees4 B w v xs) (hu : Sees4 B w u ys) (hB : B ≤ w.heap.size) :
    Calls Try.prog 29 #[.agg #[v], .agg #[u]] w fun e w' => e = .returned (.bool (sameGo xs ys)) ∧ Below w.heap.size w w' := by
  obtain ⟨a, cap, rfl⟩ := hv.form
  obtain ⟨a', cap', rfl⟩ := hu.form
  obtain ⟨n, hn⟩ : ∃ n, xs.length = n := ⟨_, rfl⟩
  obtain ⟨n', hn'⟩ : ∃ n, ys.length = n := ⟨_, rfl⟩
  rw [hn] at hv ⊢
  rw [hn'] at hu ⊢
  have b0 := (alloc_below w (.cells #[.slice a n cap] 46)).alloc (by simp) (.cells #[.slice a' n' cap'] 46)
  have c0 := sameImpl _ _ xs ys B ((w.alloc (.cells #[.slice a n cap] 46)).alloc (.cells #[.slice a' n' cap'] 46)) (hv.on b0 hB) (hu.on b0 hB) (by simp; omega)
  go_enter Try.func29, Try.ntmps29
  go_wp2_with fail
  refine c0.mono ?_
  rintro e w1 ⟨rfl, b1⟩
  go_wp2
  go_ret
  exact ⟨rfl, b0.trans (b1.mono b0.size)⟩

/-- the kids alone -/
def sameKids (kss lss : List (List O4)) : Bool := decide (kss.length = lss.length) && (kss.zip lss).all fun p => sameGo p.1 p.2
theorem sk_no2 {kss lss : List (List O4)} (h : ¬ kss.length = lss.length) : sameKids kss lss = false := by unfold sameKids; rw [decide_eq_false h]; simp
theorem sk_no3 {kss lss : List (List O4)} {k : Nat} (h1 : k < kss.length) (h2 : k < lss.length) (h : sameGo kss[k] lss[k] = false) : sameKids kss lss = false := by
  have := sp_no3 (xs := []) (ys := []) h1 h2 h
  unfold sameProg at this
  simpa [sameKids, sameGo] using this
theorem sk_yes {kss lss : List (List O4)} (h1 : kss.length = lss.length) (h : ∀ j (a : j < kss.length) (b : j < lss.length), sameGo kss[j] lss[j] = true) : sameKids kss lss = true := by
  have := sp_yes (xs := []) (ys := []) rfl h1 h
  unfold sameProg at this
  simpa [sameKids, sameGo] using this
theorem sp_kids {xs ys : List O4} {kss lss : List (List O4)} (h : sameGo xs ys = true) : sameProg xs kss ys lss = sameKids kss lss := by unfold sameProg sameKids; rw [h]; rfl

set_option maxRecDepth 100000 in
set_option maxHeartbeats 3200000 in
theorem equalKids (vk uk : Value) (kss lss : List (List O4)) (B : Nat) (w : World) (hv : SeesK B w vk kss) (hu : SeesK B w uk lss) (hB : B ≤ w.heap.size) :
    Calls Try.prog 28 #[vk, uk, .func (.func 29) #[] #[]] w fun e w' => e = .returned (.bool (sameKids kss lss)) ∧ Below w.heap.size w w' := by
  have r1 := hv.room; have r2 := hu.room
  obtain ⟨ak, capk, rfl⟩ := hv.form
  obtain ⟨uk', ucapk, rfl⟩ := hu.form
  obtain ⟨m, hm⟩ : ∃ m, kss.length = m := ⟨_, rfl⟩
  obtain ⟨m', hm'⟩ : ∃ m, lss.length = m := ⟨_, rfl⟩
  rw [hm] at hv r1 ⊢
  rw [hm'] at hu r2 ⊢
  have q1 : (m : Int) ≤ 9223372036854775807 := by unfold maxLen at r1; omega
  have q2 : (m' : Int) ≤ 9223372036854775807 := by unfold maxLen at r2; omega
  clear r1 r2
  by_cases hmm : m = m'
  · subst hmm
    have HV := (show Hid _ from hv)
    have HU := (show Hid _ from hu)
    clear hv hu
    obtain ⟨g, hg⟩ : ∃ g, w.heap.size = g := ⟨_, rfl⟩
    rw [hg] at hB ⊢
    have hb0 : Below g w w := Below.refl _ _
    go_enter Try.func28, Try.ntmps28
    go_wp2
    go_loopw [17] (fun i' wr => ∃ k : Nat, k ≤ m ∧ i' = .int .i64 k ∧ (∀ j (a : j < kss.length) (b : j < lss.length), j < k → sameGo kss[j] lss[j] = true) ∧ Below g w wr) (fun i' _ => m - (intOf i').toNat)
    case atStart => exact ⟨0, Nat.zero_le _, rfl, fun j _ _ h => by omega, hb0⟩
    case round =>
      obtain ⟨k, hk, rfl, hall, hb⟩ := hrel
      clear hb0
      have HA := (show Hid _ from hall)
      clear hall
      have hsz : g ≤ wr.heap.size := by have := hb.size; omega
      by_cases hlt : k < m
      · obtain ⟨b, off, rfl, hbB, hc⟩ := SeesK.open HV.out (by omega)
        obtain ⟨b', off', rfl, hbB', hc'⟩ := SeesK.open HU.out (by omega)
        obtain ⟨s, p1, p2⟩ := hc k (by omega)
        obtain ⟨s', p1', p2'⟩ := hc' k (by omega)
        have a0 := (hb.cell (p := ⟨b, off + k, none⟩) (by show b < g; omega)).trans p1
        have a1 := (hb.cell (p := ⟨b', off' + k, none⟩) (by show b' < g; omega)).trans p1'
        have i1 : (k : Int) < m := by omega
        have i2 : (0 : Int) ≤ k := by omega
        have a1 := ((alloc_below wr (.cells #[.slice s.a s.n s.cap] 46)).cell (p := ⟨b', off' + k, none⟩) (by show b' < wr.heap.size; omega)).trans a1
        have bA := (alloc_below wr (.cells #[.slice s.a s.n s.cap] 46)).alloc (by simp) (.cells #[.slice s'.a s'.n s'.cap] 46)
        have bbA := hb.trans (bA.mono hsz)
        have cT := sameKidC _ _ kss[k] lss[k] B ((wr.alloc (.cells #[.slice s.a s.n s.cap] 46)).alloc (.cells #[.slice s'.a s'.n s'.cap] 46)) (p2.on bbA hB) (p2'.on bbA hB) (by simp; omega)
        have HG := (show Hid _ from (fun h : sameGo kss[k] lss[k] = false => sk_no3 (by omega) (by omega) h))
        obtain ⟨q, hq⟩ : ∃ q, sameGo kss[k] lss[k] = q := ⟨_, rfl⟩
        have HQ : Hid (sameGo kss[k] lss[k] = q) := hq
        rw [hq] at cT
        clear hc hc' p1 p1' p2 p2' hq
        cases q
        · have HF : Hid (false = sameKids kss lss) := (HG.out HQ.out).symm
          go_wp2_with (go_at_call 29; refine cT.mono ?_; rintro e w2 ⟨rfl, hb2⟩)
          go_ret
          exact ⟨retB HF.out, bbA.trans (hb2.mono (by have := bbA.size; omega))⟩
        · have HF : Hid (∀ j (a : j < kss.length) (b : j < lss.length), j < k + 1 → sameGo kss[j] lss[j] = true) := fun j ha hb hjk => by
            rcases Nat.lt_succ_iff_lt_or_eq.1 hjk with h | h
            · exact HA.out j ha hb h
            · subst h; exact HQ.out
          go_wp2_with (go_at_call 29; refine cT.mono ?_; rintro e w2 ⟨rfl, hb2⟩)
          go_roundw
          case rel => exact ⟨k + 1, by omega, by go_num, HF.out, bbA.trans (hb2.mono (by have := bbA.size; omega))⟩
          case measure => simp [intOf]; omega
      · have HF : Hid (true = sameKids kss lss) := (sk_yes (by omega) fun j ha hb => HA.out j ha hb (by omega)).symm
        obtain rfl : k = m := by omega
        have i1 : ¬ (k : Int) < k := by omega
        go_wp2
        go_ret
        exact ⟨retB HF.out, hb⟩
  · have HF : Hid (false = sameKids kss lss) := (sk_no2 (by omega)).symm
    have dn : ((m : Int) != m') = true := by simp; omega
    clear hmm
    go_enter Try.func28, Try.ntmps28
    go_wp2
    go_ret
    exact ⟨retB HF.out, Below.refl _ _⟩

set_option maxRecDepth 100000 in
set_option maxHeartbeats 3200000 in
theorem sameProgImpl (vc vk uc uk : Value) (xs ys : List O4) (kss lss : List (List O4)) (B : Nat) (w : World) (hv : SeesP B w vc vk xs kss) (hu : SeesP B w uc uk ys lss) (hB : B ≤ w.heap.size) :
    Calls Try.prog 12 #[.agg #[vc, vk], .agg #[uc, uk]] w fun e w' => e = .returned (.bool (sameProg xs kss ys lss)) ∧ Below w.heap.size w w' := by
  have r1 := hv.k.room; have r2 := hu.k.room
  obtain ⟨a, cap, rfl⟩ := hv.c.form
  obtain ⟨ak, capk, rfl⟩ := hv.k.form
  obtain ⟨u, ucap, rfl⟩ := hu.c.form
  obtain ⟨uk', ucapk, rfl⟩ := hu.k.form
  obtain ⟨n, hn⟩ : ∃ n, xs.length = n := ⟨_, rfl⟩
  obtain ⟨m, hm⟩ : ∃ m, kss.length = m := ⟨_, rfl⟩
  obtain ⟨n', hn'⟩ : ∃ n, ys.length = n := ⟨_, rfl⟩
  obtain ⟨m', hm'⟩ : ∃ m, lss.length = m := ⟨_, rfl⟩
  rw [hn, hm] at hv ⊢
  rw [hn', hm'] at hu ⊢
  have b0 := (alloc_below w (.cells #[.slice a n cap, .slice ak m capk] 30)).alloc (by simp) (.cells #[.slice u n' ucap, .slice uk' m' ucapk] 30)
  have X0 : Blk ((w.alloc (.cells #[.slice a n cap, .slice ak m capk] 30)).alloc (.cells #[.slice u n' ucap, .slice uk' m' ucapk] 30)) w.heap.size #[.slice a n cap, .slice ak m capk] 30 := (Blk.new w _ _).on (alloc_below _ _) (by simp)
  have Z0 : Blk ((w.alloc (.cells #[.slice a n cap, .slice ak m capk] 30)).alloc (.cells #[.slice u n' ucap, .slice uk' m' ucapk] 30)) (w.heap.size + 1) #[.slice u n' ucap, .slice uk' m' ucapk] 30 := by
    have := Blk.new (w.alloc (.cells #[.slice a n cap, .slice ak m capk] 30)) #[.slice u n' ucap, .slice uk' m' ucapk] 30
    simpa using this
  obtain ⟨W0, hW0⟩ : ∃ W0, (w.alloc (.cells #[.slice a n cap, .slice ak m capk] 30)).alloc (.cells #[.slice u n' ucap, .slice uk' m' ucapk] 30) = W0 := ⟨_, rfl⟩
  rw [hW0] at b0 X0 Z0
  have hs := Z0.lt
  have c0 := sameImpl _ _ xs ys B W0 (hv.c.on b0 hB) (hu.c.on b0 hB) (by omega)
  obtain ⟨p, hp⟩ : ∃ p, sameGo xs ys = p := ⟨_, rfl⟩
  rw [hp] at c0
  have HP : Hid (sameGo xs ys = p) := hp
  clear hp
  have x0 := X0.cell 0; have z0 := Z0.cell 0
  go_enter Try.func12, Try.ntmps12
  go_wp2_with fail
  clear hW0 x0 z0
  refine c0.mono ?_
  rintro e w1 ⟨rfl, b1⟩
  clear c0
  have bb1 := b0.trans (b1.mono b0.size)
  cases p
  · have HF : Hid (false = sameProg xs kss ys lss) := (sp_no1 HP.out).symm
    go_wp2
    go_ret
    exact ⟨retB HF.out, bb1⟩
  have X1 := X0.on b1 (by omega); have Z1 := Z0.on b1 hs
  have x1 := X1.cell 1; have z1 := Z1.cell 1
  have hz1 : w.heap.size ≤ w1.heap.size := bb1.size
  have c1 := equalKids _ _ kss lss B w1 (hv.k.on bb1 hB) (hu.k.on bb1 hB) (by omega)
  have HF : Hid (sameKids kss lss = sameProg xs kss ys lss) := (sp_kids HP.out).symm
  go_wp2_with fail
  refine c1.mono ?_
  rintro e w2 ⟨rfl, b2⟩
  clear c1
  go_wp2
  go_ret
  exact ⟨retB HF.out, bb1.trans (b2.mono hz1)⟩
end Ops
end Go.Proofs.Ythmkijbokfiljaa
