/- What the specification's SameProg answers. -/
import Derived.Test.YtkeamnokkbfcaaaShapeSpec5
set_option linter.unusedVariables false
set_option linter.unusedSimpArgs false
namespace Go.Proofs.Ytkeamnokkbfcaaa
open Go.RowKit
namespace Ops
open Bas Flat

theorem sp_no1 {xs ys : List O4} {kss lss : List (List O4)} (h : sameGo xs ys = false) : sameProg xs kss ys lss = false := by unfold sameProg; rw [h]; rfl
theorem sp_no2 {xs ys : List O4} {kss lss : List (List O4)} (h : ¬ kss.length = lss.length) : sameProg xs kss ys lss = false := by unfold sameProg; rw [decide_eq_false h]; simp
theorem sp_no3 {xs ys : List O4} {kss lss : List (List O4)} {k : Nat} (h1 : k < kss.length) (h2 : k < lss.length) (h : sameGo kss[k] lss[k] = false) : sameProg xs kss ys lss = false := by
  unfold sameProg
  have : ((kss.zip lss).all fun p => sameGo p.1 p.2) = false := List.all_eq_false.2 ⟨(kss[k], lss[k]), by
    have : (kss.zip lss)[k]'(by simp; omega) = (kss[k], lss[k]) := by simp
    rw [← this]; exact List.getElem_mem _, by simp [h]⟩
  rw [this, Bool.and_false]
theorem sp_yes {xs ys : List O4} {kss lss : List (List O4)} (h0 : sameGo xs ys = true) (h1 : kss.length = lss.length) (h : ∀ j (a : j < kss.length) (b : j < lss.length), sameGo kss[j] lss[j] = true) : sameProg xs kss ys lss = true := by
  unfold sameProg
  have : ((kss.zip lss).all fun p => sameGo p.1 p.2) = true := List.all_eq_true.2 fun p hp => by
    obtain ⟨j, hj, rfl⟩ := List.mem_iff_getElem.1 hp
    simp at hj
    simpa using h j (by omega) (by omega)
  rw [h0, this, decide_eq_true h1]; rfl

set_option maxRecDepth 100000 in
set_option maxHeartbeats 3200000 in
theorem sameProgSpec (vc vk uc uk : Value) (xs ys : List O4) (kss lss : List (List O4)) (B : Nat) (w : World) (hv : SeesP B w vc vk xs kss) (hu : SeesP B w uc uk ys lss) (hB : B ≤ w.heap.size) :
    Calls Try.prog 28 #[.agg #[vc, vk], .agg #[uc, uk]] w fun e w' => e = .returned (.bool (sameProg xs kss ys lss)) ∧ Below w.heap.size w w' := by
  have r1 := hv.k.room; have r2 := hu.k.room
  obtain ⟨a, cap, rfl⟩ := hv.c.form
  obtain ⟨ak, capk, rfl⟩ := hv.k.form
  obtain ⟨u, ucap, rfl⟩ := hu.c.form
  obtain ⟨uk', ucapk, rfl⟩ := hu.k.form
  obtain ⟨n, hn⟩ : ∃ n, xs.length = n := ⟨_, rfl⟩
  obtain ⟨m, hm⟩ : ∃ m, kss.length = m := ⟨_, rfl⟩
  obtain ⟨n', hn'⟩ : ∃ n, ys.length = n := ⟨_, rfl⟩
  obtain ⟨m', hm'⟩ : ∃ m, lss.length = m := ⟨_, rfl⟩
  rw [hn, hm] at hv ⊢
  rw [hn', hm'] at hu ⊢
  rw [hm] at r1
  rw [hm'] at r2
  have q1 : (m : Int) ≤ 9223372036854775807 := by unfold maxLen at r1; omega
  have q2 : (m' : Int) ≤ 9223372036854775807 := by unfold maxLen at r2; omega
  clear r1 r2
  have b0 := (alloc_below w (.cells #[.slice a n cap, .slice ak m capk] 38)).alloc (by simp) (.cells #[.slice u n' ucap, .slice uk' m' ucapk] 38)
  have X0 : Blk ((w.alloc (.cells #[.slice a n cap, .slice ak m capk] 38)).alloc (.cells #[.slice u n' ucap, .slice uk' m' ucapk] 38)) w.heap.size #[.slice a n cap, .slice ak m capk] 38 := (Blk.new w _ _).on (alloc_below _ _) (by simp)
  have Z0 : Blk ((w.alloc (.cells #[.slice a n cap, .slice ak m capk] 38)).alloc (.cells #[.slice u n' ucap, .slice uk' m' ucapk] 38)) (w.heap.size + 1) #[.slice u n' ucap, .slice uk' m' ucapk] 38 := by
    have := Blk.new (w.alloc (.cells #[.slice a n cap, .slice ak m capk] 38)) #[.slice u n' ucap, .slice uk' m' ucapk] 38
    simpa using this
  obtain ⟨W0, hW0⟩ : ∃ W0, (w.alloc (.cells #[.slice a n cap, .slice ak m capk] 38)).alloc (.cells #[.slice u n' ucap, .slice uk' m' ucapk] 38) = W0 := ⟨_, rfl⟩
  rw [hW0] at b0 X0 Z0
  have hs := Z0.lt
  have c0 := sameSpec _ _ xs ys B W0 (hv.c.on b0 hB) (hu.c.on b0 hB) (by omega)
  obtain ⟨p, hp⟩ : ∃ p, sameGo xs ys = p := ⟨_, rfl⟩
  rw [hp] at c0
  have HP : Hid (sameGo xs ys = p) := hp
  clear hp
  have x0 := X0.cell 0; have z0 := Z0.cell 0
  go_enter Try.func28, Try.ntmps28
  go_wp2_with fail
  clear hW0 x0 z0
  refine c0.mono ?_
  rintro e w1 ⟨rfl, b1⟩
  clear c0
  have bb1 := b0.trans (b1.mono b0.size)
  cases p
  · have HF : Hid (false = sameProg xs kss ys lss) := (sp_no1 HP.out).symm
    go_wp2
    go_ret
    exact ⟨ret_b HF.out, bb1⟩
  have X1 := X0.on b1 (by omega); have Z1 := Z0.on b1 hs
  have x1 := X1.cell 1; have z1 := Z1.cell 1
  by_cases hmm : m = m'
  · subst hmm
    have HV := (show Hid _ from hv.k)
    have HU := (show Hid _ from hu.k)
    clear X0 Z0
    obtain ⟨g, hg⟩ : ∃ g, w.heap.size = g := ⟨_, rfl⟩
    rw [hg] at hB bb1 X1 Z1 x1 z1 ⊢
    go_wp2
    clear x1 z1
    go_loopw [5] (fun i' wr => ∃ k : Nat, k ≤ m ∧ i' = .int .i64 k ∧ (∀ j (a : j < kss.length) (b : j < lss.length), j < k → sameGo kss[j] lss[j] = true) ∧ Below g w wr ∧ Blk wr g #[.slice a n cap, .slice ak m capk] 38 ∧ Blk wr (g + 1) #[.slice u n' ucap, .slice uk' m ucapk] 38) (fun i' _ => m - (intOf i').toNat)
    case atStart => exact ⟨0, Nat.zero_le _, rfl, fun j _ _ h => by omega, bb1, X1, Z1⟩
    case round =>
      obtain ⟨k, hk, rfl, hall, hb, X, Z⟩ := hrel
      have x1 := X.cell 1; have z1 := Z.cell 1
      have hsz : g ≤ wr.heap.size := by have := X.lt; omega
      by_cases hlt : k < m
      · obtain ⟨b, off, rfl, hbB, hc⟩ := SeesK.open HV.out (by omega)
        obtain ⟨b', off', rfl, hbB', hc'⟩ := SeesK.open HU.out (by omega)
        obtain ⟨s, p1, p2⟩ := hc k (by omega)
        obtain ⟨s', p1', p2'⟩ := hc' k (by omega)
        have a0 := (hb.cell (p := ⟨b, off + k, none⟩) (by show b < g; omega)).trans p1
        have a1 := (hb.cell (p := ⟨b', off' + k, none⟩) (by show b' < g; omega)).trans p1'
        have i1 : (k : Int) < m := by omega
        have i2 : (0 : Int) ≤ k := by omega
        have cT := sameSpec _ _ kss[k] lss[k] B wr.drew (p2.on hb.drew hB) (p2'.on hb.drew hB) (by show B ≤ wr.heap.size; omega)
        have HA := (show Hid _ from hall)
        have HG := (show Hid _ from (fun h : sameGo kss[k] lss[k] = false => sp_no3 (xs := xs) (ys := ys) (by omega) (by omega) h))
        obtain ⟨q, hq⟩ : ∃ q, sameGo kss[k] lss[k] = q := ⟨_, rfl⟩
        have HQ : Hid (sameGo kss[k] lss[k] = q) := hq
        rw [hq] at cT
        clear hall hc hc' p1 p1' p2 p2' hq
        cases q
        · have HF : Hid (false = sameProg xs kss ys lss) := (HG.out HQ.out).symm
          go_wp2_with fail
          go_region_held3 (fun W => W.cell? ⟨g, 1, none⟩ = some (.slice (some ⟨b, off, none⟩) m capk) ∧ W.cell? ⟨g + 1, 1, none⟩ = some (.slice (some ⟨b', off', none⟩) m ucapk) ∧ W.cell? ⟨b, off + k, none⟩ = some (.slice s.a s.n s.cap) ∧ W.cell? ⟨b', off' + k, none⟩ = some (.slice s'.a s'.n s'.cap)) (go_keep) ((go_at_call 47; refine cT.mono ?_; rintro e w2 ⟨rfl, hb2⟩; have hb2 := undrewB hb2; have X2 := X.on hb2 X.lt; have Z2 := Z.on hb2 Z.lt; have x2 := X2.cell 1; have z2 := Z2.cell 1; have d0 := (hb2.cell (p := ⟨b, off + k, none⟩) (by show b < wr.heap.size; omega)).trans a0; have d1 := (hb2.cell (p := ⟨b', off' + k, none⟩) (by show b' < wr.heap.size; omega)).trans a1))
          go_wp2
          go_ret
          exact ⟨ret_b HF.out, by rw [hg]; exact hb.trans (hb2.mono hsz)⟩
        · have HF : Hid (∀ j (a : j < kss.length) (b : j < lss.length), j < k + 1 → sameGo kss[j] lss[j] = true) := fun j ha hb hjk => by
            rcases Nat.lt_succ_iff_lt_or_eq.1 hjk with h | h
            · exact HA.out j ha hb h
            · subst h; exact HQ.out
          go_wp2_with fail
          go_region_held3 (fun W => W.cell? ⟨g, 1, none⟩ = some (.slice (some ⟨b, off, none⟩) m capk) ∧ W.cell? ⟨g + 1, 1, none⟩ = some (.slice (some ⟨b', off', none⟩) m ucapk) ∧ W.cell? ⟨b, off + k, none⟩ = some (.slice s.a s.n s.cap) ∧ W.cell? ⟨b', off' + k, none⟩ = some (.slice s'.a s'.n s'.cap)) (go_keep) ((go_at_call 47; refine cT.mono ?_; rintro e w2 ⟨rfl, hb2⟩; have hb2 := undrewB hb2; have X2 := X.on hb2 X.lt; have Z2 := Z.on hb2 Z.lt; have x2 := X2.cell 1; have z2 := Z2.cell 1; have d0 := (hb2.cell (p := ⟨b, off + k, none⟩) (by show b < wr.heap.size; omega)).trans a0; have d1 := (hb2.cell (p := ⟨b', off' + k, none⟩) (by show b' < wr.heap.size; omega)).trans a1))
          go_wp2
          go_roundw
          case rel => exact ⟨k + 1, by omega, by go_num, HF.out, hb.trans (hb2.mono hsz), X2, Z2⟩
          case measure => simp [intOf]; omega
      · have HF : Hid (true = sameProg xs kss ys lss) := (sp_yes HP.out (by omega) fun j ha hb => hall j ha hb (by omega)).symm
        obtain rfl : k = m := by omega
        clear hall
        go_wp2
        go_ret
        exact ⟨ret_b HF.out, by rw [hg]; exact hb⟩
  · have HF : Hid (false = sameProg xs kss ys lss) := (sp_no2 (by omega)).symm
    have dn : ((m : Int) != m') = true := by simp; omega
    clear hmm
    go_wp2
    go_ret
    exact ⟨ret_b HF.out, bb1⟩
end Ops
end Go.Proofs.Ytkeamnokkbfcaaa
