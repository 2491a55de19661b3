/- Whole programs: the laws' own copies, comparisons and sizes. -/
import Derived.Test.YtppkohkcffnghaaProgRow
set_option linter.unusedVariables false
namespace Go.Proofs.Ytppkohkcffnghaa
open Go.RowKit
namespace Ops
open Bas Flat

/-- a program: its code, its kids' codes -/
structure SeesP (B : Nat) (w : World) (vc vk : Value) (xs : List O4) (kss : List (List O4)) : Prop where
  c : Sees4 B w vc xs
  k : SeesK B w vk kss
section
variable {B B' : Nat} {w w' : World} {vc vk : Value} {xs : List O4} {kss : List (List O4)}
theorem SeesP.on (h : SeesP B w vc vk xs kss) (hb : Below B' w w') (hB : B ≤ B') : SeesP B w' vc vk xs kss := ⟨h.c.on hb hB, h.k.on hb hB⟩
theorem SeesP.up (h : SeesP B w vc vk xs kss) (hB : B ≤ B') : SeesP B' w vc vk xs kss := ⟨h.c.up hB, h.k.up hB⟩
end
/-- .. in blocks of which S holds -/
structure SeesPIn (S : Nat → Prop) (w : World) (vc vk : Value) (xs : List O4) (kss : List (List O4)) : Prop where
  c : SeesIn opEl S w vc xs
  k : SeesKIn S w vk kss
theorem SeesPIn.sees {S : Nat → Prop} {B : Nat} {w : World} {vc vk : Value} {xs : List O4} {kss : List (List O4)} (h : SeesPIn S w vc vk xs kss) (hs : ∀ b, S b → b < B) : SeesP B w vc vk xs kss := ⟨h.c.mono hs, h.k.mono hs⟩
/-- lengths that a law lets by -/
def Fits (xs : List O4) (kss : List (List O4)) : Prop := xs.length ≤ 1048576 ∧ kss.length ≤ 1048576 ∧ ∀ ks ∈ kss, ks.length ≤ 1048576

set_option maxRecDepth 100000 in
set_option maxHeartbeats 1600000 in
theorem toProgC (vc vk : Value) (xs : List O4) (kss : List (List O4)) (B : Nat) (w : World) (hv : SeesP B w vc vk xs kss) (hB : B ≤ w.heap.size) (hf : Fits xs kss) :
    Calls Try.prog 27 #[.agg #[vc, vk]] w fun e w' => ∃ vc' vk', e = .returned (.agg #[vc', vk']) ∧ SeesPIn (fun b => w.heap.size ≤ b ∧ b < w'.heap.size) w' vc' vk' xs kss ∧ Below w.heap.size w w' := by
  obtain ⟨a, cap, rfl⟩ := hv.c.form
  obtain ⟨ak, capk, rfl⟩ := hv.k.form
  obtain ⟨n, hn⟩ : ∃ n, xs.length = n := ⟨_, rfl⟩
  obtain ⟨m, hm⟩ : ∃ m, kss.length = m := ⟨_, rfl⟩
  rw [hn, hm] at hv ⊢
  have b1 := alloc_below w (.cells #[.slice a n cap, .slice ak m capk] 61)
  have b0 := (b1.alloc (by simp) (.cells #[.slice none 0 0, .slice none 0 0] 49)).alloc (by simp; omega) (.cells #[.slice none 0 0, .slice none 0 0] 49)
  have hv0 := hv.on b0 hB
  have O1 : Blk (((w.alloc (.cells #[.slice a n cap, .slice ak m capk] 61)).alloc (.cells #[.slice none 0 0, .slice none 0 0] 49)).alloc (.cells #[.slice none 0 0, .slice none 0 0] 49)) w.heap.size #[.slice a n cap, .slice ak m capk] 61 :=
    ((Blk.new w _ _).on (alloc_below _ _) (by simp)).on (alloc_below _ _) (by simp; omega)
  have O2 : Blk (((w.alloc (.cells #[.slice a n cap, .slice ak m capk] 61)).alloc (.cells #[.slice none 0 0, .slice none 0 0] 49)).alloc (.cells #[.slice none 0 0, .slice none 0 0] 49)) (w.heap.size + 1) #[.slice none 0 0, .slice none 0 0] 49 := by
    have := (Blk.new (w.alloc (.cells #[.slice a n cap, .slice ak m capk] 61)) #[.slice none 0 0, .slice none 0 0] 49).on (alloc_below _ (.cells #[.slice none 0 0, .slice none 0 0] 49)) (by simp)
    simpa using this
  have O3 : Blk (((w.alloc (.cells #[.slice a n cap, .slice ak m capk] 61)).alloc (.cells #[.slice none 0 0, .slice none 0 0] 49)).alloc (.cells #[.slice none 0 0, .slice none 0 0] 49)) (w.heap.size + 2) #[.slice none 0 0, .slice none 0 0] 49 := by
    have := Blk.new ((w.alloc (.cells #[.slice a n cap, .slice ak m capk] 61)).alloc (.cells #[.slice none 0 0, .slice none 0 0] 49)) #[.slice none 0 0, .slice none 0 0] 49
    simpa using this
  obtain ⟨W0, hW0⟩ : ∃ W0, ((w.alloc (.cells #[.slice a n cap, .slice ak m capk] 61)).alloc (.cells #[.slice none 0 0, .slice none 0 0] 49)).alloc (.cells #[.slice none 0 0, .slice none 0 0] 49) = W0 := ⟨_, rfl⟩
  rw [hW0] at b0 hv0 O1 O2 O3
  have k0 := O1.cell 0; have k1 := O1.cell 1
  have hs := O3.lt
  clear b1
  go_enter Try.func27, Try.ntmps27
  go_wp2_with fail
  clear hW0 k0 k1
  refine (toOpsC _ xs B _ hv0.c (by omega) hf.1).mono ?_
  rintro e w1 ⟨v', rfl, P1, b1⟩
  obtain ⟨a', cap', rfl⟩ := P1.form
  rw [hn] at P1 ⊢
  have X1 := O1.on b1 (by omega); have X2 := O2.on b1 (by omega); have X3 := O3.on b1 (by omega)
  have hs1 : w.heap.size + 2 < w1.heap.size := by have := b1.size; omega
  have P2 : Owns4 W0.heap.size (w1.setCell ⟨w.heap.size + 2, 0, none⟩ (.slice a' n cap')) (.slice a' n cap') xs := P1.other (fun k hk => by have := P1.at k hk; omega) _
  have bb1 := b0.trans (b1.mono b0.size)
  have b2 := bb1.setCell (p := ⟨w.heap.size + 2, 0, none⟩) (show w.heap.size ≤ w.heap.size + 2 by omega) (.slice a' n cap')
  have Y1 := X1.other (show w.heap.size ≠ w.heap.size + 2 by omega) 0 (.slice a' n cap'); have Y2 := X2.other (show w.heap.size + 1 ≠ w.heap.size + 2 by omega) 0 (.slice a' n cap'); have Y3 := X3.set 0 (.slice a' n cap')
  have hvk := hv.k.on b2 hB
  have k1 := X1.cell 1; have j0 := X3.cell 0; have f0 := X3.froz 0
  clear O1 O2 O3
  have hne : w.heap.size + 2 ≠ w.heap.size := by omega
  go_wp2_with fail
  clear k1 j0 f0
  obtain ⟨W1, hW1⟩ : ∃ W1, w1.setCell ⟨w.heap.size + 2, 0, none⟩ (.slice a' n cap') = W1 := ⟨_, rfl⟩
  have hsz : W1.heap.size = w1.heap.size := by rw [← hW1]; simp [World.setCell]
  rw [hW1] at P2 b2 Y1 Y2 Y3 hvk ⊢
  clear hW1
  refine (toKidsC _ kss B W1 hvk (by have := b2.size; omega) hf.2.1 hf.2.2).mono ?_
  rintro e w2 ⟨v'', rfl, P3, b3⟩
  obtain ⟨a'', cap'', rfl⟩ := P3.form
  rw [hm] at P3 ⊢
  have Z2 := Y2.on b3 (by omega); have Z3 := Y3.on b3 (by omega)
  have c0 := Z3.cell 0; have c1 := Z3.cell 1; have f1 := Z3.froz 1
  have r0 := Z2.cell 0; have r1 := Z2.cell 1; have g0 := Z2.froz 0; have g1 := Z2.froz 1
  have P4 := (P2.on b3 (Nat.le_refl _)).within
  have b4 := b2.trans (b3.mono b2.size)
  have hs2 : w.heap.size + 2 < w2.heap.size := by have := b3.size; omega
  have hne1 : w.heap.size + 2 ≠ w.heap.size + 1 := by omega
  have hne2 : w.heap.size + 1 ≠ w.heap.size + 2 := by omega
  go_wp2
  have hk : ∀ b, W0.heap.size ≤ b → (((w2.setCell ⟨w.heap.size + 1 + 1, 1, none⟩ (.slice a'' m cap'')).setCell ⟨w.heap.size + 1, 0, none⟩ (.slice a' n cap')).setCell ⟨w.heap.size + 1, 1, none⟩ (.slice a'' m cap'')).heap[b]? = w2.heap[b]? := fun b hb => by
    rw [Below.heap_setCell _ _ _ _ (by show b ≠ w.heap.size + 1; omega), Below.heap_setCell _ _ _ _ (by show b ≠ w.heap.size + 1; omega), Below.heap_setCell _ _ _ _ (by show b ≠ w.heap.size + 1 + 1; omega)]
  have hz : (((w2.setCell ⟨w.heap.size + 1 + 1, 1, none⟩ (.slice a'' m cap'')).setCell ⟨w.heap.size + 1, 0, none⟩ (.slice a' n cap')).setCell ⟨w.heap.size + 1, 1, none⟩ (.slice a'' m cap'')).heap.size = w2.heap.size := by simp [World.setCell]
  have hw1 : W0.heap.size ≤ W1.heap.size := by have := b1.size; omega
  refine bodyPost_ret (v := .agg #[.slice a' n cap', .slice a'' m cap'']) (by simp [results, Try.results27, go_sem, r0, r1]) rfl ⟨_, _, rfl, ⟨?_, ?_⟩, ?_⟩
  · rw [hz]
    exact (P4.keep (fun b hb => hk b hb.1)).mono (fun b hb => ⟨by omega, hb.2⟩)
  · rw [hz]
    exact (P3.keep (fun b hb => hk b (by omega))).mono (fun b hb => ⟨by omega, hb.2⟩)
  · exact ((b4.setCell (by simp; omega) _).setCell (by simp) _).setCell (by simp) _

set_option maxRecDepth 100000 in
set_option maxHeartbeats 800000 in
theorem eqKidE (v v' : Value) (xs : List O4) (B : Nat) (w : World) (hv : Sees4 B w v xs) (hv' : Sees4 B w v' xs) (hB : B ≤ w.heap.size) :
    Calls Try.prog 102 #[.agg #[v], .agg #[v']] w fun e w' => e = .returned (.bool true) ∧ Below w.heap.size w w' := by
  obtain ⟨a, cap, rfl⟩ := hv.form
  obtain ⟨a', cap', rfl⟩ := hv'.form
  obtain ⟨n, hn⟩ : ∃ n, xs.length = n := ⟨_, rfl⟩
  rw [hn] at hv hv' ⊢
  have hb0 := (alloc_below w (.cells #[.slice a n cap] 125)).alloc (by simp) (.cells #[.slice a' n cap'] 125)
  have c0 := eqOpsC _ _ xs B _ (hv.on hb0 hB) (hv'.on hb0 hB) (by simp; omega)
  go_enter Try.func102, Try.ntmps102
  go_wp2_with fail
  refine c0.mono ?_
  rintro e w1 ⟨rfl, hb⟩
  go_wp2
  go_ret
  exact ⟨rfl, hb0.trans (hb.mono (by simp; omega))⟩

set_option maxRecDepth 100000 in
set_option maxHeartbeats 1600000 in
theorem eqKidsC (v v' : Value) (kss : List (List O4)) (B : Nat) (w : World) (hv : SeesK B w v kss) (hv' : SeesK B w v' kss) (hB : B ≤ w.heap.size) :
    Calls Try.prog 80 #[v, v'] w fun e w' => e = .returned (.bool true) ∧ Below w.heap.size w w' := by
  have hroom := hv.room
  obtain ⟨a, cap, rfl⟩ := hv.form
  obtain ⟨a', cap', rfl⟩ := hv'.form
  obtain ⟨n, hn⟩ : ∃ n, kss.length = n := ⟨_, rfl⟩
  rw [hn] at hv hv' hroom ⊢
  have hm : (n : Int) ≤ 9223372036854775807 := by unfold maxLen at hroom; omega
  have HV := (show Hid _ from hv)
  have HV' := (show Hid _ from hv')
  clear hv hv' hroom
  obtain ⟨g, hg⟩ : ∃ g, w.heap.size = g := ⟨_, rfl⟩
  rw [hg] at hB ⊢
  go_enter Try.func80, Try.ntmps80
  go_wp2
  go_loopw [5] (fun i wr => ∃ k : Nat, k ≤ n ∧ i = .int .i64 k ∧ Below g w wr) (fun i _ => n - (intOf i).toNat)
  case atStart => exact ⟨0, Nat.zero_le _, rfl, Below.refl _ _⟩
  case round =>
    obtain ⟨k, hk, rfl, hb⟩ := hrel
    by_cases hlt : k < n
    · obtain ⟨b, off, rfl, hbB, hc⟩ := SeesK.open HV.out (by omega)
      obtain ⟨b', off', rfl, hbB', hc'⟩ := SeesK.open HV'.out (by omega)
      obtain ⟨s, p1, p2⟩ := hc k (by omega)
      obtain ⟨s', p1', p2'⟩ := hc' k (by omega)
      have a0 := (hb.cell (p := ⟨b, off + k, none⟩) (by show b < g; omega)).trans p1
      have a1 := (hb.cell (p := ⟨b', off' + k, none⟩) (by show b' < g; omega)).trans p1'
      have hsz := hb.size
      have cT := fun W (h : Below g w W) => eqKidE _ _ _ B W (p2.on h hB) (p2'.on h hB) (by have := h.size; omega)
      have HT := (show Hid _ from cT)
      have HB := (show Hid _ from hb)
      clear hc hc' p1 p1' p2 p2' cT
      go_wp2_with fail
      go_region_with (go_at_call 102; refine (HT.out _ ?_).mono ?_; (first | exact HB.out | exact HB.out.drew | exact HB.out.drew.drew); rintro e w2 ⟨rfl, hb2⟩)
      all_goals
        go_wp2
        go_roundw
        case rel =>
          have hle : g ≤ wr.heap.size := by omega
          refine ⟨k + 1, by omega, by go_num, ?_⟩
          first | exact hb.trans (hb2.mono hle) | exact hb.drew.trans (hb2.mono hle) | exact hb.drew.drew.trans (hb2.mono hle)
        case measure => simp [intOf]; omega
    · obtain rfl : k = n := by omega
      go_wp2
      go_ret
      exact ⟨rfl, hb⟩

set_option maxRecDepth 100000 in
set_option maxHeartbeats 800000 in
theorem eqProgC (vc vk vc' vk' : Value) (xs : List O4) (kss : List (List O4)) (B : Nat) (w : World) (hv : SeesP B w vc vk xs kss) (hv' : SeesP B w vc' vk' xs kss) (hB : B ≤ w.heap.size) :
    Calls Try.prog 30 #[.agg #[vc, vk], .agg #[vc', vk']] w fun e w' => e = .returned (.bool true) ∧ Below w.heap.size w w' := by
  obtain ⟨a, cap, rfl⟩ := hv.c.form
  obtain ⟨a', cap', rfl⟩ := hv'.c.form
  obtain ⟨ak, capk, rfl⟩ := hv.k.form
  obtain ⟨ak', capk', rfl⟩ := hv'.k.form
  obtain ⟨n, hn⟩ : ∃ n, xs.length = n := ⟨_, rfl⟩
  obtain ⟨m, hm⟩ : ∃ m, kss.length = m := ⟨_, rfl⟩
  rw [hn, hm] at hv hv' ⊢
  have hb0 := (alloc_below w (.cells #[.slice a n cap, .slice ak m capk] 49)).alloc (by simp) (.cells #[.slice a' n cap', .slice ak' m capk'] 49)
  have X0 : Blk ((w.alloc (.cells #[.slice a n cap, .slice ak m capk] 49)).alloc (.cells #[.slice a' n cap', .slice ak' m capk'] 49)) w.heap.size #[.slice a n cap, .slice ak m capk] 49 := (Blk.new w _ _).on (alloc_below _ _) (by simp)
  have Y0 : Blk ((w.alloc (.cells #[.slice a n cap, .slice ak m capk] 49)).alloc (.cells #[.slice a' n cap', .slice ak' m capk'] 49)) (w.heap.size + 1) #[.slice a' n cap', .slice ak' m capk'] 49 := by
    have := Blk.new (w.alloc (.cells #[.slice a n cap, .slice ak m capk] 49)) #[.slice a' n cap', .slice ak' m capk'] 49
    simpa using this
  obtain ⟨W0, hW0⟩ : ∃ W0, (w.alloc (.cells #[.slice a n cap, .slice ak m capk] 49)).alloc (.cells #[.slice a' n cap', .slice ak' m capk'] 49) = W0 := ⟨_, rfl⟩
  rw [hW0] at hb0 X0 Y0
  have hs := Y0.lt
  have x0 := X0.cell 0; have y0 := Y0.cell 0
  have c0 := eqOpsC _ _ xs B _ (hv.c.on hb0 hB) (hv'.c.on hb0 hB) (by omega)
  go_enter Try.func30, Try.ntmps30
  go_wp2_with fail
  clear hW0 x0 y0
  refine c0.mono ?_
  rintro e w1 ⟨rfl, b1⟩
  have X1 := X0.on b1 (by omega); have Y1 := Y0.on b1 (by omega)
  have x1 := X1.cell 1; have y1 := Y1.cell 1
  have bb := hb0.trans (b1.mono hb0.size)
  have c1 := eqKidsC _ _ kss B _ (hv.k.on bb hB) (hv'.k.on bb hB) (by have := b1.size; omega)
  go_wp2_with fail
  clear x1 y1
  refine c1.mono ?_
  rintro e w2 ⟨rfl, b2⟩
  go_wp2
  go_ret
  exact ⟨rfl, bb.trans (b2.mono bb.size)⟩

set_option maxRecDepth 100000 in
set_option maxHeartbeats 800000 in
theorem szKidC (a : Option Addr) (n cap : Nat) (left : Int) (w : World) (h0 : 0 ≤ left) (h1 : left ≤ 1048576) (hm : n ≤ maxLen) :
    Calls Try.prog 98 #[.agg #[.slice a n cap], .int .i64 left] w fun e w' => e = .returned (.int .i64 (if (n : Int) ≤ left then left - n else -1)) ∧ Below w.heap.size w w' := by
  have c0 := szOpsC a n cap left (w.alloc (.cells #[.slice a n cap] 129)) h0 h1 hm
  by_cases h : (n : Int) ≤ left
  · rw [if_pos h] at c0 ⊢
    go_enter Try.func98, Try.ntmps98
    go_wp2_with fail
    refine c0.mono ?_
    rintro e w1 ⟨rfl, rfl⟩
    go_wp2
    go_ret
    exact ⟨rfl, alloc_below _ _⟩
  · rw [if_neg h] at c0 ⊢
    go_enter Try.func98, Try.ntmps98
    go_wp2_with fail
    refine c0.mono ?_
    rintro e w1 ⟨rfl, rfl⟩
    go_wp2
    go_ret
    exact ⟨rfl, alloc_below _ _⟩

/-- what a size says: too great, or all lengths are within what was left -/
def Left (left r : Int) (P : Prop) : Prop := r < 0 ∨ (0 ≤ r ∧ r ≤ left ∧ P)
set_option maxRecDepth 100000 in
set_option maxHeartbeats 1600000 in
theorem szKidsC (v : Value) (kss : List (List O4)) (left : Int) (B : Nat) (w : World) (hv : SeesK B w v kss) (hB : B ≤ w.heap.size) (h0 : 0 ≤ left) (h1 : left ≤ 1048576) :
    Calls Try.prog 75 #[v, .int .i64 left] w fun e w' => ∃ r, e = .returned (.int .i64 r) ∧ Left left r ((kss.length : Int) ≤ left ∧ ∀ ks ∈ kss, (ks.length : Int) ≤ left) ∧ Below w.heap.size w w' := by
  have hroom := hv.room
  obtain ⟨a, cap, rfl⟩ := hv.form
  obtain ⟨n, hn⟩ : ∃ n, kss.length = n := ⟨_, rfl⟩
  rw [hn] at hv hroom ⊢
  have hm : (n : Int) ≤ 9223372036854775807 := by unfold maxLen at hroom; omega
  have HV := (show Hid _ from hv)
  clear hv hroom
  obtain ⟨g, hg⟩ : ∃ g, w.heap.size = g := ⟨_, rfl⟩
  rw [hg] at hB ⊢
  by_cases hnl : (n : Int) ≤ left
  · go_enter Try.func75, Try.ntmps75
    go_wp2
    go_loopw [1, 5] (fun l i wr => ∃ (k : Nat) (r : Int), k ≤ n ∧ i = .int .i64 k ∧ l = .int .i64 r ∧ 0 ≤ r ∧ r ≤ left ∧ (∀ j (h : j < kss.length), j < k → (kss[j].length : Int) ≤ left) ∧ Below g w wr) (fun _ i _ => n - (intOf i).toNat)
    case atStart => exact ⟨0, left - n, Nat.zero_le _, rfl, rfl, by omega, by omega, fun j _ h => by omega, Below.refl _ _⟩
    case round =>
      obtain ⟨k, r, hk, rfl, rfl, hr0, hr1, hall, hb⟩ := hrel
      have HA := (show Hid _ from hall)
      clear hall
      by_cases hlt : k < n
      · obtain ⟨b, off, rfl, hbB, hc⟩ := SeesK.open HV.out (by omega)
        obtain ⟨s, p1, p2⟩ := hc k (by omega)
        have a0 := (hb.cell (p := ⟨b, off + k, none⟩) (by show b < g; omega)).trans p1
        have hsz := hb.size
        obtain ⟨sa, scap, hsv⟩ := p2.form
        have hrm := p2.room
        have HK : Hid (kss[k].length = s.n) := by show kss[k].length = s.n; simp only [Value.slice.injEq] at hsv; exact hsv.2.1.symm
        have cT := szKidC s.a s.n s.cap r wr hr0 (by omega) (by rw [← HK.out]; exact hrm)
        clear hc p1 p2 hsv hrm
        by_cases hle : (s.n : Int) ≤ r
        · rw [if_pos hle] at cT
          go_wp2_with fail
          refine cT.mono ?_
          rintro e w2 ⟨rfl, hb2⟩
          go_wp2
          go_roundw
          case rel => exact ⟨k + 1, r - s.n, by omega, by go_num, rfl, by omega, by omega, fun j hj hjk => by
            rcases Nat.lt_succ_iff_lt_or_eq.1 hjk with h | h
            · exact HA.out j hj h
            · subst h; rw [HK.out]; omega, hb.trans (hb2.mono (by omega))⟩
          case measure => simp [intOf]; omega
        · rw [if_neg hle] at cT
          go_wp2_with fail
          refine cT.mono ?_
          rintro e w2 ⟨rfl, hb2⟩
          go_wp2
          go_ret
          exact ⟨_, rfl, .inl (by omega), hb.trans (hb2.mono (by omega))⟩
      · obtain rfl : k = n := by omega
        go_wp2
        go_ret
        exact ⟨_, rfl, .inr ⟨hr0, hr1, hnl, fun ks hks => by
          obtain ⟨j, hj, rfl⟩ := List.mem_iff_getElem.1 hks
          exact HA.out j hj (by omega)⟩, hb⟩
  · have hnl' : left < (n : Int) := by omega
    go_enter Try.func75, Try.ntmps75
    go_wp2
    go_ret
    exact ⟨_, rfl, .inl (by omega), by rw [← hg]; exact Below.refl _ _⟩

set_option maxRecDepth 100000 in
set_option maxHeartbeats 1600000 in
theorem szProgC (vc vk : Value) (xs : List O4) (kss : List (List O4)) (left : Int) (B : Nat) (w : World) (hv : SeesP B w vc vk xs kss) (hB : B ≤ w.heap.size) (h0 : 0 ≤ left) (h1 : left ≤ 1048576) :
    Calls Try.prog 25 #[.agg #[vc, vk], .int .i64 left] w fun e w' => ∃ r, e = .returned (.int .i64 r) ∧ Left left r (Fits xs kss) ∧ Below w.heap.size w w' := by
  have hroom := hv.c.room
  obtain ⟨a, cap, rfl⟩ := hv.c.form
  obtain ⟨ak, capk, rfl⟩ := hv.k.form
  obtain ⟨n, hn⟩ : ∃ n, xs.length = n := ⟨_, rfl⟩
  obtain ⟨m, hm⟩ : ∃ m, kss.length = m := ⟨_, rfl⟩
  rw [hn] at hroom
  rw [hn, hm] at hv ⊢
  have hb0 := alloc_below w (.cells #[.slice a n cap, .slice ak m capk] 61)
  have X0 := Blk.new w #[.slice a n cap, .slice ak m capk] 61
  obtain ⟨W0, hW0⟩ : ∃ W0, w.alloc (.cells #[.slice a n cap, .slice ak m capk] 61) = W0 := ⟨_, rfl⟩
  rw [hW0] at hb0 X0
  have x0 := X0.cell 0; have x1 := X0.cell 1
  have hs := X0.lt
  have c0 := szOpsC a n cap left W0 h0 h1 hroom
  by_cases hle : (n : Int) ≤ left
  · rw [if_pos hle] at c0
    have c1 := szKidsC _ kss (left - n) B W0 (hv.k.on hb0 hB) (by omega) (by omega) (by omega)
    rw [hm] at c1
    go_enter Try.func25, Try.ntmps25
    go_wp2_with fail
    refine c0.mono ?_
    rintro e w1 ⟨rfl, rfl⟩
    go_wp2_with fail
    clear hW0 x0 x1
    refine c1.mono ?_
    rintro e w2 ⟨r, rfl, hr, b2⟩
    by_cases hr0 : r < 0
    · go_wp2
      go_ret
      exact ⟨_, rfl, .inl (by omega), hb0.trans (b2.mono hb0.size)⟩
    · have HF : Hid (Left left r (Fits xs kss)) := by
        rcases hr with hr | ⟨r1, r2, r3, r4⟩
        · exact absurd hr hr0
        · refine .inr ⟨r1, by omega, by omega, by omega, fun ks hks => ?_⟩
          have := r4 ks hks; omega
      clear hr
      go_wp2
      go_ret
      exact ⟨_, rfl, HF.out, hb0.trans (b2.mono hb0.size)⟩
  · rw [if_neg hle] at c0
    go_enter Try.func25, Try.ntmps25
    go_wp2_with fail
    clear hW0 x0 x1
    refine c0.mono ?_
    rintro e w1 ⟨rfl, rfl⟩
    go_wp2
    go_ret
    exact ⟨_, rfl, .inl (by omega), hb0⟩
end Ops
end Go.Proofs.Ytppkohkcffnghaa
