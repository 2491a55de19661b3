/- Several texts of one proof, in build order: ProgCmp, ProgMark2, ProgMarkB, ToProgOwn, ShapeL, ShapeStk, ShapeTrue. -/
import Derived.Test.YtajbmokidcdfnaaSB1
/- Whole programs: the laws' own copies, comparisons and sizes. -/
set_option linter.unusedVariables false
namespace Go.Proofs.Ytajbmokidcdfnaa
open Go.RowKit
namespace Ops
open Bas Flat

/-- a program: its code, its kids' codes -/
structure SeesP (B : Nat) (w : World) (vc vk : Value) (xs : List O4) (kss : List (List O4)) : Prop where
  c : Sees4 B w vc xs
  k : SeesK B w vk kss
section
variable {B B' : Nat} {w w' : World} {vc vk : Value} {xs : List O4} {kss : List (List O4)}
theorem SeesP.on (h : SeesP B w vc vk xs kss) (hb : Below B' w w') (hB : B ≤ B') : SeesP B w' vc vk xs kss := ⟨h.c.on hb hB, h.k.on hb hB⟩
theorem SeesP.up (h : SeesP B w vc vk xs kss) (hB : B ≤ B') : SeesP B' w vc vk xs kss := ⟨h.c.up hB, h.k.up hB⟩
end
/-- .. in blocks of which S holds -/
structure SeesPIn (S : Nat → Prop) (w : World) (vc vk : Value) (xs : List O4) (kss : List (List O4)) : Prop where
  c : SeesIn opEl S w vc xs
  k : SeesKIn S w vk kss
theorem SeesPIn.sees {S : Nat → Prop} {B : Nat} {w : World} {vc vk : Value} {xs : List O4} {kss : List (List O4)} (h : SeesPIn S w vc vk xs kss) (hs : ∀ b, S b → b < B) : SeesP B w vc vk xs kss := ⟨h.c.mono hs, h.k.mono hs⟩
/-- lengths that a law lets by -/
def Fits (xs : List O4) (kss : List (List O4)) : Prop := xs.length ≤ 1048576 ∧ kss.length ≤ 1048576 ∧ ∀ ks ∈ kss, ks.length ≤ 1048576

set_option maxRecDepth 100000 in
set_option maxHeartbeats 1600000 in
theorem toProgC (vc vk : Value) (xs : List O4) (kss : List (List O4)) (B : Nat) (w : World) (hv : SeesP B w vc vk xs kss) (hB : B ≤ w.heap.size) (hf : Fits xs kss) :
    Calls Try.prog 37 #[.agg #[vc, vk]] w fun e w' => ∃ vc' vk', e = .returned (.agg #[vc', vk']) ∧ SeesPIn (fun b => w.heap.size ≤ b ∧ b < w'.heap.size) w' vc' vk' xs kss ∧ Below w.heap.size w w' := by
  obtain ⟨a, cap, rfl⟩ := hv.c.form
  obtain ⟨ak, capk, rfl⟩ := hv.k.form
  obtain ⟨n, hn⟩ : ∃ n, xs.length = n := ⟨_, rfl⟩
  obtain ⟨m, hm⟩ : ∃ m, kss.length = m := ⟨_, rfl⟩
  rw [hn, hm] at hv ⊢
  have b1 := alloc_below w (.cells #[.slice a n cap, .slice ak m capk] 70)
  have b0 := (b1.alloc (by simp) (.cells #[.slice none 0 0, .slice none 0 0] 62)).alloc (by simp; omega) (.cells #[.slice none 0 0, .slice none 0 0] 62)
  have hv0 := hv.on b0 hB
  have O1 : Blk (((w.alloc (.cells #[.slice a n cap, .slice ak m capk] 70)).alloc (.cells #[.slice none 0 0, .slice none 0 0] 62)).alloc (.cells #[.slice none 0 0, .slice none 0 0] 62)) w.heap.size #[.slice a n cap, .slice ak m capk] 70 :=
    ((Blk.new w _ _).on (alloc_below _ _) (by simp)).on (alloc_below _ _) (by simp; omega)
  have O2 : Blk (((w.alloc (.cells #[.slice a n cap, .slice ak m capk] 70)).alloc (.cells #[.slice none 0 0, .slice none 0 0] 62)).alloc (.cells #[.slice none 0 0, .slice none 0 0] 62)) (w.heap.size + 1) #[.slice none 0 0, .slice none 0 0] 62 := by
    have := (Blk.new (w.alloc (.cells #[.slice a n cap, .slice ak m capk] 70)) #[.slice none 0 0, .slice none 0 0] 62).on (alloc_below _ (.cells #[.slice none 0 0, .slice none 0 0] 62)) (by simp)
    simpa using this
  have O3 : Blk (((w.alloc (.cells #[.slice a n cap, .slice ak m capk] 70)).alloc (.cells #[.slice none 0 0, .slice none 0 0] 62)).alloc (.cells #[.slice none 0 0, .slice none 0 0] 62)) (w.heap.size + 2) #[.slice none 0 0, .slice none 0 0] 62 := by
    have := Blk.new ((w.alloc (.cells #[.slice a n cap, .slice ak m capk] 70)).alloc (.cells #[.slice none 0 0, .slice none 0 0] 62)) #[.slice none 0 0, .slice none 0 0] 62
    simpa using this
  obtain ⟨W0, hW0⟩ : ∃ W0, ((w.alloc (.cells #[.slice a n cap, .slice ak m capk] 70)).alloc (.cells #[.slice none 0 0, .slice none 0 0] 62)).alloc (.cells #[.slice none 0 0, .slice none 0 0] 62) = W0 := ⟨_, rfl⟩
  rw [hW0] at b0 hv0 O1 O2 O3
  have k0 := O1.cell 0; have k1 := O1.cell 1
  have hs := O3.lt
  clear b1
  go_enter Try.func37, Try.ntmps37
  go_wp2_with fail
  clear hW0 k0 k1
  refine (toOpsC _ xs B _ hv0.c (by omega) hf.1).mono ?_
  rintro e w1 ⟨v', rfl, P1, b1⟩
  obtain ⟨a', cap', rfl⟩ := P1.form
  rw [hn] at P1 ⊢
  have X1 := O1.on b1 (by omega); have X2 := O2.on b1 (by omega); have X3 := O3.on b1 (by omega)
  have hs1 : w.heap.size + 2 < w1.heap.size := by have := b1.size; omega
  have P2 : Owns4 W0.heap.size (w1.setCell ⟨w.heap.size + 2, 0, none⟩ (.slice a' n cap')) (.slice a' n cap') xs := P1.other (fun k hk => by have := P1.at k hk; omega) _
  have bb1 := b0.trans (b1.mono b0.size)
  have b2 := bb1.setCell (p := ⟨w.heap.size + 2, 0, none⟩) (show w.heap.size ≤ w.heap.size + 2 by omega) (.slice a' n cap')
  have Y1 := X1.other (show w.heap.size ≠ w.heap.size + 2 by omega) 0 (.slice a' n cap'); have Y2 := X2.other (show w.heap.size + 1 ≠ w.heap.size + 2 by omega) 0 (.slice a' n cap'); have Y3 := X3.set 0 (.slice a' n cap')
  have hvk := hv.k.on b2 hB
  have k1 := X1.cell 1; have j0 := X3.cell 0; have f0 := X3.froz 0
  clear O1 O2 O3
  have hne : w.heap.size + 2 ≠ w.heap.size := by omega
  go_wp2_with fail
  clear k1 j0 f0
  obtain ⟨W1, hW1⟩ : ∃ W1, w1.setCell ⟨w.heap.size + 2, 0, none⟩ (.slice a' n cap') = W1 := ⟨_, rfl⟩
  have hsz : W1.heap.size = w1.heap.size := by rw [← hW1]; simp [World.setCell]
  rw [hW1] at P2 b2 Y1 Y2 Y3 hvk ⊢
  clear hW1
  refine (toKidsC _ kss B W1 hvk (by have := b2.size; omega) hf.2.1 hf.2.2).mono ?_
  rintro e w2 ⟨v'', rfl, P3, b3⟩
  obtain ⟨a'', cap'', rfl⟩ := P3.form
  rw [hm] at P3 ⊢
  have Z2 := Y2.on b3 (by omega); have Z3 := Y3.on b3 (by omega)
  have c0 := Z3.cell 0; have c1 := Z3.cell 1; have f1 := Z3.froz 1
  have r0 := Z2.cell 0; have r1 := Z2.cell 1; have g0 := Z2.froz 0; have g1 := Z2.froz 1
  have P4 := (P2.on b3 (Nat.le_refl _)).within
  have b4 := b2.trans (b3.mono b2.size)
  have hs2 : w.heap.size + 2 < w2.heap.size := by have := b3.size; omega
  have hne1 : w.heap.size + 2 ≠ w.heap.size + 1 := by omega
  have hne2 : w.heap.size + 1 ≠ w.heap.size + 2 := by omega
  go_wp2
  have hk : ∀ b, W0.heap.size ≤ b → (((w2.setCell ⟨w.heap.size + 1 + 1, 1, none⟩ (.slice a'' m cap'')).setCell ⟨w.heap.size + 1, 0, none⟩ (.slice a' n cap')).setCell ⟨w.heap.size + 1, 1, none⟩ (.slice a'' m cap'')).heap[b]? = w2.heap[b]? := fun b hb => by
    rw [Below.heap_setCell _ _ _ _ (by show b ≠ w.heap.size + 1; omega), Below.heap_setCell _ _ _ _ (by show b ≠ w.heap.size + 1; omega), Below.heap_setCell _ _ _ _ (by show b ≠ w.heap.size + 1 + 1; omega)]
  have hz : (((w2.setCell ⟨w.heap.size + 1 + 1, 1, none⟩ (.slice a'' m cap'')).setCell ⟨w.heap.size + 1, 0, none⟩ (.slice a' n cap')).setCell ⟨w.heap.size + 1, 1, none⟩ (.slice a'' m cap'')).heap.size = w2.heap.size := by simp [World.setCell]
  have hw1 : W0.heap.size ≤ W1.heap.size := by have := b1.size; omega
  refine bodyPost_ret (v := .agg #[.slice a' n cap', .slice a'' m cap'']) (by simp [results, Try.results37, go_sem, r0, r1]) rfl ⟨_, _, rfl, ⟨?_, ?_⟩, ?_⟩
  · rw [hz]
    exact (P4.keep (fun b hb => hk b hb.1)).mono (fun b hb => ⟨by omega, hb.2⟩)
  · rw [hz]
    exact (P3.keep (fun b hb => hk b (by omega))).mono (fun b hb => ⟨by omega, hb.2⟩)
  · exact ((b4.setCell (by simp; omega) _).setCell (by simp) _).setCell (by simp) _

set_option maxRecDepth 100000 in
set_option maxHeartbeats 800000 in
theorem eqKidE (v v' : Value) (xs : List O4) (B : Nat) (w : World) (hv : Sees4 B w v xs) (hv' : Sees4 B w v' xs) (hB : B ≤ w.heap.size) :
    Calls Try.prog 129 #[.agg #[v], .agg #[v']] w fun e w' => e = .returned (.bool true) ∧ Below w.heap.size w w' := by
  obtain ⟨a, cap, rfl⟩ := hv.form
  obtain ⟨a', cap', rfl⟩ := hv'.form
  obtain ⟨n, hn⟩ : ∃ n, xs.length = n := ⟨_, rfl⟩
  rw [hn] at hv hv' ⊢
  have hb0 := (alloc_below w (.cells #[.slice a n cap] 142)).alloc (by simp) (.cells #[.slice a' n cap'] 142)
  have c0 := eqOpsC _ _ xs B _ (hv.on hb0 hB) (hv'.on hb0 hB) (by simp; omega)
  go_enter Try.func129, Try.ntmps129
  go_wp2_with fail
  refine c0.mono ?_
  rintro e w1 ⟨rfl, hb⟩
  go_wp2
  go_ret
  exact ⟨rfl, hb0.trans (hb.mono (by simp; omega))⟩

set_option maxRecDepth 100000 in
set_option maxHeartbeats 1600000 in
theorem eqKidsC (v v' : Value) (kss : List (List O4)) (B : Nat) (w : World) (hv : SeesK B w v kss) (hv' : SeesK B w v' kss) (hB : B ≤ w.heap.size) :
    Calls Try.prog 99 #[v, v'] w fun e w' => e = .returned (.bool true) ∧ Below w.heap.size w w' := by
  have hroom := hv.room
  obtain ⟨a, cap, rfl⟩ := hv.form
  obtain ⟨a', cap', rfl⟩ := hv'.form
  obtain ⟨n, hn⟩ : ∃ n, kss.length = n := ⟨_, rfl⟩
  rw [hn] at hv hv' hroom ⊢
  have hm : (n : Int) ≤ 9223372036854775807 := by unfold maxLen at hroom; omega
  have HV := (show Hid _ from hv)
  have HV' := (show Hid _ from hv')
  clear hv hv' hroom
  obtain ⟨g, hg⟩ : ∃ g, w.heap.size = g := ⟨_, rfl⟩
  rw [hg] at hB ⊢
  go_enter Try.func99, Try.ntmps99
  go_wp2
  go_loopw [5] (fun i wr => ∃ k : Nat, k ≤ n ∧ i = .int .i64 k ∧ Below g w wr) (fun i _ => n - (intOf i).toNat)
  case atStart => exact ⟨0, Nat.zero_le _, rfl, Below.refl _ _⟩
  case round =>
    obtain ⟨k, hk, rfl, hb⟩ := hrel
    by_cases hlt : k < n
    · obtain ⟨b, off, rfl, hbB, hc⟩ := SeesK.open HV.out (by omega)
      obtain ⟨b', off', rfl, hbB', hc'⟩ := SeesK.open HV'.out (by omega)
      obtain ⟨s, p1, p2⟩ := hc k (by omega)
      obtain ⟨s', p1', p2'⟩ := hc' k (by omega)
      have a0 := (hb.cell (p := ⟨b, off + k, none⟩) (by show b < g; omega)).trans p1
      have a1 := (hb.cell (p := ⟨b', off' + k, none⟩) (by show b' < g; omega)).trans p1'
      have hsz := hb.size
      have cT := fun W (h : Below g w W) => eqKidE _ _ _ B W (p2.on h hB) (p2'.on h hB) (by have := h.size; omega)
      have HT := (show Hid _ from cT)
      have HB := (show Hid _ from hb)
      clear hc hc' p1 p1' p2 p2' cT
      go_wp2_with fail
      go_region_with (go_at_call 129; refine (HT.out _ ?_).mono ?_; (first | exact HB.out | exact HB.out.drew | exact HB.out.drew.drew); rintro e w2 ⟨rfl, hb2⟩)
      all_goals
        go_wp2
        go_roundw
        case rel =>
          have hle : g ≤ wr.heap.size := by omega
          refine ⟨k + 1, by omega, by go_num, ?_⟩
          first | exact hb.trans (hb2.mono hle) | exact hb.drew.trans (hb2.mono hle) | exact hb.drew.drew.trans (hb2.mono hle)
        case measure => simp [intOf]; omega
    · obtain rfl : k = n := by omega
      go_wp2
      go_ret
      exact ⟨rfl, hb⟩

set_option maxRecDepth 100000 in
set_option maxHeartbeats 800000 in
theorem eqProgC (vc vk vc' vk' : Value) (xs : List O4) (kss : List (List O4)) (B : Nat) (w : World) (hv : SeesP B w vc vk xs kss) (hv' : SeesP B w vc' vk' xs kss) (hB : B ≤ w.heap.size) :
    Calls Try.prog 41 #[.agg #[vc, vk], .agg #[vc', vk']] w fun e w' => e = .returned (.bool true) ∧ Below w.heap.size w w' := by
  obtain ⟨a, cap, rfl⟩ := hv.c.form
  obtain ⟨a', cap', rfl⟩ := hv'.c.form
  obtain ⟨ak, capk, rfl⟩ := hv.k.form
  obtain ⟨ak', capk', rfl⟩ := hv'.k.form
  obtain ⟨n, hn⟩ : ∃ n, xs.length = n := ⟨_, rfl⟩
  obtain ⟨m, hm⟩ : ∃ m, kss.length = m := ⟨_, rfl⟩
  rw [hn, hm] at hv hv' ⊢
  have hb0 := (alloc_below w (.cells #[.slice a n cap, .slice ak m capk] 62)).alloc (by simp) (.cells #[.slice a' n cap', .slice ak' m capk'] 62)
  have X0 : Blk ((w.alloc (.cells #[.slice a n cap, .slice ak m capk] 62)).alloc (.cells #[.slice a' n cap', .slice ak' m capk'] 62)) w.heap.size #[.slice a n cap, .slice ak m capk] 62 := (Blk.new w _ _).on (alloc_below _ _) (by simp)
  have Y0 : Blk ((w.alloc (.cells #[.slice a n cap, .slice ak m capk] 62)).alloc (.cells #[.slice a' n cap', .slice ak' m capk'] 62)) (w.heap.size + 1) #[.slice a' n cap', .slice ak' m capk'] 62 := by
    have := Blk.new (w.alloc (.cells #[.slice a n cap, .slice ak m capk] 62)) #[.slice a' n cap', .slice ak' m capk'] 62
    simpa using this
  obtain ⟨W0, hW0⟩ : ∃ W0, (w.alloc (.cells #[.slice a n cap, .slice ak m capk] 62)).alloc (.cells #[.slice a' n cap', .slice ak' m capk'] 62) = W0 := ⟨_, rfl⟩
  rw [hW0] at hb0 X0 Y0
  have hs := Y0.lt
  have x0 := X0.cell 0; have y0 := Y0.cell 0
  have c0 := eqOpsC _ _ xs B _ (hv.c.on hb0 hB) (hv'.c.on hb0 hB) (by omega)
  go_enter Try.func41, Try.ntmps41
  go_wp2_with fail
  clear hW0 x0 y0
  refine c0.mono ?_
  rintro e w1 ⟨rfl, b1⟩
  have X1 := X0.on b1 (by omega); have Y1 := Y0.on b1 (by omega)
  have x1 := X1.cell 1; have y1 := Y1.cell 1
  have bb := hb0.trans (b1.mono hb0.size)
  have c1 := eqKidsC _ _ kss B _ (hv.k.on bb hB) (hv'.k.on bb hB) (by have := b1.size; omega)
  go_wp2_with fail
  clear x1 y1
  refine c1.mono ?_
  rintro e w2 ⟨rfl, b2⟩
  go_wp2
  go_ret
  exact ⟨rfl, bb.trans (b2.mono bb.size)⟩

set_option maxRecDepth 100000 in
set_option maxHeartbeats 800000 in
theorem szKidC (a : Option Addr) (n cap : Nat) (left : Int) (w : World) (h0 : 0 ≤ left) (h1 : left ≤ 1048576) (hm : n ≤ maxLen) :
    Calls Try.prog 120 #[.agg #[.slice a n cap], .int .i64 left] w fun e w' => e = .returned (.int .i64 (if (n : Int) ≤ left then left - n else -1)) ∧ Below w.heap.size w w' := by
  have c0 := szOpsC a n cap left (w.alloc (.cells #[.slice a n cap] 150)) h0 h1 hm
  by_cases h : (n : Int) ≤ left
  · rw [if_pos h] at c0 ⊢
    go_enter Try.func120, Try.ntmps120
    go_wp2_with fail
    refine c0.mono ?_
    rintro e w1 ⟨rfl, rfl⟩
    go_wp2
    go_ret
    exact ⟨rfl, alloc_below _ _⟩
  · rw [if_neg h] at c0 ⊢
    go_enter Try.func120, Try.ntmps120
    go_wp2_with fail
    refine c0.mono ?_
    rintro e w1 ⟨rfl, rfl⟩
    go_wp2
    go_ret
    exact ⟨rfl, alloc_below _ _⟩

/-- what a size says: too great, or all lengths are within what was left -/
def Left (left r : Int) (P : Prop) : Prop := r < 0 ∨ (0 ≤ r ∧ r ≤ left ∧ P)
set_option maxRecDepth 100000 in
set_option maxHeartbeats 1600000 in
theorem szKidsC (v : Value) (kss : List (List O4)) (left : Int) (B : Nat) (w : World) (hv : SeesK B w v kss) (hB : B ≤ w.heap.size) (h0 : 0 ≤ left) (h1 : left ≤ 1048576) :
    Calls Try.prog 92 #[v, .int .i64 left] w fun e w' => ∃ r, e = .returned (.int .i64 r) ∧ Left left r ((kss.length : Int) ≤ left ∧ ∀ ks ∈ kss, (ks.length : Int) ≤ left) ∧ Below w.heap.size w w' := by
  have hroom := hv.room
  obtain ⟨a, cap, rfl⟩ := hv.form
  obtain ⟨n, hn⟩ : ∃ n, kss.length = n := ⟨_, rfl⟩
  rw [hn] at hv hroom ⊢
  have hm : (n : Int) ≤ 9223372036854775807 := by unfold maxLen at hroom; omega
  have HV := (show Hid _ from hv)
  clear hv hroom
  obtain ⟨g, hg⟩ : ∃ g, w.heap.size = g := ⟨_, rfl⟩
  rw [hg] at hB ⊢
  by_cases hnl : (n : Int) ≤ left
  · go_enter Try.func92, Try.ntmps92
    go_wp2
    go_loopw [1, 5] (fun l i wr => ∃ (k : Nat) (r : Int), k ≤ n ∧ i = .int .i64 k ∧ l = .int .i64 r ∧ 0 ≤ r ∧ r ≤ left ∧ (∀ j (h : j < kss.length), j < k → (kss[j].length : Int) ≤ left) ∧ Below g w wr) (fun _ i _ => n - (intOf i).toNat)
    case atStart => exact ⟨0, left - n, Nat.zero_le _, rfl, rfl, by omega, by omega, fun j _ h => by omega, Below.refl _ _⟩
    case round =>
      obtain ⟨k, r, hk, rfl, rfl, hr0, hr1, hall, hb⟩ := hrel
      have HA := (show Hid _ from hall)
      clear hall
      by_cases hlt : k < n
      · obtain ⟨b, off, rfl, hbB, hc⟩ := SeesK.open HV.out (by omega)
        obtain ⟨s, p1, p2⟩ := hc k (by omega)
        have a0 := (hb.cell (p := ⟨b, off + k, none⟩) (by show b < g; omega)).trans p1
        have hsz := hb.size
        obtain ⟨sa, scap, hsv⟩ := p2.form
        have hrm := p2.room
        have HK : Hid (kss[k].length = s.n) := by show kss[k].length = s.n; simp only [Value.slice.injEq] at hsv; exact hsv.2.1.symm
        have cT := szKidC s.a s.n s.cap r wr hr0 (by omega) (by rw [← HK.out]; exact hrm)
        clear hc p1 p2 hsv hrm
        by_cases hle : (s.n : Int) ≤ r
        · rw [if_pos hle] at cT
          go_wp2_with fail
          refine cT.mono ?_
          rintro e w2 ⟨rfl, hb2⟩
          go_wp2
          go_roundw
          case rel => exact ⟨k + 1, r - s.n, by omega, by go_num, rfl, by omega, by omega, fun j hj hjk => by
            rcases Nat.lt_succ_iff_lt_or_eq.1 hjk with h | h
            · exact HA.out j hj h
            · subst h; rw [HK.out]; omega, hb.trans (hb2.mono (by omega))⟩
          case measure => simp [intOf]; omega
        · rw [if_neg hle] at cT
          go_wp2_with fail
          refine cT.mono ?_
          rintro e w2 ⟨rfl, hb2⟩
          go_wp2
          go_ret
          exact ⟨_, rfl, .inl (by omega), hb.trans (hb2.mono (by omega))⟩
      · obtain rfl : k = n := by omega
        go_wp2
        go_ret
        exact ⟨_, rfl, .inr ⟨hr0, hr1, hnl, fun ks hks => by
          obtain ⟨j, hj, rfl⟩ := List.mem_iff_getElem.1 hks
          exact HA.out j hj (by omega)⟩, hb⟩
  · have hnl' : left < (n : Int) := by omega
    go_enter Try.func92, Try.ntmps92
    go_wp2
    go_ret
    exact ⟨_, rfl, .inl (by omega), by rw [← hg]; exact Below.refl _ _⟩

set_option maxRecDepth 100000 in
set_option maxHeartbeats 1600000 in
theorem szProgC (vc vk : Value) (xs : List O4) (kss : List (List O4)) (left : Int) (B : Nat) (w : World) (hv : SeesP B w vc vk xs kss) (hB : B ≤ w.heap.size) (h0 : 0 ≤ left) (h1 : left ≤ 1048576) :
    Calls Try.prog 34 #[.agg #[vc, vk], .int .i64 left] w fun e w' => ∃ r, e = .returned (.int .i64 r) ∧ Left left r (Fits xs kss) ∧ Below w.heap.size w w' := by
  have hroom := hv.c.room
  obtain ⟨a, cap, rfl⟩ := hv.c.form
  obtain ⟨ak, capk, rfl⟩ := hv.k.form
  obtain ⟨n, hn⟩ : ∃ n, xs.length = n := ⟨_, rfl⟩
  obtain ⟨m, hm⟩ : ∃ m, kss.length = m := ⟨_, rfl⟩
  rw [hn] at hroom
  rw [hn, hm] at hv ⊢
  have hb0 := alloc_below w (.cells #[.slice a n cap, .slice ak m capk] 70)
  have X0 := Blk.new w #[.slice a n cap, .slice ak m capk] 70
  obtain ⟨W0, hW0⟩ : ∃ W0, w.alloc (.cells #[.slice a n cap, .slice ak m capk] 70) = W0 := ⟨_, rfl⟩
  rw [hW0] at hb0 X0
  have x0 := X0.cell 0; have x1 := X0.cell 1
  have hs := X0.lt
  have c0 := szOpsC a n cap left W0 h0 h1 hroom
  by_cases hle : (n : Int) ≤ left
  · rw [if_pos hle] at c0
    have c1 := szKidsC _ kss (left - n) B W0 (hv.k.on hb0 hB) (by omega) (by omega) (by omega)
    rw [hm] at c1
    go_enter Try.func34, Try.ntmps34
    go_wp2_with fail
    refine c0.mono ?_
    rintro e w1 ⟨rfl, rfl⟩
    go_wp2_with fail
    clear hW0 x0 x1
    refine c1.mono ?_
    rintro e w2 ⟨r, rfl, hr, b2⟩
    by_cases hr0 : r < 0
    · go_wp2
      go_ret
      exact ⟨_, rfl, .inl (by omega), hb0.trans (b2.mono hb0.size)⟩
    · have HF : Hid (Left left r (Fits xs kss)) := by
        rcases hr with hr | ⟨r1, r2, r3, r4⟩
        · exact absurd hr hr0
        · refine .inr ⟨r1, by omega, by omega, by omega, fun ks hks => ?_⟩
          have := r4 ks hks; omega
      clear hr
      go_wp2
      go_ret
      exact ⟨_, rfl, HF.out, hb0.trans (b2.mono hb0.size)⟩
  · rw [if_neg hle] at c0
    go_enter Try.func34, Try.ntmps34
    go_wp2_with fail
    clear hW0 x0 x1
    refine c0.mono ?_
    rintro e w1 ⟨rfl, rfl⟩
    go_wp2
    go_ret
    exact ⟨_, rfl, .inl (by omega), hb0⟩
end Ops
end Go.Proofs.Ytajbmokidcdfnaa
/- Marks on whole programs. -/
set_option linter.unusedVariables false
set_option linter.unusedSimpArgs false
namespace Go.Proofs.Ytajbmokidcdfnaa
open Go.RowKit
namespace Ops
open Bas Flat

/-- a program of which no two lists share memory -/
structure OwnQ (B : Nat) (W : World) (vc vk : Value) (ss : List S3) (xs : List O4) (kss : List (List O4)) : Prop where
  c : Owns4 B W vc xs
  k : OwnKs B W vk ss kss
  d : (vc :: ss.map S3.val).Pairwise Dis
theorem OwnQ.on {B : Nat} {W W' : World} {vc vk : Value} {ss : List S3} {xs : List O4} {kss : List (List O4)} (h : OwnQ B W vc vk ss xs kss) (hb : Below W.heap.size W W') : OwnQ B W' vc vk ss xs kss := ⟨h.c.on hb (Nat.le_refl _), h.k.on hb, h.d⟩
theorem OwnQ.seesP {B : Nat} {W : World} {vc vk : Value} {ss : List S3} {xs : List O4} {kss : List (List O4)} (h : OwnQ B W vc vk ss xs kss) : SeesP W.heap.size W vc vk xs kss := ⟨h.c.sees, h.k.ownK.sees⟩
theorem OnlyS.below {S : Nat → Prop} {B : Nat} {w w' : World} (h : OnlyS S w w') (hs : ∀ k, S k → B ≤ k) (hB : B ≤ w.heap.size) : Below B w w' :=
  ⟨h.os, h.tape, h.output, h.size, fun k hk => h.block k (by omega) (fun e => by have := hs k e; omega)⟩

/-- how far the marks go -/
def markEnd (xs : List O4) (kss : List (List O4)) : Int := 1 + 4 * (xs.length : Int) + 4 * ((kss.map List.length).sum : Nat)
set_option maxRecDepth 100000 in
set_option maxHeartbeats 3200000 in
theorem markProgC (vc vk : Value) (ss : List S3) (xs : List O4) (kss : List (List O4)) (B : Nat) (w : World) (hv : OwnQ B w vc vk ss xs kss) (hB : B ≤ w.heap.size) (hx : xs.length ≤ 1000) (hl : kss.length ≤ 1000) (hl2 : ∀ l ∈ kss, l.length ≤ 1000) :
    Calls Try.prog 44 #[.agg #[vc, vk], .int .i64 1] w fun e w' => e = .returned (.int .i64 (markEnd xs kss)) ∧ OwnQ B w' vc vk ss (marksO 1 xs.length) (markLs (1 + 4 * (xs.length : Int)) (kss.map List.length)) ∧ Below B w w' ∧ (∀ q cs t, t ≠ 140 → Blk w q cs t → Blk w' q cs t) := by
  obtain ⟨a, cap, rfl⟩ := hv.c.form
  obtain ⟨ak, capk, rfl⟩ := hv.k.row.form
  obtain ⟨n, hn⟩ : ∃ n, xs.length = n := ⟨_, rfl⟩
  obtain ⟨m, hm⟩ : ∃ m, ss.length = m := ⟨_, rfl⟩
  rw [hn, hm] at hv ⊢
  have b0 := alloc_below w (.cells #[.slice a n cap, .slice ak m capk] 62)
  have X0 := Blk.new w #[.slice a n cap, .slice ak m capk] 62
  have hv0 := hv.on b0
  obtain ⟨W0, hW0⟩ : ∃ W0, w.alloc (.cells #[.slice a n cap, .slice ak m capk] 62) = W0 := ⟨_, rfl⟩
  rw [hW0] at b0 X0 hv0
  have hs := X0.lt
  have x0 := X0.cell 0
  have c1 := markOpsC _ xs 1 B W0 hv0.c (by omega) (by omega) (by omega)
  rw [hn] at c1
  have HE : Hid (markEnd xs kss = 1 + 4 * (n : Int) + 4 * ((kss.map List.length).sum : Nat)) := by rw [← hn]; rfl
  have HL := (show Hid _ from hl2)
  clear hl2
  go_enter Try.func44, Try.ntmps44
  go_wp2_with fail
  clear hW0 x0
  refine c1.mono ?_
  rintro e w1 ⟨rfl, M1, G1⟩
  clear c1
  have X1 := X0.grown G1 (fun e => own_ne hv0.c X0 (by decide) _ e.symm rfl)
  have x1 := X1.cell 1
  have hd := List.pairwise_cons.1 hv0.d
  have K1 : OwnKs B w1 (.slice ak m capk) ss kss :=
    ⟨hv0.k.row.grown G1 (fun b hb e => own_apart hv0.k.row hv0.c (by decide) b hb e), hv0.k.len, fun j h1 h2 => (hv0.k.each j h1 h2).grown G1 (fun b hb e => by
      have := hd.1 ss[j].val (List.mem_map.2 ⟨ss[j], List.getElem_mem h1, rfl⟩) b e.symm
      exact this hb)⟩
  have b1 : Below B w w1 := (b0.mono hB).grown G1 (by omega) (fun k hk => (hv0.c.at k hk).1)
  have hk1 : 0 ≤ 1 + 4 * (n : Int) ∧ 1 + 4 * (n : Int) ≤ 1000000 := by omega
  have c2 := markKidsC _ ss kss (1 + 4 * (n : Int)) B w1 K1 hd.2 hk1.1 hk1.2 hl HL.out
  rw [← HE.out] at c2
  obtain ⟨k1, hk1e⟩ : ∃ k1, 1 + 4 * (n : Int) = k1 := ⟨_, rfl⟩
  have HK1 : Hid (1 + 4 * (n : Int) = k1) := hk1e
  rw [hk1e] at c2 ⊢
  clear hk1 hk1e
  obtain ⟨ke, hke⟩ : ∃ ke, markEnd xs kss = ke := ⟨_, rfl⟩
  rw [hke] at c2
  have HKE : Hid (markEnd xs kss = ke) := hke
  clear hke
  go_wp2_with fail
  clear x1
  refine c2.mono ?_
  rintro e w2 ⟨rfl, K2, O2⟩
  clear c2
  have hkb : ∀ k, kidBlocks ss k → B ≤ k := fun k hk => by
    obtain ⟨s, hs', he⟩ := hk
    obtain ⟨j, hj, rfl⟩ := List.mem_iff_getElem.1 hs'
    exact ((K1.each j hj (by have := K1.len; omega)).at k he).1
  have M2 : Owns4 B w2 (.slice a n cap) (marksO 1 n) := M1.keep (fun k hk => O2.block k (M1.at k hk).2 (fun e => by
    obtain ⟨s, hs', he⟩ := e
    exact hd.1 s.val (List.mem_map.2 ⟨s, hs', rfl⟩) k hk he))
  have bz := b1.trans (O2.below hkb (by have := b1.size; omega))
  go_wp2
  go_ret
  refine ⟨ret_k HKE.out.symm, ⟨M2, by rw [HK1.out]; exact K2, hv0.d⟩, bz, fun q cs t ht hq => ?_⟩
  have h1 := hq.on b0 hq.lt
  have h2 := h1.grown G1 (fun e => own_ne hv0.c h1 (Ne.symm ht) _ e.symm rfl)
  refine (O2.block q h2.lt (fun e => ?_)).trans h2
  obtain ⟨s, hs', he⟩ := e
  obtain ⟨j, hj, rfl⟩ := List.mem_iff_getElem.1 hs'
  exact own_ne (K1.each j hj (by have := K1.len; omega)) h2 (Ne.symm ht) _ he rfl

end Ops
end Go.Proofs.Ytajbmokidcdfnaa
/- The laws' own marks in a program of any size that fits. -/
set_option linter.unusedVariables false
set_option linter.unusedSimpArgs false
namespace Go.Proofs.Ytajbmokidcdfnaa
open Go.RowKit
namespace Ops
open Bas Flat

set_option maxRecDepth 100000 in
set_option maxHeartbeats 6400000 in
theorem markOpsB (v : Value) (xs : List O4) (k0 : Int) (B : Nat) (w : World) (hv : Owns4 B w v xs) (h0 : 0 ≤ k0) (h1 : k0 ≤ 4000000000000000000) (hlen : xs.length ≤ 1048576) :
    Calls Try.prog 100 #[v, .int .i64 k0] w fun e w' => e = .returned (.int .i64 (k0 + 4 * (xs.length : Int))) ∧ Owns4 B w' v (marksO k0 xs.length) ∧ w.grownBy w' v.ownBlock := by
  obtain ⟨a, cap, rfl⟩ := hv.form
  obtain ⟨n, hn⟩ : ∃ n, xs.length = n := ⟨_, rfl⟩
  rw [hn] at hv hlen ⊢
  by_cases hn0 : n = 0
  · have HF : Hid (Owns4 B w (.slice a n cap) (marksO k0 n)) := by
      subst hn0
      have : xs = [] := List.eq_nil_of_length_eq_zero hn
      subst this
      exact hv
    subst hn0
    clear hv
    go_enter Try.func100, Try.ntmps100
    go_wp2
    go_loop [1, 5] (fun kv iv => kv = .int .i64 k0 ∧ iv = .int .i64 0) (fun _ _ => 0)
    case atStart => exact ⟨rfl, rfl⟩
    case round =>
      obtain ⟨rfl, rfl⟩ := hrel
      go_wp2
      go_ret
      exact ⟨by simp, HF.out, ⟨rfl, rfl, rfl, Nat.le_refl _, fun _ _ _ => rfl⟩⟩
  obtain ⟨q, rfl, hq1, hq2, -⟩ := own_some' hv (by omega)
  have hO : w.ownsRow B 140 4 (.slice (some ⟨q, 0, none⟩) n cap) n (fv opEl (markedO xs k0 0)) := by
    rw [markedO_zero]
    have := hv
    unfold Owns4 Owns at this
    rw [hn] at this; exact this
  have hG : w.grownBy w (some q) := ⟨rfl, rfl, rfl, Nat.le_refl _, fun _ _ _ => rfl⟩
  clear hv
  go_enter Try.func100, Try.ntmps100
  go_wp2
  go_loopw [1, 5] (fun kv iv wr => ∃ (j : Nat) (k : Int), j ≤ n ∧ kv = .int .i64 k ∧ k = k0 + 4 * (j : Int) ∧ iv = .int .i64 j ∧ wr.ownsRow B 140 4 (.slice (some ⟨q, 0, none⟩) n cap) n (fv opEl (markedO xs k0 j)) ∧ w.grownBy wr (some q)) (fun _ iv _ => n - (intOf iv).toNat)
  case atStart => exact ⟨0, k0, Nat.zero_le _, rfl, by simp, rfl, hO, hG⟩
  case round =>
    obtain ⟨j, k, hj, rfl, hk, rfl, hR, hGr⟩ := hrel
    clear hO hG
    by_cases hlt : j < n
    · have hpl : (markedO xs k0 j).length = n := by rw [markedO_length xs k0 j (by omega)]; exact hn
      obtain ⟨c0, c1, c2, c3⟩ := at4 (own_at (E := opEl) hR j (by omega))
      obtain ⟨y, hy⟩ : ∃ y, (markedO xs k0 j)[j]'(by omega) = y := ⟨_, rfl⟩
      rw [hy] at c0 c1 c2 c3
      change wr.cell? ⟨q, j * 4, none⟩ = _ at c0
      change wr.cell? ⟨q, j * 4 + 1, none⟩ = _ at c1
      change wr.cell? ⟨q, j * 4 + 2, none⟩ = _ at c2
      change wr.cell? ⟨q, j * 4 + 3, none⟩ = _ at c3
      have hfz := fun j => hR.frozenAt j
      have hR3 := own_set4 hR j (by omega) (mkO k0 j)
      rw [markedO_set xs k0 j (by omega)] at hR3
      have eM : mkO k0 j = ⟨k, k + 1, k + 2, k + 3⟩ := by unfold mkO; rw [hk]
      rw [eM] at hR3
      unfold set4 at hR3
      have hG3 := grown_set (grown_set (grown_set (grown_set hGr (j * 4) (.int .i64 k)) (j * 4 + 1) (.int .i64 (k + 1))) (j * 4 + 2) (.int .i64 (k + 2))) (j * 4 + 3) (.int .i64 (k + 3))
      have HK : Hid (k = k0 + 4 * (j : Int)) := hk
      have i1 : (j : Int) < n := by omega
      have i2 : (0 : Int) ≤ j := by omega
      have k1 : 0 ≤ k := by omega
      have k2 : k ≤ 4100000000000000000 := by omega
      have e2 : k + 1 + 1 = k + 2 := by omega
      have e3 : k + 2 + 1 = k + 3 := by omega
      have e4 : k + 3 + 1 = k + 4 := by omega
      clear hR hGr eM hk hy hpl
      go_wp2
      go_roundw
      case rel => exact ⟨j + 1, k + 4, by omega, by first | rfl | go_num, by rw [HK.out]; omega, by go_num, hR3, hG3⟩
      case measure => simp [intOf]; omega
    · obtain rfl : j = n := by omega
      have i1 : ¬ (j : Int) < j := by omega
      have HF : Hid (k = k0 + 4 * (j : Int)) := hk
      clear hk
      go_wp2
      go_ret
      refine ⟨ret_k HF.out, ?_, hGr⟩
      rw [← hn, markedO_full, hn] at hR
      unfold Owns4 Owns
      rw [marksO_length]; exact hR
set_option maxRecDepth 100000 in
set_option maxHeartbeats 6400000 in
theorem markKidsB (vk : Value) (ss : List S3) (ls : List (List O4)) (k0 : Int) (B : Nat) (w : World) (hv : OwnKs B w vk ss ls) (hd : (ss.map S3.val).Pairwise Dis) (h0 : 0 ≤ k0) (h1 : k0 ≤ 1000000000) (hl : ls.length ≤ 1048576) (hl2 : ∀ l ∈ ls, l.length ≤ 1048576) :
    Calls Try.prog 101 #[vk, .int .i64 k0] w fun e w' => e = .returned (.int .i64 (k0 + 4 * ((ls.map List.length).sum : Nat))) ∧ OwnKs B w' vk ss (markLs k0 (ls.map List.length)) ∧ OnlyS (kidBlocks ss) w w' := by
  obtain ⟨a, cap, rfl⟩ := hv.row.form
  have hsl := hv.len
  obtain ⟨n, hn⟩ : ∃ n, ss.length = n := ⟨_, rfl⟩
  rw [hn] at hsl ⊢
  have HSL : Hid (n = ls.length) := hsl
  have hsl1 : n ≤ ls.length := by omega
  have hsl2 : ls.length ≤ n := by omega
  clear hsl
  have HD : Hid (∀ i j (hi : i < ss.length) (hj : j < ss.length), i ≠ j → Dis ss[i].val ss[j].val) := fun i j hi hj hij => by
    have key := List.pairwise_iff_getElem.1 hd
    rcases Nat.lt_or_gt_of_ne hij with h | h
    · have := key i j (by simpa using hi) (by simpa using hj) h; simpa using this
    · have := key j i (by simpa using hj) (by simpa using hi) h; exact Dis.symm (by simpa using this)
  have hst : OwnKs B w (.slice a n cap) ss (mixed k0 ls 0) := by rw [mixed_zero, ← hn]; exact hv
  have HL := (show Hid _ from hl2)
  have hsum := sum_le (ls.map List.length) 1048576 (fun m hm => by obtain ⟨l, hl', rfl⟩ := List.mem_map.1 hm; exact hl2 l hl')
  have hO : OnlyS (kidBlocks ss) w w := OnlyS.refl _ _
  clear hv hd hl2
  go_enter Try.func101, Try.ntmps101
  go_wp2
  go_loopw [1, 5] (fun kv iv wr => ∃ (i : Nat) (k : Int), i ≤ n ∧ kv = .int .i64 k ∧ k = k0 + 4 * (((ls.map List.length).take i).sum : Nat) ∧ iv = .int .i64 i ∧ OwnKs B wr (.slice a n cap) ss (mixed k0 ls i) ∧ OnlyS (kidBlocks ss) w wr) (fun _ iv _ => n - (intOf iv).toNat)
  case atStart => exact ⟨0, k0, Nat.zero_le _, rfl, by simp, rfl, hst, hO⟩
  case round =>
    obtain ⟨i, k, hi, rfl, hk, rfl, K, hOn⟩ := hrel
    clear hst hO
    by_cases hlt : i < n
    · have hil : i < ls.length := by omega
      have his : i < ss.length := by omega
      obtain ⟨q, off, rfl, hq, hcc⟩ := K.row.sees.open (by omega)
      have s1 := at1 (hcc i his)
      change wr.cell? ⟨q, off + i * 1, none⟩ = _ at s1
      rw [Nat.mul_one] at s1
      have hml := mixed_length k0 ls i (by omega)
      have E := K.each i his (by omega)
      rw [mixed_get k0 ls i i (by omega) (by omega) hil, if_neg (by omega)] at E
      have hb : ((ls.map List.length).take i).sum ≤ (ls.map List.length).sum := by
        have := congrArg List.sum (List.take_append_drop i (ls.map List.length))
        rw [List.sum_append] at this; omega
      have hlen1 := HL.out _ (List.getElem_mem hil)
      have hkk : 0 ≤ k ∧ k ≤ 4000000000000000000 := by simp at hsum; omega
      have cM := markOpsB _ ls[i] k B wr E hkk.1 hkk.2 (by omega)
      have HS : Hid (k + 4 * (ls[i].length : Int) = k0 + 4 * (((ls.map List.length).take (i + 1)).sum : Nat)) := by
        show _ = _
        rw [sum_take_succ _ i (by simpa using hil), hk]
        simp
        omega
      have HM : Hid (∀ j (h : j < ls.length) (h' : j < (mixed k0 ls (i + 1)).length) (h'' : j < (mixed k0 ls i).length), j ≠ i → (mixed k0 ls (i + 1))[j] = (mixed k0 ls i)[j]) := fun j h h' h'' hne => by
        rw [mixed_get k0 ls (i + 1) j (by omega) h' h, mixed_get k0 ls i j (by omega) h'' h]
        by_cases hji : j < i
        · rw [if_pos (by omega), if_pos hji]
        · rw [if_neg (by omega), if_neg hji]
      have HI : Hid (∀ (h' : i < (mixed k0 ls (i + 1)).length), (mixed k0 ls (i + 1))[i] = marksO k ls[i].length) := fun h' => by
        rw [mixed_get k0 ls (i + 1) i (by omega) h' hil, if_pos (by omega), markLs_get k0 _ i (by simpa using hil), hk]
        simp
      have hml2 := mixed_length k0 ls (i + 1) (by omega)
      obtain ⟨s, hs⟩ : ∃ s, ss[i] = s := ⟨_, rfl⟩
      have HSS : Hid (ss[i] = s) := hs
      rw [hs] at s1 cM
      have eS : s.val = .slice s.a s.n s.cap := rfl
      rw [eS] at cM
      obtain ⟨kn, hkn⟩ : ∃ kn, k + 4 * (ls[i].length : Int) = kn := ⟨_, rfl⟩
      rw [hkn] at cM HS
      have i1 : (i : Int) < n := by omega
      have i2 : (0 : Int) ≤ i := by omega
      clear hcc hk hb hkn hs E eS
      go_wp2_with fail
      refine cM.mono ?_
      rintro e w2 ⟨rfl, M2, G2⟩
      clear cM s1
      have O2 := hOn.step G2 (fun b hb => ⟨s, by rw [← HSS.out]; exact List.getElem_mem his, hb⟩)
      have K2 : OwnKs B w2 (.slice (some ⟨q, off, none⟩) n cap) ss (mixed k0 ls (i + 1)) := by
        refine ⟨K.row.grown G2 (fun b hb e => ?_), by rw [hml2]; omega, fun j h1 h2 => ?_⟩
        · have E := K.each i his (by omega)
          rw [HSS.out] at E
          exact own_apart K.row E (by decide) b hb e
        · by_cases hji : j = i
          · subst hji
            rw [HI.out h2, HSS.out]
            exact M2
          · rw [HM.out j (by omega) h2 (by omega) hji]
            refine (K.each j h1 (by omega)).grown G2 (fun b hb e => ?_)
            have := HD.out j i h1 his hji b hb
            rw [HSS.out] at this
            exact this e.symm
      go_wp2
      go_roundw
      case rel => exact ⟨i + 1, kn, by omega, rfl, HS.out, by go_num, K2, O2⟩
      case measure => simp [intOf]; omega
    · obtain rfl : i = n := by omega
      have i1 : ¬ (i : Int) < i := by omega
      have HF : Hid (k = k0 + 4 * ((ls.map List.length).sum : Nat)) := by show _ = _; rw [hk, List.take_of_length_le (by simp; omega)]
      clear hk
      go_wp2
      go_ret
      refine ⟨ret_k HF.out, ?_, hOn⟩
      rw [show mixed k0 ls i = markLs k0 (ls.map List.length) by rw [HSL.out]; exact mixed_full k0 ls] at K
      exact K
set_option maxRecDepth 100000 in
set_option maxHeartbeats 6400000 in
theorem markProgB (vc vk : Value) (ss : List S3) (xs : List O4) (kss : List (List O4)) (B : Nat) (w : World) (hv : OwnQ B w vc vk ss xs kss) (hB : B ≤ w.heap.size) (hx : xs.length ≤ 1048576) (hl : kss.length ≤ 1048576) (hl2 : ∀ l ∈ kss, l.length ≤ 1048576) :
    Calls Try.prog 44 #[.agg #[vc, vk], .int .i64 1] w fun e w' => e = .returned (.int .i64 (markEnd xs kss)) ∧ OwnQ B w' vc vk ss (marksO 1 xs.length) (markLs (1 + 4 * (xs.length : Int)) (kss.map List.length)) ∧ Below B w w' ∧ (∀ q cs t, t ≠ 140 → Blk w q cs t → Blk w' q cs t) := by
  obtain ⟨a, cap, rfl⟩ := hv.c.form
  obtain ⟨ak, capk, rfl⟩ := hv.k.row.form
  obtain ⟨n, hn⟩ : ∃ n, xs.length = n := ⟨_, rfl⟩
  obtain ⟨m, hm⟩ : ∃ m, ss.length = m := ⟨_, rfl⟩
  rw [hn, hm] at hv ⊢
  have b0 := alloc_below w (.cells #[.slice a n cap, .slice ak m capk] 62)
  have X0 := Blk.new w #[.slice a n cap, .slice ak m capk] 62
  have hv0 := hv.on b0
  obtain ⟨W0, hW0⟩ : ∃ W0, w.alloc (.cells #[.slice a n cap, .slice ak m capk] 62) = W0 := ⟨_, rfl⟩
  rw [hW0] at b0 X0 hv0
  have hs := X0.lt
  have x0 := X0.cell 0
  have c1 := markOpsB _ xs 1 B W0 hv0.c (by omega) (by omega) (by omega)
  rw [hn] at c1
  have HE : Hid (markEnd xs kss = 1 + 4 * (n : Int) + 4 * ((kss.map List.length).sum : Nat)) := by rw [← hn]; rfl
  have HL := (show Hid _ from hl2)
  clear hl2
  go_enter Try.func44, Try.ntmps44
  go_wp2_with fail
  clear hW0 x0
  refine c1.mono ?_
  rintro e w1 ⟨rfl, M1, G1⟩
  clear c1
  have X1 := X0.grown G1 (fun e => own_ne hv0.c X0 (by decide) _ e.symm rfl)
  have x1 := X1.cell 1
  have hd := List.pairwise_cons.1 hv0.d
  have K1 : OwnKs B w1 (.slice ak m capk) ss kss :=
    ⟨hv0.k.row.grown G1 (fun b hb e => own_apart hv0.k.row hv0.c (by decide) b hb e), hv0.k.len, fun j h1 h2 => (hv0.k.each j h1 h2).grown G1 (fun b hb e => by
      have := hd.1 ss[j].val (List.mem_map.2 ⟨ss[j], List.getElem_mem h1, rfl⟩) b e.symm
      exact this hb)⟩
  have b1 : Below B w w1 := (b0.mono hB).grown G1 (by omega) (fun k hk => (hv0.c.at k hk).1)
  have hk1 : 0 ≤ 1 + 4 * (n : Int) ∧ 1 + 4 * (n : Int) ≤ 1000000000 := by omega
  have c2 := markKidsB _ ss kss (1 + 4 * (n : Int)) B w1 K1 hd.2 hk1.1 hk1.2 hl HL.out
  rw [← HE.out] at c2
  obtain ⟨k1, hk1e⟩ : ∃ k1, 1 + 4 * (n : Int) = k1 := ⟨_, rfl⟩
  have HK1 : Hid (1 + 4 * (n : Int) = k1) := hk1e
  rw [hk1e] at c2 ⊢
  clear hk1 hk1e
  obtain ⟨ke, hke⟩ : ∃ ke, markEnd xs kss = ke := ⟨_, rfl⟩
  rw [hke] at c2
  have HKE : Hid (markEnd xs kss = ke) := hke
  clear hke
  go_wp2_with fail
  clear x1
  refine c2.mono ?_
  rintro e w2 ⟨rfl, K2, O2⟩
  clear c2
  have hkb : ∀ k, kidBlocks ss k → B ≤ k := fun k hk => by
    obtain ⟨s, hs', he⟩ := hk
    obtain ⟨j, hj, rfl⟩ := List.mem_iff_getElem.1 hs'
    exact ((K1.each j hj (by have := K1.len; omega)).at k he).1
  have M2 : Owns4 B w2 (.slice a n cap) (marksO 1 n) := M1.keep (fun k hk => O2.block k (M1.at k hk).2 (fun e => by
    obtain ⟨s, hs', he⟩ := e
    exact hd.1 s.val (List.mem_map.2 ⟨s, hs', rfl⟩) k hk he))
  have bz := b1.trans (O2.below hkb (by have := b1.size; omega))
  go_wp2
  go_ret
  refine ⟨ret_k HKE.out.symm, ⟨M2, by rw [HK1.out]; exact K2, hv0.d⟩, bz, fun q cs t ht hq => ?_⟩
  have h1 := hq.on b0 hq.lt
  have h2 := h1.grown G1 (fun e => own_ne hv0.c h1 (Ne.symm ht) _ e.symm rfl)
  refine (O2.block q h2.lt (fun e => ?_)).trans h2
  obtain ⟨s, hs', he⟩ := e
  obtain ⟨j, hj, rfl⟩ := List.mem_iff_getElem.1 hs'
  exact own_ne (K1.each j hj (by have := K1.len; omega)) h2 (Ne.symm ht) _ he rfl
end Ops
end Go.Proofs.Ytajbmokidcdfnaa
/- The laws' own copy of a program, told as owned. -/
set_option linter.unusedVariables false
set_option linter.unusedSimpArgs false
namespace Go.Proofs.Ytajbmokidcdfnaa
open Go.RowKit
namespace Ops
open Bas Flat

/-- the kids copied so far, each with a code of its own -/
structure KRowD (g : Nat) (wr : World) (n : Nat) (kss : List (List O4)) (k : Nat) : Prop where
  ex : ∃ ss : List S3, ss.length = k ∧ wr.ownsRow g 142 1 (.slice (some ⟨g, 0, none⟩) n n) n (fv slEl (ss ++ List.replicate (n - k) z3)) ∧ (∀ j (h : j < ss.length) (h' : j < kss.length), Owns4 (g + 1) wr ss[j].val kss[j]) ∧ (ss.map S3.val).Pairwise Dis
theorem KRowD.toK {g : Nat} {wr : World} {n k : Nat} {kss : List (List O4)} (h : KRowD g wr n kss k) : KRow g wr n kss k := by
  obtain ⟨ss, h1, h2, h3, -⟩ := h.ex
  exact ⟨ss, h1, h2, h3⟩
theorem KRowD.done {g : Nat} {wr : World} {n : Nat} {kss : List (List O4)} (h : KRowD g wr n kss n) (hn : kss.length = n) : ∃ ss, OwnKs g wr (.slice (some ⟨g, 0, none⟩) n n) ss kss ∧ (ss.map S3.val).Pairwise Dis := by
  obtain ⟨ss, h1, h2, h3, h4⟩ := h.ex
  rw [Nat.sub_self, List.replicate_zero, List.append_nil] at h2
  have h2' : Owns slEl 142 g wr (.slice (some ⟨g, 0, none⟩) n n) ss := by unfold Owns; rw [h1]; exact h2
  exact ⟨ss, ⟨h2', by omega, fun j hj hj' => (h3 j hj hj').mono (by omega)⟩, h4⟩
theorem KRowD.step {g : Nat} {wr w2 : World} {n k : Nat} {kss : List (List O4)} (h : KRowD g wr n kss k) (hb : Below wr.heap.size wr w2) (hg : g < wr.heap.size) (hk : k < n) (hn : kss.length = n) (s : S3) (hs : Owns4 wr.heap.size w2 (.slice s.a s.n s.cap) (kss[k]'(by omega))) :
    KRowD g (w2.setCell ⟨g, k, none⟩ (.slice s.a s.n s.cap)) n kss (k + 1) := by
  obtain ⟨ss, h1, h2, h3, h4⟩ := h.ex
  have hd : (ss.map S3.val ++ [s.val]).Pairwise Dis := by
    refine List.pairwise_append.2 ⟨h4, List.pairwise_singleton _ _, fun a ha b hb' q hq1 hq2 => ?_⟩
    obtain ⟨t, ht, rfl⟩ := List.mem_map.1 ha
    obtain ⟨j, hj, rfl⟩ := List.mem_iff_getElem.1 ht
    have e : b = s.val := by simpa using hb'
    subst e
    have l1 := ((h3 j hj (by omega)).at q hq1).2
    have l2 := (hs.at q hq2).1
    omega
  have h2b := owns_on h2 hb (Nat.le_refl _)
  have h3b : ∀ j (h : j < ss.length) (h' : j < kss.length), Owns4 (g + 1) w2 ss[j].val kss[j] := fun j hj hj' => (h3 j hj hj').on hb (Nat.le_refl _)
  have hs' := hs.mono (show g + 1 ≤ wr.heap.size by omega)
  have hl : (ss ++ List.replicate (n - k) z3).length = n := by simp; omega
  have h2' := own_set (E := slEl) h2b k (by omega) 0 (by decide) (.slice s.a s.n s.cap) s (by
    have : ∀ y : S3, (slEl.cells y).set 0 (.slice s.a s.n s.cap) = slEl.cells s := fun y => rfl
    exact (this _).symm)
  have e1 : (ss ++ List.replicate (n - k) z3).set k s = (ss ++ [s]) ++ List.replicate (n - (k + 1)) z3 := by
    rw [show n - k = (n - (k + 1)) + 1 by omega, List.replicate_succ, List.set_append_right _ _ (by omega), h1, Nat.sub_self, List.set_cons_zero, List.append_assoc]
    rfl
  rw [e1] at h2'
  change (w2.setCell ⟨g, k * 1 + 0, none⟩ _).ownsRow _ _ _ _ _ _ at h2'
  rw [Nat.mul_one, Nat.add_zero] at h2'
  refine ⟨ss ++ [s], by simp [h1], h2', fun j hj hj' => ?_, by rw [List.map_append]; exact hd⟩
  by_cases hjk : j < ss.length
  · have e2 : (ss ++ [s])[j] = ss[j] := List.getElem_append_left hjk
    rw [e2]
    have := h3b j hjk hj'
    exact this.other (fun k hk => by have := this.at k hk; omega) _
  · have hjk' : j = k := by simp at hj; omega
    subst hjk'
    have e2 : (ss ++ [s])[j] = s := by rw [List.getElem_append_right (by omega)]; simp [h1]
    rw [e2]
    exact hs'.other (fun k hk => by have := hs'.at k hk; omega) _

set_option maxRecDepth 100000 in
set_option maxHeartbeats 3200000 in
theorem toKidsO (v : Value) (kss : List (List O4)) (B : Nat) (w : World) (hv : SeesK B w v kss) (hB : B ≤ w.heap.size) (hlen : kss.length ≤ 1048576) (hall : ∀ ks ∈ kss, ks.length ≤ 1048576) :
    Calls Try.prog 97 #[v] w fun e w' => ∃ v' ss, e = .returned v' ∧ OwnKs w.heap.size w' v' ss kss ∧ (ss.map S3.val).Pairwise Dis ∧ Below w.heap.size w w' := by
  obtain ⟨a, cap, rfl⟩ := hv.form
  obtain ⟨n, hn⟩ : ∃ n, kss.length = n := ⟨_, rfl⟩
  rw [hn] at hv hlen ⊢
  obtain ⟨w1, hB1, hs1, hmk, hO⟩ := make rowKid n (by omega) w w.heap.size (Nat.le_refl _)
  obtain ⟨g, hg⟩ : ∃ g, w.heap.size = g := ⟨_, rfl⟩
  rw [hg] at hmk hO hB1 hs1 hB ⊢
  have HV := (show Hid _ from hv)
  have HA := (show Hid _ from hall)
  clear hv hall
  go_enter Try.func97, Try.ntmps97
  go_wp2
  go_loopw [4] (fun i wr => ∃ k : Nat, k ≤ n ∧ i = .int .i64 k ∧ KRowD g wr n kss k ∧ Below g w wr ∧ g < wr.heap.size) (fun i _ => n - (intOf i).toNat)
  case atStart => exact ⟨0, Nat.zero_le _, rfl, ⟨[], rfl, hO, fun j h => by simp at h, List.Pairwise.nil⟩, hB1, hs1⟩
  case round =>
    obtain ⟨k, hk, rfl, hR, hb, hgw⟩ := hrel
    clear hmk hO hB1 hs1
    by_cases hlt : k < n
    · obtain ⟨b, off, rfl, hbB, hc⟩ := SeesK.open HV.out (by omega)
      obtain ⟨s, hs1, hs2⟩ := hc k (by omega)
      have c0 := (hb.cell (p := ⟨b, off + k, none⟩) (by show b < g; omega)).trans hs1
      have hs3 := hs2.on hb hB
      have hsl := HA.out _ (List.getElem_mem (show k < kss.length by omega))
      have cT := toKidC _ _ B wr hs3 (by have := hb.size; omega) hsl
      have hsz := hb.size
      clear hc hs1 hs2 hs3
      go_wp2_with fail
      refine cT.mono ?_
      rintro e w2 ⟨v2, rfl, O2, hb2⟩
      obtain ⟨a2, cap2, rfl⟩ := O2.form
      have hR2 := hR.toK.on hb2
      obtain ⟨ss2, q1, q2, q3⟩ := hR2.ex
      have hl2 : (ss2 ++ List.replicate (n - k) z3).length = n := by simp; omega
      have d0 := at1 (own_at (E := slEl) q2 k (by omega))
      change w2.cell? ⟨g, k * 1, none⟩ = _ at d0
      rw [Nat.mul_one] at d0
      have hfz := fun j => q2.frozenAt j
      clear q3
      go_wp2
      have hR3 := hR.step hb2 hgw hlt hn ⟨a2, _, cap2⟩ O2
      go_roundw
      case rel => exact ⟨k + 1, by omega, by go_num, hR3, (hb.trans (hb2.mono (by omega))).setCell (Nat.le_refl _) _, by have := hb2.size; rw [show (w2.setCell _ _).heap.size = w2.heap.size by simp [World.setCell]]; omega⟩
      case measure => simp [intOf]; omega
    · obtain rfl : k = n := by omega
      go_wp2
      go_ret
      obtain ⟨ss, K, D⟩ := hR.done hn
      exact ⟨_, ss, rfl, K, D, hb⟩

set_option maxRecDepth 100000 in
set_option maxHeartbeats 3200000 in
theorem toProgO (vc vk : Value) (xs : List O4) (kss : List (List O4)) (B : Nat) (w : World) (hv : SeesP B w vc vk xs kss) (hB : B ≤ w.heap.size) (hf : Fits xs kss) :
    Calls Try.prog 37 #[.agg #[vc, vk]] w fun e w' => ∃ vc' vk' ss, e = .returned (.agg #[vc', vk']) ∧ OwnQ w.heap.size w' vc' vk' ss xs kss ∧ Below w.heap.size w w' := by
  obtain ⟨a, cap, rfl⟩ := hv.c.form
  obtain ⟨ak, capk, rfl⟩ := hv.k.form
  obtain ⟨n, hn⟩ : ∃ n, xs.length = n := ⟨_, rfl⟩
  obtain ⟨m, hm⟩ : ∃ m, kss.length = m := ⟨_, rfl⟩
  rw [hn, hm] at hv ⊢
  have b1 := alloc_below w (.cells #[.slice a n cap, .slice ak m capk] 70)
  have b0 := (b1.alloc (by simp) (.cells #[.slice none 0 0, .slice none 0 0] 62)).alloc (by simp; omega) (.cells #[.slice none 0 0, .slice none 0 0] 62)
  have hv0 := hv.on b0 hB
  have O1 : Blk (((w.alloc (.cells #[.slice a n cap, .slice ak m capk] 70)).alloc (.cells #[.slice none 0 0, .slice none 0 0] 62)).alloc (.cells #[.slice none 0 0, .slice none 0 0] 62)) w.heap.size #[.slice a n cap, .slice ak m capk] 70 :=
    ((Blk.new w _ _).on (alloc_below _ _) (by simp)).on (alloc_below _ _) (by simp; omega)
  have O2 : Blk (((w.alloc (.cells #[.slice a n cap, .slice ak m capk] 70)).alloc (.cells #[.slice none 0 0, .slice none 0 0] 62)).alloc (.cells #[.slice none 0 0, .slice none 0 0] 62)) (w.heap.size + 1) #[.slice none 0 0, .slice none 0 0] 62 := by
    have := (Blk.new (w.alloc (.cells #[.slice a n cap, .slice ak m capk] 70)) #[.slice none 0 0, .slice none 0 0] 62).on (alloc_below _ (.cells #[.slice none 0 0, .slice none 0 0] 62)) (by simp)
    simpa using this
  have O3 : Blk (((w.alloc (.cells #[.slice a n cap, .slice ak m capk] 70)).alloc (.cells #[.slice none 0 0, .slice none 0 0] 62)).alloc (.cells #[.slice none 0 0, .slice none 0 0] 62)) (w.heap.size + 2) #[.slice none 0 0, .slice none 0 0] 62 := by
    have := Blk.new ((w.alloc (.cells #[.slice a n cap, .slice ak m capk] 70)).alloc (.cells #[.slice none 0 0, .slice none 0 0] 62)) #[.slice none 0 0, .slice none 0 0] 62
    simpa using this
  obtain ⟨W0, hW0⟩ : ∃ W0, ((w.alloc (.cells #[.slice a n cap, .slice ak m capk] 70)).alloc (.cells #[.slice none 0 0, .slice none 0 0] 62)).alloc (.cells #[.slice none 0 0, .slice none 0 0] 62) = W0 := ⟨_, rfl⟩
  rw [hW0] at b0 hv0 O1 O2 O3
  have k0 := O1.cell 0; have k1 := O1.cell 1
  have hs := O3.lt
  clear b1
  go_enter Try.func37, Try.ntmps37
  go_wp2_with fail
  clear hW0 k0 k1
  refine (toOpsC _ xs B _ hv0.c (by omega) hf.1).mono ?_
  rintro e w1 ⟨v', rfl, P1, b1⟩
  obtain ⟨a', cap', rfl⟩ := P1.form
  rw [hn] at P1 ⊢
  have X1 := O1.on b1 (by omega); have X2 := O2.on b1 (by omega); have X3 := O3.on b1 (by omega)
  have hs1 : w.heap.size + 2 < w1.heap.size := by have := b1.size; omega
  have P2 : Owns4 W0.heap.size (w1.setCell ⟨w.heap.size + 2, 0, none⟩ (.slice a' n cap')) (.slice a' n cap') xs := P1.other (fun k hk => by have := P1.at k hk; omega) _
  have bb1 := b0.trans (b1.mono b0.size)
  have b2 := bb1.setCell (p := ⟨w.heap.size + 2, 0, none⟩) (show w.heap.size ≤ w.heap.size + 2 by omega) (.slice a' n cap')
  have Y1 := X1.other (show w.heap.size ≠ w.heap.size + 2 by omega) 0 (.slice a' n cap'); have Y2 := X2.other (show w.heap.size + 1 ≠ w.heap.size + 2 by omega) 0 (.slice a' n cap'); have Y3 := X3.set 0 (.slice a' n cap')
  have hvk := hv.k.on b2 hB
  have k1 := X1.cell 1; have j0 := X3.cell 0; have f0 := X3.froz 0
  clear O1 O2 O3
  have hne : w.heap.size + 2 ≠ w.heap.size := by omega
  go_wp2_with fail
  clear k1 j0 f0
  obtain ⟨W1, hW1⟩ : ∃ W1, w1.setCell ⟨w.heap.size + 2, 0, none⟩ (.slice a' n cap') = W1 := ⟨_, rfl⟩
  have hsz : W1.heap.size = w1.heap.size := by rw [← hW1]; simp [World.setCell]
  rw [hW1] at P2 b2 Y1 Y2 Y3 hvk ⊢
  clear hW1
  refine (toKidsO _ kss B W1 hvk (by have := b2.size; omega) hf.2.1 hf.2.2).mono ?_
  rintro e w2 ⟨v'', ss, rfl, P3, PD, b3⟩
  obtain ⟨a'', cap'', rfl⟩ := P3.row.form
  have hm3 : ss.length = m := P3.len.trans hm
  rw [hm3] at P3 ⊢
  have Z2 := Y2.on b3 (by omega); have Z3 := Y3.on b3 (by omega)
  have c0 := Z3.cell 0; have c1 := Z3.cell 1; have f1 := Z3.froz 1
  have r0 := Z2.cell 0; have r1 := Z2.cell 1; have g0 := Z2.froz 0; have g1 := Z2.froz 1
  have P4 := P2.on b3 (Nat.le_refl _)
  have b4 := b2.trans (b3.mono b2.size)
  have hs2 : w.heap.size + 2 < w2.heap.size := by have := b3.size; omega
  have hne1 : w.heap.size + 2 ≠ w.heap.size + 1 := by omega
  have hne2 : w.heap.size + 1 ≠ w.heap.size + 2 := by omega
  go_wp2
  have hk : ∀ b, W0.heap.size ≤ b → (((w2.setCell ⟨w.heap.size + 1 + 1, 1, none⟩ (.slice a'' m cap'')).setCell ⟨w.heap.size + 1, 0, none⟩ (.slice a' n cap')).setCell ⟨w.heap.size + 1, 1, none⟩ (.slice a'' m cap'')).heap[b]? = w2.heap[b]? := fun b hb => by
    rw [Below.heap_setCell _ _ _ _ (by show b ≠ w.heap.size + 1; omega), Below.heap_setCell _ _ _ _ (by show b ≠ w.heap.size + 1; omega), Below.heap_setCell _ _ _ _ (by show b ≠ w.heap.size + 1 + 1; omega)]
  have hz : (((w2.setCell ⟨w.heap.size + 1 + 1, 1, none⟩ (.slice a'' m cap'')).setCell ⟨w.heap.size + 1, 0, none⟩ (.slice a' n cap')).setCell ⟨w.heap.size + 1, 1, none⟩ (.slice a'' m cap'')).heap.size = w2.heap.size := by simp [World.setCell]
  have hw1 : W0.heap.size ≤ W1.heap.size := by have := b1.size; omega
  have hP2 := P2.at
  refine bodyPost_ret (v := .agg #[.slice a' n cap', .slice a'' m cap'']) (by simp [results, Try.results37, go_sem, r0, r1]) rfl ⟨_, _, ss, rfl, ⟨?_, ⟨?_, P3.len, fun j h1 h2 => ?_⟩, ?_⟩, ?_⟩
  · exact (P4.keep (fun q hq => hk q (P4.at q hq).1)).mono (by omega)
  · exact (P3.row.keep (fun q hq => hk q (by have := (P3.row.at q hq).1; omega))).mono (by omega)
  · exact ((P3.each j h1 h2).keep (fun q hq => hk q (by have := ((P3.each j h1 h2).at q hq).1; omega))).mono (by omega)
  · refine List.pairwise_cons.2 ⟨fun v hv q hq1 hq2 => ?_, PD⟩
    obtain ⟨s, hs, rfl⟩ := List.mem_map.1 hv
    obtain ⟨j, hj, rfl⟩ := List.mem_iff_getElem.1 hs
    have h3 := (P3.each j hj (by have := P3.len; omega)).at q hq2
    have h2 := (hP2 q hq1).2
    omega
  · exact ((b4.setCell (by simp; omega) _).setCell (by simp) _).setCell (by simp) _
end Ops
end Go.Proofs.Ytajbmokidcdfnaa
/- Shapes: what the functions of chapter 5 say, as plain mathematics. -/
set_option linter.unusedVariables false
namespace Go.Proofs.Ytajbmokidcdfnaa
namespace Ops

/-- what an op adds to the depth -/
def delta (o : O4) : Int := if o.k = 8 then 1 else if o.k = 9 then -1 else 0
theorem delta_range (o : O4) : -1 ≤ delta o ∧ delta o ≤ 1 := by
  unfold delta
  by_cases h8 : o.k = 8
  · rw [if_pos h8]; omega
  · rw [if_neg h8]; split <;> omega
def dsum (xs : List O4) : Int := (xs.map delta).sum
theorem dsum_nil : dsum [] = 0 := rfl
theorem dsum_snoc (xs : List O4) (o : O4) : dsum (xs ++ [o]) = dsum xs + delta o := by simp [dsum]
theorem dsum_range (xs : List O4) : -(xs.length : Int) ≤ dsum xs ∧ dsum xs ≤ xs.length := by
  induction xs with
  | nil => simp [dsum]
  | cons o r ih =>
    have := delta_range o
    have e : dsum (o :: r) = delta o + dsum r := by simp [dsum]
    rw [e, List.length_cons]; omega
theorem take_succ {xs : List O4} {k : Nat} (h : k < xs.length) : xs.take (k + 1) = xs.take k ++ [xs[k]] := List.take_succ_eq_append_getElem h
theorem dsum_take {xs : List O4} {k : Nat} (h : k < xs.length) : dsum (xs.take (k + 1)) = dsum (xs.take k) + delta xs[k] := by rw [take_succ h, dsum_snoc]
theorem dsum_take_range (xs : List O4) (k : Nat) : -(k : Int) ≤ dsum (xs.take k) ∧ dsum (xs.take k) ≤ k := by
  have := dsum_range (xs.take k)
  have hl : (xs.take k).length ≤ k := List.length_take_le _ _
  omega
/-- DepthAt -/
def depthAt (xs : List O4) (i : Int) : Int := dsum (xs.take i.toNat)

/-- the first place, from k on, at which the depth d is nought -/
def endGo : List O4 → Int → Nat → Int
  | [], _, _ => -1
  | o :: r, d, k => if d + delta o = 0 then k else endGo r (d + delta o) (k + 1)
/-- EndOf -/
def endOf (xs : List O4) (i : Int) : Int :=
  if 0 ≤ i ∧ i < xs.length ∧ (xs.getD i.toNat z4).k = 8 then endGo (xs.drop i.toNat) 0 i.toNat else -1
theorem endGo_step {xs : List O4} {k : Nat} (h : k < xs.length) (d : Int) : endGo (xs.drop k) d k = if d + delta xs[k] = 0 then (k : Int) else endGo (xs.drop (k + 1)) (d + delta xs[k]) (k + 1) := by
  rw [List.drop_eq_getElem_cons h]; rfl

/-- whole blocks alone in the first n -/
def skipGo : List O4 → Nat → Int → Bool
  | _, 0, d => d == 0
  | [], _ + 1, _ => false
  | o :: r, n + 1, d => decide (0 ≤ d + delta o) && skipGo r n (d + delta o)
/-- the skip at i passes over whole blocks alone -/
def skipOk (xs : List O4) (i : Nat) : Bool :=
  decide ((i : Int) + 1 + (xs.getD i z4).b ≤ xs.length) && skipGo (xs.drop (i + 1)) (xs.getD i z4).b.toNat 0
theorem skipGo_step {xs : List O4} {k : Nat} (h : k < xs.length) (n : Nat) (d : Int) : skipGo (xs.drop k) (n + 1) d = (decide (0 ≤ d + delta xs[k]) && skipGo (xs.drop (k + 1)) n (d + delta xs[k])) := by
  rw [List.drop_eq_getElem_cons h]; rfl

/-- an op is right -/
def okOp (o : O4) : Bool := opOk o.k o.a o.b o.c
/-- what is left of a code from place i on is right, at depth d, with so many forks ahead -/
def codeGo (xs : List O4) : List O4 → Nat → Int → Nat → Bool
  | [], _, d, _ => d == 0
  | o :: r, i, d, f => okOp o && (!(o.k == 7) || skipOk xs i) && (!(o.k == 11) || (decide (d ≤ 0) && decide (f = 0))) && decide (0 ≤ d + delta o) && codeGo xs r (i + 1) (d + delta o) (if o.k = 11 then f + 1 else f)
/-- CodeOk -/
def codeOk (xs : List O4) : Bool := decide (xs.length ≤ 24) && codeGo xs xs 0 0 0
theorem codeGo_step {xs : List O4} {k : Nat} (h : k < xs.length) (d : Int) (f : Nat) : codeGo xs (xs.drop k) k d f =
    (okOp xs[k] && (!(xs[k].k == 7) || skipOk xs k) && (!(xs[k].k == 11) || (decide (d ≤ 0) && decide (f = 0))) && decide (0 ≤ d + delta xs[k]) && codeGo xs (xs.drop (k + 1)) (k + 1) (d + delta xs[k]) (if xs[k].k = 11 then f + 1 else f)) := by
  rw [List.drop_eq_getElem_cons h]; rfl
/-- HasFork -/
def hasFork (xs : List O4) : Bool := xs.any fun o => o.k == 11
theorem hasFork_yes {xs : List O4} {k : Nat} (h : k < xs.length) (hk : xs[k].k = 11) : hasFork xs = true :=
  List.any_eq_true.2 ⟨xs[k], List.getElem_mem h, by simp [hk]⟩
theorem hasFork_no {xs : List O4} (h : ∀ j (h : j < xs.length), ¬ xs[j].k = 11) : hasFork xs = false := by
  refine List.any_eq_false.2 fun o ho => ?_
  obtain ⟨j, hj, rfl⟩ := List.mem_iff_getElem.1 ho
  simpa using h j hj
/-- what Touches says of an op -/
def touch (o : O4) : Int := if okOp o = true then (if o.k = 5 ∨ o.k = 6 then 1 else if o.k = 12 ∨ o.k = 13 ∨ o.k = 14 ∨ o.k = 15 ∨ o.k = 16 then 2 else 0) else 0
/-- KidOk -/
def kidOk (xs : List O4) : Bool := codeOk xs && !hasFork xs && xs.all fun o => !(touch o == 2)
theorem all_no {xs : List O4} {k : Nat} {p : O4 → Bool} (h : k < xs.length) (hk : p xs[k] = false) : xs.all p = false := List.all_eq_false.2 ⟨xs[k], List.getElem_mem h, by simp [hk]⟩
theorem all_yes {xs : List O4} {p : O4 → Bool} (h : ∀ j (h : j < xs.length), p xs[j] = true) : xs.all p = true := List.all_eq_true.2 fun o ho => by
  obtain ⟨j, hj, rfl⟩ := List.mem_iff_getElem.1 ho
  exact h j hj
/-- ProgOk -/
def progOk (xs : List O4) (kss : List (List O4)) : Bool := codeOk xs && decide (kss.length ≤ 3) && (hasFork xs == decide (0 < kss.length)) && kss.all kidOk
/-- the same op -/
def same4 (x y : O4) : Bool := decide (x.k = y.k ∧ x.a = y.a ∧ x.b = y.b ∧ x.c = y.c)
def sameGo : List O4 → List O4 → Bool
  | [], [] => true
  | x :: r, y :: t => same4 x y && sameGo r t
  | _, _ => false
/-- SameProg -/
def sameProg (xs : List O4) (kss : List (List O4)) (ys : List O4) (lss : List (List O4)) : Bool := sameGo xs ys && decide (kss.length = lss.length) && (kss.zip lss).all fun p => sameGo p.1 p.2
end Ops
end Go.Proofs.Ytajbmokidcdfnaa
/- Blocks on a stack: the program's way to tell right code, as plain mathematics. -/
set_option linter.unusedVariables false
namespace Go.Proofs.Ytajbmokidcdfnaa
namespace Ops

/-- a block: where it begins, how many are around it -/
structure B2 where
  b : Int
  d : Int
/-- the stack of begins, the innermost first, as it lies in memory: the innermost last, each with how many are around it -/
def stk : List Int → List B2
  | [] => []
  | x :: r => stk r ++ [⟨x, r.length⟩]
theorem stk_length (s : List Int) : (stk s).length = s.length := by
  induction s with
  | nil => rfl
  | cons x r ih => simp [stk, ih]
theorem stk_last (x : Int) (r : List Int) (h : r.length < (stk (x :: r)).length) : (stk (x :: r))[r.length] = ⟨x, r.length⟩ := by
  have hl := stk_length r
  have : (stk (x :: r))[r.length]? = some ⟨x, r.length⟩ := by
    show (stk r ++ [⟨x, r.length⟩])[r.length]? = _
    rw [List.getElem?_append_right (by omega), hl, Nat.sub_self]; rfl
  rw [List.getElem?_eq_getElem h] at this
  exact Option.some.inj this
/-- the stack behind an op -/
def stepS (s : List Int) (i : Nat) (o : O4) : List Int := if o.k = 8 then (i : Int) :: s else if o.k = 9 then s.tail else s
/-- the stack ahead of place i -/
def stAt (xs : List O4) : Nat → List Int
  | 0 => [-1]
  | i + 1 => stepS (stAt xs i) i (xs.getD i z4)
theorem stAt_succ {xs : List O4} {i : Nat} (h : i < xs.length) : stAt xs (i + 1) = stepS (stAt xs i) i xs[i] := by
  show stepS _ _ (xs.getD i z4) = _
  simp [List.getD, h]
/-- the innermost block -/
def topB (s : List Int) : B2 := ⟨s.headD (-1), (s.length : Int) - 1⟩
/-- the innermost block ahead of each of the first places -/
def homes (xs : List O4) (k : Nat) : List B2 := (List.range k).map fun j => topB (stAt xs j)
theorem homes_length (xs : List O4) (k : Nat) : (homes xs k).length = k := by simp [homes]
theorem homes_succ (xs : List O4) (k : Nat) : homes xs (k + 1) = homes xs k ++ [topB (stAt xs k)] := by simp [homes, List.range_succ]
theorem homes_at (xs : List O4) (k j : Nat) (h : j < (homes xs k).length) : (homes xs k)[j] = topB (stAt xs j) := by simp [homes]

/-- no end too many, and none too few -/
def closedGo : List O4 → Int → Bool
  | [], d => d == 0
  | o :: r, d => decide (0 ≤ d + delta o) && closedGo r (d + delta o)
theorem closedGo_step {xs : List O4} {k : Nat} (h : k < xs.length) (d : Int) : closedGo (xs.drop k) d = (decide (0 ≤ d + delta xs[k]) && closedGo (xs.drop (k + 1)) (d + delta xs[k])) := by
  rw [List.drop_eq_getElem_cons h]; rfl
/-- each skip passes over whole blocks -/
def skipsGo (xs : List O4) : List O4 → Nat → Bool
  | [], _ => true
  | o :: r, i => (!(o.k == 7) || skipOk xs i) && skipsGo xs r (i + 1)
theorem skipsGo_step {xs : List O4} {k : Nat} (h : k < xs.length) : skipsGo xs (xs.drop k) k = ((!(xs[k].k == 7) || skipOk xs k) && skipsGo xs (xs.drop (k + 1)) (k + 1)) := by
  rw [List.drop_eq_getElem_cons h]; rfl
/-- one fork at most, outside of blocks -/
def forksGo : List O4 → Int → Nat → Bool
  | [], _, _ => true
  | o :: r, d, f => (!(o.k == 11) || (decide (d ≤ 0) && decide (f = 0))) && forksGo r (d + delta o) (if o.k = 11 then f + 1 else f)
theorem forksGo_step {xs : List O4} {k : Nat} (h : k < xs.length) (d : Int) (f : Nat) : forksGo (xs.drop k) d f = ((!(xs[k].k == 11) || (decide (d ≤ 0) && decide (f = 0))) && forksGo (xs.drop (k + 1)) (d + delta xs[k]) (if xs[k].k = 11 then f + 1 else f)) := by
  rw [List.drop_eq_getElem_cons h]; rfl
theorem codeGo_split (xs ys : List O4) : ∀ (i : Nat) (d : Int) (f : Nat), codeGo xs ys i d f = (ys.all okOp && (closedGo ys d && (skipsGo xs ys i && forksGo ys d f))) := by
  induction ys with
  | nil => intro i d f; simp [codeGo, closedGo, skipsGo, forksGo]
  | cons o r ih =>
    intro i d f
    show (okOp o && (!(o.k == 7) || skipOk xs i) && (!(o.k == 11) || (decide (d ≤ 0) && decide (f = 0))) && decide (0 ≤ d + delta o) && codeGo xs r (i + 1) (d + delta o) (if o.k = 11 then f + 1 else f)) =
      ((okOp o && r.all okOp) && ((decide (0 ≤ d + delta o) && closedGo r (d + delta o)) && (((!(o.k == 7) || skipOk xs i) && skipsGo xs r (i + 1)) && ((!(o.k == 11) || (decide (d ≤ 0) && decide (f = 0))) && forksGo r (d + delta o) (if o.k = 11 then f + 1 else f)))))
    rw [ih]
    generalize okOp o = a1
    generalize (!(o.k == 7) || skipOk xs i) = a2
    generalize (!(o.k == 11) || (decide (d ≤ 0) && decide (f = 0))) = a3
    generalize decide (0 ≤ d + delta o) = a4
    generalize r.all okOp = a5
    generalize closedGo r (d + delta o) = a6
    generalize skipsGo xs r (i + 1) = a7
    generalize forksGo r (d + delta o) (if o.k = 11 then f + 1 else f) = a8
    cases a1 <;> cases a2 <;> cases a3 <;> cases a4 <;> simp
theorem codeOk_split (xs : List O4) : codeOk xs = (decide (xs.length ≤ 24) && (xs.all okOp && (closedGo xs 0 && (skipsGo xs xs 0 && forksGo xs 0 0)))) := by
  unfold codeOk; rw [codeGo_split]

/-- the kinds of an op, as the stack takes it -/
theorem step8 {s : List Int} {i : Nat} {o : O4} (h : o.k = 8) : stepS s i o = (i : Int) :: s := by unfold stepS; rw [if_pos h]
theorem step9 {s : List Int} {i : Nat} {o : O4} (h : o.k = 9) : stepS s i o = s.tail := by unfold stepS; rw [if_neg (by omega), if_pos h]
theorem step0 {s : List Int} {i : Nat} {o : O4} (h8 : ¬ o.k = 8) (h9 : ¬ o.k = 9) : stepS s i o = s := by unfold stepS; rw [if_neg h8, if_neg h9]
theorem delta8 {o : O4} (h : o.k = 8) : delta o = 1 := by unfold delta; rw [if_pos h]
theorem delta9 {o : O4} (h : o.k = 9) : delta o = -1 := by unfold delta; rw [if_neg (by omega), if_pos h]
theorem delta0 {o : O4} (h8 : ¬ o.k = 8) (h9 : ¬ o.k = 9) : delta o = 0 := by unfold delta; rw [if_neg h8, if_neg h9]
theorem step_len {s : List Int} {i : Nat} {o : O4} (h : 1 ≤ s.length) : ((stepS s i o).length : Int) = s.length + delta o := by
  by_cases h8 : o.k = 8
  · rw [step8 h8, delta8 h8]; simp
  · by_cases h9 : o.k = 9
    · rw [step9 h9, delta9 h9, List.length_tail]; omega
    · rw [step0 h8 h9, delta0 h8 h9]; omega

/-- in closed code there always is an innermost block -/
theorem closed_at {xs : List O4} (hc : closedGo xs 0 = true) : ∀ k, k ≤ xs.length → 1 ≤ (stAt xs k).length ∧ closedGo (xs.drop k) (((stAt xs k).length : Int) - 1) = true := by
  intro k
  induction k with
  | zero => intro _; exact ⟨by simp [stAt], by simpa [stAt] using hc⟩
  | succ k ih =>
    intro hk
    obtain ⟨h1, h2⟩ := ih (by omega)
    rw [closedGo_step (by omega), Bool.and_eq_true] at h2
    obtain ⟨h3, h4⟩ := h2
    have h3 := of_decide_eq_true h3
    have hl := step_len (i := k) (o := xs[k]) h1
    rw [stAt_succ (by omega)]
    refine ⟨by omega, ?_⟩
    rw [hl, show (((stAt xs k).length : Int) + delta xs[k] - 1) = (((stAt xs k).length : Int) - 1 + delta xs[k]) by omega]; exact h4
theorem st_sorted (xs : List O4) : ∀ k, (stAt xs k).Pairwise (· > ·) ∧ ∀ x ∈ stAt xs k, x < (k : Int) := by
  intro k
  induction k with
  | zero => simp [stAt]
  | succ k ih =>
    obtain ⟨h1, h2⟩ := ih
    show (stepS (stAt xs k) k (xs.getD k z4)).Pairwise (· > ·) ∧ ∀ x ∈ stepS (stAt xs k) k (xs.getD k z4), x < ((k + 1 : Nat) : Int)
    obtain ⟨o, ho⟩ : ∃ o, xs.getD k z4 = o := ⟨_, rfl⟩
    rw [ho]
    by_cases h8 : o.k = 8
    · rw [step8 h8]
      refine ⟨List.pairwise_cons.2 ⟨fun x hx => h2 x hx, h1⟩, fun x hx => ?_⟩
      rcases List.mem_cons.1 hx with rfl | hx
      · omega
      · have := h2 x hx; omega
    · by_cases h9 : o.k = 9
      · rw [step9 h9]
        exact ⟨h1.sublist (List.tail_sublist _), fun x hx => by have := h2 x (List.mem_of_mem_tail hx); omega⟩
      · rw [step0 h8 h9]
        exact ⟨h1, fun x hx => by have := h2 x hx; omega⟩
/-- a block that was ended never comes back -/
theorem gone {xs : List O4} {b : Int} : ∀ (m k : Nat), b < (k : Int) → b ∉ stAt xs k → b ∉ stAt xs (k + m) := by
  intro m
  induction m with
  | zero => intro k _ h; exact h
  | succ m ih =>
    intro k hk h
    have := ih k hk h
    show b ∉ stepS (stAt xs (k + m)) (k + m) (xs.getD (k + m) z4)
    obtain ⟨o, ho⟩ : ∃ o, xs.getD (k + m) z4 = o := ⟨_, rfl⟩
    rw [ho]
    by_cases h8 : o.k = 8
    · rw [step8 h8]
      intro hx
      rcases List.mem_cons.1 hx with hx | hx
      · omega
      · exact this hx
    · by_cases h9 : o.k = 9
      · rw [step9 h9]; exact fun hx => this (List.mem_of_mem_tail hx)
      · rw [step0 h8 h9]; exact this
theorem head_mem {s : List Int} (h : 1 ≤ s.length) (d : Int) : s.headD d ∈ s := by
  cases s with
  | nil => simp at h
  | cons x r => simp
/-- what a skip passes over, by the stack -/
theorem skip_walk {xs : List O4} (hc : closedGo xs 0 = true) {b : Int} {r : List Int} : ∀ (n k : Nat) (ex : List Int) (q : Int), stAt xs k = ex ++ b :: r → (ex.length : Int) = q → k + n ≤ xs.length → b < (k : Int) →
    (skipGo (xs.drop k) n q = true → stAt xs (k + n) = b :: r) ∧ (skipGo (xs.drop k) n q = false → (stAt xs (k + n)).headD (-1) ≠ b) := by
  intro n
  induction n with
  | zero =>
    intro k ex q hs hq hk hb
    have e : skipGo (xs.drop k) 0 q = (q == 0) := by cases xs.drop k <;> rfl
    rw [e]
    refine ⟨fun h => ?_, fun h => ?_⟩
    · have : q = 0 := by simpa using h
      have : ex = [] := List.eq_nil_of_length_eq_zero (by omega)
      subst this; exact hs
    · have hq0 : ¬ q = 0 := by simpa using h
      cases ex with
      | nil => simp at hq; omega
      | cons x ex =>
        show (stAt xs k).headD (-1) ≠ b
        have hp := (st_sorted xs k).1
        rw [hs] at hp ⊢
        have := (List.pairwise_cons.1 hp).1 b (by simp)
        show x ≠ b
        omega
  | succ n ih =>
    intro k ex q hs hq hk hb
    have hlt : k < xs.length := by omega
    rw [skipGo_step hlt, show k + (n + 1) = (k + 1) + n by omega]
    have hst := stAt_succ hlt
    by_cases h8 : xs[k].k = 8
    · rw [delta8 h8, decide_eq_true (show 0 ≤ q + 1 by omega), Bool.true_and]
      rw [step8 h8, hs] at hst
      exact ih (k + 1) ((k : Int) :: ex) (q + 1) hst (by simp; omega) (by omega) (by omega)
    · by_cases h9 : xs[k].k = 9
      · rw [delta9 h9]
        rw [step9 h9, hs] at hst
        cases ex with
        | nil =>
          obtain rfl : q = 0 := by simpa using hq.symm
          refine ⟨fun h => by simp at h, fun _ => ?_⟩
          have hp := (st_sorted xs k).1
          rw [hs] at hp
          have hn : b ∉ stAt xs (k + 1) := by
            rw [hst]
            intro hm
            have := (List.pairwise_cons.1 hp).1 b (by simpa using hm)
            omega
          have hg := gone n (k + 1) (by omega) hn
          intro he
          exact hg (he ▸ head_mem (closed_at hc _ (by omega)).1 (-1))
        | cons x ex =>
          have : 0 ≤ q + -1 := by simp at hq; omega
          rw [decide_eq_true this, Bool.true_and]
          exact ih (k + 1) ex (q + -1) hst (by simp at hq; omega) (by omega) (by omega)
      · rw [delta0 h8 h9, decide_eq_true (show 0 ≤ q + 0 by omega), Bool.true_and, Int.add_zero]
        rw [step0 h8 h9, hs] at hst
        exact ih (k + 1) ex q hst hq (by omega) (by omega)
def sameB (x y : B2) : Bool := decide (x.b = y.b ∧ x.d = y.d)
/-- a skip is right just where it ends in its own block -/
theorem skip_home {xs : List O4} (hc : closedGo xs 0 = true) {i t : Nat} (hi : i < xs.length) (h7 : xs[i].k = 7) (ht : xs[i].b = (t : Int)) (hto : i + 1 + t ≤ xs.length) :
    skipOk xs i = sameB (topB (stAt xs (i + 1 + t))) (topB (stAt xs i)) := by
  have hst := stAt_succ hi
  rw [step0 (by omega) (by omega)] at hst
  have hg : xs.getD i z4 = xs[i] := by simp [List.getD, hi]
  have e : skipOk xs i = skipGo (xs.drop (i + 1)) t 0 := by
    unfold skipOk
    rw [hg, ht, decide_eq_true (by omega), Bool.true_and, Int.toNat_natCast]
  rw [e]
  obtain ⟨h1, -⟩ := closed_at hc i (by omega)
  obtain ⟨-, h2⟩ := st_sorted xs i
  match hS : stAt xs i, h1 with
  | b :: r, _ =>
    have hb : b < ((i + 1 : Nat) : Int) := by have := h2 b (by rw [hS]; simp); omega
    rw [hS] at hst
    obtain ⟨y, n⟩ := skip_walk hc (b := b) (r := r) t (i + 1) [] 0 hst rfl hto hb
    obtain ⟨p, hp⟩ : ∃ p, skipGo (xs.drop (i + 1)) t 0 = p := ⟨_, rfl⟩
    rw [hp] at y n ⊢
    unfold sameB topB
    cases p
    · rw [decide_eq_false]
      rintro ⟨h, -⟩
      exact n rfl h
    · rw [y rfl, decide_eq_true ⟨rfl, rfl⟩]

/-- all ops are right -/
theorem code_bad1 {xs : List O4} (h : xs.all okOp = false) : codeOk xs = false := by rw [codeOk_split, h]; simp
theorem code_bad2 {xs : List O4} (h : closedGo xs 0 = false) : codeOk xs = false := by rw [codeOk_split, h]; simp
theorem code_bad3 {xs : List O4} (h : skipsGo xs xs 0 = false) : codeOk xs = false := by rw [codeOk_split, h]; simp
theorem code_all {xs : List O4} (h0 : xs.length ≤ 24) (h1 : xs.all okOp = true) (h2 : closedGo xs 0 = true) (h3 : skipsGo xs xs 0 = true) : codeOk xs = forksGo xs 0 0 := by rw [codeOk_split, h1, h2, h3, decide_eq_true h0]; simp
end Ops
end Go.Proofs.Ytajbmokidcdfnaa
/- In right code each block that begins has an end, at which as many are open as ahead of it. -/
set_option linter.unusedVariables false
namespace Go.Proofs.Ytajbmokidcdfnaa
namespace Ops

theorem closed_dsum (ys : List O4) : ∀ d : Int, 0 ≤ d → closedGo ys d = true → (∀ k, 0 ≤ d + dsum (ys.take k)) ∧ d + dsum ys = 0 := by
  induction ys with
  | nil => intro d hd h; exact ⟨fun k => by simp [dsum]; exact hd, by simpa [closedGo, dsum] using h⟩
  | cons o r ih =>
    intro d hd h
    have h' : (decide (0 ≤ d + delta o) && closedGo r (d + delta o)) = true := h
    rw [Bool.and_eq_true] at h'
    have h0 := of_decide_eq_true h'.1
    obtain ⟨a, b⟩ := ih _ h0 h'.2
    have e : ∀ l, dsum (o :: l) = delta o + dsum l := fun l => by simp [dsum]
    refine ⟨fun k => ?_, by rw [e]; omega⟩
    cases k with
    | zero => simp [dsum]; exact hd
    | succ k => rw [List.take_succ_cons, e]; have := a k; omega
theorem code_closed {xs : List O4} (h : codeOk xs = true) : closedGo xs 0 = true := by
  rw [codeOk_split] at h
  simp only [Bool.and_eq_true] at h
  exact h.2.2.1
theorem delta_end {o : O4} (h : delta o < 0) : o.k = 9 := by
  unfold delta at h
  by_cases h8 : o.k = 8
  · rw [if_pos h8] at h; omega
  · rw [if_neg h8] at h
    by_cases h9 : o.k = 9
    · exact h9
    · rw [if_neg h9] at h; omega
/-- the search comes to an end -/
theorem end_found {xs : List O4} {D : Int} (hD : 0 ≤ D) (hlen : dsum xs = 0) : ∀ (n k : Nat) (q : Int), k + n = xs.length → q = dsum (xs.take k) - D → 1 ≤ q →
    ∃ e : Nat, endGo (xs.drop k) q k = (e : Int) ∧ k ≤ e ∧ e < xs.length ∧ (∀ h : e < xs.length, xs[e].k = 9) ∧ dsum (xs.take e) = D + 1 ∧ dsum (xs.take (e + 1)) = D := by
  intro n
  induction n with
  | zero =>
    intro k q hk hq h1
    rw [List.take_of_length_le (by omega), hlen] at hq
    omega
  | succ n ih =>
    intro k q hk hq h1
    have hlt : k < xs.length := by omega
    have hs := dsum_take hlt
    have hr := delta_range xs[k]
    rw [endGo_step hlt]
    by_cases hz : q + delta xs[k] = 0
    · rw [if_pos hz]
      exact ⟨k, rfl, Nat.le_refl _, hlt, fun _ => delta_end (by omega), by omega, by omega⟩
    · rw [if_neg hz]
      obtain ⟨e, a1, a2, a3⟩ := ih (k + 1) (q + delta xs[k]) (by omega) (by omega) (by omega)
      exact ⟨e, a1, by omega, a3⟩
/-- what EndOf and DepthAt say of a right code -/
theorem shapes8 {xs : List O4} (h : codeOk xs = true) {i : Nat} (hi : i < xs.length) (h8 : xs[i].k = 8) :
    ∃ e : Nat, endOf xs i = (e : Int) ∧ i < e ∧ e < xs.length ∧ (∀ h : e < xs.length, xs[e].k = 9) ∧ depthAt xs ((e : Int) + 1) = depthAt xs i ∧ depthAt xs e = depthAt xs i + 1 := by
  obtain ⟨p, z⟩ := closed_dsum xs 0 (Int.le_refl _) (code_closed h)
  have hD := p i
  have hg : xs.getD i z4 = xs[i] := by simp [List.getD, hi]
  have he : endOf xs i = endGo (xs.drop i) 0 i := by
    unfold endOf
    rw [Int.toNat_natCast, if_pos ⟨by omega, by omega, by rw [hg]; exact h8⟩]
  have hs := dsum_take hi
  rw [delta8 h8] at hs
  have hd8 := delta8 h8
  rw [endGo_step hi, hd8, if_neg (by omega)] at he
  obtain ⟨e, a1, a2, a3, a4, a5, a6⟩ := end_found (xs := xs) (D := dsum (xs.take i)) (by omega) (by omega) (xs.length - (i + 1)) (i + 1) (0 + 1) (by omega) (by omega) (by omega)
  refine ⟨e, he.trans a1, by omega, a3, a4, ?_, ?_⟩
  · show dsum (xs.take ((e : Int) + 1).toNat) = dsum (xs.take (i : Int).toNat)
    rw [show ((e : Int) + 1).toNat = e + 1 by omega, Int.toNat_natCast]; exact a6
  · show dsum (xs.take (e : Int).toNat) = dsum (xs.take (i : Int).toNat) + 1
    rw [Int.toNat_natCast, Int.toNat_natCast]; exact a5
theorem shapes0 {xs : List O4} {i : Nat} (hi : i < xs.length) (h8 : ¬ xs[i].k = 8) : endOf xs i = -1 := by
  have hg : xs.getD i z4 = xs[i] := by simp [List.getD, hi]
  unfold endOf
  rw [if_neg]
  rintro ⟨-, -, h⟩
  rw [Int.toNat_natCast, hg] at h
  exact h8 h
theorem shapesEnd {xs : List O4} (h : codeOk xs = true) : depthAt xs xs.length = 0 := by
  obtain ⟨p, z⟩ := closed_dsum xs 0 (Int.le_refl _) (code_closed h)
  show dsum (xs.take (xs.length : Int).toNat) = 0
  rw [Int.toNat_natCast, List.take_of_length_le (Nat.le_refl _)]; omega
theorem sameGo_self (xs : List O4) : sameGo xs xs = true := by
  induction xs with
  | nil => rfl
  | cons x r ih =>
    show (same4 x x && sameGo r r) = true
    rw [ih]; simp [same4]
theorem sameProg_self (xs : List O4) : sameProg xs [] xs [] = true := by unfold sameProg; rw [sameGo_self]; rfl
end Ops
end Go.Proofs.Ytajbmokidcdfnaa
