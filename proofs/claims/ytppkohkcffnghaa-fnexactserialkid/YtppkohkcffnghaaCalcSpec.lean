/- The specification's Calc. -/
import Derived.Test.YtppkohkcffnghaaCalcL
import Derived.Test.YtppkohkcffnghaaOpSpec
namespace Go.Proofs.Ytppkohkcffnghaa
open Go.RowKit
namespace Ops
open Bas

theorem may_kind {k a b c : Int} (h : opOk k a b c = true) (hk : k ≤ 4) : k = 1 ∨ k = 2 ∨ k = 3 ∨ k = 4 := by
  by_cases h1 : k < 1
  · unfold opOk at h; rw [spans_none (.inl h1)] at h; cases h
  · omega
theorem inn_out {lo hi x : Int} (h : inn lo hi x = true) : lo ≤ x ∧ x ≤ hi := by unfold inn at h; simpa using h
theorem ok_set {a b c : Int} (h : opOk 1 a b c = true) : (0 ≤ a ∧ a ≤ 3) ∧ (0 ≤ b ∧ b ≤ 65535) ∧ c = 0 := by
  have h' : (inn 0 3 a && inn 0 65535 b && inn 0 0 c) = true := h
  rw [Bool.and_eq_true, Bool.and_eq_true] at h'
  have := inn_out h'.2
  exact ⟨inn_out h'.1.1, inn_out h'.1.2, by omega⟩
theorem ok_regs {k a b c : Int} (hk : k = 2 ∨ k = 3 ∨ k = 4) (h : opOk k a b c = true) : (0 ≤ a ∧ a ≤ 3) ∧ (0 ≤ b ∧ b ≤ 3) ∧ (0 ≤ c ∧ c ≤ 3) := by
  have h' : (inn 0 3 a && inn 0 3 b && inn 0 3 c) = true := by rcases hk with rfl | rfl | rfl <;> exact h
  rw [Bool.and_eq_true, Bool.and_eq_true] at h'
  exact ⟨inn_out h'.1.1, inn_out h'.1.2, inn_out h'.2⟩
theorem may_ff {k a b c : Int} {zs : List Int} (h : opOk k a b c = false) : calcMay k a b c zs = false := by unfold calcMay; rw [h]; rfl
theorem may_tf {k a b c : Int} {zs : List Int} (h : opOk k a b c = true) (h2 : regsOk zs = false) : calcMay k a b c zs = false := by unfold calcMay; rw [h, h2]; rfl
theorem may_ttf {k a b c : Int} {zs : List Int} (h3 : ¬ k ≤ 4) : calcMay k a b c zs = false := by unfold calcMay; rw [decide_eq_false h3, Bool.and_false]
theorem may_ttt {k a b c : Int} {zs : List Int} (h : opOk k a b c = true) (h2 : regsOk zs = true) (h3 : k ≤ 4) : calcMay k a b c zs = true := by unfold calcMay; rw [h, h2, decide_eq_true h3]; rfl

/-- what both answer -/
def Calcs (f : FuncId) : Prop := ∀ (k a b c : Int) (v : Value) (zs : List Int) (B : Nat) (w : World), Ints.Sees B w v zs → B ≤ w.heap.size → zs.length ≤ 1048576 →
  Calls Try.prog f #[opV k a b c, v] w fun e w' => ∃ v', e = .returned (.tuple #[v', .bool (calcMay k a b c zs)]) ∧ Ints.Owns w.heap.size w' v' (calcTo k a b c zs) ∧ Below w.heap.size w w'
theorem calc_no {k a b c : Int} {zs : List Int} {B : Nat} {w w0 : World} {v : Value} (h : calcMay k a b c zs = false) (O : Ints.Owns B w v zs) (bel : Below B w0 w) :
    ∃ v', Ending.returned (.tuple #[v, .bool false]) = .returned (.tuple #[v', .bool (calcMay k a b c zs)]) ∧ Ints.Owns B w v' (calcTo k a b c zs) ∧ Below B w0 w := by
  rw [h, calcTo_no h]; exact ⟨v, rfl, O, bel⟩
theorem calc_yes {k a b c : Int} {zs : List Int} {B : Nat} {w w0 : World} {v : Value} {x : Int} {j : Nat} (h : calcMay k a b c zs = true) (ha : a = (j : Int)) (hx : reck k b c zs = x) (O : Ints.Owns B w v (zs.set j x)) (bel : Below B w0 w) :
    ∃ v', Ending.returned (.tuple #[v, .bool true]) = .returned (.tuple #[v', .bool (calcMay k a b c zs)]) ∧ Ints.Owns B w v' (calcTo k a b c zs) ∧ Below B w0 w := by
  rw [h, calcTo_yes h, hx, ha]; exact ⟨v, rfl, O, bel⟩
theorem set_len (zs : List Int) (j : Nat) (x : Int) (n : Nat) (h : zs.length = n) : (zs.set j x).length = n := by simp [h]
/-- a register's number as a place -/
theorem place {a : Int} (h : 0 ≤ a ∧ a ≤ 3) : ∃ j : Nat, a = (j : Int) ∧ j < 4 := ⟨a.toNat, by omega, by omega⟩
theorem getD_at {zs : List Int} {j : Nat} (hj : j < zs.length) : zs.getD ((j : Int)).toNat 0 = zs[j] := by simp [List.getD, hj]

theorem owns_form {B : Nat} {w : World} {v : Value} {zs : List Int} (h : Ints.Owns B w v zs) (hn : 0 < zs.length) : ∃ g cap, v = .slice (some ⟨g, 0, none⟩) zs.length cap ∧ B ≤ g ∧ g < w.heap.size := World.ownsRow.form h hn
theorem owns_low {B n e size g cap : Nat} {w : World} {xs : List Value} (h : w.ownsRow B e size (.slice (some ⟨g, 0, none⟩) n cap) n xs) : B ≤ g ∧ g < w.heap.size := by
  rcases h.2 with ⟨h', _⟩ | ⟨g', cap', cur, h', hb, hg, _⟩
  · cases h'
  · cases h'; exact ⟨hb, (Array.getElem?_eq_some_iff.1 hg).1⟩
theorem sees_out {B n cap : Nat} {w : World} {r : Option Addr} {zs : List Int} (h : Ints.Sees B w (.slice r n cap) zs) (hn : zs.length = 4) : True ∧ True ∧ True ∧ ∃ b off, r = some ⟨b, off, none⟩ ∧ b < B ∧ ∀ j (h : j < zs.length), w.cell? ⟨b, off + j, none⟩ = some (.int .i64 zs[j]) := by
  obtain ⟨a, c, e, -, -, h3⟩ := h
  cases e
  exact ⟨trivial, trivial, trivial, h3 (fun h => by simp [h] at hn)⟩

set_option maxRecDepth 100000 in
set_option maxHeartbeats 4000000 in
theorem calcSpecC : Calcs 100 := by
  intro k a b c v zs B w hv hB hlen
  obtain ⟨r, cap, rfl⟩ := hv.form
  have O0 := Blk.new w #[.int .i64 k, .int .i64 a, .int .i64 b, .int .i64 c] 30
  have b0 := alloc_below w (.cells #[.int .i64 k, .int .i64 a, .int .i64 b, .int .i64 c] 30)
  have hv0 := hv.on b0 hB
  have hs0 := O0.lt
  show Calls _ _ #[.agg #[.int .i64 k, .int .i64 a, .int .i64 b, .int .i64 c], _] _ _
  obtain ⟨n, hn⟩ : ∃ n, zs.length = n := ⟨_, rfl⟩
  obtain ⟨W0, hW0⟩ : ∃ W0, w.alloc (.cells #[.int .i64 k, .int .i64 a, .int .i64 b, .int .i64 c] 30) = W0 := ⟨_, rfl⟩
  rw [hW0] at O0 b0 hv0 hs0
  obtain ⟨v1, w1, hr, P1, b1⟩ := Ints.appLit _ 25 zs B W0 hv0 (by omega) hlen
  obtain ⟨g1, cap1, rfl⟩ := P1.form
  have O1 := O0.on b1 hs0
  have hv1 := hv0.on b1 (by omega)
  have bb := b0.trans (b1.mono b0.size)
  have P1 := P1.mono (show w.heap.size + 1 ≤ W0.heap.size from hs0)
  have cS := specC k a b c w1
  rw [hn] at hr hv1 P1 ⊢
  have eV : opV k a b c = .agg #[.int .i64 k, .int .i64 a, .int .i64 b, .int .i64 c] := rfl
  rw [eV] at cS
  have c0 := O1.cell 0; have c1 := O1.cell 1; have c2 := O1.cell 2; have c3 := O1.cell 3
  clear O0 hv0 eV
  go_enter Try.func100, Try.ntmps100
  go_wp2_with (at_builtin; refine wpList_app _ rfl _ _ 25 rfl _ _ _ _ rfl rfl hr ?_)
  refine cS.mono ?_
  rintro e w2 ⟨rfl, b2⟩
  have O2 := O1.on b2 O1.lt
  have hv2 := hv1.on b2 (by have := bb.size; omega)
  have P2 : Ints.Owns (w.heap.size + 1) w2 (.slice g1 n cap1) zs := P1.on b2 (Nat.le_refl _)
  have bb2 := bb.trans (b2.mono bb.size)
  clear cS O1 hv1 P1 b1 b2 bb c0 c1 c2 c3 hr hW0
  obtain ⟨p, hp⟩ : ∃ p, opOk k a b c = p := ⟨_, rfl⟩
  rw [hp]
  have HP : Hid (opOk k a b c = p) := hp
  clear hp
  cases p
  · go_wp2
    go_ret2
    exact calc_no (may_ff HP.out) (P2.mono (Nat.le_succ _)) bb2
  have cR := regsSpec _ zs _ w2 (hn ▸ hv2)
  rw [hn] at cR
  go_wp2_with fail
  refine cR.mono ?_
  rintro e w3 ⟨rfl, rfl⟩
  clear cR
  obtain ⟨q, hq⟩ : ∃ q, regsOk zs = q := ⟨_, rfl⟩
  rw [hq]
  have HQ : Hid (regsOk zs = q) := hq
  clear hq
  cases q
  · go_wp2
    go_ret2
    exact calc_no (may_tf HP.out HQ.out) (P2.mono (Nat.le_succ _)) bb2
  have c0 := O2.cell 0; have c1 := O2.cell 1; have c2 := O2.cell 2; have c3 := O2.cell 3
  by_cases hk : k ≤ 4
  · have HY : Hid (calcMay k a b c zs = true) := may_ttt HP.out HQ.out hk
    have hK := may_kind HP.out hk
    have hk' : decide (4 < k) = false := decide_eq_false (by omega)
    obtain ⟨h4, hval⟩ := regsOk_out HQ.out
    obtain rfl : n = 4 := by omega
    obtain ⟨g, rfl⟩ : ∃ g, g1 = some ⟨g, 0, none⟩ := by
      obtain ⟨g, cp, e, -, -⟩ := owns_form P2 (by omega)
      simp only [Value.slice.injEq] at e
      exact ⟨g, e.1⟩
    have Q2 : w2.ownsRow (w.heap.size + 1) 3 1 (.slice (some ⟨g, 0, none⟩) 4 cap1) 4 (Ints.iv zs) := h4 ▸ P2
    have hg' := (owns_low Q2).1
    have hg : w.heap.size ≤ g := by omega
    have z1 : ∀ (j : Nat) (u : Value), (w2.setCell ⟨g, j, none⟩ u).cell? ⟨w.heap.size, 1, none⟩ = some (.int .i64 a) := fun j u => ((Below.refl (w.heap.size + 1) w2).setCell hg' u).cell (p := ⟨w.heap.size, 1, none⟩) (Nat.lt_succ_self _) |>.trans c1
    have hfz := fun j => Q2.frozenAt j
    obtain ⟨-, -, -, hsee⟩ := sees_out hv2 h4
    obtain ⟨rb, ro, rfl, hrb, hcell⟩ := hsee
    clear hk P2 hv2 hv
    rcases hK with rfl | hK
    · obtain ⟨ha, -, -⟩ := ok_set HP.out
      obtain ⟨j, rfl, hj⟩ := place ha
      have i0 := Ints.owns_at Q2 j (by omega)
      clear hcell
      go_wp2
      go_ret2
      refine calc_yes HY.out rfl (show reck 1 b c zs = b from rfl) ?_ (bb2.setCell hg _)
      have := Ints.owns_set Q2 j b
      exact Ints.Owns.mono (by unfold Ints.Owns; rw [set_len zs j b 4 h4]; exact this) (Nat.le_succ _)
    · obtain ⟨ha, hb, hc⟩ := ok_regs hK HP.out
      obtain ⟨j, rfl, hj⟩ := place ha
      obtain ⟨jb, rfl, hjb⟩ := place hb
      obtain ⟨jc, rfl, hjc⟩ := place hc
      have i0 := Ints.owns_at Q2 j (by omega)
      have x0 := hcell jb (by omega)
      have y0 := hcell jc (by omega)
      obtain ⟨x1, x2⟩ := hval jb (by omega)
      obtain ⟨y1, y2⟩ := hval jc (by omega)
      have HX : Hid (zs.getD ((jb : Int)).toNat 0 = zs[jb]) := getD_at (by omega)
      have HY' : Hid (zs.getD ((jc : Int)).toNat 0 = zs[jc]) := getD_at (by omega)
      obtain ⟨x, hx⟩ : ∃ x, zs[jb] = x := ⟨_, rfl⟩
      obtain ⟨y, hy⟩ : ∃ y, zs[jc] = y := ⟨_, rfl⟩
      rw [hx] at x0 x1 x2 HX
      rw [hy] at y0 y1 y2 HY'
      have hown := fun z => Ints.owns_set Q2 j z
      clear hx hy hval hcell ha hb hc
      rcases hK with rfl | rfl | rfl
      · have HR : Hid (reck 2 (jb : Int) (jc : Int) zs = (x + y) % 65536) := by show reck _ _ _ _ = _; unfold reck; rw [HX.out, HY'.out]; rfl
        go_wp2
        go_ret2
        refine calc_yes HY.out rfl HR.out ?_ (bb2.setCell hg _)
        have := hown ((x + y) % 65536)
        exact Ints.Owns.mono (by unfold Ints.Owns; rw [set_len zs j _ 4 h4]; exact this) (Nat.le_succ _)
      · have HR : Hid (reck 3 (jb : Int) (jc : Int) zs = (x - y) % 65536) := by show reck _ _ _ _ = _; unfold reck; rw [HX.out, HY'.out]; simp
        go_wp2
        go_ret2
        refine calc_yes HY.out rfl HR.out ?_ (bb2.setCell hg _)
        have := hown ((x - y) % 65536)
        exact Ints.Owns.mono (by unfold Ints.Owns; rw [set_len zs j _ 4 h4]; exact this) (Nat.le_succ _)
      · by_cases hxy : x < y
        · have HR : Hid (reck 4 (jb : Int) (jc : Int) zs = 1) := by show reck _ _ _ _ = _; unfold reck; rw [HX.out, HY'.out]; simp [hxy]
          go_wp2
          go_ret2
          refine calc_yes HY.out rfl HR.out ?_ ((bb2.setCell hg _).setCell hg _)
          have := Ints.owns_set (hown 0) j 1
          rw [List.set_set] at this
          exact Ints.Owns.mono (by unfold Ints.Owns; rw [set_len zs j _ 4 h4]; exact this) (Nat.le_succ _)
        · have HR : Hid (reck 4 (jb : Int) (jc : Int) zs = 0) := by show reck _ _ _ _ = _; unfold reck; rw [HX.out, HY'.out]; simp [hxy]
          go_wp2
          go_ret2
          refine calc_yes HY.out rfl HR.out ?_ (bb2.setCell hg _)
          have := hown 0
          exact Ints.Owns.mono (by unfold Ints.Owns; rw [set_len zs j _ 4 h4]; exact this) (Nat.le_succ _)
  · have HK : Hid (¬ k ≤ 4) := hk
    have hk' : decide (4 < k) = true := decide_eq_true (by omega)
    clear hk
    go_wp2
    go_ret2
    exact calc_no (may_ttf (by have := HK.out; omega)) (P2.mono (Nat.le_succ _)) bb2
end Ops
end Go.Proofs.Ytppkohkcffnghaa
