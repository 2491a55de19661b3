/- Several texts of one proof, in build order: ProgDraw, BendDraw, AnyProgDraw. -/
import Derived.Deep.RegionHeld3
import Derived.Test.YtjopmakbnompnaaGreatDoorSrcF4
/- Some program is drawn: it is the call's own. -/
set_option linter.unusedVariables false
set_option linter.unusedSimpArgs false
namespace Go.Proofs.YtjopmakbnompnaaGreatDoor
open Go.RowKit
namespace Ops
open Bas Flat Draw

theorem takeA {P : Program} {ops : Array Oper} {Q : Exit → Act → World → Prop} {md : Region.Mode} {i : Nat} (d : Option Tmp) (v : Value) {oi : Oper} {fuel : Nat} {listed : Array Bool} {a : Act} {w : World} (hi : ops[i]? = some oi) (hd : oi.dst = d)
    (hs : Region.noSelect ops = true) (hf : Region.free md ops listed i = true) (hr : (Region.ready md ops listed).contains i = true)
    (hQ : ∀ c a w, Q (.panic c) (a.put d v) w → Q (.panic c) a w) (hy : Yields P ops oi v a)
    (h : wpAny P md ops Q fuel (listed.setIfInBounds i true) (a.put d v) w) : wpAny P md ops Q (fuel + 1) listed a w := by
  subst hd; exact wpAny_take hi hs hf hr hQ hy h
/-- a program that is being drawn, in its block -/
structure PSt (B g : Nat) (v : Value) (l : List UInt8) (w W : World) (p : Nat) (vc vk : Value) (xs : List O4) (kss : List (List O4)) : Prop where
  D : Dr B g v l W
  G : w.grownBy W (some g)
  P : Blk W p #[vc, vk] 27
  O : OwnP w.heap.size W vc vk xs kss
  lt : g < w.heap.size
  hp : w.heap.size ≤ p
section
variable {B g p : Nat} {v : Value} {l : List UInt8} {w W W' : World} {vc vk : Value} {xs : List O4} {kss : List (List O4)}
theorem PSt.draw (h : PSt B g v l w W p vc vk xs kss) (D : Dr B g v l W') (G : W.grownBy W' (some g)) : PSt B g v l w W' p vc vk xs kss :=
  have a := h.lt; have b := h.hp
  { D := D, G := grown_trans h.G G, P := h.P.grown G (fun e => by injection e; omega), O := h.O.grown G a, lt := a, hp := b }
theorem PSt.drew (h : PSt B g v l w W p vc vk xs kss) : PSt B g v l w W.drew p vc vk xs kss :=
  { D := h.D.drew, G := grown_drew h.G, P := h.P.drew, O := ⟨h.O.c.drew, h.O.k.drew⟩, lt := h.lt, hp := h.hp }
/-- p.Kids = append(p.Kids, Kid{Code: s}) -/
theorem PSt.kid (h : PSt B g v l w W p vc vk xs kss) (s : S3) (ys : List O4) (hs : Owns4 w.heap.size W s.val ys) (hlen : kss.length ≤ 1000000) :
    ∃ v' W', (Builtin.append_ #[25, 25] 25 #[vk, .slice (some ⟨W.heap.size, 0, none⟩) 1 1]).run Tryz.prog (W.alloc (.cells #[.slice s.a s.n s.cap] 47)) = .ok v' W' ∧ W'.cell? ⟨p, 1, none⟩ = some vk ∧ W'.frozen? ⟨p, 1, none⟩ = false ∧ PSt B g v l w (W'.setCell ⟨p, 1, none⟩ v') p vc v' xs (kss ++ [ys]) := by
  have hlt := h.lt; have hp := h.hp; have hsz := h.G.size
  obtain ⟨v', W', hr, hK, hG, hB⟩ := h.O.k.push hsz s ys hs hlen
  have hne : some p ≠ vk.ownBlock := fun e => by
    obtain ⟨-, cur, hc⟩ := hB p e.symm
    have hb := h.P
    unfold Blk at hb
    rw [hc] at hb
    simp only [Option.some.injEq, Obj.cells.injEq] at hb
    exact absurd hb.2.1 (by decide)
  have P' := h.P.grown hG hne
  have C' : Owns4 w.heap.size W' vc xs := h.O.c.grown hG (fun k hk e => by
    obtain ⟨-, cur, hc⟩ := hB k e.symm
    obtain ⟨cur', hc'⟩ := own_block h.O.c k hk
    rw [hc] at hc'
    simp only [Option.some.injEq, Obj.cells.injEq] at hc'
    exact absurd hc'.2.1 (by decide))
  have D' : Dr B g v l W' := h.D.grown hG (fun k hk => by have := (hB k hk).1; omega)
  have G' : w.grownBy W' (some g) := ⟨hG.os.trans h.G.os, hG.tape.trans h.G.tape, hG.output.trans h.G.output, Nat.le_trans hsz hG.size, fun i hi hne => (hG.block i (by omega) (fun e => by have := (hB i e.symm).1; omega)).trans (h.G.block i hi hne)⟩
  refine ⟨v', W', hr, P'.cell 1, P'.froz 1, { D := D'.set (by omega) _ _, G := grown_store G' hp _ _, P := P'.set 1 v', O := ⟨C'.other (own_ne C' P' (by decide)) _, hK.other P' (by decide) (by decide) _ _⟩, lt := hlt, hp := hp }⟩
end

def ProgPost (B g : Nat) (v : Value) (l : List UInt8) (w : World) (e : Ending) (w' : World) : Prop :=
  ∃ vc vk xs kss, e = .returned (.agg #[vc, vk]) ∧ OwnP w.heap.size w' vc vk xs kss ∧ xs.length ≤ 100 ∧ kss.length ≤ 3 ∧ (∀ ks ∈ kss, ks.length ≤ 100) ∧ Dr B g v l w' ∧ w.grownBy w' (some g)

set_option maxRecDepth 100000 in
set_option maxHeartbeats 8000000 in
theorem progE {B g : Nat} {v : Value} {l : List UInt8} {w : World} (h : Dr B g v l w) (forks : Bool) :
    Calls Tryz.prog 30 #[.pointer (some ⟨g, 0, none⟩), .bool forks] w (ProgPost B g v l w) := by
  have hlt := h.lt
  have D0 := h.alloc (.cells #[.slice none 0 0, .slice none 0 0] 27)
  have G0 : w.grownBy (w.alloc (.cells #[.slice none 0 0, .slice none 0 0] 27)) (some g) := World.grownBy_alloc w _ _
  have R0 := Blk.new w #[.slice none 0 0, .slice none 0 0] 27
  have hz0 : (w.alloc (.cells #[.slice none 0 0, .slice none 0 0] 27)).heap.size = w.heap.size + 1 := by simp
  obtain ⟨W0, hW0⟩ : ∃ W0, w.alloc (.cells #[.slice none 0 0, .slice none 0 0] 27) = W0 := ⟨_, rfl⟩
  have HW := (show Hid _ from hW0)
  rw [hW0] at D0 G0 R0 hz0
  clear hW0 h
  cases forks
  · go_enter Tryz.func30, Tryz.ntmps30
    go_wp2_with fail
    rw [HW.out]
    refine (belowE D0 8 (by omega)).mono ?_
    rintro e w1 ⟨r, rfl, r0, r1, D1, G1⟩
    obtain ⟨m, hm⟩ : ∃ m : Nat, 3 + r = m := ⟨(3 + r).toNat, by omega⟩
    go_wp2_with fail
    refine (gen false 2 (by omega) m (by omega) (by omega) B g v l w1 D1).mono ?_
    rintro e w2 ⟨v2, ys, rfl, O2, hy, D2, G2⟩
    obtain ⟨a2, c2, rfl⟩ := O2.form
    have GG := grown_trans G1 G2
    have R := R0.grown GG (fun e => by injection e; omega)
    have x0 := R.cell 0; have x1 := R.cell 1; have f0 := R.froz 0; have f1 := R.froz 1
    have hw1 := G1.size
    have C := (O2.other (own_ne O2 R (by decide)) (i := 0) (.slice a2 ys.length c2))
    have C := (C.other (own_ne C (R.set 0 _) (by decide)) (i := 1) (.slice none 0 0)).mono (show w.heap.size ≤ w1.heap.size by omega)
    have Dz := (D2.set (show g < w.heap.size by omega) 0 (.slice a2 ys.length c2)).set (show g < w.heap.size by omega) 1 (.slice none 0 0)
    have Gz := grown_store (grown_store (grown_trans G0 GG) (Nat.le_refl _) 0 (.slice a2 ys.length c2)) (Nat.le_refl _) 1 (.slice none 0 0)
    clear D0 G0 R0 D1 G1 D2 G2 GG R
    go_wp2
    refine bodyPost_ret (v := .agg #[.slice a2 ys.length c2, .slice none 0 0]) (by simp [results, Tryz.results30, go_sem, x0, x1, f0, f1]) rfl ?_
    exact ⟨_, _, ys, [], rfl, ⟨C, OwnK.nil _ _⟩, by omega, by simp, by simp, Dz, Gz⟩
  · go_enter Tryz.func30, Tryz.ntmps30
    go_wp2_with fail
    rw [HW.out]
    refine (belowE D0 4 (by omega)).mono ?_
    rintro e w1 ⟨r, rfl, r0, r1, D1, G1⟩
    obtain ⟨m, hm⟩ : ∃ m : Nat, 1 + r = m := ⟨(1 + r).toNat, by omega⟩
    go_wp2_with fail
    refine (gen false 1 (by omega) m (by omega) (by omega) B g v l w1 D1).mono ?_
    rintro e w2 ⟨v2, ys, rfl, O2, hy, D2, G2⟩
    obtain ⟨a2, c2, rfl⟩ := O2.form
    have hw1 := G1.size
    have P : GSt B g v l W0 w2 (.slice a2 ys.length c2) ys := { D := D2, G := grown_trans G1 G2, O := O2.mono hw1, lt := by omega }
    clear D0 D1 G1 D2 G2 O2
    go_wp2_with fail
    refine (belowE P.D 4 (by omega)).mono ?_
    rintro e w3 ⟨s, rfl, s0, s1, D, G⟩
    have P := P.draw D G
    clear D G
    obtain ⟨m2, hm2⟩ : ∃ m : Nat, 1 + s = m := ⟨(1 + s).toNat, by omega⟩
    go_wp2_with fail
    have hob : ∀ k, (Value.slice a2 ys.length c2).ownBlock = some k → k < w3.heap.size := fun k hk => (P.O.at k hk).2
    refine (gen false 1 (by omega) m2 (by omega) (by omega) B g v l w3 P.D).mono ?_
    rintro e w4 ⟨v4, zs, rfl, I, hz, D, G⟩
    obtain ⟨a4, c4, rfl⟩ := I.form
    have P := P.draw D G
    clear D G
    obtain ⟨o5, W5, hr5, P5, G5⟩ := P.push ⟨11, 0, 0, 0⟩ (by omega)
    have I5 := I.grown G5 (fun k hk e => by have := hob k e.symm; have := I.at k hk; omega)
    obtain ⟨o6, W6, hr6, P6, G6⟩ := P5.cat _ zs W5.heap.size I5.sees (by simp; omega)
    obtain ⟨us, hus⟩ : ∃ us, ys ++ [(⟨11, 0, 0, 0⟩ : O4)] ++ zs = us := ⟨_, rfl⟩
    have hul : us.length ≤ 100 := by rw [← hus]; simp; omega
    rw [hus] at P6
    obtain ⟨a6, c6, rfl⟩ := P6.O.form
    have Q : PSt B g v l W0 (W6.alloc (.cells #[.slice a6 us.length c6, .slice none 0 0] 27)) W6.heap.size (.slice a6 us.length c6) (.slice none 0 0) us [] :=
      { D := P6.D.alloc _, G := grown_new P6.G _, P := Blk.new _ _ _, O := ⟨P6.O.on (alloc_below _ _) (Nat.le_refl _), OwnK.nil _ _⟩, lt := P6.lt, hp := P6.G.size }
    obtain ⟨p, hp⟩ : ∃ p, W6.heap.size = p := ⟨_, rfl⟩
    rw [hp] at Q
    clear hus I I5 P P5 P6 G5 G6 hob
    go_wp2_with (at_builtin; first | (refine wpList_app _ rfl _ _ 24 rfl _ _ _ _ rfl rfl hr5 ?_; clear hr5) | (refine wpList_app _ rfl _ _ 24 rfl _ _ _ _ rfl rfl hr6 ?_; clear hr6))
    refine (belowE Q.D 3 (by omega)).mono ?_
    rintro e w7 ⟨t, rfl, t0, t1, D, G⟩
    have Q := Q.draw D G
    clear D G
    go_wp2
    go_loopw [8] (fun nv wr => ∃ (t' : Int) (ak : Option Addr) (nk ck : Nat) (kss : List (List O4)), nv = .int .i64 t' ∧ 0 ≤ t' ∧ (kss.length : Int) + t' ≤ 3 ∧ (∀ ks ∈ kss, ks.length ≤ 100) ∧ PSt B g v l W0 wr p (.slice a6 us.length c6) (.slice ak nk ck) us kss) (fun nv _ => (intOf nv).toNat)
    case atStart => exact ⟨1 + t, none, 0, 0, [], rfl, by omega, by simp; omega, by simp, Q⟩
    case round =>
      obtain ⟨t', ak, nk, ck, kss, rfl, ht0, ht1, hks, Q⟩ := hrel
      by_cases hgo : 0 < t'
      · have x1 := Q.P.cell 1
        have hwr : W0.heap.size ≤ wr.heap.size := Q.G.size
        go_wp2_with fail
        refine wp_region_any (by kernel_rfl) ?_
        change wpAny _ _ _ _ _ _ _ wr.drew
        refine takeA (i := 0) (some 41) (.pointer (some ⟨p, 1, none⟩)) rfl rfl (by kernel_rfl) (by kernel_rfl) (by kernel_rfl) (fun _ _ _ h => h) (Or.inl ⟨by rfl, fun w => by go_simp⟩) ?_
        try simp only [Act.put, List.setIfInBounds_toArray, List.set_cons_zero, List.set_cons_succ]
        refine takeA (i := 2) (some 43) (.pointer (some ⟨g, 0, none⟩)) rfl rfl (by kernel_rfl) (by kernel_rfl) (by kernel_rfl) (fun _ _ _ h => h) (Or.inl ⟨by rfl, fun w => by go_simp⟩) ?_
        try simp only [Act.put, List.setIfInBounds_toArray, List.set_cons_zero, List.set_cons_succ]
        refine takeA (i := 3) (some 44) (.pointer (some ⟨g, 0, none⟩)) rfl rfl (by kernel_rfl) (by kernel_rfl) (by kernel_rfl) (fun _ _ _ h => h) (Or.inl ⟨by rfl, fun w => by go_simp⟩) ?_
        try simp only [Act.put, List.setIfInBounds_toArray, List.set_cons_zero, List.set_cons_succ]
        refine wpAny_ready (rs := [1, 4]) (by kernel_rfl) (by simp) ?_
        refine AllReady.cons rfl (fun K hK0 => ?_) (AllReady.cons rfl (fun K hK0 => ?_) AllReady.nil)
        · have hK := (show Hid _ from hK0)
          clear hK0
          go_simp
          refine hK.out _ _ ?_
          clear hK
          try simp only [Act.put, List.setIfInBounds_toArray, List.set_cons_zero, List.set_cons_succ]
          refine wpAny_ready (rs := [4]) (by kernel_rfl) (by simp) ?_
          refine AllReady.cons rfl (fun K hK0 => ?_) AllReady.nil
          have hK := (show Hid _ from hK0)
          clear hK0
          go_simp
          refine (belowE Q.D.drew 5 (by omega)).mono ?_
          rintro e w8 ⟨y, rfl, y0, y1, D, G⟩
          have Q8 := Q.drew.draw D G
          clear D G x1
          have x1 := Q8.P.cell 1
          obtain ⟨m8, hm8⟩ : ∃ m : Nat, 2 + y = m := ⟨(2 + y).toNat, by omega⟩
          have qm : IntKind.i64.wrap (2 + y) = (m8 : Int) := by rw [hm8, IntKind.wrap_i64]; omega
          have hm81 : 1 ≤ m8 ∧ m8 ≤ 100 := by omega
          have hs8 : W0.heap.size ≤ w8.heap.size := Q8.G.size
          clear hm8
          go_simp
          refine hK.out _ _ ?_
          clear hK
          try simp only [Act.put, List.setIfInBounds_toArray, List.set_cons_zero, List.set_cons_succ]
          refine takeA (i := 5) (some 46) (.int .i64 m8) rfl rfl (by kernel_rfl) (by kernel_rfl) (by kernel_rfl) (fun _ _ _ h => h) (Or.inl ⟨by rfl, fun w => by go_simp⟩) ?_
          try simp only [Act.put, List.setIfInBounds_toArray, List.set_cons_zero, List.set_cons_succ]
          refine wpAny_ready (rs := [6]) (by kernel_rfl) (by simp) ?_
          refine AllReady.cons rfl (fun K hK0 => ?_) AllReady.nil
          have hK := (show Hid _ from hK0)
          clear hK0
          go_simp
          refine (gen true 1 (by omega) m8 (by omega) (by omega) B g v l w8 Q8.D).mono ?_
          rintro e w9 ⟨v9, ks, rfl, O9, hk9, D, G⟩
          have Q9 := Q8.draw D G
          clear D G x1 qm
          have x1 := Q9.P.cell 1
          obtain ⟨a9, c9, rfl⟩ := O9.form
          obtain ⟨v10, W10, hr10, z1, z2, Q10⟩ := Q9.kid ⟨a9, ks.length, c9⟩ ks (O9.mono hs8) (by omega)
          obtain ⟨a10, c10, rfl⟩ := Q10.O.k.form
          obtain ⟨n10, hn10⟩ : ∃ n, (kss ++ [ks]).length = n := ⟨_, rfl⟩
          rw [hn10] at Q10 hr10
          have x2 := ((alloc_below w9 (.cells #[.slice a9 ks.length c9] 47)).cell (p := ⟨p, 1, none⟩) Q9.P.lt).trans x1
          go_simp
          refine hK.out _ _ ?_
          clear hK
          try simp only [Act.put, List.setIfInBounds_toArray, List.set_cons_zero, List.set_cons_succ]
          refine takeA (i := 7) (some 48) (.agg #[.slice a9 ks.length c9]) rfl rfl (by kernel_rfl) (by kernel_rfl) (by kernel_rfl) (fun _ _ _ h => h) (Or.inl ⟨by rfl, fun w => by go_simp⟩) ?_
          try simp only [Act.put, List.setIfInBounds_toArray, List.set_cons_zero, List.set_cons_succ]
          refine wpAny_ready (rs := [8]) (by kernel_rfl) (by simp) ?_
          refine AllReady.cons rfl (fun K hK0 => ?_) AllReady.nil
          have hK := (show Hid _ from hK0)
          clear hK0
          go_simp
          refine hK.out _ _ ?_
          clear hK
          try simp only [Act.put, List.setIfInBounds_toArray, List.set_cons_zero, List.set_cons_succ]
          refine wpAny_ready (rs := [9]) (by kernel_rfl) (by simp) ?_
          refine AllReady.cons rfl (fun K hK0 => ?_) AllReady.nil
          have hK := (show Hid _ from hK0)
          clear hK0
          refine step_app rfl (.tmp 42) (.tmp 49) 25 rfl (.slice ak nk ck) (.slice (some ⟨w9.heap.size, 0, none⟩) 1 1) (.slice a10 n10 c10) W10 rfl rfl hr10 ?_
          refine hK.out _ _ ?_
          clear hK
          try simp only [Act.put, List.setIfInBounds_toArray, List.set_cons_zero, List.set_cons_succ]
          refine takeA (i := 10) (some 51) (.pointer (some ⟨p, 1, none⟩)) rfl rfl (by kernel_rfl) (by kernel_rfl) (by kernel_rfl) (fun _ _ _ h => h) (Or.inl ⟨by rfl, fun w => by go_simp⟩) ?_
          try simp only [Act.put, List.setIfInBounds_toArray, List.set_cons_zero, List.set_cons_succ]
          refine wpAny_ready (rs := [11]) (by kernel_rfl) (by simp) ?_
          refine AllReady.cons rfl (fun K hK0 => ?_) AllReady.nil
          have hK := (show Hid _ from hK0)
          clear hK0
          go_simp
          refine hK.out _ _ ?_
          clear hK
          try simp only [Act.put, List.setIfInBounds_toArray, List.set_cons_zero, List.set_cons_succ]
          refine wpAny_done (by kernel_rfl) ?_ _
          clear x1 x2 z1 z2 hr10 Q Q8 Q9 O9
          go_wp2
          go_roundw
          case rel =>
            refine ⟨t' - 1, _, _, _, kss ++ [ks], by go_num, by omega, by simp; omega, fun k hk => ?_, Q10⟩
            rcases List.mem_append.1 hk with h | h
            · exact hks k h
            · obtain rfl : k = ks := by simpa using h
              omega
          case measure => simp [intOf]; omega
        · have hK := (show Hid _ from hK0)
          clear hK0
          go_simp
          refine (belowE Q.D.drew 5 (by omega)).mono ?_
          rintro e w8 ⟨y, rfl, y0, y1, D, G⟩
          have Q8 := Q.drew.draw D G
          clear D G x1
          have x1 := Q8.P.cell 1
          obtain ⟨m8, hm8⟩ : ∃ m : Nat, 2 + y = m := ⟨(2 + y).toNat, by omega⟩
          have qm : IntKind.i64.wrap (2 + y) = (m8 : Int) := by rw [hm8, IntKind.wrap_i64]; omega
          have hm81 : 1 ≤ m8 ∧ m8 ≤ 100 := by omega
          have hs8 : W0.heap.size ≤ w8.heap.size := Q8.G.size
          clear hm8
          go_simp
          refine hK.out _ _ ?_
          clear hK
          try simp only [Act.put, List.setIfInBounds_toArray, List.set_cons_zero, List.set_cons_succ]
          refine takeA (i := 5) (some 46) (.int .i64 m8) rfl rfl (by kernel_rfl) (by kernel_rfl) (by kernel_rfl) (fun _ _ _ h => h) (Or.inl ⟨by rfl, fun w => by go_simp⟩) ?_
          try simp only [Act.put, List.setIfInBounds_toArray, List.set_cons_zero, List.set_cons_succ]
          refine wpAny_ready (rs := [1, 6]) (by kernel_rfl) (by simp) ?_
          refine AllReady.cons rfl (fun K hK0 => ?_) (AllReady.cons rfl (fun K hK0 => ?_) AllReady.nil)
          · have hK := (show Hid _ from hK0)
            clear hK0
            go_simp
            refine hK.out _ _ ?_
            clear hK
            try simp only [Act.put, List.setIfInBounds_toArray, List.set_cons_zero, List.set_cons_succ]
            refine wpAny_ready (rs := [6]) (by kernel_rfl) (by simp) ?_
            refine AllReady.cons rfl (fun K hK0 => ?_) AllReady.nil
            have hK := (show Hid _ from hK0)
            clear hK0
            go_simp
            refine (gen true 1 (by omega) m8 (by omega) (by omega) B g v l w8 Q8.D).mono ?_
            rintro e w9 ⟨v9, ks, rfl, O9, hk9, D, G⟩
            have Q9 := Q8.draw D G
            clear D G x1 qm
            have x1 := Q9.P.cell 1
            obtain ⟨a9, c9, rfl⟩ := O9.form
            obtain ⟨v10, W10, hr10, z1, z2, Q10⟩ := Q9.kid ⟨a9, ks.length, c9⟩ ks (O9.mono hs8) (by omega)
            obtain ⟨a10, c10, rfl⟩ := Q10.O.k.form
            obtain ⟨n10, hn10⟩ : ∃ n, (kss ++ [ks]).length = n := ⟨_, rfl⟩
            rw [hn10] at Q10 hr10
            have x2 := ((alloc_below w9 (.cells #[.slice a9 ks.length c9] 47)).cell (p := ⟨p, 1, none⟩) Q9.P.lt).trans x1
            go_simp
            refine hK.out _ _ ?_
            clear hK
            try simp only [Act.put, List.setIfInBounds_toArray, List.set_cons_zero, List.set_cons_succ]
            refine takeA (i := 7) (some 48) (.agg #[.slice a9 ks.length c9]) rfl rfl (by kernel_rfl) (by kernel_rfl) (by kernel_rfl) (fun _ _ _ h => h) (Or.inl ⟨by rfl, fun w => by go_simp⟩) ?_
            try simp only [Act.put, List.setIfInBounds_toArray, List.set_cons_zero, List.set_cons_succ]
            refine wpAny_ready (rs := [8]) (by kernel_rfl) (by simp) ?_
            refine AllReady.cons rfl (fun K hK0 => ?_) AllReady.nil
            have hK := (show Hid _ from hK0)
            clear hK0
            go_simp
            refine hK.out _ _ ?_
            clear hK
            try simp only [Act.put, List.setIfInBounds_toArray, List.set_cons_zero, List.set_cons_succ]
            refine wpAny_ready (rs := [9]) (by kernel_rfl) (by simp) ?_
            refine AllReady.cons rfl (fun K hK0 => ?_) AllReady.nil
            have hK := (show Hid _ from hK0)
            clear hK0
            refine step_app rfl (.tmp 42) (.tmp 49) 25 rfl (.slice ak nk ck) (.slice (some ⟨w9.heap.size, 0, none⟩) 1 1) (.slice a10 n10 c10) W10 rfl rfl hr10 ?_
            refine hK.out _ _ ?_
            clear hK
            try simp only [Act.put, List.setIfInBounds_toArray, List.set_cons_zero, List.set_cons_succ]
            refine takeA (i := 10) (some 51) (.pointer (some ⟨p, 1, none⟩)) rfl rfl (by kernel_rfl) (by kernel_rfl) (by kernel_rfl) (fun _ _ _ h => h) (Or.inl ⟨by rfl, fun w => by go_simp⟩) ?_
            try simp only [Act.put, List.setIfInBounds_toArray, List.set_cons_zero, List.set_cons_succ]
            refine wpAny_ready (rs := [11]) (by kernel_rfl) (by simp) ?_
            refine AllReady.cons rfl (fun K hK0 => ?_) AllReady.nil
            have hK := (show Hid _ from hK0)
            clear hK0
            go_simp
            refine hK.out _ _ ?_
            clear hK
            try simp only [Act.put, List.setIfInBounds_toArray, List.set_cons_zero, List.set_cons_succ]
            refine wpAny_done (by kernel_rfl) ?_ _
            clear x1 x2 z1 z2 hr10 Q Q8 Q9 O9
            go_wp2
            go_roundw
            case rel =>
              refine ⟨t' - 1, _, _, _, kss ++ [ks], by go_num, by omega, by simp; omega, fun k hk => ?_, Q10⟩
              rcases List.mem_append.1 hk with h | h
              · exact hks k h
              · obtain rfl : k = ks := by simpa using h
                omega
            case measure => simp [intOf]; omega
          · have hK := (show Hid _ from hK0)
            clear hK0
            go_simp
            refine (gen true 1 (by omega) m8 (by omega) (by omega) B g v l w8 Q8.D).mono ?_
            rintro e w9 ⟨v9, ks, rfl, O9, hk9, D, G⟩
            have Q9 := Q8.draw D G
            clear D G x1 qm
            have x1 := Q9.P.cell 1
            obtain ⟨a9, c9, rfl⟩ := O9.form
            obtain ⟨v10, W10, hr10, z1, z2, Q10⟩ := Q9.kid ⟨a9, ks.length, c9⟩ ks (O9.mono hs8) (by omega)
            obtain ⟨a10, c10, rfl⟩ := Q10.O.k.form
            obtain ⟨n10, hn10⟩ : ∃ n, (kss ++ [ks]).length = n := ⟨_, rfl⟩
            rw [hn10] at Q10 hr10
            have x2 := ((alloc_below w9 (.cells #[.slice a9 ks.length c9] 47)).cell (p := ⟨p, 1, none⟩) Q9.P.lt).trans x1
            go_simp
            refine hK.out _ _ ?_
            clear hK
            try simp only [Act.put, List.setIfInBounds_toArray, List.set_cons_zero, List.set_cons_succ]
            refine takeA (i := 7) (some 48) (.agg #[.slice a9 ks.length c9]) rfl rfl (by kernel_rfl) (by kernel_rfl) (by kernel_rfl) (fun _ _ _ h => h) (Or.inl ⟨by rfl, fun w => by go_simp⟩) ?_
            try simp only [Act.put, List.setIfInBounds_toArray, List.set_cons_zero, List.set_cons_succ]
            refine wpAny_ready (rs := [1, 8]) (by kernel_rfl) (by simp) ?_
            refine AllReady.cons rfl (fun K hK0 => ?_) (AllReady.cons rfl (fun K hK0 => ?_) AllReady.nil)
            · have hK := (show Hid _ from hK0)
              clear hK0
              go_simp
              refine hK.out _ _ ?_
              clear hK
              try simp only [Act.put, List.setIfInBounds_toArray, List.set_cons_zero, List.set_cons_succ]
              refine wpAny_ready (rs := [8]) (by kernel_rfl) (by simp) ?_
              refine AllReady.cons rfl (fun K hK0 => ?_) AllReady.nil
              have hK := (show Hid _ from hK0)
              clear hK0
              go_simp
              refine hK.out _ _ ?_
              clear hK
              try simp only [Act.put, List.setIfInBounds_toArray, List.set_cons_zero, List.set_cons_succ]
              refine wpAny_ready (rs := [9]) (by kernel_rfl) (by simp) ?_
              refine AllReady.cons rfl (fun K hK0 => ?_) AllReady.nil
              have hK := (show Hid _ from hK0)
              clear hK0
              refine step_app rfl (.tmp 42) (.tmp 49) 25 rfl (.slice ak nk ck) (.slice (some ⟨w9.heap.size, 0, none⟩) 1 1) (.slice a10 n10 c10) W10 rfl rfl hr10 ?_
              refine hK.out _ _ ?_
              clear hK
              try simp only [Act.put, List.setIfInBounds_toArray, List.set_cons_zero, List.set_cons_succ]
              refine takeA (i := 10) (some 51) (.pointer (some ⟨p, 1, none⟩)) rfl rfl (by kernel_rfl) (by kernel_rfl) (by kernel_rfl) (fun _ _ _ h => h) (Or.inl ⟨by rfl, fun w => by go_simp⟩) ?_
              try simp only [Act.put, List.setIfInBounds_toArray, List.set_cons_zero, List.set_cons_succ]
              refine wpAny_ready (rs := [11]) (by kernel_rfl) (by simp) ?_
              refine AllReady.cons rfl (fun K hK0 => ?_) AllReady.nil
              have hK := (show Hid _ from hK0)
              clear hK0
              go_simp
              refine hK.out _ _ ?_
              clear hK
              try simp only [Act.put, List.setIfInBounds_toArray, List.set_cons_zero, List.set_cons_succ]
              refine wpAny_done (by kernel_rfl) ?_ _
              clear x1 x2 z1 z2 hr10 Q Q8 Q9 O9
              go_wp2
              go_roundw
              case rel =>
                refine ⟨t' - 1, _, _, _, kss ++ [ks], by go_num, by omega, by simp; omega, fun k hk => ?_, Q10⟩
                rcases List.mem_append.1 hk with h | h
                · exact hks k h
                · obtain rfl : k = ks := by simpa using h
                  omega
              case measure => simp [intOf]; omega
            · have hK := (show Hid _ from hK0)
              clear hK0
              go_simp
              refine hK.out _ _ ?_
              clear hK
              try simp only [Act.put, List.setIfInBounds_toArray, List.set_cons_zero, List.set_cons_succ]
              refine wpAny_ready (rs := [1]) (by kernel_rfl) (by simp) ?_
              refine AllReady.cons rfl (fun K hK0 => ?_) AllReady.nil
              have hK := (show Hid _ from hK0)
              clear hK0
              go_simp
              refine hK.out _ _ ?_
              clear hK
              try simp only [Act.put, List.setIfInBounds_toArray, List.set_cons_zero, List.set_cons_succ]
              refine wpAny_ready (rs := [9]) (by kernel_rfl) (by simp) ?_
              refine AllReady.cons rfl (fun K hK0 => ?_) AllReady.nil
              have hK := (show Hid _ from hK0)
              clear hK0
              refine step_app rfl (.tmp 42) (.tmp 49) 25 rfl (.slice ak nk ck) (.slice (some ⟨w9.heap.size, 0, none⟩) 1 1) (.slice a10 n10 c10) W10 rfl rfl hr10 ?_
              refine hK.out _ _ ?_
              clear hK
              try simp only [Act.put, List.setIfInBounds_toArray, List.set_cons_zero, List.set_cons_succ]
              refine takeA (i := 10) (some 51) (.pointer (some ⟨p, 1, none⟩)) rfl rfl (by kernel_rfl) (by kernel_rfl) (by kernel_rfl) (fun _ _ _ h => h) (Or.inl ⟨by rfl, fun w => by go_simp⟩) ?_
              try simp only [Act.put, List.setIfInBounds_toArray, List.set_cons_zero, List.set_cons_succ]
              refine wpAny_ready (rs := [11]) (by kernel_rfl) (by simp) ?_
              refine AllReady.cons rfl (fun K hK0 => ?_) AllReady.nil
              have hK := (show Hid _ from hK0)
              clear hK0
              go_simp
              refine hK.out _ _ ?_
              clear hK
              try simp only [Act.put, List.setIfInBounds_toArray, List.set_cons_zero, List.set_cons_succ]
              refine wpAny_done (by kernel_rfl) ?_ _
              clear x1 x2 z1 z2 hr10 Q Q8 Q9 O9
              go_wp2
              go_roundw
              case rel =>
                refine ⟨t' - 1, _, _, _, kss ++ [ks], by go_num, by omega, by simp; omega, fun k hk => ?_, Q10⟩
                rcases List.mem_append.1 hk with h | h
                · exact hks k h
                · obtain rfl : k = ks := by simpa using h
                  omega
              case measure => simp [intOf]; omega
      · obtain rfl : t' = 0 := by omega
        have R := R0.grown Q.G (fun e => by injection e; omega)
        have x0 := R.cell 0; have x1 := R.cell 1; have f0 := R.froz 0; have f1 := R.froz 1
        have p0 := Q.P.cell 0; have p1 := Q.P.cell 1
        have hpp := Q.hp
        have GG := grown_trans G0 Q.G
        have C := Q.O.other R (by decide) (by decide) 0 (.slice a6 us.length c6)
        have C := (C.other (R.set 0 _) (by decide) (by decide) 1 (.slice ak nk ck)).mono (show w.heap.size ≤ W0.heap.size by omega)
        have Dz := (Q.D.set (show g < w.heap.size by omega) 0 (.slice a6 us.length c6)).set (show g < w.heap.size by omega) 1 (.slice ak nk ck)
        have Gz := grown_store (grown_store GG (Nat.le_refl _) 0 (.slice a6 us.length c6)) (Nat.le_refl _) 1 (.slice ak nk ck)
        clear Q GG R
        go_wp2
        refine bodyPost_ret (v := .agg #[.slice a6 us.length c6, .slice ak nk ck]) (by simp [results, Tryz.results30, go_sem, x0, x1, f0, f1]) rfl ?_
        exact ⟨_, _, us, kss, rfl, C, hul, by omega, hks, Dz, Gz⟩
end Ops
end Go.Proofs.YtjopmakbnompnaaGreatDoor
/- Some code is spoilt in one place: what comes of it is some code. -/
set_option linter.unusedVariables false
set_option linter.unusedSimpArgs false
namespace Go.Proofs.YtjopmakbnompnaaGreatDoor
open Go.RowKit
namespace Ops
open Bas Flat Draw

/-- where a row that is not empty lies -/
theorem own_some {α : Type} {E : El α} {e : TypeId} {B : Nat} {w : World} {a : Option Addr} {n cap : Nat} {xs : List α} (h : Owns E e B w (.slice a n cap) xs) (hn : 0 < xs.length) : ∃ q, a = some ⟨q, 0, none⟩ ∧ B ≤ q ∧ q < w.heap.size ∧ n = xs.length ∧ n ≤ cap := by
  obtain ⟨h1, h2⟩ := h
  rcases h2 with ⟨h', h0⟩ | ⟨q, c, cur, h', hB, hg, hle, _⟩
  · omega
  · simp only [Value.slice.injEq] at h'
    obtain ⟨rfl, rfl, rfl⟩ := h'
    exact ⟨q, rfl, hB, (Array.getElem?_eq_some_iff.1 hg).1, rfl, hle⟩
section
variable {B g : Nat} {v : Value} {l : List UInt8} {w W W' : World} {out : Value} {xs : List O4}
theorem GSt.drew (h : GSt B g v l w W out xs) : GSt B g v l w W.drew out xs := { D := h.D.drew, G := grown_drew h.G, O := h.O.drew, lt := h.lt }
/-- out[k] = x -/
theorem GSt.put {q n cap : Nat} (h : GSt B g v l w W (.slice (some ⟨q, 0, none⟩) n cap) xs) (hn : xs.length = n) (k : Nat) (hk : k < xs.length) (x : O4) : GSt B g v l w (set4 W q k x) (.slice (some ⟨q, 0, none⟩) n cap) (xs.set k x) := by
  have hlt := h.lt
  obtain ⟨h1, h2⟩ := h.O.at q rfl
  have hO := h.O
  unfold Owns4 Owns at hO
  rw [hn] at hO
  have := own_set4 hO k hk x
  refine { D := (((h.D.set (by omega) _ _).set (by omega) _ _).set (by omega) _ _).set (by omega) _ _, G := grown_store (grown_store (grown_store (grown_store h.G h1 _ _) h1 _ _) h1 _ _) h1 _ _, O := ?_, lt := hlt }
  unfold Owns4 Owns
  rw [List.length_set, hn]; exact this
end

theorem GSt.putB {B g : Nat} {v : Value} {l : List UInt8} {w W : World} {xs : List O4} {q n cap : Nat} (h : GSt B g v l w W (.slice (some ⟨q, 0, none⟩) n cap) xs) (hn : xs.length = n) (k : Nat) (hk : k < xs.length) (z : Int) : GSt B g v l w (W.setCell ⟨q, k * 4 + 2, none⟩ (.int .i64 z)) (.slice (some ⟨q, 0, none⟩) n cap) (xs.set k ⟨xs[k].k, xs[k].a, z, xs[k].c⟩) := by
  have hlt := h.lt
  obtain ⟨h1, h2⟩ := h.O.at q rfl
  have hO := h.O
  unfold Owns4 Owns at hO
  rw [hn] at hO
  have := own_set (E := opEl) hO k hk 2 (by decide) (.int .i64 z) ⟨xs[k].k, xs[k].a, z, xs[k].c⟩ rfl
  refine { D := h.D.set (by omega) _ _, G := grown_store h.G h1 _ _, O := ?_, lt := hlt }
  unfold Owns4 Owns
  rw [List.length_set, hn]; exact this

theorem own_take {α : Type} {E : El α} {e : TypeId} {B q n cap k : Nat} {w : World} {xs : List α} (h : Owns E e B w (.slice (some ⟨q, 0, none⟩) n cap) xs) (hk : k ≤ xs.length) : Owns E e B w (.slice (some ⟨q, 0, none⟩) k cap) (xs.take k) := by
  obtain ⟨h1, h2⟩ := h
  have hl : (xs.take k).length = k := by simp; omega
  rcases h2 with ⟨h', _⟩ | ⟨g', cap', cur, h', hb, hg, h3, h4, h5, h6⟩
  · cases h'
  · simp only [Value.slice.injEq, Option.some.injEq, Addr.mk.injEq, and_true] at h'
    obtain ⟨rfl, hl', rfl⟩ := h'
    refine ⟨by rw [fv_length], .inr ⟨q, cap, cur, by rw [hl], hb, hg, by omega, h4, h5, ?_⟩⟩
    have e1 : xs = xs.take k ++ xs.drop k := (List.take_append_drop k xs).symm
    have := congrArg (List.take (k * E.sz)) h6
    rw [List.take_take, Nat.min_eq_left (Nat.mul_le_mul_right _ hk)] at this
    rw [hl, this, e1, fv_append, List.take_append_of_le_length (by rw [fv_length, hl]; exact Nat.le_refl _), List.take_of_length_le (by rw [fv_length, hl]; exact Nat.le_refl _), ← e1]
/-- append(out[:k], out[k+1:]...) -/
theorem GSt.cut {B g : Nat} {v : Value} {l : List UInt8} {w W : World} {xs : List O4} {q n cap : Nat} (h : GSt B g v l w W (.slice (some ⟨q, 0, none⟩) n cap) xs) (hn : xs.length = n) (k : Nat) (hk : k < xs.length) (hcap : n ≤ cap) (hlen : n ≤ 1000) :
    ∃ v' W', (Builtin.append_ #[24, 24] 24 #[.slice (some ⟨q, 0, none⟩) k cap, .slice (if cap = k + 1 then some ⟨q, 0, none⟩ else some ⟨q, (k + 1) * 4, none⟩) (n - (k + 1)) (cap - (k + 1))]).run Tryz.prog W = .ok v' W' ∧ GSt B g v l w W' v' (xs.take k ++ xs.drop (k + 1)) := by
  have hm : cap ≤ maxLen := by obtain ⟨a, c, e, -, h2, -⟩ := h.O.sees; simp only [Value.slice.injEq] at e; omega
  have hO := h.O
  unfold Owns4 Owns at hO
  rw [hn] at hO
  have hS : Sees4 W.heap.size W (.slice (if cap = k + 1 then some ⟨q, 0, none⟩ else some ⟨q, (k + 1) * 4, none⟩) (n - (k + 1)) (cap - (k + 1))) (xs.drop (k + 1)) := by
    refine ⟨_, cap - (k + 1), by rw [List.length_drop, hn], by rw [List.length_drop, hn]; omega, by omega, fun hne => ?_⟩
    have hlt : k + 1 < n := by
      rcases Nat.lt_or_ge (k + 1) n with h' | h'
      · exact h'
      · exact absurd (List.drop_of_length_le (by omega)) hne
    refine ⟨q, (k + 1) * 4, by rw [if_neg (by omega)], (own_low (E := opEl) hO).2, fun j hj => ?_⟩
    have hj' : k + 1 + j < xs.length := by simp at hj; omega
    have := own_at (E := opEl) hO (k + 1 + j) hj'
    rw [List.getElem_drop]
    rw [show (k + 1) * 4 + j * opEl.sz = (k + 1 + j) * opEl.sz by show (k + 1) * 4 + j * 4 = (k + 1 + j) * 4; omega]
    exact this
  have h' : GSt B g v l w W (.slice (some ⟨q, 0, none⟩) k cap) (xs.take k) := { D := h.D, G := h.G, O := own_take h.O (by omega), lt := h.lt }
  obtain ⟨v', W', hr, P, -⟩ := h'.cat _ _ _ hS (by simp; omega)
  exact ⟨v', W', hr, P⟩

def CodePost (m : Nat) (B g : Nat) (v : Value) (l : List UInt8) (w : World) (e : Ending) (w' : World) : Prop := ∃ v' ys, e = .returned v' ∧ Owns4 w.heap.size w' v' ys ∧ ys.length ≤ m ∧ Dr B g v l w' ∧ w.grownBy w' (some g)

set_option maxRecDepth 100000 in
set_option maxHeartbeats 8000000 in
theorem bendE {B g : Nat} {v : Value} {l : List UInt8} {w : World} (h : Dr B g v l w) (u : Value) (xs : List O4) (Bc : Nat) (hu : Sees4 Bc w u xs) (hBc : Bc ≤ w.heap.size) (hlen : xs.length ≤ 1000) :
    Calls Tryz.prog 50 #[.pointer (some ⟨g, 0, none⟩), u] w (CodePost 1030 B g v l w) := by
  have P0 : GSt B g v l w (w.alloc (.cells #[] 36)) (.slice (some ⟨w.heap.size, 0, none⟩) 0 0) [] :=
    { D := h.alloc _, G := World.grownBy_alloc w _ _, O := World.ownsRow_lit w #[] 0 (Nat.le_refl _) (by simp [maxLen]) rfl, lt := h.lt }
  obtain ⟨o1, W1, hr1, P1, -⟩ := P0.cat u xs Bc (hu.on (alloc_below w _) hBc) (by simp; omega)
  rw [List.nil_append] at P1
  obtain ⟨a, ucap, rfl⟩ := hu.form
  obtain ⟨a1, cap1, rfl⟩ := P1.O.form
  obtain ⟨n, hn⟩ : ∃ n, xs.length = n := ⟨_, rfl⟩
  rw [hn] at P1 hr1 hlen ⊢
  clear P0 hu h
  go_enter Tryz.func50, Tryz.ntmps50
  by_cases hn0 : n = 0
  · have d0 : ((n : Int) == 0) = true := by simp [hn0]
    go_wp2_with (at_builtin; refine wpList_app _ rfl _ _ 24 rfl _ _ _ _ rfl rfl hr1 ?_)
    go_ret
    exact ⟨_, [⟨9, 0, 0, 0⟩], rfl, World.ownsRow_lit W1 #[.int .i64 9, .int .i64 0, .int .i64 0, .int .i64 0] 1 P1.G.size (by simp [maxLen]) rfl, by simp, P1.D.alloc _, grown_new P1.G _⟩
  obtain ⟨q, rfl, hq1, hq2, -, hcap⟩ := own_some P1.O (by omega)
  have d0 : ((n : Int) == 0) = false := by simp [hn0]
  have hnI : (0 : Int) < n := by omega
  go_wp2_with (at_builtin; refine wpList_app _ rfl _ _ 24 rfl _ _ _ _ rfl rfl hr1 ?_)
  clear hr1
  refine (belowE P1.D n hnI).mono ?_
  rintro e w2 ⟨k', rfl, k0, k1, D, G⟩
  have P := P1.draw D G
  clear D G P1 hq2
  obtain ⟨k, rfl⟩ := Int.eq_ofNat_of_zero_le k0
  go_wp2_with fail
  refine (belowE P.D 6 (by omega)).mono ?_
  rintro e w3 ⟨c, rfl, c0, c1, D, G⟩
  have P := P.draw D G
  clear D G
  have hkx : k < xs.length := by omega
  by_cases e0 : c = 0
  · subst e0
    go_wp2_with fail
    refine (anyE P.D).mono ?_
    rintro e w4 ⟨xk, xa, xb, xc, rfl, -, D, G⟩
    have P := P.draw D G
    clear D G
    have eV : opV xk xa xb xc = .agg #[.int .i64 xk, .int .i64 xa, .int .i64 xb, .int .i64 xc] := rfl
    rw [eV]
    clear eV
    have hO := P.O
    unfold Owns4 Owns at hO
    rw [hn] at hO
    obtain ⟨s0, s1, s2, s3⟩ := at4 (own_at (E := opEl) hO k hkx)
    change w4.cell? ⟨q, k * 4, none⟩ = _ at s0
    change w4.cell? ⟨q, k * 4 + 1, none⟩ = _ at s1
    change w4.cell? ⟨q, k * 4 + 2, none⟩ = _ at s2
    change w4.cell? ⟨q, k * 4 + 3, none⟩ = _ at s3
    have hfz := fun j => hO.frozenAt j
    have P' := P.put hn k hkx ⟨xk, xa, xb, xc⟩
    unfold set4 at P'
    clear hO
    go_wp2
    go_ret
    exact ⟨_, _, rfl, P'.O, by simp; omega, P'.D, P'.G⟩
  by_cases e1 : c = 1
  · subst e1
    have hO := P.O
    unfold Owns4 Owns at hO
    rw [hn] at hO
    obtain ⟨s0, s1, s2, s3⟩ := at4 (own_at (E := opEl) hO k hkx)
    change w3.cell? ⟨q, k * 4, none⟩ = _ at s0
    change w3.cell? ⟨q, k * 4 + 1, none⟩ = _ at s1
    change w3.cell? ⟨q, k * 4 + 2, none⟩ = _ at s2
    change w3.cell? ⟨q, k * 4 + 3, none⟩ = _ at s3
    have hfz := fun j => hO.frozenAt j
    have P' := P.put hn k hkx ⟨11, 0, 0, 0⟩
    unfold set4 at P'
    clear hO
    go_wp2
    go_ret
    exact ⟨_, _, rfl, P'.O, by simp; omega, P'.D, P'.G⟩

  by_cases e2 : c = 2
  · subst e2
    have q1 : (k : Int) ≤ cap1 := by omega
    have q2 : (k : Int) + 1 ≤ n := by omega
    have q3 : (n : Int) ≤ cap1 := by omega
    have q4 : (0 : Int) ≤ (k : Int) + 1 := by omega
    have qw : IntKind.i64.wrap ((k : Int) + 1) = (k : Int) + 1 := by rw [IntKind.wrap_i64]; omega
    obtain ⟨v5, W5, hr5, P5⟩ := P.drew.cut hn k hkx hcap hlen
    go_wp2_with fail
    go_region_held3 (fun _ => True) (go_keep) ((refine step_app rfl (.tmp 45) (.tmp 49) 24 rfl (.slice (some ⟨q, 0, none⟩) k cap1) (.slice (if cap1 = k + 1 then some ⟨q, 0, none⟩ else some ⟨q, (k + 1) * 4, none⟩) (n - (k + 1)) (cap1 - (k + 1))) v5 W5 rfl rfl hr5 ?_))
    go_wp2
    all_goals
      go_ret
      exact ⟨_, _, rfl, P5.O, by simp; omega, P5.D, P5.G⟩
  by_cases e3 : c = 3
  · subst e3
    clear hkx k0 k1
    go_wp2
    go_loopw [5] (fun ov wr => ∃ (a : Option Addr) (m c' : Nat) (ys : List O4), ov = .slice a m c' ∧ ys.length = m ∧ m ≤ 1030 ∧ GSt B g v l w wr (.slice a m c') ys) (fun ov _ => 1030 - (match ov with | .slice _ m _ => m | _ => 0))
    case atStart => exact ⟨_, n, cap1, xs, rfl, hn, by omega, P⟩
    case round =>
      obtain ⟨a, m, c', ys, rfl, hm, hm1, P⟩ := hrel
      go_wp2_with fail
      refine (belowE P.D 2 (by omega)).mono ?_
      rintro e w4 ⟨y, rfl, y0, y1, D, G⟩
      have P := P.draw D G
      clear D G
      by_cases hlt : (m : Int) < 24 + y
      · obtain ⟨o5, W5, hr5, P5, -⟩ := P.push ⟨1, 0, 0, 0⟩ (by omega)
        obtain ⟨a5, cap5, rfl⟩ := P5.O.form
        have hl5 : (ys ++ [(⟨1, 0, 0, 0⟩ : O4)]).length = m + 1 := by simp [hm]
        rw [hl5] at P5 hr5
        go_wp2_with (at_builtin; refine wpList_app _ rfl _ _ 24 rfl _ _ _ _ rfl rfl hr5 ?_)
        clear hr5
        go_roundw
        case rel => exact ⟨a5, m + 1, cap5, _, rfl, hl5, by omega, P5⟩
        case measure => simp; omega
      · go_wp2
        go_ret
        exact ⟨_, ys, rfl, by rw [← hm] at P; rw [hm] at P; exact P.O, by omega, P.D, P.G⟩
  by_cases e4 : c = 4
  · subst e4
    have hO := P.O
    unfold Owns4 Owns at hO
    rw [hn] at hO
    obtain ⟨s0, s1, s2, s3⟩ := at4 (own_at (E := opEl) hO k hkx)
    change w3.cell? ⟨q, k * 4, none⟩ = _ at s0
    change w3.cell? ⟨q, k * 4 + 1, none⟩ = _ at s1
    change w3.cell? ⟨q, k * 4 + 2, none⟩ = _ at s2
    change w3.cell? ⟨q, k * 4 + 3, none⟩ = _ at s3
    have hfz := fun j => hO.frozenAt j
    have P' := P.putB hn k hkx (wrap64 (xs[k].b + 1))
    clear hO
    go_wp2
    go_ret
    exact ⟨_, _, rfl, P'.O, by rw [List.length_set]; omega, P'.D, P'.G⟩

  have e5 : c = 5 := by omega
  subst e5
  go_wp2_with fail
  refine (belowE P.D 2 (by omega)).mono ?_
  rintro e w4 ⟨y, rfl, y0, y1, D, G⟩
  have P := P.draw D G
  clear D G
  have hO := P.O
  unfold Owns4 Owns at hO
  rw [hn] at hO
  obtain ⟨s0, s1, s2, s3⟩ := at4 (own_at (E := opEl) hO k hkx)
  change w4.cell? ⟨q, k * 4, none⟩ = _ at s0
  change w4.cell? ⟨q, k * 4 + 1, none⟩ = _ at s1
  change w4.cell? ⟨q, k * 4 + 2, none⟩ = _ at s2
  change w4.cell? ⟨q, k * 4 + 3, none⟩ = _ at s3
  have hfz := fun j => hO.frozenAt j
  have P' := P.put hn k hkx ⟨9 - y, 0, 0, 0⟩
  unfold set4 at P'
  clear hO
  go_wp2
  go_ret
  exact ⟨_, _, rfl, P'.O, by simp; omega, P'.D, P'.G⟩

end Ops
end Go.Proofs.YtjopmakbnompnaaGreatDoor
/- Some program is drawn, right or spoilt. -/
set_option linter.unusedVariables false
set_option linter.unusedSimpArgs false
namespace Go.Proofs.YtjopmakbnompnaaGreatDoor
open Go.RowKit
namespace Ops
open Bas Flat Draw

section
variable {B g p : Nat} {v : Value} {l : List UInt8} {w W W' : World} {vc vk v' : Value} {xs : List O4} {kss : List (List O4)}
/-- p.Code = v' -/
theorem PSt.code (h : PSt B g v l w W p vc vk xs kss) {ys : List O4} (hc : Owns4 w.heap.size W v' ys) : PSt B g v l w (W.setCell ⟨p, 0, none⟩ v') p v' vk ys kss :=
  have a := h.lt; have b := h.hp
  { D := h.D.set (by omega) _ _, G := grown_store h.G b _ _, P := h.P.set 0 v', O := ⟨hc.other (own_ne hc h.P (by decide)) _, h.O.k.other h.P (by decide) (by decide) _ _⟩, lt := a, hp := b }
/-- p.Kids = nil -/
theorem PSt.noKids (h : PSt B g v l w W p vc vk xs kss) : PSt B g v l w (W.setCell ⟨p, 1, none⟩ (.slice none 0 0)) p vc (.slice none 0 0) xs [] :=
  have a := h.lt; have b := h.hp
  { D := h.D.set (by omega) _ _, G := grown_store h.G b _ _, P := h.P.set 1 _, O := ⟨h.O.c.other (own_ne h.O.c h.P (by decide)) _, OwnK.nil _ _⟩, lt := a, hp := b }
/-- where the kids lie -/
theorem PSt.row (h : PSt B g v l w W p vc vk xs kss) (hk : 0 < kss.length) : ∃ (q m cap : Nat) (ss : List S3), vk = .slice (some ⟨q, 0, none⟩) m cap ∧ m = kss.length ∧ ss.length = kss.length ∧ g < q ∧
    (∀ j (hj : j < ss.length) (hj' : j < kss.length), W.cell? ⟨q, j, none⟩ = some (.slice ss[j].a ss[j].n ss[j].cap) ∧ Owns4 w.heap.size W ss[j].val kss[j]) ∧ (∀ j, j < m → W.frozen? ⟨q, j, none⟩ = false) ∧
    (∀ j (hj : j < kss.length) (s : S3) (ys : List O4), Owns4 w.heap.size W s.val ys → PSt B g v l w (W.setCell ⟨q, j, none⟩ (.slice s.a s.n s.cap)) p vc vk xs (kss.set j ys)) := by
  have hlt := h.lt; have hp := h.hp
  obtain ⟨ss, k1, k2, k3⟩ := h.O.k
  obtain ⟨a, cap, rfl⟩ := k1.form
  obtain ⟨q, rfl, hq1, hq2, -, -⟩ := own_some k1 (by omega)
  have hO := k1
  unfold Owns at hO
  refine ⟨q, ss.length, cap, ss, rfl, k2, k2, by omega, fun j hj hj' => ⟨?_, k3 j hj hj'⟩, fun j hj => ?_, fun j hj s ys hs => ?_⟩
  · have := at1 (own_at (E := slEl) hO j hj)
    change W.cell? ⟨q, j * 1, none⟩ = _ at this
    rw [Nat.mul_one] at this; exact this
  · exact hO.frozenAt j
  · have hset := own_set (E := slEl) hO j (by omega) 0 (by decide) (.slice s.a s.n s.cap) s rfl
    change (W.setCell ⟨q, j * 1 + 0, none⟩ _).ownsRow _ _ _ _ _ _ at hset
    rw [Nat.mul_one, Nat.add_zero] at hset
    obtain ⟨cur, hcur⟩ := own_block k1 q rfl
    have hqp : q ≠ p := own_ne k1 h.P (by decide) q rfl
    have hne4 : ∀ {u : Value} {zs : List O4}, Owns4 w.heap.size W u zs → ∀ k, u.ownBlock = some k → k ≠ q := fun hu k hk e => by
      subst e
      obtain ⟨cur', hc'⟩ := own_block hu k hk
      rw [hcur] at hc'
      simp only [Option.some.injEq, Obj.cells.injEq] at hc'
      exact absurd hc'.2.1 (by decide)
    refine { D := h.D.set (by omega) _ _, G := grown_store h.G hq1 _ _, P := h.P.other (Ne.symm hqp) _ _, O := ⟨h.O.c.other (hne4 h.O.c) _, ⟨ss.set j s, ?_, by simp [k2], fun i h1 h2 => ?_⟩⟩, lt := hlt, hp := hp }
    · unfold Owns
      rw [List.length_set]; exact hset
    · by_cases hij : i = j
      · subst hij
        simp only [List.getElem_set_self]
        exact hs.other (hne4 hs) _
      · rw [List.getElem_set_ne (Ne.symm hij), List.getElem_set_ne (Ne.symm hij)]
        have := k3 i (by simpa using h1) (by simpa using h2)
        exact this.other (hne4 this) _
end

def AnyPost (B g : Nat) (v : Value) (l : List UInt8) (w : World) (e : Ending) (w' : World) : Prop :=
  ∃ vc vk xs kss, e = .returned (.agg #[vc, vk]) ∧ OwnP w.heap.size w' vc vk xs kss ∧ xs.length ≤ 1030 ∧ kss.length ≤ 4 ∧ (∀ ks ∈ kss, ks.length ≤ 1030) ∧ Dr B g v l w' ∧ w.grownBy w' (some g)
end Ops
end Go.Proofs.YtjopmakbnompnaaGreatDoor
