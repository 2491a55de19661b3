/- Some program is drawn: it is the call's own. -/
import Derived.Test.YthmkijbokfiljaaProgOwn
import Derived.Deep.RegionHeld3
set_option linter.unusedVariables false
set_option linter.unusedSimpArgs false
namespace Go.Proofs.Ythmkijbokfiljaa
open Go.RowKit
namespace Ops
open Bas Flat Draw

theorem takeA {P : Program} {ops : Array Oper} {Q : Exit → Act → World → Prop} {md : Region.Mode} {i : Nat} (d : Option Tmp) (v : Value) {oi : Oper} {fuel : Nat} {listed : Array Bool} {a : Act} {w : World} (hi : ops[i]? = some oi) (hd : oi.dst = d)
    (hs : Region.noSelect ops = true) (hf : Region.free md ops listed i = true) (hr : (Region.ready md ops listed).contains i = true)
    (hQ : ∀ c a w, Q (.panic c) (a.put d v) w → Q (.panic c) a w) (hy : Yields P ops oi v a)
    (h : wpAny P md ops Q fuel (listed.setIfInBounds i true) (a.put d v) w) : wpAny P md ops Q (fuel + 1) listed a w := by
  subst hd; exact wpAny_take hi hs hf hr hQ hy h
/-- a program that is being drawn, in its block -/
structure PSt (B g : Nat) (v : Value) (l : List UInt8) (w W : World) (p : Nat) (vc vk : Value) (xs : List O4) (kss : List (List O4)) : Prop where
  D : Dr B g v l W
  G : w.grownBy W (some g)
  P : Blk W p #[vc, vk] 30
  O : OwnP w.heap.size W vc vk xs kss
  lt : g < w.heap.size
  hp : w.heap.size ≤ p
section
variable {B g p : Nat} {v : Value} {l : List UInt8} {w W W' : World} {vc vk : Value} {xs : List O4} {kss : List (List O4)}
theorem PSt.draw (h : PSt B g v l w W p vc vk xs kss) (D : Dr B g v l W') (G : W.grownBy W' (some g)) : PSt B g v l w W' p vc vk xs kss :=
  have a := h.lt; have b := h.hp
  { D := D, G := grown_trans h.G G, P := h.P.grown G (fun e => by injection e; omega), O := h.O.grown G a, lt := a, hp := b }
theorem PSt.drew (h : PSt B g v l w W p vc vk xs kss) : PSt B g v l w W.drew p vc vk xs kss :=
  { D := h.D.drew, G := grown_drew h.G, P := h.P.drew, O := ⟨h.O.c.drew, h.O.k.drew⟩, lt := h.lt, hp := h.hp }
/-- p.Kids = append(p.Kids, Kid{Code: s}) -/
theorem PSt.kid (h : PSt B g v l w W p vc vk xs kss) (s : S3) (ys : List O4) (hs : Owns4 w.heap.size W s.val ys) (hlen : kss.length ≤ 1000000) :
    ∃ v' W', (Builtin.append_ #[28, 28] 28 #[vk, .slice (some ⟨W.heap.size, 0, none⟩) 1 1]).run Try.prog (W.alloc (.cells #[.slice s.a s.n s.cap] 46)) = .ok v' W' ∧ W'.cell? ⟨p, 1, none⟩ = some vk ∧ W'.frozen? ⟨p, 1, none⟩ = false ∧ PSt B g v l w (W'.setCell ⟨p, 1, none⟩ v') p vc v' xs (kss ++ [ys]) := by
  have hlt := h.lt; have hp := h.hp; have hsz := h.G.size
  obtain ⟨v', W', hr, hK, hG, hB⟩ := h.O.k.push hsz s ys hs hlen
  have hne : some p ≠ vk.ownBlock := fun e => by
    obtain ⟨-, cur, hc⟩ := hB p e.symm
    have hb := h.P
    unfold Blk at hb
    rw [hc] at hb
    simp only [Option.some.injEq, Obj.cells.injEq] at hb
    exact absurd hb.2.1 (by decide)
  have P' := h.P.grown hG hne
  have C' : Owns4 w.heap.size W' vc xs := h.O.c.grown hG (fun k hk e => by
    obtain ⟨-, cur, hc⟩ := hB k e.symm
    obtain ⟨cur', hc'⟩ := own_block h.O.c k hk
    rw [hc] at hc'
    simp only [Option.some.injEq, Obj.cells.injEq] at hc'
    exact absurd hc'.2.1 (by decide))
  have D' : Dr B g v l W' := h.D.grown hG (fun k hk => by have := (hB k hk).1; omega)
  have G' : w.grownBy W' (some g) := ⟨hG.os.trans h.G.os, hG.tape.trans h.G.tape, hG.output.trans h.G.output, Nat.le_trans hsz hG.size, fun i hi hne => (hG.block i (by omega) (fun e => by have := (hB i e.symm).1; omega)).trans (h.G.block i hi hne)⟩
  refine ⟨v', W', hr, P'.cell 1, P'.froz 1, { D := D'.set (by omega) _ _, G := grown_store G' hp _ _, P := P'.set 1 v', O := ⟨C'.other (own_ne C' P' (by decide)) _, hK.other P' (by decide) (by decide) _ _⟩, lt := hlt, hp := hp }⟩
end

def ProgPost (B g : Nat) (v : Value) (l : List UInt8) (w : World) (e : Ending) (w' : World) : Prop :=
  ∃ vc vk xs kss, e = .returned (.agg #[vc, vk]) ∧ OwnP w.heap.size w' vc vk xs kss ∧ xs.length ≤ 100 ∧ kss.length ≤ 3 ∧ (∀ ks ∈ kss, ks.length ≤ 100) ∧ Dr B g v l w' ∧ w.grownBy w' (some g)

set_option maxRecDepth 100000 in
set_option maxHeartbeats 8000000 in
theorem progE {B g : Nat} {v : Value} {l : List UInt8} {w : World} (h : Dr B g v l w) (forks : Bool) :
    Calls Try.prog 30 #[.pointer (some ⟨g, 0, none⟩), .bool forks] w (ProgPost B g v l w) := by
  have hlt := h.lt
  have D0 := h.alloc (.cells #[.slice none 0 0, .slice none 0 0] 30)
  have G0 : w.grownBy (w.alloc (.cells #[.slice none 0 0, .slice none 0 0] 30)) (some g) := World.grownBy_alloc w _ _
  have R0 := Blk.new w #[.slice none 0 0, .slice none 0 0] 30
  have hz0 : (w.alloc (.cells #[.slice none 0 0, .slice none 0 0] 30)).heap.size = w.heap.size + 1 := by simp
  obtain ⟨W0, hW0⟩ : ∃ W0, w.alloc (.cells #[.slice none 0 0, .slice none 0 0] 30) = W0 := ⟨_, rfl⟩
  have HW := (show Hid _ from hW0)
  rw [hW0] at D0 G0 R0 hz0
  clear hW0 h
  cases forks
  · go_enter Try.func30, Try.ntmps30
    go_wp2_with fail
    rw [HW.out]
    refine (belowE D0 8 (by omega)).mono ?_
    rintro e w1 ⟨r, rfl, r0, r1, D1, G1⟩
    obtain ⟨m, hm⟩ : ∃ m : Nat, 3 + r = m := ⟨(3 + r).toNat, by omega⟩
    go_wp2_with fail
    refine (gen false 2 (by omega) m (by omega) (by omega) B g v l w1 D1).mono ?_
    rintro e w2 ⟨v2, ys, rfl, O2, hy, D2, G2⟩
    obtain ⟨a2, c2, rfl⟩ := O2.form
    have GG := grown_trans G1 G2
    have R := R0.grown GG (fun e => by injection e; omega)
    have x0 := R.cell 0; have x1 := R.cell 1; have f0 := R.froz 0; have f1 := R.froz 1
    have hw1 := G1.size
    have C := (O2.other (own_ne O2 R (by decide)) (i := 0) (.slice a2 ys.length c2))
    have C := (C.other (own_ne C (R.set 0 _) (by decide)) (i := 1) (.slice none 0 0)).mono (show w.heap.size ≤ w1.heap.size by omega)
    have Dz := (D2.set (show g < w.heap.size by omega) 0 (.slice a2 ys.length c2)).set (show g < w.heap.size by omega) 1 (.slice none 0 0)
    have Gz := grown_store (grown_store (grown_trans G0 GG) (Nat.le_refl _) 0 (.slice a2 ys.length c2)) (Nat.le_refl _) 1 (.slice none 0 0)
    clear D0 G0 R0 D1 G1 D2 G2 GG R
    go_wp2
    refine bodyPost_ret (v := .agg #[.slice a2 ys.length c2, .slice none 0 0]) (by simp [results, Try.results30, go_sem, x0, x1, f0, f1]) rfl ?_
    exact ⟨_, _, ys, [], rfl, ⟨C, OwnK.nil _ _⟩, by omega, by simp, by simp, Dz, Gz⟩
  · go_enter Try.func30, Try.ntmps30
    go_wp2_with fail
    rw [HW.out]
    refine (belowE D0 4 (by omega)).mono ?_
    rintro e w1 ⟨r, rfl, r0, r1, D1, G1⟩
    obtain ⟨m, hm⟩ : ∃ m : Nat, 1 + r = m := ⟨(1 + r).toNat, by omega⟩
    go_wp2_with fail
    refine (gen false 1 (by omega) m (by omega) (by omega) B g v l w1 D1).mono ?_
    rintro e w2 ⟨v2, ys, rfl, O2, hy, D2, G2⟩
    obtain ⟨a2, c2, rfl⟩ := O2.form
    have hw1 := G1.size
    have P : GSt B g v l W0 w2 (.slice a2 ys.length c2) ys := { D := D2, G := grown_trans G1 G2, O := O2.mono hw1, lt := by omega }
    clear D0 D1 G1 D2 G2 O2
    go_wp2_with fail
    refine (belowE P.D 4 (by omega)).mono ?_
    rintro e w3 ⟨s, rfl, s0, s1, D, G⟩
    have P := P.draw D G
    clear D G
    obtain ⟨m2, hm2⟩ : ∃ m : Nat, 1 + s = m := ⟨(1 + s).toNat, by omega⟩
    go_wp2_with fail
    have hob : ∀ k, (Value.slice a2 ys.length c2).ownBlock = some k → k < w3.heap.size := fun k hk => (P.O.at k hk).2
    refine (gen false 1 (by omega) m2 (by omega) (by omega) B g v l w3 P.D).mono ?_
    rintro e w4 ⟨v4, zs, rfl, I, hz, D, G⟩
    obtain ⟨a4, c4, rfl⟩ := I.form
    have P := P.draw D G
    clear D G
    obtain ⟨o5, W5, hr5, P5, G5⟩ := P.push ⟨11, 0, 0, 0⟩ (by omega)
    have I5 := I.grown G5 (fun k hk e => by have := hob k e.symm; have := I.at k hk; omega)
    obtain ⟨o6, W6, hr6, P6, G6⟩ := P5.cat _ zs W5.heap.size I5.sees (by simp; omega)
    obtain ⟨us, hus⟩ : ∃ us, ys ++ [(⟨11, 0, 0, 0⟩ : O4)] ++ zs = us := ⟨_, rfl⟩
    have hul : us.length ≤ 100 := by rw [← hus]; simp; omega
    rw [hus] at P6
    obtain ⟨a6, c6, rfl⟩ := P6.O.form
    have Q : PSt B g v l W0 (W6.alloc (.cells #[.slice a6 us.length c6, .slice none 0 0] 30)) W6.heap.size (.slice a6 us.length c6) (.slice none 0 0) us [] :=
      { D := P6.D.alloc _, G := grown_new P6.G _, P := Blk.new _ _ _, O := ⟨P6.O.on (alloc_below _ _) (Nat.le_refl _), OwnK.nil _ _⟩, lt := P6.lt, hp := P6.G.size }
    obtain ⟨p, hp⟩ : ∃ p, W6.heap.size = p := ⟨_, rfl⟩
    rw [hp] at Q
    clear hus I I5 P P5 P6 G5 G6 hob
    go_wp2_with (at_builtin; first | (refine wpList_app _ rfl _ _ 24 rfl _ _ _ _ rfl rfl hr5 ?_; clear hr5) | (refine wpList_app _ rfl _ _ 24 rfl _ _ _ _ rfl rfl hr6 ?_; clear hr6))
    refine (belowE Q.D 3 (by omega)).mono ?_
    rintro e w7 ⟨t, rfl, t0, t1, D, G⟩
    have Q := Q.draw D G
    clear D G
    go_wp2
    go_loopw [8] (fun nv wr => ∃ (t' : Int) (ak : Option Addr) (nk ck : Nat) (kss : List (List O4)), nv = .int .i64 t' ∧ 0 ≤ t' ∧ (kss.length : Int) + t' ≤ 3 ∧ (∀ ks ∈ kss, ks.length ≤ 100) ∧ PSt B g v l W0 wr p (.slice a6 us.length c6) (.slice ak nk ck) us kss) (fun nv _ => (intOf nv).toNat)
    case atStart => exact ⟨1 + t, none, 0, 0, [], rfl, by omega, by simp; omega, by simp, Q⟩
    case round =>
      obtain ⟨t', ak, nk, ck, kss, rfl, ht0, ht1, hks, Q⟩ := hrel
      by_cases hgo : 0 < t'
      · have x1 := Q.P.cell 1
        have hwr : W0.heap.size ≤ wr.heap.size := Q.G.size
        go_wp2_with fail
        refine wp_region_any (by kernel_rfl) ?_
        change wpAny _ _ _ _ _ _ _ wr.drew
        refine takeA (i := 0) (some 41) (.pointer (some ⟨p, 1, none⟩)) rfl rfl (by kernel_rfl) (by kernel_rfl) (by kernel_rfl) (fun _ _ _ h => h) (Or.inl ⟨by rfl, fun w => by go_simp⟩) ?_
        try simp only [Act.put, List.setIfInBounds_toArray, List.set_cons_zero, List.set_cons_succ]
        refine takeA (i := 2) (some 43) (.pointer (some ⟨g, 0, none⟩)) rfl rfl (by kernel_rfl) (by kernel_rfl) (by kernel_rfl) (fun _ _ _ h => h) (Or.inl ⟨by rfl, fun w => by go_simp⟩) ?_
        try simp only [Act.put, List.setIfInBounds_toArray, List.set_cons_zero, List.set_cons_succ]
        refine takeA (i := 3) (some 44) (.pointer (some ⟨g, 0, none⟩)) rfl rfl (by kernel_rfl) (by kernel_rfl) (by kernel_rfl) (fun _ _ _ h => h) (Or.inl ⟨by rfl, fun w => by go_simp⟩) ?_
        try simp only [Act.put, List.setIfInBounds_toArray, List.set_cons_zero, List.set_cons_succ]
        refine wpAny_ready (rs := [1, 4]) (by kernel_rfl) (by simp) ?_
        refine AllReady.cons rfl (fun K hK0 => ?_) (AllReady.cons rfl (fun K hK0 => ?_) AllReady.nil)
        · have hK := (show Hid _ from hK0)
          clear hK0
          go_simp
          refine hK.out _ _ ?_
          clear hK
          try simp only [Act.put, List.setIfInBounds_toArray, List.set_cons_zero, List.set_cons_succ]
          refine wpAny_ready (rs := [4]) (by kernel_rfl) (by simp) ?_
          refine AllReady.cons rfl (fun K hK0 => ?_) AllReady.nil
          have hK := (show Hid _ from hK0)
          clear hK0
          go_simp
          refine (belowE Q.D.drew 5 (by omega)).mono ?_
          rintro e w8 ⟨y, rfl, y0, y1, D, G⟩
          have Q8 := Q.drew.draw D G
          clear D G x1
          have x1 := Q8.P.cell 1
          obtain ⟨m8, hm8⟩ : ∃ m : Nat, 2 + y = m := ⟨(2 + y).toNat, by omega⟩
          have qm : IntKind.i64.wrap (2 + y) = (m8 : Int) := by rw [hm8, IntKind.wrap_i64]; omega
          have hm81 : 1 ≤ m8 ∧ m8 ≤ 100 := by omega
          have hs8 : W0.heap.size ≤ w8.heap.size := Q8.G.size
          clear hm8
          go_simp
          refine hK.out _ _ ?_
          clear hK
          try simp only [Act.put, List.setIfInBounds_toArray, List.set_cons_zero, List.set_cons_succ]
          refine takeA (i := 5) (some 46) (.int .i64 m8) rfl rfl (by kernel_rfl) (by kernel_rfl) (by kernel_rfl) (fun _ _ _ h => h) (Or.inl ⟨by rfl, fun w => by go_simp⟩) ?_
          try simp only [Act.put, List.setIfInBounds_toArray, List.set_cons_zero, List.set_cons_succ]
          refine wpAny_ready (rs := [6]) (by kernel_rfl) (by simp) ?_
          refine AllReady.cons rfl (fun K hK0 => ?_) AllReady.nil
          have hK := (show Hid _ from hK0)
          clear hK0
          go_simp
          refine (gen true 1 (by omega) m8 (by omega) (by omega) B g v l w8 Q8.D).mono ?_
          rintro e w9 ⟨v9, ks, rfl, O9, hk9, D, G⟩
          have Q9 := Q8.draw D G
          clear D G x1 qm
          have x1 := Q9.P.cell 1
          obtain ⟨a9, c9, rfl⟩ := O9.form
          obtain ⟨v10, W10, hr10, z1, z2, Q10⟩ := Q9.kid ⟨a9, ks.length, c9⟩ ks (O9.mono hs8) (by omega)
          obtain ⟨a10, c10, rfl⟩ := Q10.O.k.form
          obtain ⟨n10, hn10⟩ : ∃ n, (kss ++ [ks]).length = n := ⟨_, rfl⟩
          rw [hn10] at Q10 hr10
          have x2 := ((alloc_below w9 (.cells #[.slice a9 ks.length c9] 46)).cell (p := ⟨p, 1, none⟩) Q9.P.lt).trans x1
          go_simp
          refine hK.out _ _ ?_
          clear hK
          try simp only [Act.put, List.setIfInBounds_toArray, List.set_cons_zero, List.set_cons_succ]
          refine takeA (i := 7) (some 48) (.agg #[.slice a9 ks.length c9]) rfl rfl (by kernel_rfl) (by kernel_rfl) (by kernel_rfl) (fun _ _ _ h => h) (Or.inl ⟨by rfl, fun w => by go_simp⟩) ?_
          try simp only [Act.put, List.setIfInBounds_toArray, List.set_cons_zero, List.set_cons_succ]
          refine wpAny_ready (rs := [8]) (by kernel_rfl) (by simp) ?_
          refine AllReady.cons rfl (fun K hK0 => ?_) AllReady.nil
          have hK := (show Hid _ from hK0)
          clear hK0
          go_simp
          refine hK.out _ _ ?_
          clear hK
          try simp only [Act.put, List.setIfInBounds_toArray, List.set_cons_zero, List.set_cons_succ]
          refine wpAny_ready (rs := [9]) (by kernel_rfl) (by simp) ?_
          refine AllReady.cons rfl (fun K hK0 => ?_) AllReady.nil
          have hK := (show Hid _ from hK0)
          clear hK0
          refine step_app rfl (.tmp 42) (.tmp 49) 28 rfl (.slice ak nk ck) (.slice (some ⟨w9.heap.size, 0, none⟩) 1 1) (.slice a10 n10 c10) W10 rfl rfl hr10 ?_
          refine hK.out _ _ ?_
          clear hK
          try simp only [Act.put, List.setIfInBounds_toArray, List.set_cons_zero, List.set_cons_succ]
          refine takeA (i := 10) (some 51) (.pointer (some ⟨p, 1, none⟩)) rfl rfl (by kernel_rfl) (by kernel_rfl) (by kernel_rfl) (fun _ _ _ h => h) (Or.inl ⟨by rfl, fun w => by go_simp⟩) ?_
          try simp only [Act.put, List.setIfInBounds_toArray, List.set_cons_zero, List.set_cons_succ]
          refine wpAny_ready (rs := [11]) (by kernel_rfl) (by simp) ?_
          refine AllReady.cons rfl (fun K hK0 => ?_) AllReady.nil
          have hK := (show Hid _ from hK0)
          clear hK0
          go_simp
          refine hK.out _ _ ?_
          clear hK
          try simp only [Act.put, List.setIfInBounds_toArray, List.set_cons_zero, List.set_cons_succ]
          refine wpAny_done (by kernel_rfl) ?_ _
          clear x1 x2 z1 z2 hr10 Q Q8 Q9 O9
          go_wp2
          go_roundw
          case rel =>
            refine ⟨t' - 1, _, _, _, kss ++ [ks], by go_num, by omega, by simp; omega, fun k hk => ?_, Q10⟩
            rcases List.mem_append.1 hk with h | h
            · exact hks k h
            · obtain rfl : k = ks := by simpa using h
              omega
          case measure => simp [intOf]; omega
        · have hK := (show Hid _ from hK0)
          clear hK0
          go_simp
          refine (belowE Q.D.drew 5 (by omega)).mono ?_
          rintro e w8 ⟨y, rfl, y0, y1, D, G⟩
          have Q8 := Q.drew.draw D G
          clear D G x1
          have x1 := Q8.P.cell 1
          obtain ⟨m8, hm8⟩ : ∃ m : Nat, 2 + y = m := ⟨(2 + y).toNat, by omega⟩
          have qm : IntKind.i64.wrap (2 + y) = (m8 : Int) := by rw [hm8, IntKind.wrap_i64]; omega
          have hm81 : 1 ≤ m8 ∧ m8 ≤ 100 := by omega
          have hs8 : W0.heap.size ≤ w8.heap.size := Q8.G.size
          clear hm8
          go_simp
          refine hK.out _ _ ?_
          clear hK
          try simp only [Act.put, List.setIfInBounds_toArray, List.set_cons_zero, List.set_cons_succ]
          refine takeA (i := 5) (some 46) (.int .i64 m8) rfl rfl (by kernel_rfl) (by kernel_rfl) (by kernel_rfl) (fun _ _ _ h => h) (Or.inl ⟨by rfl, fun w => by go_simp⟩) ?_
          try simp only [Act.put, List.setIfInBounds_toArray, List.set_cons_zero, List.set_cons_succ]
          refine wpAny_ready (rs := [1, 6]) (by kernel_rfl) (by simp) ?_
          refine AllReady.cons rfl (fun K hK0 => ?_) (AllReady.cons rfl (fun K hK0 => ?_) AllReady.nil)
          · have hK := (show Hid _ from hK0)
            clear hK0
            go_simp
            refine hK.out _ _ ?_
            clear hK
            try simp only [Act.put, List.setIfInBounds_toArray, List.set_cons_zero, List.set_cons_succ]
            refine wpAny_ready (rs := [6]) (by kernel_rfl) (by simp) ?_
            refine AllReady.cons rfl (fun K hK0 => ?_) AllReady.nil
            have hK := (show Hid _ from hK0)
            clear hK0
            go_simp
            refine (gen true 1 (by omega) m8 (by omega) (by omega) B g v l w8 Q8.D).mono ?_
            rintro e w9 ⟨v9, ks, rfl, O9, hk9, D, G⟩
            have Q9 := Q8.draw D G
            clear D G x1 qm
            have x1 := Q9.P.cell 1
            obtain ⟨a9, c9, rfl⟩ := O9.form
            obtain ⟨v10, W10, hr10, z1, z2, Q10⟩ := Q9.kid ⟨a9, ks.length, c9⟩ ks (O9.mono hs8) (by omega)
            obtain ⟨a10, c10, rfl⟩ := Q10.O.k.form
            obtain ⟨n10, hn10⟩ : ∃ n, (kss ++ [ks]).length = n := ⟨_, rfl⟩
            rw [hn10] at Q10 hr10
            have x2 := ((alloc_below w9 (.cells #[.slice a9 ks.length c9] 46)).cell (p := ⟨p, 1, none⟩) Q9.P.lt).trans x1
            go_simp
            refine hK.out _ _ ?_
            clear hK
            try simp only [Act.put, List.setIfInBounds_toArray, List.set_cons_zero, List.set_cons_succ]
            refine takeA (i := 7) (some 48) (.agg #[.slice a9 ks.length c9]) rfl rfl (by kernel_rfl) (by kernel_rfl) (by kernel_rfl) (fun _ _ _ h => h) (Or.inl ⟨by rfl, fun w => by go_simp⟩) ?_
            try simp only [Act.put, List.setIfInBounds_toArray, List.set_cons_zero, List.set_cons_succ]
            refine wpAny_ready (rs := [8]) (by kernel_rfl) (by simp) ?_
            refine AllReady.cons rfl (fun K hK0 => ?_) AllReady.nil
            have hK := (show Hid _ from hK0)
            clear hK0
            go_simp
            refine hK.out _ _ ?_
            clear hK
            try simp only [Act.put, List.setIfInBounds_toArray, List.set_cons_zero, List.set_cons_succ]
            refine wpAny_ready (rs := [9]) (by kernel_rfl) (by simp) ?_
            refine AllReady.cons rfl (fun K hK0 => ?_) AllReady.nil
            have hK := (show Hid _ from hK0)
            clear hK0
            refine step_app rfl (.tmp 42) (.tmp 49) 28 rfl (.slice ak nk ck) (.slice (some ⟨w9.heap.size, 0, none⟩) 1 1) (.slice a10 n10 c10) W10 rfl rfl hr10 ?_
            refine hK.out _ _ ?_
            clear hK
            try simp only [Act.put, List.setIfInBounds_toArray, List.set_cons_zero, List.set_cons_succ]
            refine takeA (i := 10) (some 51) (.pointer (some ⟨p, 1, none⟩)) rfl rfl (by kernel_rfl) (by kernel_rfl) (by kernel_rfl) (fun _ _ _ h => h) (Or.inl ⟨by rfl, fun w => by go_simp⟩) ?_
            try simp only [Act.put, List.setIfInBounds_toArray, List.set_cons_zero, List.set_cons_succ]
            refine wpAny_ready (rs := [11]) (by kernel_rfl) (by simp) ?_
            refine AllReady.cons rfl (fun K hK0 => ?_) AllReady.nil
            have hK := (show Hid _ from hK0)
            clear hK0
            go_simp
            refine hK.out _ _ ?_
            clear hK
            try simp only [Act.put, List.setIfInBounds_toArray, List.set_cons_zero, List.set_cons_succ]
            refine wpAny_done (by kernel_rfl) ?_ _
            clear x1 x2 z1 z2 hr10 Q Q8 Q9 O9
            go_wp2
            go_roundw
            case rel =>
              refine ⟨t' - 1, _, _, _, kss ++ [ks], by go_num, by omega, by simp; omega, fun k hk => ?_, Q10⟩
              rcases List.mem_append.1 hk with h | h
              · exact hks k h
              · obtain rfl : k = ks := by simpa using h
                omega
            case measure => simp [intOf]; omega
          · have hK := (show Hid _ from hK0)
            clear hK0
            go_simp
            refine (gen true 1 (by omega) m8 (by omega) (by omega) B g v l w8 Q8.D).mono ?_
            rintro e w9 ⟨v9, ks, rfl, O9, hk9, D, G⟩
            have Q9 := Q8.draw D G
            clear D G x1 qm
            have x1 := Q9.P.cell 1
            obtain ⟨a9, c9, rfl⟩ := O9.form
            obtain ⟨v10, W10, hr10, z1, z2, Q10⟩ := Q9.kid ⟨a9, ks.length, c9⟩ ks (O9.mono hs8) (by omega)
            obtain ⟨a10, c10, rfl⟩ := Q10.O.k.form
            obtain ⟨n10, hn10⟩ : ∃ n, (kss ++ [ks]).length = n := ⟨_, rfl⟩
            rw [hn10] at Q10 hr10
            have x2 := ((alloc_below w9 (.cells #[.slice a9 ks.length c9] 46)).cell (p := ⟨p, 1, none⟩) Q9.P.lt).trans x1
            go_simp
            refine hK.out _ _ ?_
            clear hK
            try simp only [Act.put, List.setIfInBounds_toArray, List.set_cons_zero, List.set_cons_succ]
            refine takeA (i := 7) (some 48) (.agg #[.slice a9 ks.length c9]) rfl rfl (by kernel_rfl) (by kernel_rfl) (by kernel_rfl) (fun _ _ _ h => h) (Or.inl ⟨by rfl, fun w => by go_simp⟩) ?_
            try simp only [Act.put, List.setIfInBounds_toArray, List.set_cons_zero, List.set_cons_succ]
            refine wpAny_ready (rs := [1, 8]) (by kernel_rfl) (by simp) ?_
            refine AllReady.cons rfl (fun K hK0 => ?_) (AllReady.cons rfl (fun K hK0 => ?_) AllReady.nil)
            · have hK := (show Hid _ from hK0)
              clear hK0
              go_simp
              refine hK.out _ _ ?_
              clear hK
              try simp only [Act.put, List.setIfInBounds_toArray, List.set_cons_zero, List.set_cons_succ]
              refine wpAny_ready (rs := [8]) (by kernel_rfl) (by simp) ?_
              refine AllReady.cons rfl (fun K hK0 => ?_) AllReady.nil
              have hK := (show Hid _ from hK0)
              clear hK0
              go_simp
              refine hK.out _ _ ?_
              clear hK
              try simp only [Act.put, List.setIfInBounds_toArray, List.set_cons_zero, List.set_cons_succ]
              refine wpAny_ready (rs := [9]) (by kernel_rfl) (by simp) ?_
              refine AllReady.cons rfl (fun K hK0 => ?_) AllReady.nil
              have hK := (show Hid _ from hK0)
              clear hK0
              refine step_app rfl (.tmp 42) (.tmp 49) 28 rfl (.slice ak nk ck) (.slice (some ⟨w9.heap.size, 0, none⟩) 1 1) (.slice a10 n10 c10) W10 rfl rfl hr10 ?_
              refine hK.out _ _ ?_
              clear hK
              try simp only [Act.put, List.setIfInBounds_toArray, List.set_cons_zero, List.set_cons_succ]
              refine takeA (i := 10) (some 51) (.pointer (some ⟨p, 1, none⟩)) rfl rfl (by kernel_rfl) (by kernel_rfl) (by kernel_rfl) (fun _ _ _ h => h) (Or.inl ⟨by rfl, fun w => by go_simp⟩) ?_
              try simp only [Act.put, List.setIfInBounds_toArray, List.set_cons_zero, List.set_cons_succ]
              refine wpAny_ready (rs := [11]) (by kernel_rfl) (by simp) ?_
              refine AllReady.cons rfl (fun K hK0 => ?_) AllReady.nil
              have hK := (show Hid _ from hK0)
              clear hK0
              go_simp
              refine hK.out _ _ ?_
              clear hK
              try simp only [Act.put, List.setIfInBounds_toArray, List.set_cons_zero, List.set_cons_succ]
              refine wpAny_done (by kernel_rfl) ?_ _
              clear x1 x2 z1 z2 hr10 Q Q8 Q9 O9
              go_wp2
              go_roundw
              case rel =>
                refine ⟨t' - 1, _, _, _, kss ++ [ks], by go_num, by omega, by simp; omega, fun k hk => ?_, Q10⟩
                rcases List.mem_append.1 hk with h | h
                · exact hks k h
                · obtain rfl : k = ks := by simpa using h
                  omega
              case measure => simp [intOf]; omega
            · have hK := (show Hid _ from hK0)
              clear hK0
              go_simp
              refine hK.out _ _ ?_
              clear hK
              try simp only [Act.put, List.setIfInBounds_toArray, List.set_cons_zero, List.set_cons_succ]
              refine wpAny_ready (rs := [1]) (by kernel_rfl) (by simp) ?_
              refine AllReady.cons rfl (fun K hK0 => ?_) AllReady.nil
              have hK := (show Hid _ from hK0)
              clear hK0
              go_simp
              refine hK.out _ _ ?_
              clear hK
              try simp only [Act.put, List.setIfInBounds_toArray, List.set_cons_zero, List.set_cons_succ]
              refine wpAny_ready (rs := [9]) (by kernel_rfl) (by simp) ?_
              refine AllReady.cons rfl (fun K hK0 => ?_) AllReady.nil
              have hK := (show Hid _ from hK0)
              clear hK0
              refine step_app rfl (.tmp 42) (.tmp 49) 28 rfl (.slice ak nk ck) (.slice (some ⟨w9.heap.size, 0, none⟩) 1 1) (.slice a10 n10 c10) W10 rfl rfl hr10 ?_
              refine hK.out _ _ ?_
              clear hK
              try simp only [Act.put, List.setIfInBounds_toArray, List.set_cons_zero, List.set_cons_succ]
              refine takeA (i := 10) (some 51) (.pointer (some ⟨p, 1, none⟩)) rfl rfl (by kernel_rfl) (by kernel_rfl) (by kernel_rfl) (fun _ _ _ h => h) (Or.inl ⟨by rfl, fun w => by go_simp⟩) ?_
              try simp only [Act.put, List.setIfInBounds_toArray, List.set_cons_zero, List.set_cons_succ]
              refine wpAny_ready (rs := [11]) (by kernel_rfl) (by simp) ?_
              refine AllReady.cons rfl (fun K hK0 => ?_) AllReady.nil
              have hK := (show Hid _ from hK0)
              clear hK0
              go_simp
              refine hK.out _ _ ?_
              clear hK
              try simp only [Act.put, List.setIfInBounds_toArray, List.set_cons_zero, List.set_cons_succ]
              refine wpAny_done (by kernel_rfl) ?_ _
              clear x1 x2 z1 z2 hr10 Q Q8 Q9 O9
              go_wp2
              go_roundw
              case rel =>
                refine ⟨t' - 1, _, _, _, kss ++ [ks], by go_num, by omega, by simp; omega, fun k hk => ?_, Q10⟩
                rcases List.mem_append.1 hk with h | h
                · exact hks k h
                · obtain rfl : k = ks := by simpa using h
                  omega
              case measure => simp [intOf]; omega
      · obtain rfl : t' = 0 := by omega
        have R := R0.grown Q.G (fun e => by injection e; omega)
        have x0 := R.cell 0; have x1 := R.cell 1; have f0 := R.froz 0; have f1 := R.froz 1
        have p0 := Q.P.cell 0; have p1 := Q.P.cell 1
        have hpp := Q.hp
        have GG := grown_trans G0 Q.G
        have C := Q.O.other R (by decide) (by decide) 0 (.slice a6 us.length c6)
        have C := (C.other (R.set 0 _) (by decide) (by decide) 1 (.slice ak nk ck)).mono (show w.heap.size ≤ W0.heap.size by omega)
        have Dz := (Q.D.set (show g < w.heap.size by omega) 0 (.slice a6 us.length c6)).set (show g < w.heap.size by omega) 1 (.slice ak nk ck)
        have Gz := grown_store (grown_store GG (Nat.le_refl _) 0 (.slice a6 us.length c6)) (Nat.le_refl _) 1 (.slice ak nk ck)
        clear Q GG R
        go_wp2
        refine bodyPost_ret (v := .agg #[.slice a6 us.length c6, .slice ak nk ck]) (by simp [results, Try.results30, go_sem, x0, x1, f0, f1]) rfl ?_
        exact ⟨_, _, us, kss, rfl, C, hul, by omega, hks, Dz, Gz⟩
end Ops
end Go.Proofs.Ythmkijbokfiljaa
