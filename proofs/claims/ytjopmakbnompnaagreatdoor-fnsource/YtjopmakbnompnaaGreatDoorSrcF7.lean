/- Several texts of one proof, in build order: SourceFn. -/
import Derived.Test.YtjopmakbnompnaaGreatDoorRdPr11
import Derived.Test.YtjopmakbnompnaaGreatDoorSrcF4
import Derived.Test.YtjopmakbnompnaaGreatDoorSrcF6
/- FnSource answers true at every code. -/
set_option linter.unusedVariables false
set_option linter.unusedSimpArgs false
namespace Go.Proofs.YtjopmakbnompnaaGreatDoor
open Go.RowKit
namespace Ops
open Bas Flat Draw AsErr

theorem fb_txt (s : ByteArray) : (⟨s.data.toList.toArray⟩ : ByteArray) = s := by cases s; simp
theorem fb_len (s : ByteArray) : s.data.toList.length = s.size := by show _ = s.data.size; simp
theorem same_all (xs : List O4) (kss : List (List O4)) : sameProg xs kss xs kss = true := by
  unfold sameProg
  rw [sameGo_self]
  simp only [Bool.true_and, decide_true]
  rw [List.all_eq_true]
  intro p hp
  have : p.1 = p.2 := by
    induction kss with
    | nil => simp at hp
    | cons k r ih =>
      rw [List.zip_cons_cons] at hp
      rcases List.mem_cons.1 hp with rfl | hp
      · rfl
      · exact ih hp
  rw [this]; exact sameGo_self _
theorem OwnP.seesP {B : Nat} {W : World} {vc vk : Value} {xs : List O4} {kss : List (List O4)} (h : OwnP B W vc vk xs kss) : SeesP W.heap.size W vc vk xs kss := ⟨h.c.sees, h.k.sees⟩
/-- what FnSource finds laid -/
structure Laid2 (w : World) : Prop where
  l : Laid w
  e : EType w
theorem Laid2.on {w w' : World} (h : Laid2 w) (hb : Below w.heap.size w w') : Laid2 w' := ⟨h.l.on hb, h.e.on hb⟩
theorem rdp_true {L : Txt} {xs : List O4} {kss : List (List O4)} (h : RdProg L xs kss true) : showProg xs kss = L ∧ Fits xs kss := by
  obtain ⟨l1, l2, l3⟩ := rdp_len h
  rcases h with ⟨-, a, b⟩ | ⟨e, -⟩
  · exact ⟨by unfold showProg; rw [if_pos a]; exact b, by omega, by omega, fun ks hk => by have := l3 ks hk; omega⟩
  · cases e

set_option maxRecDepth 100000 in
theorem sourceBig (a : Option Addr) (len cap : Nat) (w : World) (hb : 1048576 < len) :
    Calls Tryz.prog 3 #[.slice a len cap] w fun e w' => e = .returned (.bool true) ∧ Below w.heap.size w w' := by
  have hbg : decide ((1048576 : Int) < (len : Int)) = true := by simp; omega
  go_enter Tryz.func3, Tryz.ntmps3
  go_wp2_with fail
  refine (Ints.bigC a len cap w).mono ?_
  rw [hbg]
  rintro e w0 ⟨rfl, rfl⟩
  go_wp2
  go_ret
  exact ⟨rfl, Below.refl _ _⟩

set_option maxRecDepth 100000 in
set_option maxHeartbeats 16000000 in
theorem sourceFn (l : List UInt8) (a : Option Addr) (cap : Nat) (w : World) (hC : Draw.Code w.heap.size w (.slice a l.length cap) l) (hl : l.length ≤ 1048576) (hL : Laid2 w) :
    Calls Tryz.prog 3 #[.slice a l.length cap] w fun e w' => e = .returned (.bool true) ∧ Below w.heap.size w w' := by
  have hbg : decide ((1048576 : Int) < (l.length : Int)) = false := by simp; omega
  have c0 := drawShowProgC w.heap.size _ l w hC (Nat.le_refl _) hl
  obtain ⟨t2, ht2, hD2⟩ := drawReadOpX l hl
  have HD1 : Hid (∀ W : World, Below w.heap.size w W → Calls Tryz.prog 11 #[.slice a l.length cap] W (TextDrawn W)) := fun W hb => drawReadProgC w.heap.size _ l W (hC.below hb) hb.size hl
  have HD2 : Hid (∀ W : World, Below w.heap.size w W → Calls Tryz.prog 14 #[.slice a l.length cap] W fun e w' => e = .returned (.string t2) ∧ Below W.heap.size W w') := fun W hb => hD2 (hC.below hb) hb.size
  have HLd : Hid (∀ W, Below w.heap.size w W → Laid2 W) := fun W hb => hL.on hb
  obtain ⟨ln, hln⟩ : ∃ n, l.length = n := ⟨_, rfl⟩
  rw [hln] at hbg c0 HD1 HD2 ⊢
  clear hC hl hD2 hL hln
  go_enter Tryz.func3, Tryz.ntmps3
  go_wp2_with fail
  refine (Ints.bigC a ln cap w).mono ?_
  rw [hbg]
  rintro e w0 ⟨rfl, rfl⟩
  go_wp2_with fail
  refine c0.mono ?_
  rintro e w1 ⟨vc, vk, xs, kss, rfl, O1, hx1, hx2, hx3, b1⟩
  clear c0 hbg
  have HFt : Hid (Fits xs kss) := ⟨by omega, by omega, fun ks hk => by have := hx3 ks hk; omega⟩
  clear hx3
  have bA := alloc_below w1 (.cells #[vc, vk] 27)
  have X1 := Blk.new w1 #[vc, vk] 27
  have O1 := O1.on bA
  have bb1 := b1.trans (bA.mono b1.size)
  obtain ⟨av, cv, rfl⟩ := O1.c.form
  obtain ⟨ak, ck, rfl⟩ := O1.k.form
  obtain ⟨n, hn⟩ : ∃ n, xs.length = n := ⟨_, rfl⟩
  obtain ⟨m, hm⟩ : ∃ m, kss.length = m := ⟨_, rfl⟩
  rw [hn, hm] at O1 X1 bb1 ⊢
  clear bA b1
  have c1 := showProgI _ _ xs kss _ _ O1.seesP (Nat.le_refl _) HFt.out (HLd.out _ bb1).l.t (HLd.out _ bb1).l.d
  have x0 := X1.cell 0; have x1 := X1.cell 1
  go_wp2_with fail
  refine c1.mono ?_
  rintro e w2 ⟨rfl, b2⟩
  clear c1 x0 x1
  have O2 := O1.on b2
  have X2 := X1.on b2 X1.lt
  have bb2 := bb1.trans (b2.mono bb1.size)
  obtain ⟨p1, hp1⟩ : ∃ p, w1.heap.size = p := ⟨_, rfl⟩
  rw [hp1] at X2 ⊢
  clear hp1 O1 X1 bb1 b2
  have c2 := progSpec _ _ xs kss _ w2 O2.seesP (Nat.le_refl _) HFt.out
  obtain ⟨q, hq⟩ : ∃ q, progOk xs kss = q := ⟨_, rfl⟩
  rw [hq] at c2
  have HQ : Hid (progOk xs kss = q) := hq
  clear hq
  have x0 := X2.cell 0; have x1 := X2.cell 1
  go_wp2_with fail
  refine c2.mono ?_
  rintro e w3 ⟨rfl, b3⟩
  clear c2 x0 x1
  have O3 := O2.on b3
  have X3 := X2.on b3 X2.lt
  have bb3 := bb2.trans (b3.mono bb2.size)
  have hsl := prog_len xs kss
  clear O2 X2 bb2 b3
  cases q
  · have HS : Hid (showProg xs kss = []) := sp_none HQ.out
    have eS : (⟨(showProg xs kss).toArray⟩ : ByteArray) = ⟨#[]⟩ := by rw [HS.out]
    rw [eS]
    clear eS HS hsl
    go_wp2_with fail
    refine (HD1.out w3 bb3).mono ?_
    rintro e wA ⟨t, rfl, ht, bA⟩
    have bbA := bb3.trans (bA.mono bb3.size)
    have c4 := readProgI t.data.toList (by rw [fb_len]; omega) wA (HLd.out _ bbA).l (HLd.out _ bbA).e
    rw [fb_txt] at c4
    go_wp2_with fail
    refine c4.mono ?_
    rintro e wB ⟨⟨vc4, vk4, ss4, ys, lss, fine, rfl, Q4, h4⟩, b4⟩
    clear c4
    have bb4 := bbA.trans (b4.mono bbA.size)
    obtain ⟨a4, d4, rfl⟩ := Q4.c.form
    obtain ⟨k4, f4, rfl⟩ := Q4.k.ownK.form
    obtain ⟨n4, hn4⟩ : ∃ n, ys.length = n := ⟨_, rfl⟩
    obtain ⟨m4, hm4⟩ : ∃ m, lss.length = m := ⟨_, rfl⟩
    rw [hn4, hm4] at Q4 ⊢
    have bB := alloc_below wB (.cells #[.slice a4 n4 d4, .slice k4 m4 f4] 27)
    have Y5 := Blk.new wB #[.slice a4 n4 d4, .slice k4 m4 f4] 27
    have Q5 := Q4.on bB
    have bb5 := bb4.trans (bB.mono bb4.size)
    obtain ⟨p5, hp5⟩ : ∃ p, wB.heap.size = p := ⟨_, rfl⟩
    obtain ⟨W5, hW5⟩ : ∃ W, wB.alloc (.cells #[.slice a4 n4 d4, .slice k4 m4 f4] 27) = W := ⟨_, rfl⟩
    rw [hW5] at Y5 Q5 bb5
    rw [hp5] at Y5
    have HW5 := (show Hid _ from hW5)
    have HP5 := (show Hid _ from hp5)
    clear Q4 bB bbA bA b4 bb4 hW5 hp5
    have c6 := readProgC t.data.toList (by rw [fb_len]; omega) W5
    rw [fb_txt] at c6
    go_wp2_with fail
    rw [HW5.out, HP5.out]
    refine c6.mono ?_
    rintro e w6 ⟨⟨vc6, vk6, zs, mss, told, rfl, P6, h6⟩, b6⟩
    clear c6 HW5 HP5
    obtain ⟨rfl, rfl, rfl⟩ := RdProg.unique h6 h4
    clear h6
    have Y6 := Y5.on b6 Y5.lt
    have Q6 := Q5.on b6
    have bb6 := bb5.trans (b6.mono bb5.size)
    have bC := alloc_below w6 (.cells #[vc6, vk6] 27)
    have Y7 := Y6.on bC Y6.lt
    have Q7 := Q6.on bC
    have bb7 := bb6.trans (bC.mono bb6.size)
    obtain ⟨a6, d6, rfl⟩ := P6.c.form
    obtain ⟨k6, f6, rfl⟩ := P6.k.form
    rw [hn4, hm4] at Y7 Q7 bb7 ⊢
    clear Y5 Q5 bb5 Y6 Q6 bb6 b6 bC P6
    have HRd : Hid (RdProg t.data.toList zs mss told) := h4
    clear h4
    go_wp2_with fail
    refine (HD2.out _ bb7).mono ?_
    rintro e w8 ⟨rfl, b8⟩
    have Y8 := Y7.on b8 Y7.lt
    have Q8 := Q7.on b8
    have bb8 := bb7.trans (b8.mono bb7.size)
    clear Y7 Q7 bb7 b8
    have c9 := readOpI t2.data.toList (by rw [fb_len]; omega) w8 (HLd.out _ bb8).l
    rw [fb_txt] at c9
    go_wp2_with fail
    refine c9.mono ?_
    rintro e w9 ⟨⟨o, one, rfl, ho⟩, b9⟩
    clear c9
    have HO : Hid (RdOp t2.data.toList o one) := ho
    clear ho
    have Y9 := Y8.on b9 Y8.lt
    have Q9 := Q8.on b9
    have bb9 := bb8.trans (b9.mono bb8.size)
    have eV : o.val = .agg #[.int .i64 o.k, .int .i64 o.a, .int .i64 o.b, .int .i64 o.c] := rfl
    rw [eV]
    have bD := alloc_below w9 (.cells #[.int .i64 o.k, .int .i64 o.a, .int .i64 o.b, .int .i64 o.c] 36)
    have Z10 := Blk.new w9 #[.int .i64 o.k, .int .i64 o.a, .int .i64 o.b, .int .i64 o.c] 36
    have Y10 := Y9.on bD Y9.lt
    have Q10 := Q9.on bD
    have bb10 := bb9.trans (bD.mono bb9.size)
    clear Y8 Q8 bb8 Y9 Q9 bb9 b9 bD eV
    cases told
    · cases one
      · go_wp2
        go_ret
        exact ⟨rfl, bb10⟩
      · have c11 := showOpI o _ (HLd.out _ bb10).l.t (HLd.out _ bb10).l.d
        rw [(rd_true HO.out).2, fb_txt] at c11
        have eV : o.val = .agg #[.int .i64 o.k, .int .i64 o.a, .int .i64 o.b, .int .i64 o.c] := rfl
        rw [eV] at c11
        have z0 := Z10.cell 0; have z1 := Z10.cell 1; have z2 := Z10.cell 2; have z3 := Z10.cell 3
        clear eV
        go_wp2_with fail
        refine c11.mono ?_
        rintro e w11 ⟨rfl, b11⟩
        clear c11 z0 z1 z2 z3
        have bb11 := bb10.trans (b11.mono bb10.size)
        go_wp2_with fail
        refine (HD2.out _ bb11).mono ?_
        rintro e w12 ⟨rfl, b12⟩
        go_wp2
        go_ret
        exact ⟨by first | rfl | simp, bb11.trans (b12.mono bb11.size)⟩
    · obtain ⟨hsh, hfit⟩ := rdp_true HRd.out
      have c11 := showProgI _ _ zs mss _ _ Q10.seesP (Nat.le_refl _) hfit (HLd.out _ bb10).l.t (HLd.out _ bb10).l.d
      rw [hsh, fb_txt] at c11
      have y0 := Y10.cell 0; have y1 := Y10.cell 1
      clear hsh hfit
      go_wp2_with fail
      refine c11.mono ?_
      rintro e w11 ⟨rfl, b11⟩
      clear c11 y0 y1
      have bb11 := bb10.trans (b11.mono bb10.size)
      have Z11 := Z10.on b11 Z10.lt
      cases one
      · go_wp2
        go_ret
        exact ⟨by first | rfl | simp, bb11⟩
      · have c12 := showOpI o w11 (HLd.out _ bb11).l.t (HLd.out _ bb11).l.d
        rw [(rd_true HO.out).2, fb_txt] at c12
        have eV : o.val = .agg #[.int .i64 o.k, .int .i64 o.a, .int .i64 o.b, .int .i64 o.c] := rfl
        rw [eV] at c12
        have z0 := Z11.cell 0; have z1 := Z11.cell 1; have z2 := Z11.cell 2; have z3 := Z11.cell 3
        clear eV
        go_wp2_with fail
        refine c12.mono ?_
        rintro e w12 ⟨rfl, b12⟩
        clear c12 z0 z1 z2 z3
        have bb12 := bb11.trans (b12.mono bb11.size)
        go_wp2_with fail
        refine (HD2.out _ bb12).mono ?_
        rintro e w13 ⟨rfl, b13⟩
        go_wp2
        go_ret
        exact ⟨by first | rfl | simp, bb12.trans (b13.mono bb12.size)⟩
  · have HR : Hid (RdProg (showProg xs kss) xs kss true) := .inl ⟨rfl, HQ.out, by unfold showProg; rw [if_pos HQ.out]⟩
    have c4 := readProgI (showProg xs kss) (by omega) w3 (HLd.out _ bb3).l (HLd.out _ bb3).e
    obtain ⟨tx, htx⟩ : ∃ t, showProg xs kss = t := ⟨_, rfl⟩
    rw [htx] at c4 HR ⊢
    clear htx hsl
    go_wp2_with fail
    refine c4.mono ?_
    rintro e w4 ⟨⟨vq, kq, sq, ys0, ls0, bq, rfl, Qq, hq4⟩, b4⟩
    clear c4
    obtain ⟨rfl, rfl, rfl⟩ := RdProg.unique hq4 HR.out
    clear hq4
    have O4 := O3.on b4
    have X4 := X3.on b4 X3.lt
    have bb4 := bb3.trans (b4.mono bb3.size)
    obtain ⟨aq, dq, rfl⟩ := Qq.c.form
    obtain ⟨eq, fq, rfl⟩ := Qq.k.ownK.form
    rw [hn, hm] at Qq ⊢
    have bN := alloc_below w4 (.cells #[.slice aq n dq, .slice eq m fq] 27)
    have Yn := Blk.new w4 #[.slice aq n dq, .slice eq m fq] 27
    have X5 := X4.on bN X4.lt
    have O5 := O4.on bN
    have Q5 := Qq.on bN
    have bb5 := bb4.trans (bN.mono bb4.size)
    have c5 := sameProgSpec _ _ _ _ ys0 ys0 ls0 ls0 _ _ O5.seesP Q5.seesP (Nat.le_refl _)
    rw [same_all] at c5
    have x0 := X5.cell 0; have x1 := X5.cell 1; have y0 := Yn.cell 0; have y1 := Yn.cell 1
    clear O3 X3 bb3 O4 X4 bb4 bN Qq b4
    go_wp2_with fail
    refine c5.mono ?_
    rintro e w6' ⟨rfl, b6'⟩
    clear c5 x0 x1 y0 y1
    have bb6' := bb5.trans (b6'.mono bb5.size)
    clear X5 O5 Q5 Yn bb5 b6'
    go_wp2_with fail
    refine (HD1.out w6' bb6').mono ?_
    rintro e wA ⟨t, rfl, ht, bA⟩
    have bbA := bb6'.trans (bA.mono bb6'.size)
    have c4 := readProgI t.data.toList (by rw [fb_len]; omega) wA (HLd.out _ bbA).l (HLd.out _ bbA).e
    rw [fb_txt] at c4
    go_wp2_with fail
    refine c4.mono ?_
    rintro e wB ⟨⟨vc4, vk4, ss4, ys, lss, fine, rfl, Q4, h4⟩, b4⟩
    clear c4
    have bb4 := bbA.trans (b4.mono bbA.size)
    obtain ⟨a4, d4, rfl⟩ := Q4.c.form
    obtain ⟨k4, f4, rfl⟩ := Q4.k.ownK.form
    obtain ⟨n4, hn4⟩ : ∃ n, ys.length = n := ⟨_, rfl⟩
    obtain ⟨m4, hm4⟩ : ∃ m, lss.length = m := ⟨_, rfl⟩
    rw [hn4, hm4] at Q4 ⊢
    have bB := alloc_below wB (.cells #[.slice a4 n4 d4, .slice k4 m4 f4] 27)
    have Y5 := Blk.new wB #[.slice a4 n4 d4, .slice k4 m4 f4] 27
    have Q5 := Q4.on bB
    have bb5 := bb4.trans (bB.mono bb4.size)
    obtain ⟨p5, hp5⟩ : ∃ p, wB.heap.size = p := ⟨_, rfl⟩
    obtain ⟨W5, hW5⟩ : ∃ W, wB.alloc (.cells #[.slice a4 n4 d4, .slice k4 m4 f4] 27) = W := ⟨_, rfl⟩
    rw [hW5] at Y5 Q5 bb5
    rw [hp5] at Y5
    have HW5 := (show Hid _ from hW5)
    have HP5 := (show Hid _ from hp5)
    clear Q4 bB bbA bA b4 bb4 hW5 hp5
    have c6 := readProgC t.data.toList (by rw [fb_len]; omega) W5
    rw [fb_txt] at c6
    go_wp2_with fail
    rw [HW5.out, HP5.out]
    refine c6.mono ?_
    rintro e w6 ⟨⟨vc6, vk6, zs, mss, told, rfl, P6, h6⟩, b6⟩
    clear c6 HW5 HP5
    obtain ⟨rfl, rfl, rfl⟩ := RdProg.unique h6 h4
    clear h6
    have Y6 := Y5.on b6 Y5.lt
    have Q6 := Q5.on b6
    have bb6 := bb5.trans (b6.mono bb5.size)
    have bC := alloc_below w6 (.cells #[vc6, vk6] 27)
    have Y7 := Y6.on bC Y6.lt
    have Q7 := Q6.on bC
    have bb7 := bb6.trans (bC.mono bb6.size)
    obtain ⟨a6, d6, rfl⟩ := P6.c.form
    obtain ⟨k6, f6, rfl⟩ := P6.k.form
    rw [hn4, hm4] at Y7 Q7 bb7 ⊢
    clear Y5 Q5 bb5 Y6 Q6 bb6 b6 bC P6
    have HRd : Hid (RdProg t.data.toList zs mss told) := h4
    clear h4
    go_wp2_with fail
    refine (HD2.out _ bb7).mono ?_
    rintro e w8 ⟨rfl, b8⟩
    have Y8 := Y7.on b8 Y7.lt
    have Q8 := Q7.on b8
    have bb8 := bb7.trans (b8.mono bb7.size)
    clear Y7 Q7 bb7 b8
    have c9 := readOpI t2.data.toList (by rw [fb_len]; omega) w8 (HLd.out _ bb8).l
    rw [fb_txt] at c9
    go_wp2_with fail
    refine c9.mono ?_
    rintro e w9 ⟨⟨o, one, rfl, ho⟩, b9⟩
    clear c9
    have HO : Hid (RdOp t2.data.toList o one) := ho
    clear ho
    have Y9 := Y8.on b9 Y8.lt
    have Q9 := Q8.on b9
    have bb9 := bb8.trans (b9.mono bb8.size)
    have eV : o.val = .agg #[.int .i64 o.k, .int .i64 o.a, .int .i64 o.b, .int .i64 o.c] := rfl
    rw [eV]
    have bD := alloc_below w9 (.cells #[.int .i64 o.k, .int .i64 o.a, .int .i64 o.b, .int .i64 o.c] 36)
    have Z10 := Blk.new w9 #[.int .i64 o.k, .int .i64 o.a, .int .i64 o.b, .int .i64 o.c] 36
    have Y10 := Y9.on bD Y9.lt
    have Q10 := Q9.on bD
    have bb10 := bb9.trans (bD.mono bb9.size)
    clear Y8 Q8 bb8 Y9 Q9 bb9 b9 bD eV
    cases told
    · cases one
      · go_wp2
        go_ret
        exact ⟨rfl, bb10⟩
      · have c11 := showOpI o _ (HLd.out _ bb10).l.t (HLd.out _ bb10).l.d
        rw [(rd_true HO.out).2, fb_txt] at c11
        have eV : o.val = .agg #[.int .i64 o.k, .int .i64 o.a, .int .i64 o.b, .int .i64 o.c] := rfl
        rw [eV] at c11
        have z0 := Z10.cell 0; have z1 := Z10.cell 1; have z2 := Z10.cell 2; have z3 := Z10.cell 3
        clear eV
        go_wp2_with fail
        refine c11.mono ?_
        rintro e w11 ⟨rfl, b11⟩
        clear c11 z0 z1 z2 z3
        have bb11 := bb10.trans (b11.mono bb10.size)
        go_wp2_with fail
        refine (HD2.out _ bb11).mono ?_
        rintro e w12 ⟨rfl, b12⟩
        go_wp2
        go_ret
        exact ⟨by first | rfl | simp, bb11.trans (b12.mono bb11.size)⟩
    · obtain ⟨hsh, hfit⟩ := rdp_true HRd.out
      have c11 := showProgI _ _ zs mss _ _ Q10.seesP (Nat.le_refl _) hfit (HLd.out _ bb10).l.t (HLd.out _ bb10).l.d
      rw [hsh, fb_txt] at c11
      have y0 := Y10.cell 0; have y1 := Y10.cell 1
      clear hsh hfit
      go_wp2_with fail
      refine c11.mono ?_
      rintro e w11 ⟨rfl, b11⟩
      clear c11 y0 y1
      have bb11 := bb10.trans (b11.mono bb10.size)
      have Z11 := Z10.on b11 Z10.lt
      cases one
      · go_wp2
        go_ret
        exact ⟨by first | rfl | simp, bb11⟩
      · have c12 := showOpI o w11 (HLd.out _ bb11).l.t (HLd.out _ bb11).l.d
        rw [(rd_true HO.out).2, fb_txt] at c12
        have eV : o.val = .agg #[.int .i64 o.k, .int .i64 o.a, .int .i64 o.b, .int .i64 o.c] := rfl
        rw [eV] at c12
        have z0 := Z11.cell 0; have z1 := Z11.cell 1; have z2 := Z11.cell 2; have z3 := Z11.cell 3
        clear eV
        go_wp2_with fail
        refine c12.mono ?_
        rintro e w12 ⟨rfl, b12⟩
        clear c12 z0 z1 z2 z3
        have bb12 := bb11.trans (b12.mono bb11.size)
        go_wp2_with fail
        refine (HD2.out _ bb12).mono ?_
        rintro e w13 ⟨rfl, b13⟩
        go_wp2
        go_ret
        exact ⟨by first | rfl | simp, bb12.trans (b13.mono bb12.size)⟩

theorem walkSource (a : Option Addr) (len cap : Nat) (zs : List Int) (w : World) (h : Args.IsRow .u8 w a len cap zs) (hT : WTab w) (ht : Dec.Tab w) (he : ReadDec.Errs w) (hE : EType w) :
    Calls Tryz.prog 3 #[.slice a len cap] w fun e w' => e = .returned (.bool true) ∧ Below w.heap.size w w' := by
  by_cases hb : 1048576 < len
  · exact sourceBig a len cap w hb
  · obtain ⟨l, hl, hC⟩ := Args.code h
    subst hl
    exact sourceFn l a cap w hC (by omega) ⟨⟨hT, ht, he⟩, hE⟩
end Ops
end Go.Proofs.YtjopmakbnompnaaGreatDoor
