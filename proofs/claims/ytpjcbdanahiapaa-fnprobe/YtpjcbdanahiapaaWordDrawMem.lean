/- spec.l3Mem draws a memory of eight words. -/
import Derived.Test.YtpjcbdanahiapaaWordDraw
namespace Go.Proofs.Ytpjcbdanahiapaa
open Go.RowKit
namespace Words
open Draw (Ctx belowC onceC pickC)
open Num (below belowSt below_range)

theorem own_grown {B e size n g : Nat} {w w' : World} {v : Value} {xs : List Value} (h : w.ownsRow B e size v n xs) (hg : w.grownBy w' (some g)) (hB : g < B) : w'.ownsRow B e size v n xs := by
  obtain ⟨h1, h2⟩ := h
  refine ⟨h1, ?_⟩
  rcases h2 with h2 | ⟨b, cap, cur, hv, hb, hh, r⟩
  · exact .inl h2
  · exact .inr ⟨b, cap, cur, hv, hb, by rw [hg.block b (Array.getElem?_eq_some_iff.1 hh).1 (by intro e; injection e with e; omega)]; exact hh, r⟩
theorem own_set {B e size n : Nat} {w : World} {v : Value} {xs : List Value} (h : w.ownsRow B e size v n xs) {q : Nat} (hq : ∀ k, v.ownBlock = some k → k ≠ q) (o : Nat) (u : Value) : (w.setCell ⟨q, o, none⟩ u).ownsRow B e size v n xs := by
  obtain ⟨h1, h2⟩ := h
  refine ⟨h1, ?_⟩
  rcases h2 with h2 | ⟨b, cap, cur, rfl, hb, hh, r⟩
  · exact .inl h2
  · exact .inr ⟨b, cap, cur, rfl, hb, by rw [heap_setCell_other w ⟨q, o, none⟩ b u (hq b rfl)]; exact hh, r⟩
theorem own_at {B e size n : Nat} {w : World} {v : Value} {xs : List Value} (h : w.ownsRow B e size v n xs) : ∀ k, v.ownBlock = some k → B ≤ k ∧ k < w.heap.size := by
  intro k hk
  rcases h.2 with ⟨rfl, _⟩ | ⟨b, cap, cur, rfl, hb, hh, r⟩
  · cases hk
  · cases hk; exact ⟨hb, (Array.getElem?_eq_some_iff.1 hh).1⟩
theorem own_form {B e size n : Nat} {w : World} {v : Value} {xs : List Value} (h : w.ownsRow B e size v n xs) : ∃ a cap, v = .slice a n cap := by
  rcases h.2 with ⟨rfl, rfl⟩ | ⟨g, cap, cur, rfl, _⟩
  · exact ⟨_, _, rfl⟩
  · exact ⟨_, _, rfl⟩

/-- words put behind what the call owns, in a plain region -/
theorem list_appW {ops : Array Oper} {rest : List Oper} {o : Oper} {a : Act} {Q : Exit → Act → World → Prop} (w : World) (hgd : o.guard = none) (s x : Operand)
    (ho : o.op = .call { callee := .builtin .append, args := #[s, x], argTypes := #[24, 24] }) (B n m c : Nat) (A C : List W3) (v : Value) (ad : Addr)
    (hs : a.eval s = v) (hx : a.eval x = .slice (some ad) m c) (hown : w.ownsRow B 37 3 v n (wv A)) (hl : C.length = m)
    (hnews : ∀ j u, (wv C)[j]? = some u → w.cell? (ad.add j) = some u) (hm : 0 < m) (hbig : n + m ≤ 4194304) (hbase : B ≤ w.heap.size)
    (h : ∀ g cap w', Hid (w'.ownsRow B 37 3 (.slice (some ⟨g, 0, none⟩) (n + m) cap) (n + m) (wv (A ++ C))) → Hid (Below B w w') → wpList Try.prog ops Q rest (a.put o.dst (.slice (some ⟨g, 0, none⟩) (n + m) cap)) w') :
    wpList Try.prog ops Q (o :: rest) a w := by
  obtain ⟨i0, hi, hz0, hz1, hz2⟩ := info_parts Try.infoWord
  refine wpList_append_lies w hgd s x 24 ho B 37 i0 _ 3 24 Try.underlying24 hi hz0 hz1 hz2 rfl (by decide) v n (wv A) hs hown ad m c (wv C) hx (by rw [wv_length, hl])
    hnews (wv_one C) hm (by unfold maxLen; omega) (by omega) hbase w.heap.size rfl ?_
  intro g cap w' hown' hgr _ _
  refine h g cap w' ?_ ((Below.refl B w).grown hgr hbase (fun g hg => (hown.lt g hg).1))
  show World.ownsRow _ _ _ _ _ _ _
  rw [wv_append]; exact hown'
theorem newW (w : World) (x : W3) : ∀ j u, (wv [x])[j]? = some u → (w.alloc (.cells #[.int .i64 x.val, .int .i64 x.ver, .int .i64 x.own] 37)).cell? ((⟨w.heap.size, 0, none⟩ : Addr).add j) = some u := by
  intro j u hu
  match j, hu with
  | 0, hu => simp [wv, W3.cells] at hu; subst hu; simp [Addr.add, World.cell?_alloc_at]
  | 1, hu => simp [wv, W3.cells] at hu; subst hu; simp [Addr.add, World.cell?_alloc_at]
  | 2, hu => simp [wv, W3.cells] at hu; subst hu; simp [Addr.add, World.cell?_alloc_at]
  | j + 3, hu => simp [wv, W3.cells] at hu
theorem grown_below {w w1 w2 : World} {g B : Nat} (h : w.grownBy w1 (some g)) (hb : Below B w1 w2) (hB : w.heap.size ≤ B) : w.grownBy w2 (some g) :=
  ⟨hb.os.trans h.os, hb.tape.trans h.tape, hb.output.trans h.output, Nat.le_trans h.size hb.size, fun k hk hne => (hb.block k (by omega)).trans (h.block k hk hne)⟩
theorem grown_setNew {w w1 : World} {g q o : Nat} {u : Value} (h : w.grownBy w1 (some g)) (hq : w.heap.size ≤ q) : w.grownBy (w1.setCell ⟨q, o, none⟩ u) (some g) :=
  ⟨h.os, h.tape, h.output, Nat.le_trans h.size (by simp), fun k hk hne => (heap_setCell_other w1 ⟨q, o, none⟩ k u (by show k ≠ q; omega)).trans (h.block k hk hne)⟩
/-- a word's own variable -/
def Cell (W : World) (q : Nat) (x : W3) : Prop := W.heap[q]? = some (.cells #[.int .i64 x.val, .int .i64 x.ver, .int .i64 x.own] 37 (0, 0))
theorem Cell.lt {W : World} {q : Nat} {x : W3} (h : Cell W q x) : q < W.heap.size := (Array.getElem?_eq_some_iff.1 h).1
theorem Cell.cells {W : World} {q : Nat} {x : W3} (h : Cell W q x) : W.cell? ⟨q, 0, none⟩ = some (.int .i64 x.val) ∧ W.cell? ⟨q, 1, none⟩ = some (.int .i64 x.ver) ∧ W.cell? ⟨q, 2, none⟩ = some (.int .i64 x.own) ∧ ∀ j, W.frozen? ⟨q, j, none⟩ = false :=
  ⟨cell_of_row W q 0 _ _ _ h, cell_of_row W q 1 _ _ _ h, cell_of_row W q 2 _ _ _ h, fun j => frozen_of_row W q j _ _ h⟩
theorem Cell.grown {W W' : World} {q g : Nat} {x : W3} (h : Cell W q x) (hg : W.grownBy W' (some g)) (hne : q ≠ g) : Cell W' q x := (hg.block q h.lt (by intro e; injection e with e; omega)).trans h
theorem Cell.ver {W : World} {q : Nat} {x : W3} (h : Cell W q x) (y : Int) : Cell (W.setCell ⟨q, 1, none⟩ (.int .i64 y)) q ⟨x.val, y, x.own⟩ := by unfold Cell; rw [heap_setCell_same _ _ _ _ _ _ h]; rfl
theorem Cell.own {W : World} {q : Nat} {x : W3} (h : Cell W q x) (y : Int) : Cell (W.setCell ⟨q, 2, none⟩ (.int .i64 y)) q ⟨x.val, x.ver, y⟩ := by unfold Cell; rw [heap_setCell_same _ _ _ _ _ _ h]; rfl
theorem Ctx.setFar {B g : Nat} {v : Value} {l : List UInt8} {s : Num.St} {w : World} (h : Ctx B g v l s w) {q : Nat} (hq : g < q) (o : Nat) (u : Value) : Ctx B g v l s (w.setCell ⟨q, o, none⟩ u) :=
  h.grown (Draw.grown_set w q o u) (fun k e => by injection e with e; omega)
theorem Box.far {W : World} {p : Nat} {c : Int} {v : Value} {t : TypeId} (h : Box W p c v t) {q : Nat} (hq : p ≠ q) (o : Nat) (u : Value) : Box (W.setCell ⟨q, o, none⟩ u) p c v t := (heap_setCell_other W ⟨q, o, none⟩ p u hq).trans h
theorem Box.grownG {W W' : World} {p g : Nat} {c : Int} {v : Value} {t : TypeId} (h : Box W p c v t) (hg : W.grownBy W' (some g)) (hne : p ≠ g) : Box W' p c v t := h.grown hg (by intro e; injection e with e; omega)
theorem Ctx.farBelow {B g : Nat} {v : Value} {l : List UInt8} {s : Num.St} {w w' : World} (h : Ctx B g v l s w) {K : Nat} (hb : Below K w w') (hK : g < K) : Ctx B g v l s w' :=
  ⟨h.code.below (hb.mono (by have := h.low; omega)), (hb.block g hK).trans h.cur, h.low, h.len, h.at_⟩

set_option maxRecDepth 100000 in
set_option maxHeartbeats 4000000 in
theorem memC (B g : Nat) (v : Value) (l : List UInt8) (s : Num.St) (w : World) (h : Ctx B g v l s w) :
    Calls Try.prog 46 #[.pointer (some ⟨g, 0, none⟩)] w fun e w' => ∃ (c : Int) (v' : Value) (ws : List W3) (s' : Num.St), e = .returned (.agg #[.int .i64 c, v']) ∧ Owns w.heap.size w' v' ws ∧ ws.length = 8 ∧ 0 ≤ c ∧ c ≤ 1000000 ∧ Ctx B g v l s' w' ∧ w.grownBy w' (some g) := by
  have hlt := h.cur.lt
  have Y0 := Box.new w 0 (.slice none 0 0) 26
  have C0 := Ctx.alloc h (.cells #[.int .i64 0, .slice none 0 0] 26)
  have c1 := belowC B g v l s 12 _ C0
  have hr1 := below_range l s 12 (by omega)
  obtain ⟨d0, hd0⟩ : ∃ d0, below l s 12 = d0 := ⟨_, rfl⟩
  rw [hd0] at c1 hr1
  clear hd0
  go_enter Try.func46, Try.ntmps46
  go_wp2_with fail
  refine c1.mono ?_
  rintro e w1 ⟨rfl, C1, g1⟩
  have Y1 := Y0.grownG g1 (by omega)
  have gw1 : w.grownBy w1 (some g) := ⟨g1.os, g1.tape, g1.output, Nat.le_trans (by simp) g1.size, fun k hk hne => (g1.block k (by simp; omega) hne).trans (Below.heap_alloc w _ k hk)⟩
  have Bn := (Below.refl w1.heap.size w1).alloc (Nat.le_refl _) (.cells #[.int .i64 d0, .slice none 0 0] 26)
  have X2 := Box.new w1 d0 (.slice none 0 0) 26
  have Y2 := Y1.on Bn Y1.lt
  have C2 := Ctx.alloc C1 (.cells #[.int .i64 d0, .slice none 0 0] 26)
  have gw2 := grown_below gw1 Bn gw1.size
  have hs1 : w.heap.size < w1.heap.size := Y1.lt
  obtain ⟨W2, hW2⟩ : ∃ W2, w1.alloc (.cells #[.int .i64 d0, .slice none 0 0] 26) = W2 := ⟨_, rfl⟩
  obtain ⟨p, hp⟩ : ∃ p, w1.heap.size = p := ⟨_, rfl⟩
  rw [hW2] at X2 Y2 C2 gw2
  rw [hp] at X2 hs1
  have HW2 : Hid _ := hW2
  have HPP : Hid _ := hp
  clear hW2 hp
  obtain ⟨base, hbase⟩ : ∃ base, p + 1 = base := ⟨_, rfl⟩
  clear c1 C0 Y0 C1 g1 Y1 gw1 Bn h
  have c2 := onceC B g v l _ 20 W2 C2
  obtain ⟨b, hb⟩ : ∃ b, (below l (belowSt l s 12) 20 == 0) = b := ⟨_, rfl⟩
  rw [hb] at c2
  clear hb
  cases b
  · go_wp2_with fail
    rw [HW2.out, HPP.out]
    clear HW2 HPP
    refine c2.mono ?_
    rintro e w3 ⟨rfl, C3, g3⟩
    have X3 := X2.grownG g3 (by omega); have Y3 := Y2.grownG g3 (by omega); have gw3 := Draw.grown_trans gw2 g3
    have hbr := below_range l (belowSt l (belowSt l s 12) 20) 3 (by omega)
    clear c2 X2 Y2 C2 gw2 g3
    go_wp2_with fail
    refine (belowC B g v l _ 3 w3 C3).mono ?_
    rintro e w5 ⟨rfl, C5, g5'⟩
    have X5 := X3.grownG g5' (by omega); have Y5 := Y3.grownG g5' (by omega); have g5 := Draw.grown_trans gw3 g5'
    have hs5 : base ≤ w5.heap.size := by have := X5.lt; omega
    obtain ⟨busy, hbusy⟩ : ∃ busy, below l (belowSt l (belowSt l s 12) 20) 3 = busy := ⟨_, rfl⟩
    rw [hbusy] at hbr ⊢
    obtain ⟨c, rfl⟩ : ∃ c, d0 = c := ⟨_, rfl⟩
    have hc0 : 0 ≤ d0 := by omega
    have hc1 : d0 ≤ 1000000 := by omega
    clear hbusy X3 Y3 gw3 C3 g5'
    go_wp2_with fail
    go_loopw [5] (fun i wr => ∃ (k : Nat) (sv : Value) (st : Num.St) (ws' : List W3), k ≤ 8 ∧ i = .int .i64 k ∧ ws'.length = k ∧ wr.ownsRow base 37 3 sv k (wv ws') ∧ Box wr p d0 sv 26 ∧ Box wr w.heap.size 0 (.slice none 0 0) 26 ∧ Ctx B g v l st wr ∧ w.grownBy wr (some g) ∧ base ≤ wr.heap.size) (fun i _ => 8 - (intOf i).toNat)
    case atStart => exact ⟨0, .slice none 0 0, _, [], by omega, rfl, rfl, owns_nil _ _, X5, Y5, C5, g5, hs5⟩
    case round =>
      obtain ⟨k, sv, st, ws', hk, rfl, hwl, hR, hX, hY, hC, hG, hsz⟩ := hrel
      obtain ⟨sa, scap, rfl⟩ := own_form hR
      clear X5 Y5 C5 g5 hs5
      by_cases hlt : k < 8
      · go_wp2_with fail
        refine (drawC B g v l st wr hC).mono ?_
        rintro e w1 ⟨r, s1, rfl, hr0, hr1, C1, g1⟩
        have X1 := hX.grownG g1 (by omega); have Y1 := hY.grownG g1 (by omega); have R1 := own_grown hR g1 (by omega)
        have gw1 := Draw.grown_trans hG g1
        have Bn1 := (Below.refl w1.heap.size w1).alloc (Nat.le_refl _) (.cells #[.int .i64 r, .int .i64 0, .int .i64 0] 37)
        have hs1 : base ≤ w1.heap.size := by have := g1.size; omega
        have X2 := X1.on Bn1 X1.lt; have Y2 := Y1.on Bn1 Y1.lt; have R2 := owns_on R1 Bn1 (Nat.le_refl _)
        have C2 := Ctx.alloc C1 (.cells #[.int .i64 r, .int .i64 0, .int .i64 0] 37)
        have gw2 := grown_below gw1 Bn1 (by omega)
        have Q2 : Cell (w1.alloc (.cells #[.int .i64 r, .int .i64 0, .int .i64 0] 37)) w1.heap.size ⟨r, 0, 0⟩ := heap_alloc_new w1 _
        obtain ⟨W2, hW2⟩ : ∃ W2, w1.alloc (.cells #[.int .i64 r, .int .i64 0, .int .i64 0] 37) = W2 := ⟨_, rfl⟩
        obtain ⟨q, hq⟩ : ∃ q, w1.heap.size = q := ⟨_, rfl⟩
        rw [hW2] at X2 Y2 R2 C2 gw2 Q2
        rw [hq] at Q2
        have x0 := X2.c0; have x1 := X2.c1
        have HW2 : Hid _ := hW2
        have HQ : Hid _ := hq
        have y0 : (w1.alloc (.cells #[.int .i64 r, .int .i64 0, .int .i64 0] 37)).cell? ⟨p, 0, none⟩ = some (.int .i64 d0) := by rw [hW2]; exact x0
        clear hW2
        have hqb : base ≤ q := by omega
        have hown2 : ∀ j, (Value.slice sa k scap).ownBlock = some j → j ≠ q := fun j hj => by have := own_at R1 j hj; omega
        clear hq hX hY hR hC hG g1 X1 Y1 R1 C1 gw1 Bn1
        go_wp2_with fail
        rw [HW2.out, HQ.out]
        clear HW2 HQ x0 x1 y0
        refine (belowC B g v l s1 (d0 + 1) W2 C2).mono ?_
        rintro e w3 ⟨rfl, C3, g3⟩
        obtain ⟨ver, hver⟩ : ∃ ver, below l s1 (d0 + 1) = ver := ⟨_, rfl⟩
        rw [hver]
        clear hver
        have X3 := X2.grownG g3 (by omega); have Y3 := Y2.grownG g3 (by omega); have R3 := own_grown R2 g3 (by omega); have Q3 := Q2.grown g3 (by omega)
        have gw3 := Draw.grown_trans gw2 g3
        have hs3 : base ≤ w3.heap.size := by have := g3.size; have := Q2.lt; omega
        obtain ⟨z0, z1, z2, zf⟩ := Q3.cells
        have X4 := X3.far (q := q) (by omega) 1 (.int .i64 ver); have Y4 := Y3.far (q := q) (by omega) 1 (.int .i64 ver); have R4 := own_set R3 hown2 1 (.int .i64 ver); have Q4 := Q3.ver ver
        have C4 := Ctx.setFar C3 (q := q) (by omega) 1 (.int .i64 ver)
        have gw4 := grown_setNew (q := q) (o := 1) (u := .int .i64 ver) gw3 (by omega)
        have hs4 : base ≤ (w3.setCell ⟨q, 1, none⟩ (.int .i64 ver)).heap.size := by simpa using hs3
        obtain ⟨W4, hW4⟩ : ∃ W4, w3.setCell ⟨q, 1, none⟩ (.int .i64 ver) = W4 := ⟨_, rfl⟩
        rw [hW4] at X4 Y4 R4 Q4 C4 gw4 hs4
        clear X2 Y2 R2 Q2 C2 gw2 X3 Y3 R3 C3 g3 gw3 hs3
        by_cases hbu : 0 < busy
        · have c6 := onceC B g v l _ 4 W4 C4
          obtain ⟨b6, hb6⟩ : ∃ b6, (below l (belowSt l s1 (d0 + 1)) 4 == 0) = b6 := ⟨_, rfl⟩
          rw [hb6] at c6
          clear hb6
          cases b6
          · go_wp2_with fail
            clear hW4 z0 z1 z2 zf
            refine c6.mono ?_
            rintro e Wt ⟨rfl, Ct, g6⟩
            have Xt := X4.grownG g6 (by omega); have Yt := Y4.grownG g6 (by omega); have Rt := own_grown R4 g6 (by omega); have Qt := Q4.grown g6 (by omega)
            have gt := Draw.grown_trans gw4 g6
            have hst : base ≤ Wt.heap.size := by have := g6.size; omega
            obtain ⟨x, hx⟩ : ∃ x : W3, (⟨r, ver, 0⟩ : W3) = x := ⟨_, rfl⟩
            rw [hx] at Qt
            clear hx c6 X4 Y4 R4 Q4 C4 gw4 g6
            obtain ⟨t0, t1, t2, tf⟩ := Qt.cells
            have x0 := Xt.c0; have x1 := Xt.c1
            have xf := fun j => frozen_of_row Wt p j _ _ Xt
            have hqt := Qt.lt
            have hpt := Xt.lt
            have Bn := (Below.refl Wt.heap.size Wt).alloc (Nat.le_refl _) (.cells #[.int .i64 x.val, .int .i64 x.ver, .int .i64 x.own] 37)
            have RR : Hid ((Wt.alloc (.cells #[.int .i64 x.val, .int .i64 x.ver, .int .i64 x.own] 37)).ownsRow base 37 3 (.slice sa k scap) k (wv ws')) := owns_on Rt Bn (Nat.le_refl _)
            have Xn : Hid (Box (Wt.alloc (.cells #[.int .i64 x.val, .int .i64 x.ver, .int .i64 x.own] 37)) p d0 (.slice sa k scap) 26) := Xt.on Bn hpt
            go_wp2_with (at_builtin; refine list_appW _ rfl (.tmp 42) (.tmp 44) rfl base k 1 1 ws' [x] (.slice sa k scap) ⟨Wt.heap.size, 0, none⟩ rfl rfl ?_ rfl ?_ ?_ ?_ ?_ ?_; exact RR.out; exact newW Wt x; omega; omega; (simp; omega); intro gg cap2 w7 hown7 hB7; have y1 := (Box.on Xn.out hB7.out (by omega)).c1; have yf := fun j => frozen_of_row w7 p j _ _ (Box.on Xn.out hB7.out (by omega)))
            have X7 := Box.on Xn.out hB7.out (by omega)
            have Y7 := (Yt.on Bn Yt.lt).on hB7.out (by omega)
            have C7 := Ctx.farBelow (Ctx.alloc Ct (.cells #[.int .i64 x.val, .int .i64 x.ver, .int .i64 x.own] 37)) hB7.out (by omega)
            have g7 := grown_below (grown_below gt Bn (by omega)) hB7.out (by omega)
            have hs7 : base ≤ w7.heap.size := by have := hB7.out.size; simp at this; omega
            go_roundw
            case rel =>
              refine ⟨k + 1, .slice (some ⟨gg, 0, none⟩) (k + 1) cap2, _, ws' ++ [x], by omega, by go_num, by simp [hwl], own_set hown7.out (fun j hj => by have := own_at hown7.out j hj; omega) 1 _, ?_, Y7.far (by omega) 1 _, Ctx.setFar C7 (by omega) 1 _, grown_setNew g7 (by omega), by simpa using hs7⟩
              unfold Box; rw [heap_setCell_same _ _ _ _ _ _ X7]; rfl
            case measure => simp [intOf]; omega
          · go_wp2_with fail
            clear hW4 z0 z1 z2 zf
            refine c6.mono ?_
            rintro e w6 ⟨rfl, C6, g6⟩
            have X6 := X4.grownG g6 (by omega); have Y6 := Y4.grownG g6 (by omega); have R6 := own_grown R4 g6 (by omega); have Q6 := Q4.grown g6 (by omega)
            have gw6 := Draw.grown_trans gw4 g6
            have hs6 : base ≤ w6.heap.size := by have := g6.size; omega
            clear c6 X4 Y4 R4 Q4 C4 gw4 g6
            have hro := below_range l (belowSt l (belowSt l s1 (d0 + 1)) 4) 4 (by omega)
            go_wp2_with fail
            refine (belowC B g v l _ 4 w6 C6).mono ?_
            rintro e w8 ⟨rfl, C8, g8⟩
            obtain ⟨o4, ho4⟩ : ∃ o4, below l (belowSt l (belowSt l s1 (d0 + 1)) 4) 4 = o4 := ⟨_, rfl⟩
            rw [ho4] at hro ⊢
            clear ho4
            have X8 := X6.grownG g8 (by omega); have Y8 := Y6.grownG g8 (by omega); have R8 := own_grown R6 g8 (by omega); have Q8 := Q6.grown g8 (by omega)
            have gw8 := Draw.grown_trans gw6 g8
            have hs8 : base ≤ w8.heap.size := by have := g8.size; omega
            obtain ⟨z0, z1, z2, zf⟩ := Q8.cells
            have Xt := X8.far (q := q) (by omega) 2 (.int .i64 (1 + o4)); have Yt := Y8.far (q := q) (by omega) 2 (.int .i64 (1 + o4)); have Rt := own_set R8 hown2 2 (.int .i64 (1 + o4)); have Qt := Q8.own (1 + o4)
            have Ct := Ctx.setFar C8 (q := q) (by omega) 2 (.int .i64 (1 + o4))
            have gt := grown_setNew (q := q) (o := 2) (u := .int .i64 (1 + o4)) gw8 (by omega)
            have hst : base ≤ (w8.setCell ⟨q, 2, none⟩ (.int .i64 (1 + o4))).heap.size := by simpa using hs8
            obtain ⟨Wt, hWt⟩ : ∃ Wt, w8.setCell ⟨q, 2, none⟩ (.int .i64 (1 + o4)) = Wt := ⟨_, rfl⟩
            rw [hWt] at Xt Yt Rt Qt Ct gt hst
            obtain ⟨x, hx⟩ : ∃ x : W3, (⟨r, ver, 1 + o4⟩ : W3) = x := ⟨_, rfl⟩
            have hx0 : x.val = r := by rw [← hx]
            rw [hx] at Qt
            clear hx hx0 X6 Y6 R6 Q6 C6 gw6 hs6 X8 Y8 R8 C8 gw8 hs8 g8
            obtain ⟨t0, t1, t2, tf⟩ := Qt.cells
            have x0 := Xt.c0; have x1 := Xt.c1
            have xf := fun j => frozen_of_row Wt p j _ _ Xt
            have hqt := Qt.lt
            have hpt := Xt.lt
            have Bn := (Below.refl Wt.heap.size Wt).alloc (Nat.le_refl _) (.cells #[.int .i64 x.val, .int .i64 x.ver, .int .i64 x.own] 37)
            have RR : Hid ((Wt.alloc (.cells #[.int .i64 x.val, .int .i64 x.ver, .int .i64 x.own] 37)).ownsRow base 37 3 (.slice sa k scap) k (wv ws')) := owns_on Rt Bn (Nat.le_refl _)
            have Xn : Hid (Box (Wt.alloc (.cells #[.int .i64 x.val, .int .i64 x.ver, .int .i64 x.own] 37)) p d0 (.slice sa k scap) 26) := Xt.on Bn hpt
            go_wp2_with (at_builtin; refine list_appW _ rfl (.tmp 42) (.tmp 44) rfl base k 1 1 ws' [x] (.slice sa k scap) ⟨Wt.heap.size, 0, none⟩ rfl rfl ?_ rfl ?_ ?_ ?_ ?_ ?_; exact RR.out; exact newW Wt x; omega; omega; (simp; omega); intro gg cap2 w7 hown7 hB7; have y1 := (Box.on Xn.out hB7.out (by omega)).c1; have yf := fun j => frozen_of_row w7 p j _ _ (Box.on Xn.out hB7.out (by omega)))
            have X7 := Box.on Xn.out hB7.out (by omega)
            have Y7 := (Yt.on Bn Yt.lt).on hB7.out (by omega)
            have C7 := Ctx.farBelow (Ctx.alloc Ct (.cells #[.int .i64 x.val, .int .i64 x.ver, .int .i64 x.own] 37)) hB7.out (by omega)
            have g7 := grown_below (grown_below gt Bn (by omega)) hB7.out (by omega)
            have hs7 : base ≤ w7.heap.size := by have := hB7.out.size; simp at this; omega
            go_roundw
            case rel =>
              refine ⟨k + 1, .slice (some ⟨gg, 0, none⟩) (k + 1) cap2, _, ws' ++ [x], by omega, by go_num, by simp [hwl], own_set hown7.out (fun j hj => by have := own_at hown7.out j hj; omega) 1 _, ?_, Y7.far (by omega) 1 _, Ctx.setFar C7 (by omega) 1 _, grown_setNew g7 (by omega), by simpa using hs7⟩
              unfold Box; rw [heap_setCell_same _ _ _ _ _ _ X7]; rfl
            case measure => simp [intOf]; omega
        · have hbu' : decide (0 < busy) = false := by simpa using hbu
          obtain ⟨x, hx⟩ : ∃ x : W3, (⟨r, ver, 0⟩ : W3) = x := ⟨_, rfl⟩
          have Xt := X4; have Yt := Y4; have Rt := R4; have Qt := Q4; have Ct := C4; have gt := gw4; have hst := hs4
          rw [hx] at Qt
          obtain ⟨Wt, rfl⟩ : ∃ Wt, W4 = Wt := ⟨_, rfl⟩
          clear hx X4 Y4 R4 Q4 C4 gw4 hs4
          obtain ⟨t0, t1, t2, tf⟩ := Qt.cells
          have x0 := Xt.c0; have x1 := Xt.c1
          have xf := fun j => frozen_of_row W4 p j _ _ Xt
          have hqt := Qt.lt
          have hpt := Xt.lt
          have Bn := (Below.refl W4.heap.size W4).alloc (Nat.le_refl _) (.cells #[.int .i64 x.val, .int .i64 x.ver, .int .i64 x.own] 37)
          have RR : Hid ((W4.alloc (.cells #[.int .i64 x.val, .int .i64 x.ver, .int .i64 x.own] 37)).ownsRow base 37 3 (.slice sa k scap) k (wv ws')) := owns_on Rt Bn (Nat.le_refl _)
          have Xn : Hid (Box (W4.alloc (.cells #[.int .i64 x.val, .int .i64 x.ver, .int .i64 x.own] 37)) p d0 (.slice sa k scap) 26) := Xt.on Bn hpt
          go_wp2_with (at_builtin; refine list_appW _ rfl (.tmp 42) (.tmp 44) rfl base k 1 1 ws' [x] (.slice sa k scap) ⟨W4.heap.size, 0, none⟩ rfl rfl ?_ rfl ?_ ?_ ?_ ?_ ?_; exact RR.out; exact newW W4 x; omega; omega; (simp; omega); intro gg cap2 w7 hown7 hB7; have y1 := (Box.on Xn.out hB7.out (by omega)).c1; have yf := fun j => frozen_of_row w7 p j _ _ (Box.on Xn.out hB7.out (by omega)))
          have X7 := Box.on Xn.out hB7.out (by omega)
          have Y7 := (Yt.on Bn Yt.lt).on hB7.out (by omega)
          have C7 := Ctx.farBelow (Ctx.alloc Ct (.cells #[.int .i64 x.val, .int .i64 x.ver, .int .i64 x.own] 37)) hB7.out (by omega)
          have g7 := grown_below (grown_below gt Bn (by omega)) hB7.out (by omega)
          have hs7 : base ≤ w7.heap.size := by have := hB7.out.size; simp at this; omega
          go_roundw
          case rel =>
            refine ⟨k + 1, .slice (some ⟨gg, 0, none⟩) (k + 1) cap2, _, ws' ++ [x], by omega, by go_num, by simp [hwl], own_set hown7.out (fun j hj => by have := own_at hown7.out j hj; omega) 1 _, ?_, Y7.far (by omega) 1 _, Ctx.setFar C7 (by omega) 1 _, grown_setNew g7 (by omega), by simpa using hs7⟩
            unfold Box; rw [heap_setCell_same _ _ _ _ _ _ X7]; rfl
          case measure => simp [intOf]; omega
      · obtain rfl : k = 8 := by omega
        have x0 := hX.c0; have x1 := hX.c1
        have j0 := hY.c0; have j1 := hY.c1
        have f0 := fun j => frozen_of_row wr w.heap.size j _ _ hY
        have hO' : Owns base wr (.slice sa 8 scap) ws' := by unfold Owns; rw [hwl]; exact hR
        go_wp2
        refine bodyPost_ret (v := .agg #[.int .i64 d0, .slice sa 8 scap]) (by simp [results, Try.results46, go_sem, j0, j1]) rfl ⟨d0, _, ws', st, rfl, ?_, hwl, hc0, hc1, ?_, ?_⟩
        · exact ((hO'.setCell (by simp; omega) _).setCell (by simp; omega) _).mono (by omega)
        · exact Ctx.setFar (Ctx.setFar hC (by omega) 0 _) (by omega) 1 _
        · exact grown_setNew (grown_setNew hG (by omega)) (by omega)
  · go_wp2_with fail
    rw [HW2.out, HPP.out]
    clear HW2 HPP
    refine c2.mono ?_
    rintro e w3 ⟨rfl, C3, g3⟩
    have X3 := X2.grownG g3 (by omega); have Y3 := Y2.grownG g3 (by omega); have gw3 := Draw.grown_trans gw2 g3
    have hdr := below_range l (belowSt l (belowSt l s 12) 20) 2 (by omega)
    clear c2 X2 Y2 C2 gw2 g3
    go_wp2_with fail
    refine (belowC B g v l _ 2 w3 C3).mono ?_
    rintro e w4 ⟨rfl, C4, g4⟩
    obtain ⟨d2, hd2⟩ : ∃ d2, below l (belowSt l (belowSt l s 12) 20) 2 = d2 := ⟨_, rfl⟩
    rw [hd2] at hdr ⊢
    clear hd2
    have X4 := X3.grownG g4 (by omega); have Y4 := Y3.grownG g4 (by omega); have gw4 := Draw.grown_trans gw3 g4
    have x0 := X4.c0; have xf := fun j => frozen_of_row w4 p j _ _ X4
    have X4' : Box (w4.setCell ⟨p, 0, none⟩ (.int .i64 (1000000 - d2))) p (1000000 - d2) (.slice none 0 0) 26 := by unfold Box; rw [heap_setCell_same _ _ _ _ _ _ X4]; rfl
    have Y4' := Y4.far (q := p) (by omega) 0 (.int .i64 (1000000 - d2))
    have C4' := Ctx.setFar C4 (q := p) (by omega) 0 (.int .i64 (1000000 - d2))
    have gw4' := grown_setNew (q := p) (o := 0) (u := .int .i64 (1000000 - d2)) gw4 (by omega)
    have hbr := below_range l (belowSt l (belowSt l (belowSt l s 12) 20) 2) 3 (by omega)
    clear X3 Y3 gw3 C3 g4 X4 Y4 C4 gw4
    go_wp2_with fail
    refine (belowC B g v l _ 3 _ C4').mono ?_
    rintro e w5 ⟨rfl, C5, g5'⟩
    have X5 := X4'.grownG g5' (by omega); have Y5 := Y4'.grownG g5' (by omega); have g5 := Draw.grown_trans gw4' g5'
    have hs5 : base ≤ w5.heap.size := by have := X5.lt; omega
    obtain ⟨busy, hbusy⟩ : ∃ busy, below l (belowSt l (belowSt l (belowSt l s 12) 20) 2) 3 = busy := ⟨_, rfl⟩
    rw [hbusy] at hbr ⊢
    obtain ⟨c, hc⟩ : ∃ c, 1000000 - d2 = c := ⟨_, rfl⟩
    rw [hc] at X5
    have hc0 : 0 ≤ c := by omega
    have hc1 : c ≤ 1000000 := by omega
    clear hbusy X4' Y4' C4' gw4' g5' x0 xf hc
    go_wp2_with fail
    go_loopw [5] (fun i wr => ∃ (k : Nat) (sv : Value) (st : Num.St) (ws' : List W3), k ≤ 8 ∧ i = .int .i64 k ∧ ws'.length = k ∧ wr.ownsRow base 37 3 sv k (wv ws') ∧ Box wr p c sv 26 ∧ Box wr w.heap.size 0 (.slice none 0 0) 26 ∧ Ctx B g v l st wr ∧ w.grownBy wr (some g) ∧ base ≤ wr.heap.size) (fun i _ => 8 - (intOf i).toNat)
    case atStart => exact ⟨0, .slice none 0 0, _, [], by omega, rfl, rfl, owns_nil _ _, X5, Y5, C5, g5, hs5⟩
    case round =>
      obtain ⟨k, sv, st, ws', hk, rfl, hwl, hR, hX, hY, hC, hG, hsz⟩ := hrel
      obtain ⟨sa, scap, rfl⟩ := own_form hR
      clear X5 Y5 C5 g5 hs5
      by_cases hlt : k < 8
      · go_wp2_with fail
        refine (drawC B g v l st wr hC).mono ?_
        rintro e w1 ⟨r, s1, rfl, hr0, hr1, C1, g1⟩
        have X1 := hX.grownG g1 (by omega); have Y1 := hY.grownG g1 (by omega); have R1 := own_grown hR g1 (by omega)
        have gw1 := Draw.grown_trans hG g1
        have Bn1 := (Below.refl w1.heap.size w1).alloc (Nat.le_refl _) (.cells #[.int .i64 r, .int .i64 0, .int .i64 0] 37)
        have hs1 : base ≤ w1.heap.size := by have := g1.size; omega
        have X2 := X1.on Bn1 X1.lt; have Y2 := Y1.on Bn1 Y1.lt; have R2 := owns_on R1 Bn1 (Nat.le_refl _)
        have C2 := Ctx.alloc C1 (.cells #[.int .i64 r, .int .i64 0, .int .i64 0] 37)
        have gw2 := grown_below gw1 Bn1 (by omega)
        have Q2 : Cell (w1.alloc (.cells #[.int .i64 r, .int .i64 0, .int .i64 0] 37)) w1.heap.size ⟨r, 0, 0⟩ := heap_alloc_new w1 _
        obtain ⟨W2, hW2⟩ : ∃ W2, w1.alloc (.cells #[.int .i64 r, .int .i64 0, .int .i64 0] 37) = W2 := ⟨_, rfl⟩
        obtain ⟨q, hq⟩ : ∃ q, w1.heap.size = q := ⟨_, rfl⟩
        rw [hW2] at X2 Y2 R2 C2 gw2 Q2
        rw [hq] at Q2
        have x0 := X2.c0; have x1 := X2.c1
        have HW2 : Hid _ := hW2
        have HQ : Hid _ := hq
        have y0 : (w1.alloc (.cells #[.int .i64 r, .int .i64 0, .int .i64 0] 37)).cell? ⟨p, 0, none⟩ = some (.int .i64 c) := by rw [hW2]; exact x0
        clear hW2
        have hqb : base ≤ q := by omega
        have hown2 : ∀ j, (Value.slice sa k scap).ownBlock = some j → j ≠ q := fun j hj => by have := own_at R1 j hj; omega
        clear hq hX hY hR hC hG g1 X1 Y1 R1 C1 gw1 Bn1
        go_wp2_with fail
        rw [HW2.out, HQ.out]
        clear HW2 HQ x0 x1 y0
        refine (belowC B g v l s1 (c + 1) W2 C2).mono ?_
        rintro e w3 ⟨rfl, C3, g3⟩
        obtain ⟨ver, hver⟩ : ∃ ver, below l s1 (c + 1) = ver := ⟨_, rfl⟩
        rw [hver]
        clear hver
        have X3 := X2.grownG g3 (by omega); have Y3 := Y2.grownG g3 (by omega); have R3 := own_grown R2 g3 (by omega); have Q3 := Q2.grown g3 (by omega)
        have gw3 := Draw.grown_trans gw2 g3
        have hs3 : base ≤ w3.heap.size := by have := g3.size; have := Q2.lt; omega
        obtain ⟨z0, z1, z2, zf⟩ := Q3.cells
        have X4 := X3.far (q := q) (by omega) 1 (.int .i64 ver); have Y4 := Y3.far (q := q) (by omega) 1 (.int .i64 ver); have R4 := own_set R3 hown2 1 (.int .i64 ver); have Q4 := Q3.ver ver
        have C4 := Ctx.setFar C3 (q := q) (by omega) 1 (.int .i64 ver)
        have gw4 := grown_setNew (q := q) (o := 1) (u := .int .i64 ver) gw3 (by omega)
        have hs4 : base ≤ (w3.setCell ⟨q, 1, none⟩ (.int .i64 ver)).heap.size := by simpa using hs3
        obtain ⟨W4, hW4⟩ : ∃ W4, w3.setCell ⟨q, 1, none⟩ (.int .i64 ver) = W4 := ⟨_, rfl⟩
        rw [hW4] at X4 Y4 R4 Q4 C4 gw4 hs4
        clear X2 Y2 R2 Q2 C2 gw2 X3 Y3 R3 C3 g3 gw3 hs3
        by_cases hbu : 0 < busy
        · have c6 := onceC B g v l _ 4 W4 C4
          obtain ⟨b6, hb6⟩ : ∃ b6, (below l (belowSt l s1 (c + 1)) 4 == 0) = b6 := ⟨_, rfl⟩
          rw [hb6] at c6
          clear hb6
          cases b6
          · go_wp2_with fail
            clear hW4 z0 z1 z2 zf
            refine c6.mono ?_
            rintro e Wt ⟨rfl, Ct, g6⟩
            have Xt := X4.grownG g6 (by omega); have Yt := Y4.grownG g6 (by omega); have Rt := own_grown R4 g6 (by omega); have Qt := Q4.grown g6 (by omega)
            have gt := Draw.grown_trans gw4 g6
            have hst : base ≤ Wt.heap.size := by have := g6.size; omega
            obtain ⟨x, hx⟩ : ∃ x : W3, (⟨r, ver, 0⟩ : W3) = x := ⟨_, rfl⟩
            rw [hx] at Qt
            clear hx c6 X4 Y4 R4 Q4 C4 gw4 g6
            obtain ⟨t0, t1, t2, tf⟩ := Qt.cells
            have x0 := Xt.c0; have x1 := Xt.c1
            have xf := fun j => frozen_of_row Wt p j _ _ Xt
            have hqt := Qt.lt
            have hpt := Xt.lt
            have Bn := (Below.refl Wt.heap.size Wt).alloc (Nat.le_refl _) (.cells #[.int .i64 x.val, .int .i64 x.ver, .int .i64 x.own] 37)
            have RR : Hid ((Wt.alloc (.cells #[.int .i64 x.val, .int .i64 x.ver, .int .i64 x.own] 37)).ownsRow base 37 3 (.slice sa k scap) k (wv ws')) := owns_on Rt Bn (Nat.le_refl _)
            have Xn : Hid (Box (Wt.alloc (.cells #[.int .i64 x.val, .int .i64 x.ver, .int .i64 x.own] 37)) p c (.slice sa k scap) 26) := Xt.on Bn hpt
            go_wp2_with (at_builtin; refine list_appW _ rfl (.tmp 42) (.tmp 44) rfl base k 1 1 ws' [x] (.slice sa k scap) ⟨Wt.heap.size, 0, none⟩ rfl rfl ?_ rfl ?_ ?_ ?_ ?_ ?_; exact RR.out; exact newW Wt x; omega; omega; (simp; omega); intro gg cap2 w7 hown7 hB7; have y1 := (Box.on Xn.out hB7.out (by omega)).c1; have yf := fun j => frozen_of_row w7 p j _ _ (Box.on Xn.out hB7.out (by omega)))
            have X7 := Box.on Xn.out hB7.out (by omega)
            have Y7 := (Yt.on Bn Yt.lt).on hB7.out (by omega)
            have C7 := Ctx.farBelow (Ctx.alloc Ct (.cells #[.int .i64 x.val, .int .i64 x.ver, .int .i64 x.own] 37)) hB7.out (by omega)
            have g7 := grown_below (grown_below gt Bn (by omega)) hB7.out (by omega)
            have hs7 : base ≤ w7.heap.size := by have := hB7.out.size; simp at this; omega
            go_roundw
            case rel =>
              refine ⟨k + 1, .slice (some ⟨gg, 0, none⟩) (k + 1) cap2, _, ws' ++ [x], by omega, by go_num, by simp [hwl], own_set hown7.out (fun j hj => by have := own_at hown7.out j hj; omega) 1 _, ?_, Y7.far (by omega) 1 _, Ctx.setFar C7 (by omega) 1 _, grown_setNew g7 (by omega), by simpa using hs7⟩
              unfold Box; rw [heap_setCell_same _ _ _ _ _ _ X7]; rfl
            case measure => simp [intOf]; omega
          · go_wp2_with fail
            clear hW4 z0 z1 z2 zf
            refine c6.mono ?_
            rintro e w6 ⟨rfl, C6, g6⟩
            have X6 := X4.grownG g6 (by omega); have Y6 := Y4.grownG g6 (by omega); have R6 := own_grown R4 g6 (by omega); have Q6 := Q4.grown g6 (by omega)
            have gw6 := Draw.grown_trans gw4 g6
            have hs6 : base ≤ w6.heap.size := by have := g6.size; omega
            clear c6 X4 Y4 R4 Q4 C4 gw4 g6
            have hro := below_range l (belowSt l (belowSt l s1 (c + 1)) 4) 4 (by omega)
            go_wp2_with fail
            refine (belowC B g v l _ 4 w6 C6).mono ?_
            rintro e w8 ⟨rfl, C8, g8⟩
            obtain ⟨o4, ho4⟩ : ∃ o4, below l (belowSt l (belowSt l s1 (c + 1)) 4) 4 = o4 := ⟨_, rfl⟩
            rw [ho4] at hro ⊢
            clear ho4
            have X8 := X6.grownG g8 (by omega); have Y8 := Y6.grownG g8 (by omega); have R8 := own_grown R6 g8 (by omega); have Q8 := Q6.grown g8 (by omega)
            have gw8 := Draw.grown_trans gw6 g8
            have hs8 : base ≤ w8.heap.size := by have := g8.size; omega
            obtain ⟨z0, z1, z2, zf⟩ := Q8.cells
            have Xt := X8.far (q := q) (by omega) 2 (.int .i64 (1 + o4)); have Yt := Y8.far (q := q) (by omega) 2 (.int .i64 (1 + o4)); have Rt := own_set R8 hown2 2 (.int .i64 (1 + o4)); have Qt := Q8.own (1 + o4)
            have Ct := Ctx.setFar C8 (q := q) (by omega) 2 (.int .i64 (1 + o4))
            have gt := grown_setNew (q := q) (o := 2) (u := .int .i64 (1 + o4)) gw8 (by omega)
            have hst : base ≤ (w8.setCell ⟨q, 2, none⟩ (.int .i64 (1 + o4))).heap.size := by simpa using hs8
            obtain ⟨Wt, hWt⟩ : ∃ Wt, w8.setCell ⟨q, 2, none⟩ (.int .i64 (1 + o4)) = Wt := ⟨_, rfl⟩
            rw [hWt] at Xt Yt Rt Qt Ct gt hst
            obtain ⟨x, hx⟩ : ∃ x : W3, (⟨r, ver, 1 + o4⟩ : W3) = x := ⟨_, rfl⟩
            have hx0 : x.val = r := by rw [← hx]
            rw [hx] at Qt
            clear hx hx0 X6 Y6 R6 Q6 C6 gw6 hs6 X8 Y8 R8 C8 gw8 hs8 g8
            obtain ⟨t0, t1, t2, tf⟩ := Qt.cells
            have x0 := Xt.c0; have x1 := Xt.c1
            have xf := fun j => frozen_of_row Wt p j _ _ Xt
            have hqt := Qt.lt
            have hpt := Xt.lt
            have Bn := (Below.refl Wt.heap.size Wt).alloc (Nat.le_refl _) (.cells #[.int .i64 x.val, .int .i64 x.ver, .int .i64 x.own] 37)
            have RR : Hid ((Wt.alloc (.cells #[.int .i64 x.val, .int .i64 x.ver, .int .i64 x.own] 37)).ownsRow base 37 3 (.slice sa k scap) k (wv ws')) := owns_on Rt Bn (Nat.le_refl _)
            have Xn : Hid (Box (Wt.alloc (.cells #[.int .i64 x.val, .int .i64 x.ver, .int .i64 x.own] 37)) p c (.slice sa k scap) 26) := Xt.on Bn hpt
            go_wp2_with (at_builtin; refine list_appW _ rfl (.tmp 42) (.tmp 44) rfl base k 1 1 ws' [x] (.slice sa k scap) ⟨Wt.heap.size, 0, none⟩ rfl rfl ?_ rfl ?_ ?_ ?_ ?_ ?_; exact RR.out; exact newW Wt x; omega; omega; (simp; omega); intro gg cap2 w7 hown7 hB7; have y1 := (Box.on Xn.out hB7.out (by omega)).c1; have yf := fun j => frozen_of_row w7 p j _ _ (Box.on Xn.out hB7.out (by omega)))
            have X7 := Box.on Xn.out hB7.out (by omega)
            have Y7 := (Yt.on Bn Yt.lt).on hB7.out (by omega)
            have C7 := Ctx.farBelow (Ctx.alloc Ct (.cells #[.int .i64 x.val, .int .i64 x.ver, .int .i64 x.own] 37)) hB7.out (by omega)
            have g7 := grown_below (grown_below gt Bn (by omega)) hB7.out (by omega)
            have hs7 : base ≤ w7.heap.size := by have := hB7.out.size; simp at this; omega
            go_roundw
            case rel =>
              refine ⟨k + 1, .slice (some ⟨gg, 0, none⟩) (k + 1) cap2, _, ws' ++ [x], by omega, by go_num, by simp [hwl], own_set hown7.out (fun j hj => by have := own_at hown7.out j hj; omega) 1 _, ?_, Y7.far (by omega) 1 _, Ctx.setFar C7 (by omega) 1 _, grown_setNew g7 (by omega), by simpa using hs7⟩
              unfold Box; rw [heap_setCell_same _ _ _ _ _ _ X7]; rfl
            case measure => simp [intOf]; omega
        · have hbu' : decide (0 < busy) = false := by simpa using hbu
          obtain ⟨x, hx⟩ : ∃ x : W3, (⟨r, ver, 0⟩ : W3) = x := ⟨_, rfl⟩
          have Xt := X4; have Yt := Y4; have Rt := R4; have Qt := Q4; have Ct := C4; have gt := gw4; have hst := hs4
          rw [hx] at Qt
          obtain ⟨Wt, rfl⟩ : ∃ Wt, W4 = Wt := ⟨_, rfl⟩
          clear hx X4 Y4 R4 Q4 C4 gw4 hs4
          obtain ⟨t0, t1, t2, tf⟩ := Qt.cells
          have x0 := Xt.c0; have x1 := Xt.c1
          have xf := fun j => frozen_of_row W4 p j _ _ Xt
          have hqt := Qt.lt
          have hpt := Xt.lt
          have Bn := (Below.refl W4.heap.size W4).alloc (Nat.le_refl _) (.cells #[.int .i64 x.val, .int .i64 x.ver, .int .i64 x.own] 37)
          have RR : Hid ((W4.alloc (.cells #[.int .i64 x.val, .int .i64 x.ver, .int .i64 x.own] 37)).ownsRow base 37 3 (.slice sa k scap) k (wv ws')) := owns_on Rt Bn (Nat.le_refl _)
          have Xn : Hid (Box (W4.alloc (.cells #[.int .i64 x.val, .int .i64 x.ver, .int .i64 x.own] 37)) p c (.slice sa k scap) 26) := Xt.on Bn hpt
          go_wp2_with (at_builtin; refine list_appW _ rfl (.tmp 42) (.tmp 44) rfl base k 1 1 ws' [x] (.slice sa k scap) ⟨W4.heap.size, 0, none⟩ rfl rfl ?_ rfl ?_ ?_ ?_ ?_ ?_; exact RR.out; exact newW W4 x; omega; omega; (simp; omega); intro gg cap2 w7 hown7 hB7; have y1 := (Box.on Xn.out hB7.out (by omega)).c1; have yf := fun j => frozen_of_row w7 p j _ _ (Box.on Xn.out hB7.out (by omega)))
          have X7 := Box.on Xn.out hB7.out (by omega)
          have Y7 := (Yt.on Bn Yt.lt).on hB7.out (by omega)
          have C7 := Ctx.farBelow (Ctx.alloc Ct (.cells #[.int .i64 x.val, .int .i64 x.ver, .int .i64 x.own] 37)) hB7.out (by omega)
          have g7 := grown_below (grown_below gt Bn (by omega)) hB7.out (by omega)
          have hs7 : base ≤ w7.heap.size := by have := hB7.out.size; simp at this; omega
          go_roundw
          case rel =>
            refine ⟨k + 1, .slice (some ⟨gg, 0, none⟩) (k + 1) cap2, _, ws' ++ [x], by omega, by go_num, by simp [hwl], own_set hown7.out (fun j hj => by have := own_at hown7.out j hj; omega) 1 _, ?_, Y7.far (by omega) 1 _, Ctx.setFar C7 (by omega) 1 _, grown_setNew g7 (by omega), by simpa using hs7⟩
            unfold Box; rw [heap_setCell_same _ _ _ _ _ _ X7]; rfl
          case measure => simp [intOf]; omega
      · obtain rfl : k = 8 := by omega
        have x0 := hX.c0; have x1 := hX.c1
        have j0 := hY.c0; have j1 := hY.c1
        have f0 := fun j => frozen_of_row wr w.heap.size j _ _ hY
        have hO' : Owns base wr (.slice sa 8 scap) ws' := by unfold Owns; rw [hwl]; exact hR
        go_wp2
        refine bodyPost_ret (v := .agg #[.int .i64 c, .slice sa 8 scap]) (by simp [results, Try.results46, go_sem, j0, j1]) rfl ⟨c, _, ws', st, rfl, ?_, hwl, hc0, hc1, ?_, ?_⟩
        · exact ((hO'.setCell (by simp; omega) _).setCell (by simp; omega) _).mono (by omega)
        · exact Ctx.setFar (Ctx.setFar hC (by omega) 0 _) (by omega) 1 _
        · exact grown_setNew (grown_setNew hG (by omega)) (by omega)
end Words
end Go.Proofs.Ytpjcbdanahiapaa
