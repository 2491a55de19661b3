/- Both Values. -/
import Derived.Test.YtbkhghndlcmfiaaDoorWordImplOk
import Derived.Test.YtbkhghndlcmfiaaDoorIntRow
namespace Go.Proofs.YtbkhghndlcmfiaaDoor
open Go.RowKit
namespace Words
open Ints (iv iv_length iv_get iv_one iv_append makeI)

/-- the values of a right memory -/
def valsOf (ws : List W3) : List Int := ws.map (·.val)
def values (c : Int) (ws : List W3) : List Int := if memOk c ws = true then valsOf ws else []
theorem valsOf_length (ws : List W3) : (valsOf ws).length = ws.length := by simp [valsOf]
theorem valsOf_get (ws : List W3) (k : Nat) (h : k < ws.length) : (valsOf ws)[k]'(by rw [valsOf_length]; exact h) = ws[k].val := by simp [valsOf]
theorem valsOf_take (ws : List W3) (k : Nat) (h : k < ws.length) : (valsOf ws).take (k + 1) = (valsOf ws).take k ++ [ws[k].val] := by
  rw [List.take_succ_eq_append_getElem (by rw [valsOf_length]; exact h), valsOf_get]

set_option maxRecDepth 100000 in
set_option maxHeartbeats 1600000 in
theorem implValues (c : Int) (v : Value) (ws : List W3) (B : Nat) (w : World) (hv : Sees B w v ws) (hB : B ≤ w.heap.size) :
    Calls Tryd.prog 17 #[.agg #[.int .i64 c, v]] w fun e w' => ∃ v', e = .returned v' ∧ Ints.Owns w.heap.size w' v' (values c ws) ∧ Below w.heap.size w w' := by
  by_cases hok : memOk c ws = true
  · have hvals : values c ws = valsOf ws := by unfold values; rw [if_pos hok]
    have h8 := (memOk_out hok).1
    rw [hvals]
    clear hvals
    obtain ⟨a, cap, rfl⟩ := hv.form
    have hb0 := (Below.refl w.heap.size w).alloc (Nat.le_refl _) (.cells #[.int .i64 c, .slice a ws.length cap] 26)
    have hv0 := hv.on hb0 hB
    have X0 := Box.new w c (.slice a ws.length cap) 26
    rw [h8] at hb0 hv0 X0 ⊢
    obtain ⟨W0, hW0⟩ : ∃ W0, w.alloc (.cells #[.int .i64 c, .slice a 8 cap] 26) = W0 := ⟨_, rfl⟩
    rw [hW0] at hb0 hv0 X0
    have k0 := X0.c0; have k1 := X0.c1; have hs0 := X0.lt
    have cO := implOk c _ ws B W0 hv0 (by omega)
    rw [hok] at cO
    clear hok
    go_enter Tryd.func17, Tryd.ntmps17
    go_wp2_with fail
    clear hW0 k0 k1
    refine cO.mono ?_
    rintro e w1 ⟨rfl, b1⟩
    clear cO
    have X1 := X0.on b1 hs0; have hv1 := hv0.on b1 (by omega)
    have hbw := hb0.trans (b1.mono hb0.size)
    obtain ⟨a', cap', hv1e, -, -, h3⟩ := hv1
    rw [h8] at hv1e
    obtain ⟨rfl, rfl⟩ : a = a' ∧ cap = cap' := by simpa using hv1e
    obtain ⟨b, off, rfl, hbB, hc⟩ := h3 (fun h => by simp [h] at h8)
    clear hv1e h3 hv0 X0 b1
    obtain ⟨w2, hB2, hs2, hmk, hO⟩ := makeI 8 (by omega) w1 w1.heap.size (Nat.le_refl _)
    obtain ⟨g, hg⟩ : ∃ g, w1.heap.size = g := ⟨_, rfl⟩
    have hl1 := X1.lt
    rw [hg] at hmk hO hB2 hs2 hl1
    have X2 := X1.on hB2 hl1
    have k0 := X2.c0; have k1 := X2.c1
    have hmk' : (Instr.makeSlice 42 (.int .i64 8) (.int .i64 8)).run Tryd.prog w1 = .ok (.slice (some ⟨g, 0, none⟩) 8 8) w2 := hmk
    clear hmk
    have hBw2 : Below w.heap.size w w2 := hbw.trans (hB2.mono (by omega))
    have hc2 : ∀ j (h : j < ws.length), At w2 b (off + j * 3) ws[j] := fun j hj => (hc j hj).on hB2 (by omega)
    go_wp2
    go_loopw [13] (fun i wr => ∃ k : Nat, k ≤ 8 ∧ i = .int .i64 k ∧ wr.ownsRow g 3 1 (.slice (some ⟨g, 0, none⟩) 8 8) 8 (iv (Ints.pad (valsOf ws) k)) ∧ Below g w2 wr) (fun i _ => 8 - (intOf i).toNat)
    case atStart => exact ⟨0, Nat.zero_le _, rfl, by rw [Ints.pad_zero, valsOf_length, h8]; exact hO, Below.refl _ _⟩
    case round =>
      obtain ⟨k, hk, rfl, hR, hb⟩ := hrel
      clear hmk' hO k0 k1 X1 X2 hB2
      by_cases hlt : k < 8
      · obtain ⟨a0, a1, a2⟩ := (hc2 k (by omega)).on hb (by omega)
        obtain ⟨x, hx⟩ : ∃ x, ws[k] = x := ⟨_, rfl⟩
        rw [hx] at a0 a1 a2
        have hgk : (valsOf ws)[k]'(by rw [valsOf_length]; omega) = x.val := by rw [valsOf_get ws k (by omega), hx]
        have HP : Hid ((Ints.pad (valsOf ws) k).set k x.val = Ints.pad (valsOf ws) (k + 1)) := by rw [← hgk]; exact Ints.pad_set _ k (by rw [valsOf_length]; omega)
        have hpl : (Ints.pad (valsOf ws) k).length = 8 := by rw [Ints.pad_length _ k (by rw [valsOf_length]; omega), valsOf_length]; exact h8
        obtain ⟨-, hgs⟩ := owns_lt hR
        have c0 := Ints.owns_at hR k (by omega)
        have hfz := fun j => hR.frozenAt j
        have HR : Hid _ := hR
        clear hx hc hgk hR
        go_wp2
        have hR3 := owns_on (Ints.owns_set HR.out k x.val) ((Below.refl wr.heap.size (wr.setCell ⟨g, k, none⟩ (.int .i64 x.val))).alloc (by simp) (.cells #[.int .i64 x.val, .int .i64 x.ver, .int .i64 x.own] 61)) (by simp)
        rw [HP.out] at hR3
        go_roundw
        case rel => exact ⟨k + 1, by omega, by go_num, hR3, (hb.setCell (Nat.le_refl _) _).alloc (by simp; omega) _⟩
        case measure => simp [intOf]; omega
      · obtain rfl : k = 8 := by omega
        go_wp2
        go_ret
        rw [show Ints.pad (valsOf ws) 8 = valsOf ws by rw [← h8, ← valsOf_length]; exact Ints.pad_full _] at hR
        refine ⟨_, rfl, ?_, hBw2.trans (hb.mono (by omega))⟩
        have hO' : Ints.Owns g wr (.slice (some ⟨g, 0, none⟩) 8 8) (valsOf ws) := by unfold Ints.Owns; rw [valsOf_length, h8]; exact hR
        exact hO'.mono (by omega)
  · have hok' : memOk c ws = false := by simpa using hok
    have hvals : values c ws = [] := by unfold values; rw [if_neg hok]
    rw [hvals]
    clear hvals hok
    obtain ⟨a, cap, rfl⟩ := hv.form
    have hb0 := (Below.refl w.heap.size w).alloc (Nat.le_refl _) (.cells #[.int .i64 c, .slice a ws.length cap] 26)
    have hv0 := hv.on hb0 hB
    have cO := implOk c _ ws B _ hv0 (by simp; omega)
    rw [hok'] at cO
    clear hok'
    go_enter Tryd.func17, Tryd.ntmps17
    go_wp2_with fail
    refine cO.mono ?_
    rintro e w1 ⟨rfl, b1⟩
    clear cO
    have hbw := hb0.trans (b1.mono hb0.size)
    go_wp2
    go_ret
    exact ⟨_, rfl, ⟨rfl, .inl ⟨rfl, rfl⟩⟩, hbw⟩

/-- numbers put behind what the call owns, in a plain region -/
theorem list_appI {ops : Array Oper} {rest : List Oper} {o : Oper} {a : Act} {Q : Exit → Act → World → Prop} (w w0 : World) (hgd : o.guard = none) (s x : Operand)
    (ho : o.op = .call { callee := .builtin .append, args := #[s, x], argTypes := #[42, 42] }) (B n m c : Nat) (A C : List Int) (v : Value) (ad : Addr)
    (hs : a.eval s = v) (hx : a.eval x = .slice (some ad) m c) (hown : w.ownsRow B 3 1 v n (iv A)) (hl : C.length = m)
    (hnews : ∀ j u, (iv C)[j]? = some u → w.cell? (ad.add j) = some u) (hm : 0 < m) (hbig : n + m ≤ 4194304) (hB : Below B w0 w) (hbase : B ≤ w.heap.size)
    (h : ∀ g cap w', Hid (w'.ownsRow B 3 1 (.slice (some ⟨g, 0, none⟩) (n + m) cap) (n + m) (iv (A ++ C))) → Hid (Below B w0 w') → wpList Tryd.prog ops Q rest (a.put o.dst (.slice (some ⟨g, 0, none⟩) (n + m) cap)) w') :
    wpList Tryd.prog ops Q (o :: rest) a w := by
  obtain ⟨i0, hi, hz0, hz1, hz2⟩ := info_parts Tryd.infoInt
  refine wpList_append_lies w hgd s x 42 ho B 3 i0 _ 1 8 Tryd.underlying42 hi hz0 hz1 hz2 rfl (by decide) v n (iv A) hs hown ad m c (iv C) hx (by rw [iv_length, hl]; omega)
    hnews (iv_one C) hm (by unfold maxLen; omega) (by omega) hbase w.heap.size rfl ?_
  intro g cap w' hown' hgr _ _
  refine h g cap w' ?_ (hB.grown hgr hbase (fun g hg => (hown.lt g hg).1))
  show World.ownsRow _ _ _ _ _ _ _
  rw [iv_append]; exact hown'
theorem new1 (w : World) (x : Int) : ∀ j u, (iv [x])[j]? = some u → (w.alloc (.cells #[.int .i64 x] 3)).cell? ((⟨w.heap.size, 0, none⟩ : Addr).add j) = some u := by
  intro j u hu
  match j, hu with
  | 0, hu => simp [iv] at hu; subst hu; simp [Addr.add, World.cell?_alloc_at]
  | j + 1, hu => simp [iv] at hu

end Words
end Go.Proofs.YtbkhghndlcmfiaaDoor
