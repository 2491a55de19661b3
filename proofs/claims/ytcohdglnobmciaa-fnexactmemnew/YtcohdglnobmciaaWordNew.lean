/- Both MemNew. -/
import Derived.Test.YtcohdglnobmciaaWordOk
import Derived.Test.YtcohdglnobmciaaWordCopy
import Derived.Test.YtcohdglnobmciaaIntRow
import Derived.Deep.RegionLaw
namespace Go.Proofs.Ytcohdglnobmciaa
open Go.RowKit
namespace Words

def valOk (z : Int) : Bool := decide (0 ≤ z ∧ z ≤ 65535)
def valsOk (zs : List Int) : Bool := decide (zs.length = 8) && zs.all valOk
def fresh (z : Int) : W3 := ⟨z, 0, 0⟩
def newOf (zs : List Int) : List W3 := if valsOk zs = true then zs.map fresh else []
theorem valsOk_mk {zs : List Int} (h : zs.length = 8) (ha : ∀ j (h : j < zs.length), valOk zs[j] = true) : valsOk zs = true := by
  unfold valsOk
  rw [Bool.and_eq_true]
  refine ⟨decide_eq_true h, List.all_eq_true.2 fun x hx => ?_⟩
  obtain ⟨j, hj, rfl⟩ := List.mem_iff_getElem.1 hx
  exact ha j hj
theorem valsOk_len {zs : List Int} (h : ¬ zs.length = 8) : valsOk zs = false := by unfold valsOk; rw [decide_eq_false h]; rfl
theorem valsOk_one {zs : List Int} {j : Nat} (hj : j < zs.length) (h : valOk zs[j] = false) : valsOk zs = false := by
  unfold valsOk
  rw [Bool.and_eq_false_iff]
  exact .inr (List.all_eq_false.2 ⟨zs[j], List.getElem_mem hj, by simp [h]⟩)
theorem valsOk_out {zs : List Int} (h : valsOk zs = true) : zs.length = 8 := by
  unfold valsOk at h
  rw [Bool.and_eq_true] at h
  exact of_decide_eq_true h.1
theorem ret_vals {zs : List Int} {b : Bool} (h : valsOk zs = b) : Ending.returned (.bool b) = .returned (.bool (valsOk zs)) := by rw [h]

set_option maxRecDepth 100000 in
set_option maxHeartbeats 800000 in
theorem specVals (v : Value) (zs : List Int) (B : Nat) (w : World) (hv : Ints.Sees B w v zs) :
    Calls Try.prog 31 #[v] w fun e w' => e = .returned (.bool (valsOk zs)) ∧ w = w' := by
  obtain ⟨a, cap, rfl, h1, h2, h3⟩ := hv
  have hm : (zs.length : Int) ≤ 9223372036854775807 := by unfold maxLen at h2; omega
  by_cases h8 : zs.length = 8
  · rw [h8]
    clear hm h1 h2
    go_enter Try.func31, Try.ntmps31
    go_wp2
    go_loop [3] (fun i => ∃ k : Nat, k ≤ 8 ∧ i = .int .i64 k ∧ (∀ j (h : j < zs.length), j < k → valOk zs[j] = true)) (fun i => 8 - (intOf i).toNat)
    case atStart => exact ⟨0, by omega, rfl, fun j _ h => by omega⟩
    case round =>
      obtain ⟨k, hk, rfl, hall⟩ := hrel
      by_cases hlt : k < 8
      · obtain ⟨b, off, rfl, hbB, hc⟩ := h3 (fun h => by simp [h] at h8)
        have a0 := hc k (by omega)
        obtain ⟨z, hz⟩ : ∃ z, zs[k] = z := ⟨_, rfl⟩
        rw [hz] at a0
        have HZ : Hid (zs[k] = z) := hz
        have HA : Hid (∀ j (h : j < zs.length), j < k → valOk zs[j] = true) := hall
        clear hz hc h3 hall
        by_cases q : 0 ≤ z ∧ z ≤ 65535
        · obtain ⟨q0, q1⟩ := q
          go_wp2
          go_round
          case rel => exact ⟨k + 1, by omega, by go_num, fun j hj hjk => by
            rcases Nat.lt_succ_iff_lt_or_eq.1 hjk with h | h
            · exact HA.out j hj h
            · subst h; rw [HZ.out]; exact decide_eq_true ⟨q0, q1⟩⟩
          case measure => simp [intOf]; omega
        · have HF : Hid (valsOk zs = false) := valsOk_one (j := k) (by omega) (by rw [HZ.out]; exact decide_eq_false q)
          rcases (show z < 0 ∨ (0 ≤ z ∧ 65535 < z) by omega) with q0 | ⟨q0, q1⟩
          all_goals
            try have q2 : decide (z ≤ 65535) = false := by (simp; omega)
            clear q
            go_wp2
            go_ret
            exact ⟨ret_vals HF.out, rfl⟩
      · obtain rfl : k = 8 := by omega
        have HT : Hid (valsOk zs = true) := valsOk_mk h8 fun j hj => hall j hj (by omega)
        clear hall h3
        go_wp2
        go_ret
        exact ⟨ret_vals HT.out, rfl⟩
  · have HF : Hid (valsOk zs = false) := valsOk_len h8
    obtain ⟨n, hn⟩ : ∃ n, zs.length = n := ⟨_, rfl⟩
    rw [hn] at hm h8 ⊢
    have h8' : ((n : Int) != 8) = true := by simp; omega
    clear h3 hn h1 h2 h8
    go_enter Try.func31, Try.ntmps31
    go_wp2
    go_ret
    exact ⟨ret_vals HF.out, rfl⟩

set_option maxRecDepth 100000 in
set_option maxHeartbeats 800000 in
theorem implVals (v : Value) (zs : List Int) (B : Nat) (w : World) (hv : Ints.Sees B w v zs) :
    Calls Try.prog 32 #[v] w fun e w' => e = .returned (.bool (valsOk zs)) ∧ w = w' := by
  obtain ⟨a, cap, rfl, h1, h2, h3⟩ := hv
  have hm : (zs.length : Int) ≤ 9223372036854775807 := by unfold maxLen at h2; omega
  by_cases h8 : zs.length = 8
  · rw [h8]
    clear hm h1 h2
    go_enter Try.func32, Try.ntmps32
    go_wp2
    go_loop [10] (fun i => ∃ k : Nat, k ≤ 8 ∧ i = .int .i64 k ∧ (∀ j (h : j < zs.length), j < k → valOk zs[j] = true)) (fun i => 8 - (intOf i).toNat)
    case atStart => exact ⟨0, by omega, rfl, fun j _ h => by omega⟩
    case round =>
      obtain ⟨k, hk, rfl, hall⟩ := hrel
      by_cases hlt : k < 8
      · obtain ⟨b, off, rfl, hbB, hc⟩ := h3 (fun h => by simp [h] at h8)
        have a0 := hc k (by omega)
        obtain ⟨z, hz⟩ : ∃ z, zs[k] = z := ⟨_, rfl⟩
        rw [hz] at a0
        have HZ : Hid (zs[k] = z) := hz
        have HA : Hid (∀ j (h : j < zs.length), j < k → valOk zs[j] = true) := hall
        clear hz hc h3 hall
        by_cases q : 0 ≤ z ∧ z ≤ 65535
        · obtain ⟨q0, q1⟩ := q
          go_wp2
          go_round
          case rel => exact ⟨k + 1, by omega, by go_num, fun j hj hjk => by
            rcases Nat.lt_succ_iff_lt_or_eq.1 hjk with h | h
            · exact HA.out j hj h
            · subst h; rw [HZ.out]; exact decide_eq_true ⟨q0, q1⟩⟩
          case measure => simp [intOf]; omega
        · have HF : Hid (valsOk zs = false) := valsOk_one (j := k) (by omega) (by rw [HZ.out]; exact decide_eq_false q)
          rcases (show z < 0 ∨ (0 ≤ z ∧ 65535 < z) by omega) with q0 | ⟨q0, q1⟩
          all_goals
            try have q2 : decide (z ≤ 65535) = false := by (simp; omega)
            clear q
            go_wp2
            go_ret
            exact ⟨ret_vals HF.out, rfl⟩
      · obtain rfl : k = 8 := by omega
        have HT : Hid (valsOk zs = true) := valsOk_mk h8 fun j hj => hall j hj (by omega)
        clear hall h3
        go_wp2
        go_ret
        exact ⟨ret_vals HT.out, rfl⟩
  · have HF : Hid (valsOk zs = false) := valsOk_len h8
    obtain ⟨n, hn⟩ : ∃ n, zs.length = n := ⟨_, rfl⟩
    rw [hn] at hm h8 ⊢
    have h8' : ((n : Int) != 8) = true := by simp; omega
    clear h3 hn h1 h2 h8
    go_enter Try.func32, Try.ntmps32
    go_wp2
    go_ret
    exact ⟨ret_vals HF.out, rfl⟩

/-- a new word's value, put into a word of noughts -/
theorem wv_first (ws : List W3) : ∀ (k : Nat) (y : Int) (h : k < ws.length), (wv ws).set (k * 3) (.int .i64 y) = wv (ws.set k ⟨y, ws[k].ver, ws[k].own⟩) := by
  induction ws with
  | nil => intro k y h; simp at h
  | cons x r ih =>
    intro k y h
    match k, h with
    | 0, _ => rfl
    | k + 1, h =>
      rw [show (k + 1) * 3 = k * 3 + 3 by omega, List.set_cons_succ, wv_cons, wv_cons]
      simp only [List.getElem_cons_succ]
      rw [← ih k y (by simpa using h)]
      rfl
theorem pad_at (ws : List W3) (k : Nat) (h : k < ws.length) (h' : k < (pad ws k).length) : (pad ws k)[k] = nought := by
  have hl : (ws.take k).length = k := by simp; omega
  unfold pad at h' ⊢
  rw [List.getElem_append_right (by omega)]
  simp

set_option maxRecDepth 100000 in
set_option maxHeartbeats 1600000 in
theorem implNew (v : Value) (zs : List Int) (B : Nat) (w : World) (hv : Ints.Sees B w v zs) (hB : B ≤ w.heap.size) :
    Calls Try.prog 14 #[v] w fun e w' => ∃ v', e = .returned (.tuple #[.agg #[.int .i64 0, v'], .bool (valsOk zs)]) ∧ Owns w.heap.size w' v' (newOf zs) ∧ Below w.heap.size w w' := by
  obtain ⟨a, cap, rfl⟩ := hv.form
  have hb0 := (Below.refl w.heap.size w).alloc (Nat.le_refl _) (.cells #[.int .i64 0, .slice none 0 0] 29)
  have hv0 := hv.on hb0 hB
  have Y0 := Box.new w 0 (.slice none 0 0) 29
  have cV := implVals _ zs B _ hv0
  by_cases hok : valsOk zs = true
  · have e1 : newOf zs = zs.map fresh := by unfold newOf; rw [if_pos hok]
    have h8 := valsOk_out hok
    rw [hok] at cV
    rw [e1, hok]
    clear e1 hok
    rw [h8] at cV hv0 ⊢
    obtain ⟨W0, hW0⟩ : ∃ W0, w.alloc (.cells #[.int .i64 0, .slice none 0 0] 29) = W0 := ⟨_, rfl⟩
    rw [hW0] at cV hv0 hb0 Y0
    have hs0 := Y0.lt
    obtain ⟨a', cap', hve, -, -, h3⟩ := hv0
    rw [h8] at hve
    obtain ⟨rfl, rfl⟩ : a = a' ∧ cap = cap' := by simpa using hve
    obtain ⟨b, off, rfl, hbB, hc⟩ := h3 (fun h => by simp [h] at h8)
    clear hve h3
    obtain ⟨w2, hB2, hs2, hmk, hO⟩ := makeW 8 (by omega) W0 W0.heap.size (Nat.le_refl _)
    obtain ⟨g, hg⟩ : ∃ g, W0.heap.size = g := ⟨_, rfl⟩
    rw [hg] at hmk hO hB2 hs2 hs0
    have hmk' : (Instr.makeSlice 27 (.int .i64 8) (.int .i64 8)).run Try.prog W0 = .ok (.slice (some ⟨g, 0, none⟩) 8 8) w2 := hmk
    clear hmk
    have Bn := (Below.refl w2.heap.size w2).alloc (Nat.le_refl _) (.cells #[.int .i64 0, .slice (some ⟨g, 0, none⟩) 8 8] 29)
    have bb := hB2.trans (Bn.mono (show g ≤ w2.heap.size by omega))
    have X3 := Box.new w2 0 (.slice (some ⟨g, 0, none⟩) 8 8) 29
    have Y3 := Y0.on bb hs0
    have O3 := owns_on hO Bn (Nat.le_refl _)
    obtain ⟨W3, hW3⟩ : ∃ W3, w2.alloc (.cells #[.int .i64 0, .slice (some ⟨g, 0, none⟩) 8 8] 29) = W3 := ⟨_, rfl⟩
    obtain ⟨p, hp⟩ : ∃ p, w2.heap.size = p := ⟨_, rfl⟩
    rw [hW3] at X3 Y3 O3 bb
    rw [hp] at X3
    have hpg : g ≠ p := by omega
    have hpg' : p ≠ g := by omega
    have hgp : g < p := by omega
    go_enter Try.func14, Try.ntmps14
    go_wp2_with fail
    refine cV.mono ?_
    rintro e w1 ⟨rfl, rfl⟩
    clear cV
    go_wp2_with fail
    clear hW0 hW3 hp hmk' hB2 hs2 hO Bn
    go_loopw [15] (fun i wr => ∃ k : Nat, k ≤ 8 ∧ i = .int .i64 k ∧ wr.ownsRow g 47 3 (.slice (some ⟨g, 0, none⟩) 8 8) 8 (wv (pad (zs.map fresh) k)) ∧ Box wr p 0 (.slice (some ⟨g, 0, none⟩) 8 8) 29 ∧ Below g W0 wr) (fun i _ => 8 - (intOf i).toNat)
    case atStart => exact ⟨0, by omega, rfl, by rw [pad_zero, List.length_map, h8]; exact O3, X3, bb⟩
    case round =>
      obtain ⟨k, hk, rfl, hR, hX, hb⟩ := hrel
      clear O3 X3 bb
      have x0 := hX.c0; have x1 := hX.c1
      by_cases hlt : k < 8
      · have a0 := (hb.cell (p := ⟨b, off + k, none⟩) (by show b < g; omega)).trans (hc k (by omega))
        obtain ⟨z, hz⟩ : ∃ z, zs[k] = z := ⟨_, rfl⟩
        rw [hz] at a0
        have hml : (zs.map fresh).length = 8 := by simpa using h8
        have hpl : (pad (zs.map fresh) k).length = 8 := by rw [pad_length _ k (by omega)]; exact hml
        have HP : Hid ((wv (pad (zs.map fresh) k)).set (k * 3) (.int .i64 z) = wv (pad (zs.map fresh) (k + 1))) := by
          have e := pad_set (zs.map fresh) k (by omega)
          have e2 : (zs.map fresh)[k]'(by omega) = ⟨z, 0, 0⟩ := by simp [fresh, hz]
          rw [e2] at e
          show _ = _
          rw [wv_first _ k z (by omega), pad_at _ k (by omega)]
          exact congrArg wv e
        obtain ⟨c0, c1, c2⟩ := owns_at hR k (by omega)
        have hfz := fun j => hR.frozenAt j
        have HR : Hid _ := hR
        have HXb : Hid _ := hX
        clear hz hR hX
        go_wp2
        have hR3 := (World.ownsRow.stored HR.out (k * 3) (.int .i64 z)).1
        rw [HP.out] at hR3
        go_roundw
        case rel => exact ⟨k + 1, by omega, by go_num, hR3, (heap_setCell_other _ _ _ _ hpg').trans HXb.out, hb.setCell (Nat.le_refl _) _⟩
        case measure => simp [intOf]; omega
      · obtain rfl : k = 8 := by omega
        have Y4 := Y0.on hb hs0
        have j0 := Y4.c0; have j1 := Y4.c1
        have f0 := fun j => frozen_of_row wr w.heap.size j _ _ Y4
        have hml : (zs.map fresh).length = 8 := by simpa using h8
        rw [show pad (zs.map fresh) 8 = zs.map fresh by rw [← hml]; exact pad_full _] at hR
        have hO' : Owns g wr (.slice (some ⟨g, 0, none⟩) 8 8) (zs.map fresh) := by unfold Owns; rw [hml]; exact hR
        go_wp2
        refine bodyPost_ret (v := .tuple #[.agg #[.int .i64 0, .slice (some ⟨g, 0, none⟩) 8 8], .bool true]) (by simp [results, Try.results14, go_sem, j0, j1]) rfl ⟨_, rfl, ?_, ?_⟩
        · exact ((hO'.setCell (by simp; omega) _).setCell (by simp; omega) _).mono (by omega)
        · exact ((hb0.trans (hb.mono (by omega))).setCell (by simp) _).setCell (by simp) _
  · have hok' : valsOk zs = false := by simpa using hok
    have e1 : newOf zs = [] := by unfold newOf; rw [if_neg hok]
    rw [hok'] at cV
    rw [e1, hok']
    clear e1 hok hok'
    go_enter Try.func14, Try.ntmps14
    go_wp2_with fail
    refine cV.mono ?_
    rintro e w1 ⟨rfl, rfl⟩
    clear cV
    go_wp2
    exact bodyPost_ret (v := .tuple #[.agg #[.int .i64 0, .slice none 0 0], .bool false]) (by simp [results, Try.results14, go_sem]) rfl ⟨_, rfl, ⟨rfl, .inl ⟨rfl, rfl⟩⟩, hb0⟩

theorem new3 (w : World) (x : W3) : ∀ j u, (wv [x])[j]? = some u → (w.alloc (.cells #[.int .i64 x.val, .int .i64 x.ver, .int .i64 x.own] 47)).cell? ((⟨w.heap.size, 0, none⟩ : Addr).add j) = some u := by
  intro j u hu
  match j, hu with
  | 0, hu => simp [wv, W3.cells] at hu; subst hu; simp [Addr.add, World.cell?_alloc_at]
  | 1, hu => simp [wv, W3.cells] at hu; subst hu; simp [Addr.add, World.cell?_alloc_at]
  | 2, hu => simp [wv, W3.cells] at hu; subst hu; simp [Addr.add, World.cell?_alloc_at]
  | j + 3, hu => simp [wv, W3.cells] at hu
theorem Owns.form' {B n : Nat} {w : World} {v : Value} {xs : List Value} (h : w.ownsRow B 47 3 v n xs) : ∃ a cap, v = .slice a n cap := by
  rcases h.2 with ⟨rfl, rfl⟩ | ⟨g, cap, cur, rfl, _⟩
  · exact ⟨_, _, rfl⟩
  · exact ⟨_, _, rfl⟩

set_option maxRecDepth 100000 in
set_option maxHeartbeats 1600000 in
theorem specNew (v : Value) (zs : List Int) (B : Nat) (w : World) (hv : Ints.Sees B w v zs) (hB : B ≤ w.heap.size) :
    Calls Try.prog 12 #[v] w fun e w' => ∃ v', e = .returned (.tuple #[.agg #[.int .i64 0, v'], .bool (valsOk zs)]) ∧ Owns w.heap.size w' v' (newOf zs) ∧ Below w.heap.size w w' := by
  obtain ⟨a, cap, rfl⟩ := hv.form
  have hb0 := (Below.refl w.heap.size w).alloc (Nat.le_refl _) (.cells #[.int .i64 0, .slice none 0 0] 29)
  have hv0 := hv.on hb0 hB
  have cV := specVals _ zs B _ hv0
  by_cases hok : valsOk zs = true
  · have e1 : newOf zs = zs.map fresh := by unfold newOf; rw [if_pos hok]
    have h8 := valsOk_out hok
    rw [hok] at cV
    rw [e1, hok]
    clear e1 hok
    rw [h8] at cV ⊢
    obtain ⟨a', cap', hve, -, -, h3⟩ := hv
    rw [h8] at hve
    obtain ⟨rfl, rfl⟩ : a = a' ∧ cap = cap' := by simpa using hve
    obtain ⟨b, off, rfl, hbB, hc⟩ := h3 (fun h => by simp [h] at h8)
    clear hve h3 hv0
    have b1 := hb0.alloc (by simp) (.cells #[.int .i64 0, .slice none 0 0] 29)
    have Y0 : Box ((w.alloc (.cells #[.int .i64 0, .slice none 0 0] 29)).alloc (.cells #[.int .i64 0, .slice none 0 0] 29)) w.heap.size 0 (.slice none 0 0) 29 := heap_alloc2_old _ _ _
    have X0 : Box ((w.alloc (.cells #[.int .i64 0, .slice none 0 0] 29)).alloc (.cells #[.int .i64 0, .slice none 0 0] 29)) (w.heap.size + 1) 0 (.slice none 0 0) 29 := heap_alloc2_new _ _ _
    obtain ⟨W0, hW0⟩ : ∃ W0, (w.alloc (.cells #[.int .i64 0, .slice none 0 0] 29)).alloc (.cells #[.int .i64 0, .slice none 0 0] 29) = W0 := ⟨_, rfl⟩
    rw [hW0] at b1 X0 Y0
    have HW : Hid _ := hW0
    clear hW0
    have hs0 := X0.lt
    have hml : (zs.map fresh).length = 8 := by simpa using h8
    go_enter Try.func12, Try.ntmps12
    go_wp2_with fail
    refine cV.mono ?_
    rintro e w1 ⟨rfl, rfl⟩
    clear cV
    go_wp2_with fail
    rw [HW.out]
    clear HW
    go_loopw [5] (fun i wr => ∃ (k : Nat) (s : Value), k ≤ 8 ∧ i = .int .i64 k ∧ wr.ownsRow W0.heap.size 47 3 s k (wv ((zs.map fresh).take k)) ∧ Box wr (w.heap.size + 1) 0 s 29 ∧ Box wr w.heap.size 0 (.slice none 0 0) 29 ∧ Below w.heap.size w wr ∧ W0.heap.size ≤ wr.heap.size) (fun i _ => 8 - (intOf i).toNat)
    case atStart => exact ⟨0, .slice none 0 0, by omega, rfl, owns_nil _ _, X0, Y0, b1, Nat.le_refl _⟩
    case round =>
      obtain ⟨k, s, hk, rfl, hR, hX, hY, hb, hsz⟩ := hrel
      clear X0 Y0 b1
      obtain ⟨sa, caps, rfl⟩ := Owns.form' hR
      have x0 := hX.c0; have x1 := hX.c1
      by_cases hlt : k < 8
      · have a0 := (hb.cell (p := ⟨b, off + k, none⟩) (by show b < w.heap.size; omega)).trans (hc k (by omega))
        obtain ⟨z, hz⟩ : ∃ z, zs[k] = z := ⟨_, rfl⟩
        rw [hz] at a0
        have HP : Hid ((zs.map fresh).take (k + 1) = (zs.map fresh).take k ++ [⟨z, 0, 0⟩]) := by
          show _ = _
          rw [List.take_succ_eq_append_getElem (by omega)]
          simp [fresh, hz]
        have HR : Hid _ := hR
        have hlt1 := hX.lt
        have Bn := (Below.refl wr.heap.size wr).alloc (Nat.le_refl _) (.cells #[.int .i64 z, .int .i64 0, .int .i64 0] 47)
        have R1 : Hid ((wr.alloc (.cells #[.int .i64 z, .int .i64 0, .int .i64 0] 47)).drew.ownsRow W0.heap.size 47 3 (.slice sa k caps) k (wv ((zs.map fresh).take k))) := by have := owns_on hR Bn (Nat.le_refl _); exact this
        have Xa := Box.drew (hX.on Bn hlt1)
        have Ya := Box.drew (hY.on Bn hY.lt)
        have hbn := (hb.alloc hb.size (.cells #[.int .i64 z, .int .i64 0, .int .i64 0] 47)).drew
        clear hz hR hX hY
        go_wp2_with fail
        go_region_law (refine step_appW _ (wr.alloc (.cells #[.int .i64 z, .int .i64 0, .int .i64 0] 47)).drew ?_ (.tmp 18) (.tmp 24) ?_ W0.heap.size k 1 1 ((zs.map fresh).take k) [⟨z, 0, 0⟩] (.slice sa k caps) ⟨wr.heap.size, 0, none⟩ ?_ ?_ ?_ ?_ ?_ ?_ ?_ ?_ ?_ ?_; rfl; rfl; rfl; rfl; exact R1.out; rfl; exact new3 wr ⟨z, 0, 0⟩; omega; omega; exact Below.refl _ _; (show W0.heap.size ≤ (wr.alloc (.cells #[.int .i64 z, .int .i64 0, .int .i64 0] 47)).heap.size; simp; omega); intro g cap2 w2 hown2 hB2; have e0 := (Xa.on hB2.out hs0).c1; have e1 := fun j => frozen_of_row w2 (w.heap.size + 1) j _ _ (Xa.on hB2.out hs0))
        all_goals
          have X4 := Xa.on hB2.out hs0
          have Y4 := Ya.on hB2.out (by omega)
          have b4 := hbn.trans (hB2.out.mono (show w.heap.size ≤ W0.heap.size by omega))
          have O4 : w2.ownsRow W0.heap.size 47 3 (.slice (some ⟨g, 0, none⟩) (k + 1) cap2) (k + 1) (wv ((zs.map fresh).take (k + 1))) := by rw [HP.out]; exact hown2.out
          have hs2 : W0.heap.size ≤ w2.heap.size := by have := hB2.out.size; have h2 : (wr.alloc (.cells #[.int .i64 z, .int .i64 0, .int .i64 0] 47)).drew.heap.size = wr.heap.size + 1 := by show (wr.alloc (.cells #[.int .i64 z, .int .i64 0, .int .i64 0] 47)).heap.size = _; simp
                                                       omega
          go_wp2
          go_roundw
          case rel =>
            refine ⟨k + 1, .slice (some ⟨g, 0, none⟩) (k + 1) cap2, by omega, by go_num, ownsRow_setCell_below O4 (by simp; omega) _, ?_, (heap_setCell_other _ _ _ _ (by simp)).trans Y4, b4.setCell (by simp) _, by simpa using hs2⟩
            unfold Box; rw [heap_setCell_same _ _ _ _ _ _ X4]; rfl
          case measure => simp [intOf]; omega
      · obtain rfl : k = 8 := by omega
        have j0 := hY.c0; have j1 := hY.c1
        have f0 := fun j => frozen_of_row wr w.heap.size j _ _ hY
        rw [show (zs.map fresh).take 8 = zs.map fresh by rw [List.take_of_length_le (by omega)]] at hR
        have hO' : Owns W0.heap.size wr (.slice sa 8 caps) (zs.map fresh) := by unfold Owns; rw [hml]; exact hR
        go_wp2
        refine bodyPost_ret (v := .tuple #[.agg #[.int .i64 0, .slice sa 8 caps], .bool true]) (by simp [results, Try.results12, go_sem, j0, j1]) rfl ⟨_, rfl, ?_, ?_⟩
        · exact ((hO'.setCell (by simp; omega) _).setCell (by simp; omega) _).mono (by omega)
        · exact (hb.setCell (by simp) _).setCell (by simp) _
  · have hok' : valsOk zs = false := by simpa using hok
    have e1 : newOf zs = [] := by unfold newOf; rw [if_neg hok]
    rw [hok'] at cV
    rw [e1, hok']
    clear e1 hok hok'
    go_enter Try.func12, Try.ntmps12
    go_wp2_with fail
    refine cV.mono ?_
    rintro e w1 ⟨rfl, rfl⟩
    clear cV
    go_wp2
    exact bodyPost_ret (v := .tuple #[.agg #[.int .i64 0, .slice none 0 0], .bool false]) (by simp [results, Try.results12, go_sem]) rfl ⟨_, rfl, ⟨rfl, .inl ⟨rfl, rfl⟩⟩, hb0⟩
end Words
end Go.Proofs.Ytcohdglnobmciaa
