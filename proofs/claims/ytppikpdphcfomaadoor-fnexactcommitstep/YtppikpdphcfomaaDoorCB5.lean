/- Several texts of one proof, in build order: IntCopy, IntApp, LogPush, LogImpl. -/
import Derived.Deep.Upon
import Derived.Lib.SliceRun
import Derived.Test.YtppikpdphcfomaaDoorCB1
import Derived.Test.YtppikpdphcfomaaDoorCB3
import Derived.Test.YtppikpdphcfomaaDoorCB4
/- Integers put behind an empty row that the call owns: the equation that a walk takes. -/
namespace Go.Proofs.YtppikpdphcfomaaDoor
open Go.RowKit
namespace Ints

theorem grown_refl (w : World) (row : Option Nat) : w.grownBy w row := ⟨rfl, rfl, rfl, Nat.le_refl _, fun _ _ _ => rfl⟩
theorem news_of {w : World} {b off : Nat} {zs : List Int} (hc : ∀ j (h : j < zs.length), w.cell? ⟨b, off + j, none⟩ = some (.int .i64 zs[j])) : ∀ j u, (iv zs)[j]? = some u → w.cell? ((⟨b, off, none⟩ : Addr).add j) = some u := by
  intro j u hu
  have hj : j < zs.length := by rw [← iv_length]; exact (List.getElem?_eq_some_iff.1 hu).1
  have ha : (⟨b, off, none⟩ : Addr).add j = ⟨b, off + j, none⟩ := by unfold Addr.add; split <;> simp_all
  rw [ha, hc j hj, ← hu, iv_get zs j hj]

theorem appI (u v : Value) (ty : TypeId) (zs : List Int) (B b0 : Nat) (w : World) (hu : w.ownsRow b0 3 1 u 0 []) (h0 : b0 ≤ w.heap.size) (hv : Sees B w v zs) (hlen : zs.length ≤ 1048576) :
    ∃ v' w', (Builtin.append_ #[26, 26] ty #[u, v]).run Tryd.prog w = .ok v' w' ∧ w'.ownsRow b0 3 1 v' zs.length (iv zs) ∧ w.grownBy w' u.ownBlock := by
  obtain ⟨i, hi, hz, hs, hb⟩ := info_parts Tryd.infoInt
  obtain ⟨a, cap, rfl, h1, h2, h3⟩ := hv
  by_cases hne : zs = []
  · subst hne
    have hsrc : Src Tryd.prog i.size 26 (.slice a 0 cap) 0 [] w := by
      cases a
      · exact Src.ofNil w Tryd.underlying26 cap
      · exact Src.ofSlice w Tryd.underlying26 _ 0 cap [] (by simp) (fun j u h => by simp at h) (fun u h => by cases h)
    have hform : ∃ b c, u = .slice b 0 c := by
      rcases hu.2 with ⟨rfl, -⟩ | ⟨g, c, cur, rfl, -⟩
      · exact ⟨_, _, rfl⟩
      · exact ⟨_, _, rfl⟩
    obtain ⟨b, c, rfl⟩ := hform
    exact ⟨_, w, run_append_nothing w _ _ ty _ i Tryd.underlying26 hi b 0 c (Nat.zero_le _) _ hsrc, hu, grown_refl w _⟩
  · obtain ⟨b, off, rfl, -, hc⟩ := h3 hne
    have hpos : 0 < zs.length := List.length_pos_iff.2 hne
    obtain ⟨g, c, w', hr, ho, hg, -, -⟩ := run_append_lies (P := Tryd.prog) w 26 ty b0 3 i _ 1 8 Tryd.underlying26 hi hz hs hb rfl (by decide) u 0 [] hu ⟨b, off, none⟩ zs.length cap (iv zs) (by rw [iv_length]; omega) (news_of hc) (iv_one zs) hpos (by unfold maxLen; omega) (by omega) h0 w.heap.size rfl
    refine ⟨_, w', hr, ?_, hg⟩
    simpa using ho
theorem own_nil (B : Nat) (w : World) : w.ownsRow B 3 1 (.slice none 0 0) 0 [] := ⟨rfl, .inl ⟨rfl, rfl⟩⟩

/-- append([]int(nil), zs...) -/
theorem appNil (v : Value) (ty : TypeId) (zs : List Int) (B : Nat) (w : World) (hv : Sees B w v zs) (hlen : zs.length ≤ 1048576) :
    ∃ v' w', (Builtin.append_ #[26, 26] ty #[.slice none 0 0, v]).run Tryd.prog w = .ok v' w' ∧ Owns w.heap.size w' v' zs ∧ Below w.heap.size w w' := by
  obtain ⟨v', w', hr, ho, hg⟩ := appI _ v ty zs B w.heap.size w (own_nil _ _) (Nat.le_refl _) hv hlen
  exact ⟨v', w', hr, ho, (Below.refl _ _).grown hg (Nat.le_refl _) (fun k hk => by cases hk)⟩
/-- append([]int{}, zs...): the empty row is laid first -/
theorem appLit (v : Value) (ty : TypeId) (zs : List Int) (B : Nat) (w : World) (hv : Sees B w v zs) (hB : B ≤ w.heap.size) (hlen : zs.length ≤ 1048576) :
    ∃ v' w', (Builtin.append_ #[26, 26] ty #[.slice (some ⟨w.heap.size, 0, none⟩) 0 0, v]).run Tryd.prog (w.alloc (.cells #[] 3)) = .ok v' w' ∧ Owns w.heap.size w' v' zs ∧ Below w.heap.size w w' := by
  have L1 : (w.alloc (.cells #[] 3)).ownsRow w.heap.size 3 1 (.slice (some ⟨w.heap.size, 0, none⟩) 0 0) 0 [] := World.ownsRow_lit w #[] 0 (Nat.le_refl _) (by simp [maxLen]) rfl
  obtain ⟨v', w', hr, ho, hg⟩ := appI _ v ty zs B w.heap.size (w.alloc (.cells #[] 3)) L1 (by simp) (hv.on (Bas.alloc_below w _) hB) hlen
  exact ⟨v', w', hr, ho, (Bas.alloc_below w _).grown hg (by simp) (fun k hk => by cases hk; exact Nat.le_refl _)⟩
end Ints
end Go.Proofs.YtppikpdphcfomaaDoor
/- append of numbers, with what it says of where the answer lies. -/
set_option linter.unusedVariables false
namespace Go.Proofs.YtppikpdphcfomaaDoor
open Go.RowKit
namespace Ints
open Bas

def intEl : Flat.El Int where
  sz := 1
  cells x := [.int .i64 x]
  len _ := rfl
  one x v hv := by simp at hv; rw [hv]; rfl
  pos := by decide
theorem rowInt : Flat.Row Tryd.prog intEl 26 3 (.int .i64 0) 0 8 := ⟨Tryd.underlying26, by kernel_rfl, rfl, by decide⟩
theorem fv_iv (zs : List Int) : Flat.fv intEl zs = iv zs := by
  unfold Flat.fv iv
  induction zs with
  | nil => rfl
  | cons x r ih => rw [List.flatMap_cons, ih]; rfl
theorem owns_iff {B : Nat} {w : World} {v : Value} {zs : List Int} : Flat.Owns intEl 3 B w v zs ↔ Owns B w v zs := by
  unfold Flat.Owns Owns
  rw [fv_iv]; rfl
theorem flat_sees {B : Nat} {w : World} {v : Value} {zs : List Int} (h : Sees B w v zs) : Flat.Sees intEl B w v zs := by
  obtain ⟨a, cap, rfl, h1, h2, h3⟩ := h
  refine ⟨a, cap, rfl, h1, h2, fun hne => ?_⟩
  obtain ⟨b, off, rfl, hb, hc⟩ := h3 hne
  refine ⟨b, off, rfl, hb, fun j hj i u hu => ?_⟩
  change [Value.int .i64 zs[j]][i]? = some u at hu
  rcases i with _ | i
  · change w.cell? ⟨b, off + j * 1 + 0, none⟩ = _
    rw [Nat.mul_one, Nat.add_zero, hc j hj]; simpa using hu
  · simp at hu
/-- append(u, v...) -/
theorem appJ (u v : Value) (ty : TypeId) (xs zs : List Int) (B b0 : Nat) (w : World) (hu : Owns b0 w u xs) (h0 : b0 ≤ w.heap.size) (hv : Sees B w v zs) (hlen : xs.length + zs.length ≤ 4194304) :
    ∃ v' w', (Builtin.append_ #[26, 26] ty #[u, v]).run Tryd.prog w = .ok v' w' ∧ Owns b0 w' v' (xs ++ zs) ∧ w.grownBy w' u.ownBlock ∧ (∀ k, v'.ownBlock = some k → u.ownBlock = some k ∨ w.heap.size ≤ k) := by
  obtain ⟨v', w', hr, hO, hG, hk⟩ := Flat.app rowInt u v ty xs zs B b0 w (owns_iff.2 hu) h0 (flat_sees hv) hlen
  exact ⟨v', w', hr, owns_iff.1 hO, hG, hk⟩
theorem owns_lit (w : World) {B : Nat} (hB : B ≤ w.heap.size) : Owns B (w.alloc (.cells #[] 3)) (.slice (some ⟨w.heap.size, 0, none⟩) 0 0) [] := World.ownsRow_lit w #[] 0 hB (by simp [maxLen]) rfl
end Ints
end Go.Proofs.YtppikpdphcfomaaDoor
/- A row put behind rows that the call owns, a number behind numbers; a beginning of rows. -/
set_option linter.unusedVariables false
set_option linter.unusedSimpArgs false
namespace Go.Proofs.YtppikpdphcfomaaDoor
open Go.RowKit
namespace Logs
open Bas Flat

theorem seesOneR (W : World) (x : R2) (t : TypeId) : Sees2 (W.heap.size + 1) (W.alloc (.cells #[.int .i64 x.c, .int .i64 x.v] t)) (.slice (some ⟨W.heap.size, 0, none⟩) 1 1) [x] :=
  ⟨_, 1, rfl, by simp, by unfold maxLen; omega, fun _ => ⟨W.heap.size, 0, rfl, by omega, fun j hj => by
    have hj0 : j = 0 := by simpa using hj
    subst hj0
    intro i u hu
    have hb : Blk (W.alloc (.cells #[.int .i64 x.c, .int .i64 x.v] t)) W.heap.size #[.int .i64 x.c, .int .i64 x.v] t := Blk.new W _ _
    simp only [Nat.zero_mul, Nat.zero_add]
    rw [hb.cell]
    change [Value.int .i64 x.c, .int .i64 x.v][i]? = some u at hu
    simpa using hu⟩⟩
theorem grown_allocR {w w' : World} {o : Obj} {r : Option Nat} (h : (w.alloc o).grownBy w' r) : w.grownBy w' r :=
  ⟨h.os, h.tape, h.output, Nat.le_trans (by simp) h.size, fun k hk hr => by
    rw [h.block k (by simp; omega) hr]
    exact (alloc_below w o).block k hk⟩
/-- append(v, x) -/
theorem pushR (v : Value) (xs : List R2) (B : Nat) (w : World) (h : Owns2 B w v xs) (hB : B ≤ w.heap.size) (hlen : xs.length ≤ 4000000) (x : R2) :
    ∃ v' w', (Builtin.append_ #[34, 34] 34 #[v, .slice (some ⟨w.heap.size, 0, none⟩) 1 1]).run Tryd.prog (w.alloc (.cells #[.int .i64 x.c, .int .i64 x.v] 56)) = .ok v' w' ∧ Owns2 B w' v' (xs ++ [x]) ∧ w.grownBy w' v.ownBlock ∧ (∀ k, v'.ownBlock = some k → v.ownBlock = some k ∨ w.heap.size ≤ k) := by
  obtain ⟨v', w', hr, hO, hG, hl⟩ := app rowRow v _ 34 xs [x] _ B (w.alloc (.cells #[.int .i64 x.c, .int .i64 x.v] 56)) (h.on (alloc_below w _) (Nat.le_refl _)) (by simp; omega) (seesOneR w x _) (by simp; omega)
  exact ⟨v', w', hr, hO, grown_allocR hG, fun k hk => (hl k hk).imp id fun h => by simp at h; omega⟩
theorem seesOneI (W : World) (x : Int) : Ints.Sees (W.heap.size + 1) (W.alloc (.cells #[.int .i64 x] 3)) (.slice (some ⟨W.heap.size, 0, none⟩) 1 1) [x] :=
  ⟨_, 1, rfl, by simp, by unfold maxLen; omega, fun _ => ⟨W.heap.size, 0, rfl, by omega, fun j hj => by
    have hj0 : j = 0 := by simpa using hj
    subst hj0
    have hb : Blk (W.alloc (.cells #[.int .i64 x] 3)) W.heap.size #[.int .i64 x] 3 := Blk.new W _ _
    rw [hb.cell]
    rfl⟩⟩
theorem pushI (v : Value) (zs : List Int) (B : Nat) (w : World) (h : Ints.Owns B w v zs) (hB : B ≤ w.heap.size) (hlen : zs.length ≤ 4000000) (x : Int) :
    ∃ v' w', (Builtin.append_ #[26, 26] 26 #[v, .slice (some ⟨w.heap.size, 0, none⟩) 1 1]).run Tryd.prog (w.alloc (.cells #[.int .i64 x] 3)) = .ok v' w' ∧ Ints.Owns B w' v' (zs ++ [x]) ∧ w.grownBy w' v.ownBlock ∧ (∀ k, v'.ownBlock = some k → v.ownBlock = some k ∨ w.heap.size ≤ k) := by
  obtain ⟨v', w', hr, hO, hG, hl⟩ := Ints.appJ v _ 26 zs [x] _ B _ (h.on (alloc_below w (.cells #[.int .i64 x] 3)) (Nat.le_refl _)) (by simp; omega) (seesOneI w x) (by simp; omega)
  exact ⟨v', w', hr, hO, grown_allocR hG, fun k hk => (hl k hk).imp id fun h => by simp at h; omega⟩
/-- l[:k] -/
theorem sees_take {B n cap k : Nat} {w : World} {a : Option Addr} {xs : List R2} (h : Sees2 B w (.slice a n cap) xs) (hn : xs.length = n) (hk : k ≤ n) : Sees2 B w (.slice a k cap) (xs.take k) := by
  obtain ⟨a', cap', e, h1, h2, h3⟩ := h
  simp only [Value.slice.injEq] at e
  obtain ⟨rfl, -, rfl⟩ := e
  have hl : (xs.take k).length = k := by rw [List.length_take]; omega
  refine ⟨a, cap, by rw [hl], by omega, h2, fun hne => ?_⟩
  obtain ⟨b, off, rfl, hlt, hc⟩ := h3 (fun e => hne (by rw [e]; simp))
  exact ⟨b, off, rfl, hlt, fun j hj => by rw [List.getElem_take]; exact hc j (by omega)⟩
theorem owns_litR (w : World) {B : Nat} (hB : B ≤ w.heap.size) : Owns2 B (w.alloc (.cells #[] 56)) (.slice (some ⟨w.heap.size, 0, none⟩) 0 0) [] := World.ownsRow_lit w #[] 0 hB (by simp [maxLen]) rfl
end Logs
end Go.Proofs.YtppikpdphcfomaaDoor
/- What the program's RowsOk and Cut answer; slices.Clone of rows. -/
set_option linter.unusedVariables false
set_option linter.unusedSimpArgs false
namespace Go.Proofs.YtppikpdphcfomaaDoor
open Go.RowKit
namespace Logs
open Bas Flat

set_option maxRecDepth 100000 in
set_option maxHeartbeats 3200000 in
theorem implOk (v : Value) (xs : List R2) (B : Nat) (w : World) (hv : Sees2 B w v xs) (hB : B ≤ w.heap.size) :
    Calls Tryd.prog 65 #[v] w fun e w' => e = .returned (.bool (rowsOk xs)) ∧ Below w.heap.size w w' := by
  obtain ⟨a, cap, rfl⟩ := hv.form
  have hr := hv.room
  have hm : (xs.length : Int) ≤ 9223372036854775807 := by unfold maxLen at hr; omega
  obtain ⟨n, hn⟩ : ∃ n, xs.length = n := ⟨_, rfl⟩
  obtain ⟨g, hg⟩ : ∃ g, w.heap.size = g := ⟨_, rfl⟩
  rw [hg] at hB ⊢
  by_cases h8 : n ≤ 300
  · have HL : Hid (xs.length ≤ 300) := by show _ ≤ _; omega
    rw [hn] at hm hv ⊢
    have h8' : (n : Int) ≤ 300 := by omega
    have b0 : Below g w w := Below.refl _ _
    clear hr
    go_enter Tryd.func65, Tryd.ntmps65
    go_wp2
    go_loopw [10] (fun i wr => ∃ k : Nat, k ≤ n ∧ i = .int .i64 k ∧ (∀ j (h : j < xs.length), j < k → okR xs[j] = true) ∧ Below g w wr) (fun i _ => n - (intOf i).toNat)
    case atStart => exact ⟨0, by omega, rfl, fun j _ h => by omega, b0⟩
    case round =>
      obtain ⟨k, hk, rfl, hall, hb⟩ := hrel
      clear b0
      have hsz : g ≤ wr.heap.size := by have := hb.size; omega
      by_cases hlt : k < n
      · obtain ⟨b, off, rfl, hbB, hc⟩ := (hv.on hb hB).open (by omega)
        obtain ⟨a0, a1⟩ := at2 (hc k (by omega))
        have i1 : (k : Int) < n := by omega
        obtain ⟨z, hz⟩ : ∃ z, xs[k] = z := ⟨_, rfl⟩
        rw [hz] at a0 a1
        change wr.cell? ⟨b, off + k * 2, none⟩ = _ at a0
        change wr.cell? ⟨b, off + k * 2 + 1, none⟩ = _ at a1
        have X0 := Blk.new wr #[.int .i64 z.c, .int .i64 z.v] 56
        have x0 := X0.cell 0; have x1 := X0.cell 1
        have bA := hb.trans ((alloc_below wr (.cells #[.int .i64 z.c, .int .i64 z.v] 56)).mono hsz)
        have HZ : Hid (xs[k] = z) := hz
        have HA : Hid (∀ j (h : j < xs.length), j < k → okR xs[j] = true) := hall
        have cC := fun W => isCellC z.c W
        have cV := fun W => isValC z.v W
        obtain ⟨p, hp⟩ : ∃ p, Ops.inn 0 7 z.c = p := ⟨_, rfl⟩
        obtain ⟨q, hq⟩ : ∃ q, Ops.inn 0 65535 z.v = q := ⟨_, rfl⟩
        rw [hp] at cC
        rw [hq] at cV
        have HP : Hid (Ops.inn 0 7 z.c = p) := hp
        have HQ : Hid (Ops.inn 0 65535 z.v = q) := hq
        clear hz hc hall hp hq X0
        cases p
        · have HF : Hid (rowsOk xs = false) := rowsOk_one (j := k) (by omega) (by rw [HZ.out]; exact okR_cell HP.out)
          go_wp2_with (go_at_call 77; refine (cC _).mono ?_; rintro e w1 ⟨rfl, rfl⟩)
          go_ret
          exact ⟨ret_rows HF.out, bA⟩
        cases q
        · have HF : Hid (rowsOk xs = false) := rowsOk_one (j := k) (by omega) (by rw [HZ.out]; exact okR_val HQ.out)
          go_wp2_with (first | (go_at_call 77; refine (cC _).mono ?_; rintro e w1 ⟨rfl, rfl⟩) | (go_at_call 78; refine (cV _).mono ?_; rintro e w1 ⟨rfl, rfl⟩))
          go_ret
          exact ⟨ret_rows HF.out, bA⟩
        go_wp2_with (first | (go_at_call 77; refine (cC _).mono ?_; rintro e w1 ⟨rfl, rfl⟩) | (go_at_call 78; refine (cV _).mono ?_; rintro e w1 ⟨rfl, rfl⟩))
        go_roundw
        case rel => exact ⟨k + 1, by omega, by go_num, fun j hj hjk => by
          rcases Nat.lt_succ_iff_lt_or_eq.1 hjk with h | h
          · exact HA.out j hj h
          · subst h; rw [HZ.out]; simp [okR, HP.out, HQ.out], bA⟩
        case measure => simp [intOf]; omega
      · obtain rfl : k = n := by omega
        have HT : Hid (rowsOk xs = true) := rowsOk_mk HL.out fun j hj => hall j hj (by omega)
        have i1 : ¬ (k : Int) < k := by omega
        clear hall
        go_wp2
        go_ret
        exact ⟨ret_rows HT.out, hb⟩
  · have HF : Hid (rowsOk xs = false) := rowsOk_len (by omega)
    rw [hn] at hm ⊢
    have h8' : (300 : Int) < n := by omega
    clear hn hr hv
    go_enter Tryd.func65, Tryd.ntmps65
    go_wp2
    go_ret
    exact ⟨ret_rows HF.out, Below.refl _ _⟩

end Logs
end Go.Proofs.YtppikpdphcfomaaDoor
