/- Several texts of one proof, in build order: DoPlain, ShapeImpl, DoStep, StkRow, EndImpl, DoBlock, DoRun, IntApp, CloneI, StockOf, ThVals. -/
import Derived.WalkMore
import Derived.Lib.SliceRun
import Derived.Test.YtppkohkcffnghaaKB1
import Derived.Test.YtppkohkcffnghaaKB2
import Derived.Test.YtppkohkcffnghaaKB3
/- do: every plain op. -/
set_option linter.unusedVariables false
set_option linter.unusedSimpArgs false
namespace Go.Proofs.Ytppkohkcffnghaa
open Go.RowKit
namespace Ops
open Bas Flat

theorem spans_ok {o : O4} (h : okOp o = true) : ∃ s, spans o.k = some s ∧ inn s.1.1 s.1.2 o.a = true ∧ inn s.2.1.1 s.2.1.2 o.b = true ∧ inn s.2.2.1 s.2.2.2 o.c = true := by
  unfold okOp opOk at h
  cases hs : spans o.k with
  | none => rw [hs] at h; simp at h
  | some s =>
    rw [hs] at h
    obtain ⟨x, y, z⟩ := s
    simp only [Bool.and_eq_true] at h
    exact ⟨_, rfl, h.1.1, h.1.2, h.2⟩
set_option maxRecDepth 100000 in
theorem doPlain (p : Nat) (vC vK vO : Value) (r : List Int) (t : Th) (o : O4) (ho : okOp o = true) (hk : o.k ≤ 6 ∨ 12 ≤ o.k) (hr : regsOk r = true) (ht : thOk t = true) (W : World) (hd : Dn W p vC vK vO (nums r t)) :
    Calls Try.prog 124 #[.pointer (some ⟨p, 3, none⟩), o.val] W fun e W' => e = .returned (.tuple #[]) ∧ Dn W' p vC vK vO (nums (plainR o r t) (plainT o r t)) ∧ Only p W W' := by
  obtain ⟨s, hs, h1, h2, h3⟩ := spans_ok ho
  obtain ⟨l1, l2, l3⟩ := ok_len hr ht
  have hx := rd_all (lo := 0) (hi := 65535) (by omega) (regsOk_out hr).2
  have hn := (th_parts ht).2.2
  obtain ⟨k, a, b, c⟩ := o
  simp only at hk hs h1 h2 h3
  show Calls _ _ #[.pointer (some ⟨p, 3, none⟩), opV k a b c] W _
  rcases kinds k with rfl | rfl | rfl | rfl | rfl | rfl | rfl | rfl | rfl | rfl | rfl | rfl | rfl | rfl | rfl | rfl | hb
  · exact doCalc p vC vK vO r t 1 a b c (by omega) l1 l2 l3 W hd
  · exact doCalc p vC vK vO r t 2 a b c (by omega) l1 l2 l3 W hd
  · exact doCalc p vC vK vO r t 3 a b c (by omega) l1 l2 l3 W hd
  · exact doCalc p vC vK vO r t 4 a b c (by omega) l1 l2 l3 W hd
  · obtain rfl : ((0, 3), (0, 7), (0, 0)) = s := Option.some.inj hs
    obtain ⟨a, rfl, ha⟩ := nat_of h1 (Int.le_refl _)
    obtain ⟨b, rfl, hb⟩ := nat_of h2 (Int.le_refl _)
    simp only at ha hb
    exact do5 p vC vK vO r t a b c (by omega) (by omega) l1 l2 W hd
  · obtain rfl : ((0, 7), (0, 3), (0, 0)) = s := Option.some.inj hs
    obtain ⟨a, rfl, ha⟩ := nat_of h1 (Int.le_refl _)
    obtain ⟨b, rfl, hb⟩ := nat_of h2 (Int.le_refl _)
    simp only at ha hb
    exact do6 p vC vK vO r t a b c (by omega) (by omega) l1 l2 l3 W hd
  · omega
  · omega
  · omega
  · omega
  · omega
  · obtain rfl : ((0, 7), (0, 3), (0, 3)) = s := Option.some.inj hs
    obtain ⟨a, rfl, ha⟩ := nat_of h1 (Int.le_refl _)
    obtain ⟨b, rfl, hb⟩ := nat_of h2 (Int.le_refl _)
    obtain ⟨c, rfl, hc⟩ := nat_of h3 (Int.le_refl _)
    simp only at ha hb hc
    exact do12 p vC vK vO r t a b c (by omega) (by omega) (by omega) l1 l2 l3 (hx _) W hd
  · obtain rfl : ((0, 3), (0, 7), (0, 0)) = s := Option.some.inj hs
    obtain ⟨a, rfl, ha⟩ := nat_of h1 (Int.le_refl _)
    obtain ⟨b, rfl, hb⟩ := nat_of h2 (Int.le_refl _)
    simp only at ha hb
    exact do13 p vC vK vO r t a b c (by omega) (by omega) l1 l2 l3 W hd
  · obtain rfl : ((0, 7), (0, 3), (0, 0)) = s := Option.some.inj hs
    obtain ⟨a, rfl, ha⟩ := nat_of h1 (Int.le_refl _)
    obtain ⟨b, rfl, hb⟩ := nat_of h2 (Int.le_refl _)
    simp only at ha hb
    exact do14 p vC vK vO r t a b c (by omega) (by omega) l1 l2 l3 W hd
  · obtain rfl : ((0, 3), (0, 0), (0, 0)) = s := Option.some.inj hs
    obtain ⟨a, rfl, ha⟩ := nat_of h1 (Int.le_refl _)
    simp only at ha
    exact do15 p vC vK vO r t a b c (by omega) l1 l2 l3 hn (hx _) W hd
  · obtain rfl : ((0, 3), (0, 0), (0, 0)) = s := Option.some.inj hs
    obtain ⟨a, rfl, ha⟩ := nat_of h1 (Int.le_refl _)
    simp only at ha
    exact do16 p vC vK vO r t a b c (by omega) l1 l2 l3 W hd
  · rw [spans_none hb] at hs; cases hs
end Ops
end Go.Proofs.Ytppkohkcffnghaa
/- What the program's DepthAt and HasFork answer. -/
set_option linter.unusedVariables false
set_option linter.unusedSimpArgs false
namespace Go.Proofs.Ytppkohkcffnghaa
open Go.RowKit
namespace Ops
open Bas Flat

theorem retI {a b : Int} (h : a = b) : Ending.returned (.int .i64 a) = .returned (.int .i64 b) := by rw [h]
theorem retB {a b : Bool} (h : a = b) : Ending.returned (.bool a) = .returned (.bool b) := by rw [h]
theorem kindI (x : O4) : (x.k = 8 ∧ delta x = 1) ∨ (x.k = 9 ∧ delta x = -1) ∨ ((x.k == 8) = false ∧ (x.k == 9) = false ∧ delta x = 0) := by
  unfold delta
  by_cases h8 : x.k = 8
  · exact .inl ⟨h8, if_pos h8⟩
  · by_cases h9 : x.k = 9
    · exact .inr (.inl ⟨h9, by rw [if_neg h8, if_pos h9]⟩)
    · exact .inr (.inr ⟨by simp [h8], by simp [h9], by rw [if_neg h8, if_neg h9]⟩)
/-- the cells of the op at place k -/
theorem seeI {w : World} {b off : Nat} {xs : List O4} (hc : ∀ j (h : j < xs.length), At opEl w b (off + j * opEl.sz) xs[j]) (k : Nat) (hk : k < xs.length) :
    w.cell? ⟨b, off + k * 4, none⟩ = some (.int .i64 xs[k].k) ∧ w.cell? ⟨b, off + k * 4 + 1, none⟩ = some (.int .i64 xs[k].a) ∧ w.cell? ⟨b, off + k * 4 + 2, none⟩ = some (.int .i64 xs[k].b) ∧ w.cell? ⟨b, off + k * 4 + 3, none⟩ = some (.int .i64 xs[k].c) := at4 (hc k hk)

set_option maxRecDepth 100000 in
set_option maxHeartbeats 1600000 in
theorem forkImpl (v : Value) (xs : List O4) (B : Nat) (w : World) (hv : Sees4 B w v xs) (hB : B ≤ w.heap.size) (hlen : xs.length ≤ 1048576) :
    Calls Try.prog 93 #[v] w fun e w' => e = .returned (.bool (hasFork xs)) ∧ Below w.heap.size w w' := by
  obtain ⟨a, cap, rfl⟩ := hv.form
  obtain ⟨n, hn⟩ : ∃ n, xs.length = n := ⟨_, rfl⟩
  rw [hn] at hv hlen ⊢
  obtain ⟨g, hg⟩ : ∃ g, w.heap.size = g := ⟨_, rfl⟩
  rw [hg] at hB ⊢
  have hb0 : Below g w w := Below.refl _ _
  go_enter Try.func93, Try.ntmps93
  go_wp2
  go_loopw [7] (fun i' wr => ∃ k : Nat, k ≤ n ∧ i' = .int .i64 k ∧ (∀ j (h : j < xs.length), j < k → ¬ xs[j].k = 11) ∧ Below g w wr) (fun i' _ => n - (intOf i').toNat)
  case atStart => exact ⟨0, Nat.zero_le _, rfl, fun j _ h => by omega, hb0⟩
  case round =>
    obtain ⟨k, hk, rfl, hall, hb⟩ := hrel
    clear hb0
    have hsz : g ≤ wr.heap.size := by have := hb.size; omega
    by_cases hlt : k < n
    · obtain ⟨b, off, rfl, hbB, hc⟩ := (hv.on hb hB).open (by omega)
      obtain ⟨a0, a1, a2, a3⟩ := seeI hc k (by omega)
      have i1 : (k : Int) < n := by omega
      by_cases h11 : xs[k].k = 11
      · have HF : Hid (true = hasFork xs) := (hasFork_yes (by omega) h11).symm
        rw [h11] at a0
        obtain ⟨x, hx⟩ : ∃ x, xs[k] = x := ⟨_, rfl⟩
        rw [hx] at a1 a2 a3
        clear hc hall h11 hx
        go_wp2
        go_ret
        refine ⟨retB HF.out, ?_⟩
        exact hb.alloc hsz _
      · have HA : Hid (∀ j (h : j < xs.length), j < k + 1 → ¬ xs[j].k = 11) := fun j hj hjk => by
          rcases Nat.lt_succ_iff_lt_or_eq.1 hjk with h | h
          · exact hall j hj h
          · subst h; exact h11
        have d11 : (xs[k].k == 11) = false := by simp [h11]
        obtain ⟨x, hx⟩ : ∃ x, xs[k] = x := ⟨_, rfl⟩
        rw [hx] at a0 a1 a2 a3 d11
        clear hc hall h11 hx
        go_wp2
        go_roundw
        case rel => exact ⟨k + 1, by omega, by go_num, HA.out, hb.alloc hsz _⟩
        case measure => simp [intOf]; omega
    · have HF : Hid (false = hasFork xs) := (hasFork_no fun j hj => hall j hj (by omega)).symm
      have i1 : ¬ (k : Int) < n := by omega
      clear hall
      go_wp2
      go_ret
      exact ⟨retB HF.out, hb⟩

/-- where the range ends -/
theorem bound_of (xs : List O4) (i : Int) (n : Nat) (hn : xs.length = n) : ∃ t : Nat, t ≤ n ∧ depthAt xs i = dsum (xs.take t) ∧ ((i < 0 ∧ t = 0) ∨ (i = 0 ∧ t = 0) ∨ (0 < i ∧ i ≤ n ∧ i = t) ∨ ((n : Int) < i ∧ t = n ∧ 0 < n) ∨ (0 < i ∧ t = 0 ∧ n = 0)) := by
  unfold depthAt
  by_cases h0 : i < 0
  · exact ⟨0, by omega, by rw [show i.toNat = 0 by omega], .inl ⟨h0, rfl⟩⟩
  · by_cases h2 : i = 0
    · exact ⟨0, by omega, by rw [h2]; rfl, .inr (.inl ⟨h2, rfl⟩)⟩
    · by_cases hn0 : n = 0
      · exact ⟨0, by omega, by rw [List.take_of_length_le (by omega), List.take_of_length_le (by omega)], .inr (.inr (.inr (.inr ⟨by omega, rfl, hn0⟩)))⟩
      · by_cases h1 : i ≤ n
        · exact ⟨i.toNat, by omega, rfl, .inr (.inr (.inl ⟨by omega, h1, by omega⟩))⟩
        · exact ⟨n, by omega, by rw [List.take_of_length_le (by omega), List.take_of_length_le (by omega)], .inr (.inr (.inr (.inl ⟨by omega, rfl, by omega⟩)))⟩

end Ops
end Go.Proofs.Ytppkohkcffnghaa
/- What step does, one theorem a kind of op. -/
set_option linter.unusedVariables false
set_option linter.unusedSimpArgs false
namespace Go.Proofs.Ytppkohkcffnghaa
open Go.RowKit
namespace Ops
open Bas Flat

set_option maxRecDepth 100000 in
set_option maxHeartbeats 3200000 in
theorem stepK8 (B p : Nat) (vC vK vO : Value) (xs : List O4) (t0 : Th) (F : List Int → Th → List Int × Th) (Q : World → Prop) (hQ : Stays p Q) (hcode : codeOk xs = true) (s : Cf) (hs : CfOk xs s) (hp : s.pc < xs.length) (hk : xs[s.pc].k = 8)
    (hblock : ∀ W, Dc B W p vC vK vO xs s.r s.t → Q W → Calls Try.prog 122 #[.pointer (some ⟨p, 0, none⟩), .int .i64 (s.pc : Int)] W (StepTo B p vC vK vO xs t0 F s W))
    (W : World) (hd : Dc B W p vC vK vO xs s.r s.t) (hq : Q W) :
    Calls Try.prog 114 #[.pointer (some ⟨p, 0, none⟩), .int .i64 (s.pc : Int)] W (StepTo B p vC vK vO xs t0 F s W) := by
  obtain ⟨av, cv, rfl⟩ := hd.c.form
  have hlen := (code_four hcode).1
  have hgx := xs_at hp
  have hbl : B ≤ W.heap.size := by have := hd.hB; have := hd.d.lt; omega
  obtain ⟨b, off, rfl, hbB, hc⟩ := hd.c.open (by omega)
  obtain ⟨a0, a1, a2, a3⟩ := seeI hc s.pc hp
  have hok := code_at hcode hp
  obtain ⟨pc, hpc⟩ : ∃ pc, s.pc = pc := ⟨_, rfl⟩
  obtain ⟨n, hn⟩ : ∃ n, xs.length = n := ⟨_, rfl⟩
  obtain ⟨x, hx⟩ : ∃ x, xs[s.pc] = x := ⟨_, rfl⟩
  rw [hx] at a0 a1 a2 a3 hok
  have HX : Hid (xs[s.pc] = x) := hx
  have hkind : x.k = 8 := by rw [← hx]; exact hk
  rw [hpc] at a0 a1 a2 a3 ⊢
  rw [hn] at hd ⊢
  have i1 : (pc : Int) < n := by omega
  obtain ⟨q, hqq⟩ : ∃ q, W.heap.size = q := ⟨_, rfl⟩
  have hpl := hd.d.lt
  obtain ⟨kk, oa, ob, oc⟩ := x
  simp only at a0 a1 a2 a3 hkind
  have X1 := Blk.new W #[.int .i64 kk, .int .i64 oa, .int .i64 ob, .int .i64 oc] 30
  have b1 := alloc_below W (.cells #[.int .i64 kk, .int .i64 oa, .int .i64 ob, .int .i64 oc] 30)
  have d1 := hd.on b1 hpl
  have o1 : Only p W _ := Only.of b1
  have q1 := hQ _ _ hq o1
  rw [hqq] at X1 hpl
  have v0 := hd.d.code
  obtain ⟨W1, hW1⟩ : ∃ W1, W.alloc (.cells #[.int .i64 kk, .int .i64 oa, .int .i64 ob, .int .i64 oc] 30) = W1 := ⟨_, rfl⟩
  rw [hW1] at X1 d1 o1 q1
  have c0 := X1.cell 0; have c1 := X1.cell 1; have c2 := X1.cell 2; have c3 := X1.cell 3
  obtain ⟨l1, l2, l3⟩ := ok_len hs.r hs.t
  have hgs := hd.d
  have cB := hblock W1 (by rw [hn]; exact d1) q1
  rw [hpc, hn] at cB
  clear hblock
  subst hkind
  clear hx hc b1 hk
  go_enter Try.func114, Try.ntmps114
  go_wp2_with fail
  refine cB.mono ?_
  rintro e W2 (⟨i, r, t, rfl, h1, h2, h3, h4, h5⟩ | ⟨⟨h0, h⟩, h1⟩)
  · go_wp2
    go_ret
    exact .inl ⟨i, r, t, rfl, h1, h2, h3, h4, o1.trans h5⟩
  · rw [HX.out] at h; cases h
set_option maxRecDepth 100000 in
set_option maxHeartbeats 3200000 in
theorem stepK10 (B p : Nat) (vC vK vO : Value) (xs : List O4) (t0 : Th) (F : List Int → Th → List Int × Th) (Q : World → Prop) (hQ : Stays p Q) (hcode : codeOk xs = true) (s : Cf) (hs : CfOk xs s) (hp : s.pc < xs.length) (hk : xs[s.pc].k = 10)
    (W : World) (hd : Dc B W p vC vK vO xs s.r s.t) (hq : Q W) :
    Calls Try.prog 114 #[.pointer (some ⟨p, 0, none⟩), .int .i64 (s.pc : Int)] W (StepTo B p vC vK vO xs t0 F s W) := by
  obtain ⟨av, cv, rfl⟩ := hd.c.form
  have hlen := (code_four hcode).1
  have hgx := xs_at hp
  have hbl : B ≤ W.heap.size := by have := hd.hB; have := hd.d.lt; omega
  obtain ⟨b, off, rfl, hbB, hc⟩ := hd.c.open (by omega)
  obtain ⟨a0, a1, a2, a3⟩ := seeI hc s.pc hp
  have hok := code_at hcode hp
  obtain ⟨pc, hpc⟩ : ∃ pc, s.pc = pc := ⟨_, rfl⟩
  obtain ⟨n, hn⟩ : ∃ n, xs.length = n := ⟨_, rfl⟩
  obtain ⟨x, hx⟩ : ∃ x, xs[s.pc] = x := ⟨_, rfl⟩
  rw [hx] at a0 a1 a2 a3 hok
  have HX : Hid (xs[s.pc] = x) := hx
  have hkind : x.k = 10 := by rw [← hx]; exact hk
  rw [hpc] at a0 a1 a2 a3 ⊢
  rw [hn] at hd ⊢
  have i1 : (pc : Int) < n := by omega
  obtain ⟨q, hqq⟩ : ∃ q, W.heap.size = q := ⟨_, rfl⟩
  have hpl := hd.d.lt
  obtain ⟨kk, oa, ob, oc⟩ := x
  simp only at a0 a1 a2 a3 hkind
  have X1 := Blk.new W #[.int .i64 kk, .int .i64 oa, .int .i64 ob, .int .i64 oc] 30
  have b1 := alloc_below W (.cells #[.int .i64 kk, .int .i64 oa, .int .i64 ob, .int .i64 oc] 30)
  have d1 := hd.on b1 hpl
  have o1 : Only p W _ := Only.of b1
  have q1 := hQ _ _ hq o1
  rw [hqq] at X1 hpl
  have v0 := hd.d.code
  obtain ⟨W1, hW1⟩ : ∃ W1, W.alloc (.cells #[.int .i64 kk, .int .i64 oa, .int .i64 ob, .int .i64 oc] 30) = W1 := ⟨_, rfl⟩
  rw [hW1] at X1 d1 o1 q1
  have c0 := X1.cell 0; have c1 := X1.cell 1; have c2 := X1.cell 2; have c3 := X1.cell 3
  obtain ⟨l1, l2, l3⟩ := ok_len hs.r hs.t
  have hgs := hd.d
  subst hkind
  have hpan : Hid (∃ h : s.pc < xs.length, xs[s.pc].k = 10) := ⟨hp, by rw [HX.out]⟩
  have hbu : ∀ w : World, (Instr.makeInterface 144 (.agg #[])).run Try.prog w = .ok gave w := fun _ => by kernel_rfl
  clear hx hc b1 hk
  go_enter Try.func114, Try.ntmps114
  go_wp2
  refine ⟨rfl, .inr ⟨hpan.out, rfl, ?_, o1⟩⟩
  exact { d := d1.d, c := d1.c, hB := d1.hB }
set_option maxRecDepth 100000 in
set_option maxHeartbeats 3200000 in
theorem stepK7z (B p : Nat) (vC vK vO : Value) (xs : List O4) (t0 : Th) (F : List Int → Th → List Int × Th) (Q : World → Prop) (hQ : Stays p Q) (hcode : codeOk xs = true) (s : Cf) (hs : CfOk xs s) (hp : s.pc < xs.length) (hk : xs[s.pc].k = 7)
    (hz0 : ∀ x, xs[s.pc] = x → rd s.r x.a = 0)
    (W : World) (hd : Dc B W p vC vK vO xs s.r s.t) (hq : Q W) :
    Calls Try.prog 114 #[.pointer (some ⟨p, 0, none⟩), .int .i64 (s.pc : Int)] W (StepTo B p vC vK vO xs t0 F s W) := by
  obtain ⟨av, cv, rfl⟩ := hd.c.form
  have hlen := (code_four hcode).1
  have hgx := xs_at hp
  have hbl : B ≤ W.heap.size := by have := hd.hB; have := hd.d.lt; omega
  obtain ⟨b, off, rfl, hbB, hc⟩ := hd.c.open (by omega)
  obtain ⟨a0, a1, a2, a3⟩ := seeI hc s.pc hp
  have hok := code_at hcode hp
  obtain ⟨pc, hpc⟩ : ∃ pc, s.pc = pc := ⟨_, rfl⟩
  obtain ⟨n, hn⟩ : ∃ n, xs.length = n := ⟨_, rfl⟩
  obtain ⟨x, hx⟩ : ∃ x, xs[s.pc] = x := ⟨_, rfl⟩
  rw [hx] at a0 a1 a2 a3 hok
  have HX : Hid (xs[s.pc] = x) := hx
  have hkind : x.k = 7 := by rw [← hx]; exact hk
  rw [hpc] at a0 a1 a2 a3 ⊢
  rw [hn] at hd ⊢
  have i1 : (pc : Int) < n := by omega
  obtain ⟨q, hqq⟩ : ∃ q, W.heap.size = q := ⟨_, rfl⟩
  have hpl := hd.d.lt
  obtain ⟨kk, oa, ob, oc⟩ := x
  simp only at a0 a1 a2 a3 hkind
  have X1 := Blk.new W #[.int .i64 kk, .int .i64 oa, .int .i64 ob, .int .i64 oc] 30
  have b1 := alloc_below W (.cells #[.int .i64 kk, .int .i64 oa, .int .i64 ob, .int .i64 oc] 30)
  have d1 := hd.on b1 hpl
  have o1 : Only p W _ := Only.of b1
  have q1 := hQ _ _ hq o1
  rw [hqq] at X1 hpl
  have v0 := hd.d.code
  obtain ⟨W1, hW1⟩ : ∃ W1, W.alloc (.cells #[.int .i64 kk, .int .i64 oa, .int .i64 ob, .int .i64 oc] 30) = W1 := ⟨_, rfl⟩
  rw [hW1] at X1 d1 o1 q1
  have c0 := X1.cell 0; have c1 := X1.cell 1; have c2 := X1.cell 2; have c3 := X1.cell 3
  obtain ⟨l1, l2, l3⟩ := ok_len hs.r hs.t
  have hgs := hd.d
  subst hkind
  obtain ⟨sp, hsp, g1, g2, g3⟩ := spans_ok hok
  obtain rfl : ((0, 3), (1, 20), (0, 0)) = sp := Option.some.inj hsp
  obtain ⟨na, rfl, hna⟩ := nat_of g1 (Int.le_refl _)
  obtain ⟨nb, rfl, hnb⟩ := nat_of g2 (by simp)
  simp only at hna hnb
  have e1 := d1.d.reg l1 (by omega : na < 4)
  have i2 : (na : Int) < 4 := by omega
  have hp1 := step_plain (t0 := t0) (F := F) hcode hs hp (by rw [HX.out]; simp) (by rw [HX.out]; simp) (by rw [HX.out]; simp) (by rw [HX.out]; simp)
  rw [HX.out, hpc] at hp1
  obtain ⟨hp1, hp2, hp3⟩ := hp1
  have HL : Hid (Leads xs t0 F s _) := Leads.step hp hp1
  have HO : Hid (CfOk xs _) := hp2
  have hz : rd s.r (na : Int) = 0 := hz0 _ HX.out
  have HR : Hid (plainR ⟨7, (na : Int), (nb : Int), oc⟩ s.r s.t = s.r) := rfl
  have HT : Hid (plainT ⟨7, (na : Int), (nb : Int), oc⟩ s.r s.t = s.t) := rfl
  have HN : Hid (nextPc ⟨7, (na : Int), (nb : Int), oc⟩ s.r pc = pc + 1 + nb) := by
    show (if (7 : Int) = 7 ∧ rd s.r (na : Int) = 0 then pc + 1 + ((nb : Nat) : Int).toNat else pc + 1) = _
    rw [if_pos ⟨rfl, hz⟩]; simp
  rw [hz] at e1
  clear hx hc b1 hk
  go_enter Try.func114, Try.ntmps114
  go_wp2
  go_region
  go_wp2
  go_ret
  refine .inl ⟨pc + 1 + nb, s.r, s.t, by go_num, by omega, ?_, ?_, ?_, o1.drew⟩
  · have := HL.out; rw [HR.out, HT.out, HN.out] at this; exact this
  · have := HO.out; rw [HR.out, HT.out, HN.out] at this; exact this
  · exact { d := d1.d, c := d1.c, hB := d1.hB }
set_option maxRecDepth 100000 in
set_option maxHeartbeats 3200000 in
theorem stepK7n (B p : Nat) (vC vK vO : Value) (xs : List O4) (t0 : Th) (F : List Int → Th → List Int × Th) (Q : World → Prop) (hQ : Stays p Q) (hcode : codeOk xs = true) (s : Cf) (hs : CfOk xs s) (hp : s.pc < xs.length) (hk : xs[s.pc].k = 7)
    (hz0 : ∀ x, xs[s.pc] = x → (rd s.r x.a == 0) = false)
    (W : World) (hd : Dc B W p vC vK vO xs s.r s.t) (hq : Q W) :
    Calls Try.prog 114 #[.pointer (some ⟨p, 0, none⟩), .int .i64 (s.pc : Int)] W (StepTo B p vC vK vO xs t0 F s W) := by
  obtain ⟨av, cv, rfl⟩ := hd.c.form
  have hlen := (code_four hcode).1
  have hgx := xs_at hp
  have hbl : B ≤ W.heap.size := by have := hd.hB; have := hd.d.lt; omega
  obtain ⟨b, off, rfl, hbB, hc⟩ := hd.c.open (by omega)
  obtain ⟨a0, a1, a2, a3⟩ := seeI hc s.pc hp
  have hok := code_at hcode hp
  obtain ⟨pc, hpc⟩ : ∃ pc, s.pc = pc := ⟨_, rfl⟩
  obtain ⟨n, hn⟩ : ∃ n, xs.length = n := ⟨_, rfl⟩
  obtain ⟨x, hx⟩ : ∃ x, xs[s.pc] = x := ⟨_, rfl⟩
  rw [hx] at a0 a1 a2 a3 hok
  have HX : Hid (xs[s.pc] = x) := hx
  have hkind : x.k = 7 := by rw [← hx]; exact hk
  rw [hpc] at a0 a1 a2 a3 ⊢
  rw [hn] at hd ⊢
  have i1 : (pc : Int) < n := by omega
  obtain ⟨q, hqq⟩ : ∃ q, W.heap.size = q := ⟨_, rfl⟩
  have hpl := hd.d.lt
  obtain ⟨kk, oa, ob, oc⟩ := x
  simp only at a0 a1 a2 a3 hkind
  have X1 := Blk.new W #[.int .i64 kk, .int .i64 oa, .int .i64 ob, .int .i64 oc] 30
  have b1 := alloc_below W (.cells #[.int .i64 kk, .int .i64 oa, .int .i64 ob, .int .i64 oc] 30)
  have d1 := hd.on b1 hpl
  have o1 : Only p W _ := Only.of b1
  have q1 := hQ _ _ hq o1
  rw [hqq] at X1 hpl
  have v0 := hd.d.code
  obtain ⟨W1, hW1⟩ : ∃ W1, W.alloc (.cells #[.int .i64 kk, .int .i64 oa, .int .i64 ob, .int .i64 oc] 30) = W1 := ⟨_, rfl⟩
  rw [hW1] at X1 d1 o1 q1
  have c0 := X1.cell 0; have c1 := X1.cell 1; have c2 := X1.cell 2; have c3 := X1.cell 3
  obtain ⟨l1, l2, l3⟩ := ok_len hs.r hs.t
  have hgs := hd.d
  subst hkind
  obtain ⟨sp, hsp, g1, g2, g3⟩ := spans_ok hok
  obtain rfl : ((0, 3), (1, 20), (0, 0)) = sp := Option.some.inj hsp
  obtain ⟨na, rfl, hna⟩ := nat_of g1 (Int.le_refl _)
  obtain ⟨nb, rfl, hnb⟩ := nat_of g2 (by simp)
  simp only at hna hnb
  have e1 := d1.d.reg l1 (by omega : na < 4)
  have i2 : (na : Int) < 4 := by omega
  have hp1 := step_plain (t0 := t0) (F := F) hcode hs hp (by rw [HX.out]; simp) (by rw [HX.out]; simp) (by rw [HX.out]; simp) (by rw [HX.out]; simp)
  rw [HX.out, hpc] at hp1
  obtain ⟨hp1, hp2, hp3⟩ := hp1
  have HL : Hid (Leads xs t0 F s _) := Leads.step hp hp1
  have HO : Hid (CfOk xs _) := hp2
  have hz : (rd s.r (na : Int) == 0) = false := hz0 _ HX.out
  have HR : Hid (plainR ⟨7, (na : Int), (nb : Int), oc⟩ s.r s.t = s.r) := rfl
  have HT : Hid (plainT ⟨7, (na : Int), (nb : Int), oc⟩ s.r s.t = s.t) := rfl
  have HN : Hid (nextPc ⟨7, (na : Int), (nb : Int), oc⟩ s.r pc = pc + 1) := by
    show (if (7 : Int) = 7 ∧ rd s.r (na : Int) = 0 then pc + 1 + ((nb : Nat) : Int).toNat else pc + 1) = _
    rw [if_neg (fun h => by rw [h.2] at hz; cases hz)]
  obtain ⟨y, hy⟩ : ∃ y, rd s.r (na : Int) = y := ⟨_, rfl⟩
  rw [hy] at e1 hz
  clear hy
  clear hx hc b1 hk
  go_enter Try.func114, Try.ntmps114
  go_wp2
  go_region
  go_wp2
  go_ret
  refine .inl ⟨pc + 1, s.r, s.t, by go_num, by omega, ?_, ?_, ?_, o1.drew⟩
  · have := HL.out; rw [HR.out, HT.out, HN.out] at this; exact this
  · have := HO.out; rw [HR.out, HT.out, HN.out] at this; exact this
  · exact { d := d1.d, c := d1.c, hB := d1.hB }
set_option maxRecDepth 100000 in
set_option maxHeartbeats 3200000 in
theorem stepK11 (B p : Nat) (vC vK vO : Value) (xs : List O4) (t0 : Th) (F : List Int → Th → List Int × Th) (Q : World → Prop) (hQ : Stays p Q) (hcode : codeOk xs = true) (s : Cf) (hs : CfOk xs s) (hp : s.pc < xs.length) (hk : xs[s.pc].k = 11)
    (hF : ForkOk F) (hfork : ∀ W, Dc B W p vC vK vO xs s.r s.t → Q W → Calls Try.prog 123 #[.pointer (some ⟨p, 0, none⟩)] W fun e W' => e = .returned (.tuple #[]) ∧ Dc B W' p vC vK vO xs (F s.r s.t).1 (F s.r s.t).2 ∧ Only p W W')
    (W : World) (hd : Dc B W p vC vK vO xs s.r s.t) (hq : Q W) :
    Calls Try.prog 114 #[.pointer (some ⟨p, 0, none⟩), .int .i64 (s.pc : Int)] W (StepTo B p vC vK vO xs t0 F s W) := by
  obtain ⟨av, cv, rfl⟩ := hd.c.form
  have hlen := (code_four hcode).1
  have hgx := xs_at hp
  have hbl : B ≤ W.heap.size := by have := hd.hB; have := hd.d.lt; omega
  obtain ⟨b, off, rfl, hbB, hc⟩ := hd.c.open (by omega)
  obtain ⟨a0, a1, a2, a3⟩ := seeI hc s.pc hp
  have hok := code_at hcode hp
  obtain ⟨pc, hpc⟩ : ∃ pc, s.pc = pc := ⟨_, rfl⟩
  obtain ⟨n, hn⟩ : ∃ n, xs.length = n := ⟨_, rfl⟩
  obtain ⟨x, hx⟩ : ∃ x, xs[s.pc] = x := ⟨_, rfl⟩
  rw [hx] at a0 a1 a2 a3 hok
  have HX : Hid (xs[s.pc] = x) := hx
  have hkind : x.k = 11 := by rw [← hx]; exact hk
  rw [hpc] at a0 a1 a2 a3 ⊢
  rw [hn] at hd ⊢
  have i1 : (pc : Int) < n := by omega
  obtain ⟨q, hqq⟩ : ∃ q, W.heap.size = q := ⟨_, rfl⟩
  have hpl := hd.d.lt
  obtain ⟨kk, oa, ob, oc⟩ := x
  simp only at a0 a1 a2 a3 hkind
  have X1 := Blk.new W #[.int .i64 kk, .int .i64 oa, .int .i64 ob, .int .i64 oc] 30
  have b1 := alloc_below W (.cells #[.int .i64 kk, .int .i64 oa, .int .i64 ob, .int .i64 oc] 30)
  have d1 := hd.on b1 hpl
  have o1 : Only p W _ := Only.of b1
  have q1 := hQ _ _ hq o1
  rw [hqq] at X1 hpl
  have v0 := hd.d.code
  obtain ⟨W1, hW1⟩ : ∃ W1, W.alloc (.cells #[.int .i64 kk, .int .i64 oa, .int .i64 ob, .int .i64 oc] 30) = W1 := ⟨_, rfl⟩
  rw [hW1] at X1 d1 o1 q1
  have c0 := X1.cell 0; have c1 := X1.cell 1; have c2 := X1.cell 2; have c3 := X1.cell 3
  obtain ⟨l1, l2, l3⟩ := ok_len hs.r hs.t
  have hgs := hd.d
  have cB := hfork W1 (by rw [hn]; exact d1) q1
  rw [hn] at cB
  clear hfork
  subst hkind
  obtain ⟨hp1, hp2⟩ := step_fork (t0 := t0) hF hs hp (by rw [HX.out])
  rw [hpc] at hp1 hp2
  have HL : Hid (Leads xs t0 F s _) := Leads.step hp hp1
  have HO : Hid (CfOk xs _) := hp2
  clear hx hc b1 hk
  go_enter Try.func114, Try.ntmps114
  go_wp2_with fail
  refine cB.mono ?_
  rintro e W2 ⟨rfl, d2, o2⟩
  go_wp2
  go_ret
  exact .inl ⟨pc + 1, _, _, by go_num, by omega, HL.out, HO.out, d2, o1.trans o2⟩
set_option maxRecDepth 100000 in
set_option maxHeartbeats 3200000 in
theorem stepKp (B p : Nat) (vC vK vO : Value) (xs : List O4) (t0 : Th) (F : List Int → Th → List Int × Th) (Q : World → Prop) (hQ : Stays p Q) (hcode : codeOk xs = true) (s : Cf) (hs : CfOk xs s) (hp : s.pc < xs.length) (hk : xs[s.pc].k ≤ 6 ∨ 12 ≤ xs[s.pc].k)
    (W : World) (hd : Dc B W p vC vK vO xs s.r s.t) (hq : Q W) :
    Calls Try.prog 114 #[.pointer (some ⟨p, 0, none⟩), .int .i64 (s.pc : Int)] W (StepTo B p vC vK vO xs t0 F s W) := by
  obtain ⟨av, cv, rfl⟩ := hd.c.form
  have hlen := (code_four hcode).1
  have hgx := xs_at hp
  have hbl : B ≤ W.heap.size := by have := hd.hB; have := hd.d.lt; omega
  obtain ⟨b, off, rfl, hbB, hc⟩ := hd.c.open (by omega)
  obtain ⟨a0, a1, a2, a3⟩ := seeI hc s.pc hp
  have hok := code_at hcode hp
  obtain ⟨pc, hpc⟩ : ∃ pc, s.pc = pc := ⟨_, rfl⟩
  obtain ⟨n, hn⟩ : ∃ n, xs.length = n := ⟨_, rfl⟩
  obtain ⟨x, hx⟩ : ∃ x, xs[s.pc] = x := ⟨_, rfl⟩
  rw [hx] at a0 a1 a2 a3 hok
  have HX : Hid (xs[s.pc] = x) := hx
  have hkind : x.k ≤ 6 ∨ 12 ≤ x.k := by rw [← hx]; exact hk
  rw [hpc] at a0 a1 a2 a3 ⊢
  rw [hn] at hd ⊢
  have i1 : (pc : Int) < n := by omega
  obtain ⟨q, hqq⟩ : ∃ q, W.heap.size = q := ⟨_, rfl⟩
  have hpl := hd.d.lt
  obtain ⟨kk, oa, ob, oc⟩ := x
  simp only at a0 a1 a2 a3 hkind
  have X1 := Blk.new W #[.int .i64 kk, .int .i64 oa, .int .i64 ob, .int .i64 oc] 30
  have b1 := alloc_below W (.cells #[.int .i64 kk, .int .i64 oa, .int .i64 ob, .int .i64 oc] 30)
  have d1 := hd.on b1 hpl
  have o1 : Only p W _ := Only.of b1
  have q1 := hQ _ _ hq o1
  rw [hqq] at X1 hpl
  have v0 := hd.d.code
  obtain ⟨W1, hW1⟩ : ∃ W1, W.alloc (.cells #[.int .i64 kk, .int .i64 oa, .int .i64 ob, .int .i64 oc] 30) = W1 := ⟨_, rfl⟩
  rw [hW1] at X1 d1 o1 q1
  have c0 := X1.cell 0; have c1 := X1.cell 1; have c2 := X1.cell 2; have c3 := X1.cell 3
  obtain ⟨l1, l2, l3⟩ := ok_len hs.r hs.t
  have hgs := hd.d
  have cB := doPlain p (.slice (some ⟨b, off, none⟩) n cv) vK vO s.r s.t ⟨kk, oa, ob, oc⟩ hok hkind hs.r hs.t W1.drew d1.d.drew
  have hp1 := step_plain (t0 := t0) (F := F) hcode hs hp (by rw [HX.out]; show ¬ kk = 8; omega) (by rw [HX.out]; show ¬ kk = 9; omega) (by rw [HX.out]; show ¬ kk = 10; omega) (by rw [HX.out]; show ¬ kk = 11; omega)
  rw [HX.out, hpc] at hp1
  obtain ⟨hp1, hp2, hp3⟩ := hp1
  have HL : Hid (Leads xs t0 F s _) := Leads.step hp hp1
  have HO : Hid (CfOk xs _) := hp2
  have HN : Hid (nextPc ⟨kk, oa, ob, oc⟩ s.r pc = pc + 1) := by
    show (if kk = 7 ∧ _ then _ else _) = _
    rw [if_neg (by omega)]
  have n8 : (kk == 8) = false := by simp; omega
  have n10 : (kk == 10) = false := by simp; omega
  have n7 : (kk == 7) = false := by simp; omega
  have n11 : (kk == 11) = false := by simp; omega
  have eV : O4.val ⟨kk, oa, ob, oc⟩ = .agg #[.int .i64 kk, .int .i64 oa, .int .i64 ob, .int .i64 oc] := rfl
  rw [eV] at cB
  obtain ⟨R, hR⟩ : ∃ R, plainR ⟨kk, oa, ob, oc⟩ s.r s.t = R := ⟨_, rfl⟩
  obtain ⟨T, hT⟩ : ∃ T, plainT ⟨kk, oa, ob, oc⟩ s.r s.t = T := ⟨_, rfl⟩
  rw [hR, hT] at cB HL HO
  clear hR hT hkind hp1 hp2
  clear hx hc b1 hk
  go_enter Try.func114, Try.ntmps114
  go_wp2_with fail
  go_region_with (go_at_call 124; refine cB.mono ?_; rintro e W2 ⟨rfl, d2, o2⟩)
  have o3 := o1.drew.trans o2
  have dF : Dc B W2 p (.slice (some ⟨b, off, none⟩) n cv) vK vO xs R T := { d := d2, c := d1.drew.code o2, hB := hd.hB }
  go_wp2
  go_ret
  refine .inl ⟨pc + 1, R, T, by go_num, by omega, ?_, ?_, dF, o3⟩
  · have := HL.out; rw [HN.out] at this; exact this
  · have := HO.out; rw [HN.out] at this; exact this
end Ops
end Go.Proofs.Ytppkohkcffnghaa
/- The program's stack of blocks in memory. -/
set_option linter.unusedVariables false
set_option linter.unusedSimpArgs false
namespace Go.Proofs.Ytppkohkcffnghaa
open Go.RowKit
namespace Ops
open Bas Flat

def bEl : El B2 where
  sz := 2
  cells x := [.int .i64 x.b, .int .i64 x.d]
  len _ := rfl
  one x v hv := by simp at hv; rcases hv with rfl | rfl <;> rfl
  pos := by decide
def zB : B2 := ⟨0, 0⟩
theorem rowB : Row Try.prog bEl 139 156 (.agg #[.int .i64 0, .int .i64 0]) zB 16 := ⟨Try.underlying139, by kernel_rfl, rfl, by decide⟩
theorem rowO : Row Try.prog bEl 153 156 (.agg #[.int .i64 0, .int .i64 0]) zB 16 := ⟨Try.underlying153, by kernel_rfl, rfl, by decide⟩
abbrev OwnsB (B : Nat) (w : World) (v : Value) (xs : List B2) : Prop := Owns bEl 156 B w v xs
theorem atB {w : World} {b o : Nat} {x : B2} (h : At bEl w b o x) : w.cell? ⟨b, o, none⟩ = some (.int .i64 x.b) ∧ w.cell? ⟨b, o + 1, none⟩ = some (.int .i64 x.d) := ⟨h 0 _ rfl, h 1 _ rfl⟩
theorem seesOneB (W : World) (x : B2) (t : TypeId) : Sees bEl (W.heap.size + 1) (W.alloc (.cells #[.int .i64 x.b, .int .i64 x.d] t)) (.slice (some ⟨W.heap.size, 0, none⟩) 1 1) [x] :=
  ⟨_, 1, rfl, by simp, by unfold maxLen; omega, fun _ => ⟨W.heap.size, 0, rfl, by omega, fun j hj => by
    have hj0 : j = 0 := by simpa using hj
    subst hj0
    intro i u hu
    have hb : Blk (W.alloc (.cells #[.int .i64 x.b, .int .i64 x.d] t)) W.heap.size #[.int .i64 x.b, .int .i64 x.d] t := Blk.new W _ _
    simp only [Nat.zero_mul, Nat.zero_add]
    rw [hb.cell]
    change [Value.int .i64 x.b, .int .i64 x.d][i]? = some u at hu
    simpa using hu⟩⟩
theorem grown_allocd {W W' : World} {o : Obj} {row : Option Nat} (h : (W.alloc o).grownBy W' row) : W.grownBy W' row :=
  ⟨h.os, h.tape, h.output, Nat.le_trans (by simp) h.size, fun k hk hne => (h.block k (by simp; omega) hne).trans (Below.heap_alloc W o k hk)⟩
/-- append(v, x) -/
theorem pushB {t : TypeId} (R : Row Try.prog bEl t 156 (.agg #[.int .i64 0, .int .i64 0]) zB 16) (v : Value) (xs : List B2) (B : Nat) (w : World) (h : OwnsB B w v xs) (hB : B ≤ w.heap.size) (hlen : xs.length ≤ 4000000) (x : B2) :
    ∃ v' w', (Builtin.append_ #[t, t] t #[v, .slice (some ⟨w.heap.size, 0, none⟩) 1 1]).run Try.prog (w.alloc (.cells #[.int .i64 x.b, .int .i64 x.d] 156)) = .ok v' w' ∧ OwnsB B w' v' (xs ++ [x]) ∧ w.grownBy w' v.ownBlock ∧ (∀ k, v'.ownBlock = some k → v.ownBlock = some k ∨ w.heap.size ≤ k) := by
  obtain ⟨v', w', hr, hO, hG, hl⟩ := app R v _ t xs [x] _ B (w.alloc (.cells #[.int .i64 x.b, .int .i64 x.d] 156)) (h.on (alloc_below w _) (Nat.le_refl _)) (by simp; omega) (seesOneB w x _) (by simp; omega)
  refine ⟨v', w', hr, hO, grown_allocd hG, fun k hk => ?_⟩
  rcases hl k hk with h | h
  · exact .inl h
  · simp at h; exact .inr (by omega)
/-- the last one of a row that is owned -/
theorem popB {B g n cap : Nat} {w : World} {xs : List B2} {x : B2} (h : OwnsB B w (.slice (some ⟨g, 0, none⟩) (n + 1) cap) (xs ++ [x])) (hn : xs.length = n) : OwnsB B w (.slice (some ⟨g, 0, none⟩) n cap) xs := by
  obtain ⟨h1, h2⟩ := h
  rcases h2 with ⟨h', _⟩ | ⟨g', cap', cur, h', hb, hg, h3, h4, h5, h6⟩
  · cases h'
  · simp only [Value.slice.injEq, Option.some.injEq, Addr.mk.injEq, and_true] at h'
    obtain ⟨rfl, hl, rfl⟩ := h'
    refine ⟨by rw [fv_length], .inr ⟨g, cap, cur, by rw [hn], hb, hg, by omega, h4, h5, ?_⟩⟩
    have := congrArg (List.take (xs.length * bEl.sz)) h6
    rw [List.take_take, Nat.min_eq_left (Nat.mul_le_mul_right _ (by simp)), fv_append, List.take_append_of_le_length (by rw [fv_length]; exact Nat.le_refl _)] at this
    rw [this]
    exact List.take_of_length_le (by rw [fv_length]; exact Nat.le_refl _)

theorem fieldB0 (x y : Value) (W : World) : (Instr.field 156 (.agg #[x, y]) 0).run Try.prog W = .ok x W := by simp [Instr.field, asAgg, go_sem]
theorem fieldB1 (x y : Value) (W : World) : (Instr.field 156 (.agg #[x, y]) 1).run Try.prog W = .ok y W := by simp [Instr.field, asAgg, go_sem]

set_option maxRecDepth 100000 in
theorem noneC (w : World) : Calls Try.prog 118 #[] w fun e w' => ∃ v', e = .returned v' ∧ OwnsB w.heap.size w' v' (stk [-1]) ∧ Below w.heap.size w w' := by
  go_enter Try.func118, Try.ntmps118
  go_wp2
  go_ret
  exact ⟨_, rfl, World.ownsRow_lit w #[.int .i64 (-1), .int .i64 0] 1 (Nat.le_refl _) (by simp [maxLen]) rfl, alloc_below w _⟩

set_option maxRecDepth 100000 in
theorem begunC (v : Value) (s : List Int) (x : Int) (B : Nat) (w : World) (h : OwnsB B w v (stk s)) (hB : B ≤ w.heap.size) (hlen : s.length ≤ 2000000) :
    Calls Try.prog 120 #[v, .int .i64 x] w fun e w' => ∃ v', e = .returned v' ∧ OwnsB B w' v' (stk (x :: s)) ∧ w.grownBy w' v.ownBlock ∧ (∀ k, v'.ownBlock = some k → v.ownBlock = some k ∨ w.heap.size ≤ k) := by
  obtain ⟨v', w', hr, hO, hG, hl⟩ := pushB rowO v (stk s) B w h hB (by rw [stk_length]; omega) ⟨x, s.length⟩
  obtain ⟨a, cap, rfl⟩ := h.form
  rw [stk_length] at hr hG hl ⊢
  go_enter Try.func120, Try.ntmps120
  go_wp2_with (at_builtin; refine wpList_app _ rfl _ _ 153 rfl _ _ _ _ rfl rfl hr ?_)
  go_ret
  exact ⟨_, rfl, hO, hG, hl⟩

set_option maxRecDepth 100000 in
theorem innerC (v : Value) (x : Int) (r : List Int) (B : Nat) (w : World) (h : Sees bEl B w v (stk (x :: r))) (hB : B ≤ w.heap.size) :
    Calls Try.prog 119 #[v] w fun e w' => e = .returned (.agg #[.int .i64 x, .int .i64 r.length]) ∧ Below w.heap.size w w' := by
  have hr := h.room
  obtain ⟨a, cap, rfl⟩ := h.form
  obtain ⟨b, off, rfl, hb, hc⟩ := h.open (by rw [stk_length]; simp)
  have h0 := hc r.length (by rw [stk_length]; simp)
  rw [stk_last] at h0
  obtain ⟨a0, a1⟩ := atB h0
  rw [stk_length, List.length_cons] at hr ⊢
  obtain ⟨n, hn⟩ : ∃ n, r.length = n := ⟨_, rfl⟩
  rw [hn] at a0 a1 hr ⊢
  change w.cell? ⟨b, off + n * 2, none⟩ = _ at a0
  change w.cell? ⟨b, off + n * 2 + 1, none⟩ = _ at a1
  have q1 : ((n + 1 : Nat) : Int) ≤ 9223372036854775807 := by unfold maxLen at hr; omega
  have q2 : ((n + 1 : Nat) : Int) - 1 = n := by omega
  have a0 := ((alloc_below w (.cells #[.int .i64 0, .int .i64 0] 156)).cell (p := ⟨b, off + n * 2, none⟩) (by show b < w.heap.size; omega)).trans a0
  have a1 := ((alloc_below w (.cells #[.int .i64 0, .int .i64 0] 156)).cell (p := ⟨b, off + n * 2 + 1, none⟩) (by show b < w.heap.size; omega)).trans a1
  clear hc h0 hr
  go_enter Try.func119, Try.ntmps119
  go_wp2
  refine bodyPost_ret (v := .agg #[.int .i64 x, .int .i64 n]) (by simp [results, Try.results119, go_sem]) rfl ⟨rfl, ?_⟩
  exact alloc_below w _

set_option maxRecDepth 100000 in
theorem endedC (v : Value) (x : Int) (r : List Int) (B : Nat) (w : World) (h : OwnsB B w v (stk (x :: r))) :
    Calls Try.prog 121 #[v] w fun e w' => ∃ v', e = .returned v' ∧ OwnsB B w v' (stk r) ∧ v'.ownBlock = v.ownBlock ∧ w = w' := by
  have hr := h.sees.room
  obtain ⟨n, hn⟩ : ∃ n, r.length = n := ⟨_, rfl⟩
  have hl : (stk r).length = n := by rw [stk_length]; exact hn
  obtain ⟨g, cap, hv, hcap⟩ : ∃ g cap, v = .slice (some ⟨g, 0, none⟩) (n + 1) cap ∧ n + 1 ≤ cap := by
    obtain ⟨-, h2⟩ := h
    rw [stk_length, List.length_cons, hn] at h2
    rcases h2 with ⟨_, h'⟩ | ⟨g', cap', cur, h', hb, hg, h3, _⟩
    · omega
    · exact ⟨g', cap', h', h3⟩
  subst hv
  have h' := popB h hl
  rw [stk_length, List.length_cons, hn] at hr
  have q1 : ((n + 1 : Nat) : Int) ≤ 9223372036854775807 := by unfold maxLen at hr; omega
  have q2 : ((n + 1 : Nat) : Int) - 1 = n := by omega
  have q3 : (n : Int) ≤ cap := by omega
  clear hr
  go_enter Try.func121, Try.ntmps121
  go_wp2
  go_ret
  exact ⟨_, rfl, h', rfl, rfl⟩
end Ops
end Go.Proofs.Ytppkohkcffnghaa
/- What the program's EndOf answers. -/
set_option linter.unusedVariables false
set_option linter.unusedSimpArgs false
namespace Go.Proofs.Ytppkohkcffnghaa
open Go.RowKit
namespace Ops
open Bas Flat

theorem getD_atI {xs : List O4} {j : Nat} (hj : j < xs.length) : xs.getD j z4 = xs[j] := by simp [List.getD, hj]
theorem end_noI {xs : List O4} {i : Int} (h : ¬ (0 ≤ i ∧ i < xs.length ∧ (xs.getD i.toNat z4).k = 8)) : endOf xs i = -1 := by unfold endOf; rw [if_neg h]

/-- the open blocks of a search that began at s -/
def StE (s k : Nat) (st : List Int) : Prop := (k = s ∧ st = [-1]) ∨ (s < k ∧ ∃ r, st = r ++ [(s : Int), -1] ∧ ∀ x ∈ r, (s : Int) < x)
theorem StE.push {s k : Nat} {st : List Int} (h : StE s k st) : StE s (k + 1) ((k : Int) :: st) := by
  rcases h with ⟨rfl, rfl⟩ | ⟨h1, r, rfl, h2⟩
  · exact .inr ⟨by omega, [], rfl, fun x hx => by simp at hx⟩
  · refine .inr ⟨by omega, (k : Int) :: r, rfl, fun x hx => ?_⟩
    rcases List.mem_cons.1 hx with rfl | hx
    · omega
    · exact h2 x hx
theorem StE.far {s k : Nat} {st : List Int} (h : StE s k st) (hk : s < k) : 2 ≤ st.length := by
  rcases h with ⟨rfl, -⟩ | ⟨-, r, rfl, -⟩
  · omega
  · simp
theorem StE.one {s k : Nat} {st : List Int} (h : StE s k st) : 1 ≤ st.length := by
  rcases h with ⟨rfl, rfl⟩ | ⟨-, r, rfl, -⟩ <;> simp
theorem StE.keep {s k : Nat} {st : List Int} (h : StE s k st) (hk : s < k) : StE s (k + 1) st := by
  rcases h with ⟨rfl, -⟩ | ⟨h1, r, rfl, h2⟩
  · omega
  · exact .inr ⟨by omega, r, rfl, h2⟩
theorem StE.top {s k : Nat} {st : List Int} (h : StE s k st) (hk : s < k) : (∃ r, st = (s : Int) :: r ∧ r.length = 1) ∨ ∃ y r, st = y :: r ∧ (s : Int) < y ∧ 2 ≤ r.length ∧ StE s (k + 1) r := by
  rcases h with ⟨rfl, -⟩ | ⟨h1, r, rfl, h2⟩
  · omega
  · cases r with
    | nil => exact .inl ⟨[-1], rfl, rfl⟩
    | cons y r => exact .inr ⟨y, r ++ [(s : Int), -1], rfl, h2 y (by simp), by simp, .inr ⟨by omega, r, rfl, fun x hx => h2 x (by simp [hx])⟩⟩

set_option maxRecDepth 100000 in
set_option maxHeartbeats 3200000 in
theorem endImpl (v : Value) (xs : List O4) (i : Int) (B : Nat) (w : World) (hv : Sees4 B w v xs) (hB : B ≤ w.heap.size) (hlen : xs.length ≤ 1048576) :
    Calls Try.prog 125 #[v, .int .i64 i] w fun e w' => e = .returned (.int .i64 (endOf xs i)) ∧ Below w.heap.size w w' := by
  obtain ⟨a, cap, rfl⟩ := hv.form
  obtain ⟨n, hn⟩ : ∃ n, xs.length = n := ⟨_, rfl⟩
  rw [hn] at hv hlen ⊢
  by_cases h0 : 0 ≤ i
  · obtain ⟨s, rfl⟩ := Int.eq_ofNat_of_zero_le h0
    by_cases h1 : s < n
    · obtain ⟨b, off, rfl, hb, hc⟩ := hv.open (by omega)
      obtain ⟨a0, -, -, -⟩ := seeI hc s (by omega)
      have hg := getD_atI (xs := xs) (j := s) (by omega)
      have i2 : (s : Int) < n := by omega
      by_cases h8 : xs[s].k = 8
      · have HE : Hid (endOf xs s = endGo (xs.drop s) 0 s) := by
          show _ = _
          unfold endOf
          rw [Int.toNat_natCast, if_pos ⟨by omega, by omega, by rw [hg]; exact h8⟩]
        have H8 : Hid (xs[s].k = 8) := h8
        rw [h8] at a0
        clear hg h8 hc
        obtain ⟨g, hgg⟩ : ∃ g, w.heap.size = g := ⟨_, rfl⟩
        have cN := noneC w
        rw [hgg] at hB cN ⊢
        go_enter Try.func125, Try.ntmps125
        go_wp2
        go_step3
        go_wp2_with (go_at_call 118; refine cN.mono ?_; rintro e w1 ⟨v1, rfl, O1, b1⟩)
        clear cN a0
        obtain ⟨av1, cv1, rfl⟩ := O1.form
        go_step3
        go_wp2
        go_loopw [5, 6, 7] (fun ev ov kv wr => ∃ (k : Nat) (st : List Int) (av : Option Addr) (cn cv : Nat), ov = .slice av cn cv ∧ s ≤ k ∧ k ≤ n ∧ kv = .int .i64 k ∧ ev = .int .i64 (-1) ∧ st.length ≤ k + 1 ∧ StE s k st ∧ OwnsB g wr (.slice av cn cv) (stk st) ∧ Below g w wr ∧ endOf xs s = endGo (xs.drop k) ((st.length : Int) - 1) k) (fun _ _ kv _ => n - (intOf kv).toNat)
        case atStart => exact ⟨s, [-1], _, _, _, rfl, Nat.le_refl _, by omega, rfl, rfl, by simp, .inl ⟨rfl, rfl⟩, O1, b1, HE.out⟩
        case round =>
          obtain ⟨k, st, av, cn, cv, rfl, hsk, hk, rfl, rfl, hsl, hS, hO, hbw, he⟩ := hrel
          clear HE O1 b1
          have hsz : g ≤ wr.heap.size := by have := hbw.size; omega
          have hs1 := hS.one
          by_cases hlt : k < n
          · obtain ⟨b', off', hab, -, hc⟩ := (hv.on hbw hB).open (by omega)
            simp only [Option.some.injEq, Addr.mk.injEq, and_true] at hab
            obtain ⟨rfl, rfl⟩ := hab
            obtain ⟨a0, -, -, -⟩ := seeI hc k (by omega)
            rw [endGo_step (by omega)] at he
            have i1 : (k : Int) < n := by omega
            have hks : ¬ xs[k].k = 8 → s < k := fun h => by
              rcases Nat.lt_or_eq_of_le hsk with h' | h'
              · exact h'
              · subst h'; exact absurd H8.out h
            obtain ⟨x, hx⟩ : ∃ x, xs[k] = x := ⟨_, rfl⟩
            rw [hx] at a0 he hks
            have HK := kindI x
            clear hx hc H8
            rcases HK with ⟨h8, hD⟩ | ⟨h9, hD⟩ | ⟨h8, h9, hD⟩
            · rw [h8] at a0
              rw [hD, if_neg (by omega)] at he
              have HF : Hid (endOf xs s = endGo (xs.drop (k + 1)) (((((k : Int) :: st).length : Nat) : Int) - 1) (k + 1)) := by
                show _ = _
                rw [he, List.length_cons]
                congr 1
                omega
              clear h8 hD he hks
              go_wp2_with fail
              refine (begunC _ st k g wr hO hsz (by omega)).mono ?_
              rintro e w2 ⟨v2, rfl, O2, G2, -⟩
              obtain ⟨a2, c2, rfl⟩ := O2.form
              have hb2 := hbw.grown G2 hsz (fun k hk => (hO.at k hk).1)
              go_wp2
              go_roundw
              case rel => exact ⟨k + 1, (k : Int) :: st, _, _, _, rfl, by omega, by omega, by go_num, rfl, by simp; omega, hS.push, O2, hb2, HF.out⟩
              case measure => simp [intOf]; omega
            · have hlk := hks (by omega)
              rw [h9] at a0
              rw [hD] at he
              clear h9 hD hks
              rcases hS.top hlk with ⟨r, rfl, hr⟩ | ⟨y, r, rfl, hy, hr, hS'⟩
              · have HF : Hid ((k : Int) = endOf xs s) := by
                  show _ = _
                  rw [he, List.length_cons, if_pos (by omega)]
                clear he
                go_wp2_with fail
                have hF := fun x y W => fieldB0 x y W
                refine (innerC _ s r _ wr hO.sees (Nat.le_refl _)).mono ?_
                rintro e w2 ⟨rfl, b2⟩
                go_wp2
                rw [Exit.noGoto_ret]
                go_ret
                exact ⟨retI HF.out, hbw.trans (b2.mono hsz)⟩
              · have HF : Hid (endOf xs s = endGo (xs.drop (k + 1)) ((r.length : Int) - 1) (k + 1)) := by
                  show _ = _
                  rw [he, List.length_cons, if_neg (by omega)]
                  congr 1
                  omega
                have dy : (y == (s : Int)) = false := by simp; omega
                clear he
                go_wp2_with fail
                have hF := fun x y W => fieldB0 x y W
                refine (innerC _ y r _ wr hO.sees (Nat.le_refl _)).mono ?_
                rintro e w2 ⟨rfl, b2⟩
                have O2 := hO.on b2 (Nat.le_refl _)
                have hb2 := hbw.trans (b2.mono hsz)
                go_wp2_with fail
                refine (endedC _ y r g w2 O2).mono ?_
                rintro e w3 ⟨v3, rfl, O3, -, rfl⟩
                obtain ⟨a3, c3, rfl⟩ := O3.form
                go_wp2
                go_roundw
                case rel => exact ⟨k + 1, r, _, _, _, rfl, by omega, by omega, by go_num, rfl, by simp at hsl; omega, hS', O3, hb2, HF.out⟩
                case measure => simp [intOf]; omega
            · have hlk := hks (by simpa using h8)
              have hs2 := hS.far hlk
              rw [hD, if_neg (by omega), Int.add_zero] at he
              have HF := (show Hid _ from he)
              clear he hD hks
              go_wp2
              go_roundw
              case rel => exact ⟨k + 1, st, _, _, _, rfl, by omega, by omega, by go_num, rfl, by omega, hS.keep hlk, hO, hbw, HF.out⟩
              case measure => simp [intOf]; omega
          · obtain rfl : k = n := by omega
            have HF : Hid (-1 = endOf xs s) := by
              show _ = _
              rw [he, List.drop_of_length_le (by omega)]; rfl
            clear he
            go_wp2
            rw [Exit.noGoto_ret]
            go_ret
            exact ⟨retI HF.out, hbw⟩
      · have HF : Hid (-1 = endOf xs s) := (end_noI (fun h => h8 (by have := h.2.2; rw [Int.toNat_natCast, hg] at this; exact this))).symm
        have d8 : (xs[s].k != 8) = true := by simp [h8]
        obtain ⟨q, hq⟩ : ∃ q, xs[s].k = q := ⟨_, rfl⟩
        rw [hq] at a0 d8
        clear hc h8 hq hg
        go_enter Try.func125, Try.ntmps125
        go_wp2
        go_step3
        go_wp2
        rw [Exit.noGoto_ret]
        go_ret
        exact ⟨retI HF.out, Below.refl _ _⟩
    · have HF : Hid (-1 = endOf xs s) := (end_noI (fun h => h1 (by have := h.2.1; omega))).symm
      have i2 : (n : Int) ≤ s := by omega
      go_enter Try.func125, Try.ntmps125
      go_wp2
      go_step3
      go_wp2
      rw [Exit.noGoto_ret]
      go_ret
      exact ⟨retI HF.out, Below.refl _ _⟩
  · have HF : Hid (-1 = endOf xs i) := (end_noI (fun h => h0 h.1)).symm
    have i2 : i < 0 := by omega
    go_enter Try.func125, Try.ntmps125
    go_wp2
    go_step3
    go_wp2
    rw [Exit.noGoto_ret]
    go_ret
    exact ⟨retI HF.out, Below.refl _ _⟩
end Ops
end Go.Proofs.Ytppkohkcffnghaa
/- What block does, if reaches does what it should on smaller pieces. -/
set_option linter.unusedVariables false
set_option linter.unusedSimpArgs false
namespace Go.Proofs.Ytppkohkcffnghaa
open Go.RowKit
namespace Ops
open Bas Flat

theorem infoStock : (Try.prog.info? 90).map (·.size) = some 21 := by kernel_rfl
theorem rowStock : ∃ d, Try.prog.underlying 90 = some d ∧ d.isRow = true := ⟨_, Try.underlying90, rfl⟩
theorem zero21 : Ints.iv (List.replicate 21 0) = [.int .i64 0, .int .i64 0, .int .i64 0, .int .i64 0, .int .i64 0, .int .i64 0, .int .i64 0, .int .i64 0, .int .i64 0, .int .i64 0, .int .i64 0, .int .i64 0, .int .i64 0, .int .i64 0, .int .i64 0, .int .i64 0, .int .i64 0, .int .i64 0, .int .i64 0, .int .i64 0, .int .i64 0] := rfl
theorem over_all {H l : List Int} (h : l.length = H.length) : over H 0 l = l := by
  have := over_mid [] H [] l h
  simpa using this
/-- a load of many cells whose answer is known, at its operation in a plain region -/
theorem wpList_ld {P : Program} {ops : Array Oper} {rest : List Oper} {op : Oper} {a : Act} {w : World} {Q : Exit → Act → World → Prop} (hgd : op.guard = none) (ty : TypeId) (x : Operand) (ho : op.op = .load ty x)
    (ad : Value) (hx : a.eval x = ad) (v : Value) (hl : (Instr.loadAt ty ad).run P w = .ok v w) (h : wpList P ops Q rest (a.put op.dst v) w) : wpList P ops Q (op :: rest) a w := by
  refine wpList_plain hgd fun K hK => ?_
  unfold Oper.wp execOp
  simp only [ho, hx, hl, Sem.run_bind, Sem.run_pure, Result.andThen_ok]
  exact hK _ _ h
theorem wpList_st {P : Program} {ops : Array Oper} {rest : List Oper} {op : Oper} {a : Act} {w w' : World} {Q : Exit → Act → World → Prop} (hgd : op.guard = none) (ty : TypeId) (x y : Operand) (ho : op.op = .store ty x y)
    (ad v : Value) (hx : a.eval x = ad) (hy : a.eval y = v) (hs : (Instr.storeAt ty ad v).run P w = .ok () w') (h : wpList P ops Q rest (a.put op.dst undef) w') : wpList P ops Q (op :: rest) a w := by
  refine wpList_plain hgd fun K hK => ?_
  unfold Oper.wp execOp
  simp only [ho, hx, hy, hs, Sem.run_bind, Sem.run_pure, Result.andThen_ok]
  exact hK _ _ h
section
variable {W : World} {p : Nat} {vC vK vO : Value} {H : List Int}
/-- a doing's stock, whole -/
theorem Dn.load (h : Dn W p vC vK vO H) (hl : H.length = 21) : (Instr.loadAt 90 (.pointer (some ⟨p, 3, none⟩))).run Try.prog W = .ok (.agg (Ints.iv H).toArray) W := by
  obtain ⟨d, h1, h2⟩ := rowStock
  have := h.range 0 21
  rw [List.drop_zero, List.take_of_length_le (by omega)] at this
  exact run_loadAt_mid W p 3 _ (Ints.iv H) d this h1 h2 (by rw [Ints.iv_length, hl]; exact infoStock)
theorem Sk.load (h : Sk W p H) (hl : H.length = 21) : (Instr.loadAt 90 (.pointer (some ⟨p, 0, none⟩))).run Try.prog W = .ok (.agg (Ints.iv H).toArray) W := by
  obtain ⟨d, h1, h2⟩ := rowStock
  have := h.range 0 21
  rw [List.drop_zero, List.take_of_length_le (by omega)] at this
  exact run_loadAt_mid W p 0 _ (Ints.iv H) d this h1 h2 (by rw [Ints.iv_length, hl]; exact infoStock)
theorem Dn.store (h : Dn W p vC vK vO H) (hl : H.length = 21) (l : List Int) (hn : l.length = 21) : (Instr.storeAt 90 (.pointer (some ⟨p, 3, none⟩)) (.agg (Ints.iv l).toArray)).run Try.prog W = .ok () (W.setCells p 3 (Ints.iv l)) :=
  run_storeAt_mid W p 3 _ (Ints.iv l).toArray (by simp [Ints.iv_length, hn]; exact h.there (k := 0) (by omega)) (by rw [List.size_toArray, Ints.iv_length, hn]; exact infoStock) (all_oneCell_toArray (Ints.iv_one l))
theorem Sk.store (h : Sk W p H) (hl : H.length = 21) (l : List Int) (hn : l.length = 21) : (Instr.storeAt 90 (.pointer (some ⟨p, 0, none⟩)) (.agg (Ints.iv l).toArray)).run Try.prog W = .ok () (W.setCells p 0 (Ints.iv l)) :=
  run_storeAt_mid W p 0 _ (Ints.iv l).toArray (by simp [Ints.iv_length, hn]; exact h.there (k := 0) (by omega)) (by rw [List.size_toArray, Ints.iv_length, hn]; exact infoStock) (all_oneCell_toArray (Ints.iv_one l))
end
theorem Only.newMany {p : Nat} {W W' : World} (h : Only p W W') {q : Nat} (hq : W.heap.size ≤ q) (k : Nat) (l : List Value) : Only p W (W'.setCells q k l) := by
  have b := setCells_below (B := 0) (p := q) (Nat.zero_le _) l k W'
  exact ⟨b.os.trans h.os, b.tape.trans h.tape, b.output.trans h.output, Nat.le_trans h.size b.size, fun j hj hp => (setCells_block (show j ≠ q by omega) l k W').trans (h.block j hj hp)⟩
theorem Sk.new (W : World) : Sk (W.alloc (.cells #[.int .i64 0, .int .i64 0, .int .i64 0, .int .i64 0, .int .i64 0, .int .i64 0, .int .i64 0, .int .i64 0, .int .i64 0, .int .i64 0, .int .i64 0, .int .i64 0, .int .i64 0, .int .i64 0, .int .i64 0, .int .i64 0, .int .i64 0, .int .i64 0, .int .i64 0, .int .i64 0, .int .i64 0] 90)) W.heap.size (List.replicate 21 0) := Blk.new W _ _

set_option maxRecDepth 100000 in
set_option maxHeartbeats 3200000 in
theorem blockOf (B p : Nat) (vC vK vO : Value) (xs : List O4) (t0 : Th) (F : List Int → Th → List Int × Th) (Q : World → Prop) (hQ : Stays p Q) (hcode : codeOk xs = true) (s : Cf) (hs : CfOk xs s) (hp : s.pc < xs.length) (hk : xs[s.pc].k = 8)
    (e : Nat) (he : endOf xs (s.pc : Int) = (e : Int)) (h9 : ∃ h : e < xs.length, xs[e].k = 9) (hpe : s.pc < e)
    (hreach : ∀ W, Dc B W p vC vK vO xs s.r s.t → Q W → Calls Try.prog 95 #[.pointer (some ⟨p, 0, none⟩), .int .i64 ((s.pc + 1 : Nat) : Int), .int .i64 (e : Int)] W (ReachTo B p vC vK vO xs t0 F ⟨s.pc + 1, s.r, s.t, ⟨s.pc, s.r, s.t⟩ :: s.k⟩ e W))
    (W : World) (hd : Dc B W p vC vK vO xs s.r s.t) (hq : Q W) :
    Calls Try.prog 122 #[.pointer (some ⟨p, 0, none⟩), .int .i64 (s.pc : Int)] W (StepTo B p vC vK vO xs t0 F s W) := by
  obtain ⟨av, cv, rfl⟩ := hd.c.form
  have hlen := (code_four hcode).1
  have hee : e < xs.length := by obtain ⟨h, -⟩ := h9; exact h
  have hbl : B ≤ W.heap.size := by have := hd.hB; have := hd.d.lt; omega
  obtain ⟨b, off, rfl, hbB, hc⟩ := hd.c.open (by omega)
  clear hc
  have hok := code_at hcode hp
  obtain ⟨sp, hsp, g1, g2, g3⟩ := spans_ok hok
  rw [hk] at hsp
  obtain rfl : ((0, 3), (0, 0), (0, 0)) = sp := Option.some.inj hsp
  obtain ⟨na, hna0, hna⟩ := nat_of g1 (Int.le_refl _)
  simp only at hna
  obtain ⟨l1, l2, l3⟩ := ok_len hs.r hs.t
  have hH := nums_length l1 l2 l3
  obtain ⟨q, hqq⟩ : ∃ q, W.heap.size = q := ⟨_, rfl⟩
  have hpl := hd.d.lt
  have ld1 := hd.d.load hH
  have S1 := Sk.new W
  have b1 := alloc_below W (.cells #[.int .i64 0, .int .i64 0, .int .i64 0, .int .i64 0, .int .i64 0, .int .i64 0, .int .i64 0, .int .i64 0, .int .i64 0, .int .i64 0, .int .i64 0, .int .i64 0, .int .i64 0, .int .i64 0, .int .i64 0, .int .i64 0, .int .i64 0, .int .i64 0, .int .i64 0, .int .i64 0, .int .i64 0] 90)
  have d1 := hd.on b1 hpl
  have o1 : Only p W _ := Only.of b1
  rw [hqq] at S1 hpl
  obtain ⟨W1, hW1⟩ : ∃ W1, W.alloc (.cells #[.int .i64 0, .int .i64 0, .int .i64 0, .int .i64 0, .int .i64 0, .int .i64 0, .int .i64 0, .int .i64 0, .int .i64 0, .int .i64 0, .int .i64 0, .int .i64 0, .int .i64 0, .int .i64 0, .int .i64 0, .int .i64 0, .int .i64 0, .int .i64 0, .int .i64 0, .int .i64 0, .int .i64 0] 90) = W1 := ⟨_, rfl⟩
  rw [hW1] at S1 d1 o1
  have st1 := S1.store (by simp) (nums s.r s.t) hH
  have S2 := S1.setMany (nums s.r s.t) _ _ 0
  rw [over_all (by rw [hH]; simp)] at S2
  have o2 := o1.newMany (q := q) (by omega) 0 (Ints.iv (nums s.r s.t))
  have d2 : Dc B (W1.setCells q 0 (Ints.iv (nums s.r s.t))) p (.slice (some ⟨b, off, none⟩) xs.length cv) vK vO xs s.r s.t := d1.on (setCells_below (Nat.le_refl q) _ 0 W1) hpl
  have q2 := hQ _ _ hq o2
  obtain ⟨W2, hW2⟩ : ∃ W2, W1.setCells q 0 (Ints.iv (nums s.r s.t)) = W2 := ⟨_, rfl⟩
  rw [hW2] at S2 o2 d2 q2 st1
  have cE := endImpl (.slice (some ⟨b, off, none⟩) xs.length cv) xs (s.pc : Int) B W2 d2.c (by have := o2.size; omega) (by omega)
  rw [he] at cE
  have v2 := d2.d.code
  clear b1
  go_enter Try.func122, Try.ntmps122
  go_wp2_with (first
    | (refine wpList_ld rfl 90 (.tmp 10) rfl (.pointer (some ⟨p, 3, none⟩)) ?a3 _ ld1 ?a4; case a3 => rfl)
    | (refine wpList_st rfl 90 (.tmp 5) (.tmp 11) rfl (.pointer (some ⟨q, 0, none⟩)) _ ?b3 ?b5 st1 ?b4; (case b3 => rfl); (case b5 => rfl)))
  refine cE.mono ?_
  rintro ev W3 ⟨rfl, b3⟩
  have d3 := d2.on b3 d2.d.lt
  have o3 := o2.trans (Only.of b3)
  have q3 := hQ _ _ hq o3
  have S3 := S2.on b3 S2.lt
  have cR := hreach W3 d3 q3
  have eP : ((s.pc + 1 : Nat) : Int) = (s.pc : Int) + 1 := by omega
  rw [eP] at cR
  clear cE v2 ld1 st1 S2 S1 d1 o1 d2 o2 q2 hreach
  go_wp2_with fail
  refine cR.mono ?_
  rintro ev W4 ⟨bb, r4, t4, rfl, hE, d4, o4⟩
  have o5 := o3.trans o4
  have S4 := S3.only o4 (by omega)
  obtain ⟨hL, hO⟩ := block_over hcode hs hp hk he hE h9
  have HL := (show Hid _ from hL)
  have HO := (show Hid _ from hO)
  obtain ⟨r4ok, t4ok⟩ := hE.ok
  obtain ⟨m1, m2, m3⟩ := ok_len r4ok t4ok
  have hH4 := nums_length m1 m2 m3
  clear hL hO hE cR d3 o3 q3 S3 o4
  have op5 : ∀ {W5 : World} {r5 : List Int} {t5 : Th}, Dc B W5 p (.slice (some ⟨b, off, none⟩) xs.length cv) vK vO xs r5 t5 → W5.cell? ⟨b, off + s.pc * 4 + 1, none⟩ = some (.int .i64 (na : Int)) := by
    intro W5 r5 t5 h5
    obtain ⟨b', off', hab, -, hc⟩ := h5.c.open (by omega)
    simp only [Option.some.injEq, Addr.mk.injEq, and_true] at hab
    obtain ⟨rfl, rfl⟩ := hab
    have := (seeI hc s.pc hp).2.1
    rw [hna0] at this
    exact this
  have i1 : (s.pc : Int) < xs.length := by omega
  have i2 : (na : Int) < 4 := by omega
  rw [hna0] at HL HO
  cases bb with
  | true =>
    simp only [if_true] at HL HO
    have a1 := op5 d4
    have v4 := d4.d.code
    have e4 := d4.d.reg m1 (by omega : na < 4)
    have f4 := d4.d.froz (3 + na)
    have d6 := d4.d.setReg m1 (by omega : na < 4) 1
    have o6 := o5.set (3 + na) (.int .i64 1)
    go_wp2
    go_region
    go_wp2
    go_ret
    exact .inl ⟨e + 1, _, _, by go_num, Nat.lt_succ_of_lt hpe, HL.out, HO.out, { d := d6, c := d4.code ((Only.refl p W4).set (3 + na) (.int .i64 1)).drew, hB := d4.hB }, o6.drew⟩
  | false =>
    simp only [Bool.false_eq_true, if_false] at HL HO
    have ld4 := S4.load hH
    have st4 := d4.d.store hH4 (nums s.r s.t) hH
    have d5n := d4.d.setMany (nums s.r s.t) _ _ 0
    rw [over_all (by rw [hH, hH4])] at d5n
    have o6 := o5.setMany 3 (Ints.iv (nums s.r s.t))
    have d5 : Dc B (W4.setCells p 3 (Ints.iv (nums s.r s.t))) p (.slice (some ⟨b, off, none⟩) xs.length cv) vK vO xs s.r s.t := { d := d5n, c := d4.code ((Only.refl p W4).setMany 3 _), hB := d4.hB }
    obtain ⟨W5, hW5⟩ : ∃ W5, W4.setCells p 3 (Ints.iv (nums s.r s.t)) = W5 := ⟨_, rfl⟩
    rw [hW5] at st4 d5 o6
    clear d5n
    have a1 := op5 d5
    have v5 := d5.d.code
    have e5 := d5.d.reg l1 (by omega : na < 4)
    have f5 := d5.d.froz (3 + na)
    have d6 := d5.d.setReg l1 (by omega : na < 4) 0
    have o7 := o6.set (3 + na) (.int .i64 0)
    go_wp2_with (first
      | (refine wpList_ld rfl 90 (.tmp 5) rfl (.pointer (some ⟨q, 0, none⟩)) ?c3 _ ld4 ?c4; case c3 => rfl)
      | (refine wpList_st rfl 90 (.tmp 28) (.tmp 26) rfl (.pointer (some ⟨p, 3, none⟩)) _ ?e3 ?e5 st4 ?e4; (case e3 => rfl); (case e5 => rfl)))
    go_region
    go_wp2
    go_ret
    exact .inl ⟨e + 1, _, _, by go_num, Nat.lt_succ_of_lt hpe, HL.out, HO.out, { d := d6, c := d5.code ((Only.refl p W5).set (3 + na) (.int .i64 0)).drew, hB := d4.hB }, o7.drew⟩
end Ops
end Go.Proofs.Ytppkohkcffnghaa
/- What reaches and outcome do, whatever the right code. -/
set_option linter.unusedVariables false
set_option linter.unusedSimpArgs false
namespace Go.Proofs.Ytppkohkcffnghaa
open Go.RowKit
namespace Ops
open Bas Flat

/-- what is asked of fork -/
def ForkDoes (B p : Nat) (vC vK vO : Value) (xs : List O4) (F : List Int → Th → List Int × Th) (Q : World → Prop) : Prop :=
  ∀ (s : Cf) (h : s.pc < xs.length) (W : World), xs[s.pc].k = 11 → CfOk xs s → Dc B W p vC vK vO xs s.r s.t → Q W →
    Calls Try.prog 123 #[.pointer (some ⟨p, 0, none⟩)] W fun e W' => e = .returned (.tuple #[]) ∧ Dc B W' p vC vK vO xs (F s.r s.t).1 (F s.r s.t).2 ∧ Only p W W'
theorem noForkDoes {B p : Nat} {vC vK vO : Value} {xs : List O4} {F : List Int → Th → List Int × Th} {Q : World → Prop} (h : hasFork xs = false) : ForkDoes B p vC vK vO xs F Q := fun s hp W h11 _ _ _ => by
  have := hasFork_yes hp h11
  rw [h] at this; cases this

theorem reachAll (B p : Nat) (vC vK vO : Value) (xs : List O4) (t0 : Th) (F : List Int → Th → List Int × Th) (Q : World → Prop) (hQ : Stays p Q) (hcode : codeOk xs = true) (hF : ForkOk F) (hfork : ForkDoes B p vC vK vO xs F Q) :
    ∀ (n fr to : Nat), to - fr ≤ n → Seg xs fr to → ∀ (s : Cf) (W : World), CfOk xs s → s.pc = fr → Dc B W p vC vK vO xs s.r s.t → Q W →
      Calls Try.prog 95 #[.pointer (some ⟨p, 0, none⟩), .int .i64 (fr : Int), .int .i64 (to : Int)] W (ReachTo B p vC vK vO xs t0 F s to W) := by
  intro n
  induction n with
  | zero =>
    intro fr to hn hseg s W hs hpc hd hq
    exact reachOf B p vC vK vO xs t0 F Q hQ fr to hseg (by have := (code_four hcode).1; omega) (fun s' W' h1 h2 => by omega) s hs hpc W hd hq
  | succ n ih =>
    intro fr to hn hseg s W hs hpc hd hq
    refine reachOf B p vC vK vO xs t0 F Q hQ fr to hseg (by have := (code_four hcode).1; omega) (fun s' W' h1 h2 ok hst hd' hq' => ?_) s hs hpc W hd hq
    have hp : s'.pc < xs.length := by have := hseg.len; omega
    have hok := code_at hcode hp
    by_cases h8 : xs[s'.pc].k = 8
    · obtain ⟨e, he, hsg, h9, hse⟩ := Seg.body hcode hp h8
      have hpe : s'.pc < e := by have := hsg.le; omega
      have hel : e + 1 ≤ to := hseg.cap (e + 1) (by obtain ⟨h, -⟩ := h9; omega) (hse.trans hst)
      refine stepK8 B p vC vK vO xs t0 F Q hQ hcode s' ok hp h8 (fun W1 d1 q1 => ?_) W' hd' hq'
      refine blockOf B p vC vK vO xs t0 F Q hQ hcode s' ok hp h8 e he h9 hpe (fun W2 d2 q2 => ?_) W1 d1 q1
      exact ih (s'.pc + 1) e (by omega) hsg ⟨s'.pc + 1, s'.r, s'.t, ⟨s'.pc, s'.r, s'.t⟩ :: s'.k⟩ W2 (step_begin (t0 := t0) (F := F) ok hp h8).2 rfl d2 q2
    · by_cases h10 : xs[s'.pc].k = 10
      · exact stepK10 B p vC vK vO xs t0 F Q hQ hcode s' ok hp h10 W' hd' hq'
      · by_cases h7 : xs[s'.pc].k = 7
        · by_cases hz : rd s'.r xs[s'.pc].a = 0
          · exact stepK7z B p vC vK vO xs t0 F Q hQ hcode s' ok hp h7 (fun x hx => by rw [← hx]; exact hz) W' hd' hq'
          · exact stepK7n B p vC vK vO xs t0 F Q hQ hcode s' ok hp h7 (fun x hx => by rw [← hx]; simpa using hz) W' hd' hq'
        · by_cases h11 : xs[s'.pc].k = 11
          · exact stepK11 B p vC vK vO xs t0 F Q hQ hcode s' ok hp h11 hF (fun W1 d1 q1 => hfork s' hp W1 h11 ok d1 q1) W' hd' hq'
          · have h9 := hseg.noEnd s'.pc hp h2 hst
            exact stepKp B p vC vK vO xs t0 F Q hQ hcode s' ok hp (by omega) W' hd' hq'

theorem info4 : (Try.prog.info? 87).map (·.size) = some 4 := by kernel_rfl
section
variable {W : World} {p : Nat} {vC vK vO : Value} {r : List Int} {t : Th}
theorem Dn.load4 (h : Dn W p vC vK vO (nums r t)) (hr : r.length = 4) : (Instr.loadAt 87 (.pointer (some ⟨p, 3, none⟩))).run Try.prog W = .ok (.agg (Ints.iv r).toArray) W := by
  have := h.range 0 4
  have e : ((nums r t).drop 0).take 4 = r := by unfold nums; rw [List.drop_zero, List.take_append_of_le_length (by omega), List.take_of_length_le (by omega)]
  rw [e] at this
  exact run_loadAt_mid W p 3 _ (Ints.iv r) _ this Try.underlying87 rfl (by rw [Ints.iv_length, hr]; exact info4)
theorem Sk.store4 {H : List Int} (h : Sk W p H) (hl : 4 ≤ H.length) (l : List Int) (hn : l.length = 4) : (Instr.storeAt 87 (.pointer (some ⟨p, 0, none⟩)) (.agg (Ints.iv l).toArray)).run Try.prog W = .ok () (W.setCells p 0 (Ints.iv l)) :=
  run_storeAt_mid W p 0 _ (Ints.iv l).toArray (by simp [Ints.iv_length, hn]; exact h.there (k := 0) (by omega)) (by rw [List.size_toArray, Ints.iv_length, hn]; exact info4) (all_oneCell_toArray (Ints.iv_one l))
end

set_option maxRecDepth 100000 in
set_option maxHeartbeats 3200000 in
theorem outcomeOf (B p : Nat) (vC vK vO : Value) (xs : List O4) (F : List Int → Th → List Int × Th) (Q : World → Prop) (hQ : Stays p Q) (hcode : codeOk xs = true) (hF : ForkOk F) (hfork : ForkDoes B p vC vK vO xs F Q)
    (r : List Int) (t : Th) (hr : regsOk r = true) (ht : thOk t = true) (W : World) (hd : Dc B W p vC vK vO xs r t) (hq : Q W) :
    Calls Try.prog 57 #[.pointer (some ⟨p, 0, none⟩)] W fun e W' =>
      ∃ q : Rn, e = .returned (.int .i64 q.out) ∧ Ends xs t F ⟨0, r, t, []⟩ q ∧ (q.out = 1 ∨ q.out = 2) ∧ regsOk q.r = true ∧ thOk q.t = true ∧ Dc B W' p vC vK vO xs q.r q.t ∧ Only p W W' := by
  obtain ⟨av, cv, rfl⟩ := hd.c.form
  have hlen := (code_four hcode).1
  have hbl : B ≤ W.heap.size := by have := hd.hB; have := hd.d.lt; omega
  obtain ⟨l1, l2, l3⟩ := ok_len hr ht
  have hH := nums_length l1 l2 l3
  obtain ⟨q, hqq⟩ : ∃ q, W.heap.size = q := ⟨_, rfl⟩
  have hpl := hd.d.lt
  have ld1 := hd.d.load hH
  have S1 := Sk.new W
  have b1 := alloc_below W (.cells #[.int .i64 0, .int .i64 0, .int .i64 0, .int .i64 0, .int .i64 0, .int .i64 0, .int .i64 0, .int .i64 0, .int .i64 0, .int .i64 0, .int .i64 0, .int .i64 0, .int .i64 0, .int .i64 0, .int .i64 0, .int .i64 0, .int .i64 0, .int .i64 0, .int .i64 0, .int .i64 0, .int .i64 0] 90)
  have d1 := hd.on b1 hpl
  have o1 : Only p W _ := Only.of b1
  rw [hqq] at S1 hpl
  obtain ⟨W1, hW1⟩ : ∃ W1, W.alloc (.cells #[.int .i64 0, .int .i64 0, .int .i64 0, .int .i64 0, .int .i64 0, .int .i64 0, .int .i64 0, .int .i64 0, .int .i64 0, .int .i64 0, .int .i64 0, .int .i64 0, .int .i64 0, .int .i64 0, .int .i64 0, .int .i64 0, .int .i64 0, .int .i64 0, .int .i64 0, .int .i64 0, .int .i64 0] 90) = W1 := ⟨_, rfl⟩
  rw [hW1] at S1 d1 o1
  have st1 := S1.store (by simp) (nums r t) hH
  have S2 := S1.setMany (nums r t) _ _ 0
  rw [over_all (by rw [hH]; simp)] at S2
  have o2 := o1.newMany (q := q) (by omega) 0 (Ints.iv (nums r t))
  have d2 : Dc B (W1.setCells q 0 (Ints.iv (nums r t))) p (.slice av xs.length cv) vK vO xs r t := d1.on (setCells_below (Nat.le_refl q) _ 0 W1) hpl
  have q2 := hQ _ _ hq o2
  obtain ⟨W2, hW2⟩ : ∃ W2, W1.setCells q 0 (Ints.iv (nums r t)) = W2 := ⟨_, rfl⟩
  rw [hW2] at S2 o2 d2 q2 st1
  have cR := reachAll B p (.slice av xs.length cv) vK vO xs t F Q hQ hcode hF hfork xs.length 0 xs.length (Nat.le_of_eq (Nat.sub_zero _)) (Seg.whole hcode) ⟨0, r, t, []⟩ W2 (CfOk.start hr ht) rfl d2 q2
  have e0 : ((0 : Nat) : Int) = 0 := rfl
  rw [e0] at cR
  have v2 := d2.d.code
  clear b1 hfork
  go_enter Try.func57, Try.ntmps57
  go_wp2_with (first
    | (refine wpList_ld rfl 90 (.tmp 6) rfl (.pointer (some ⟨p, 3, none⟩)) ?a3 _ ld1 ?a4; case a3 => rfl)
    | (refine wpList_st rfl 90 (.tmp 3) (.tmp 7) rfl (.pointer (some ⟨q, 0, none⟩)) _ ?b3 ?b5 st1 ?b4; (case b3 => rfl); (case b5 => rfl)))
  refine cR.mono ?_
  rintro ev W4 ⟨bb, r4, t4, rfl, hE, d4, o4⟩
  have o5 := o2.trans o4
  have S4 := S2.only o4 (by omega)
  have HE : Hid (Ends xs t F ⟨0, r, t, []⟩ _) := SegEnds.ends (s := ⟨0, r, t, []⟩) hE
  obtain ⟨r4ok, t4ok⟩ := hE.ok
  obtain ⟨m1, m2, m3⟩ := ok_len r4ok t4ok
  have hH4 := nums_length m1 m2 m3
  clear cR v2 ld1 st1 S2 S1 d1 o1 d2 o2 q2 hE o4
  cases bb with
  | true =>
    go_wp2
    go_ret
    exact ⟨⟨1, r4, t4⟩, rfl, HE.out, .inl rfl, r4ok, t4ok, d4, o5⟩
  | false =>
    have ld4 := d4.d.load4 m1
    have st4 := S4.store4 (by omega) r4 m1
    have S5 := S4.setMany r4 _ _ 0
    rw [over_regs (by rw [m1, l1])] at S5
    have b5 := setCells_below (Nat.le_refl q) (Ints.iv r4) 0 W4
    have d5 := d4.on b5 hpl
    have o6 := o5.newMany (q := q) (by omega) 0 (Ints.iv r4)
    obtain ⟨W5, hW5⟩ : ∃ W5, W4.setCells q 0 (Ints.iv r4) = W5 := ⟨_, rfl⟩
    rw [hW5] at st4 d5 o6 S5
    have hH5 := nums_length m1 l2 l3
    have ld5 := S5.load hH5
    have st5 := d5.d.store hH4 (nums r4 t) hH5
    have d6n := d5.d.setMany (nums r4 t) _ _ 0
    rw [over_all (by rw [hH5, hH4])] at d6n
    have o7 := o6.setMany 3 (Ints.iv (nums r4 t))
    have d6 : Dc B (W5.setCells p 3 (Ints.iv (nums r4 t))) p (.slice av xs.length cv) vK vO xs r4 t := { d := d6n, c := d5.code ((Only.refl p W5).setMany 3 _), hB := d5.hB }
    clear b5 d6n
    go_wp2_with (first
      | (refine wpList_ld rfl 87 (.tmp 19) rfl (.pointer (some ⟨p, 3, none⟩)) ?c3 _ ld4 ?c4; case c3 => rfl)
      | (refine wpList_st rfl 87 (.tmp 21) (.tmp 20) rfl (.pointer (some ⟨q, 0, none⟩)) _ ?e3 ?e5 st4 ?e4; (case e3 => rfl); (case e5 => rfl))
      | (refine wpList_ld rfl 90 (.tmp 3) rfl (.pointer (some ⟨q, 0, none⟩)) ?f3 _ ld5 ?f4; case f3 => rfl)
      | (refine wpList_st rfl 90 (.tmp 25) (.tmp 23) rfl (.pointer (some ⟨p, 3, none⟩)) _ ?g3 ?g5 st5 ?g4; (case g3 => rfl); (case g5 => rfl)))
    go_ret
    exact ⟨⟨2, r4, t⟩, rfl, HE.out, .inr rfl, r4ok, ht, d6, o7⟩
end Ops
end Go.Proofs.Ytppkohkcffnghaa
/- append of numbers, with what it says of where the answer lies. -/
set_option linter.unusedVariables false
namespace Go.Proofs.Ytppkohkcffnghaa
open Go.RowKit
namespace Ints
open Bas

def intEl : Flat.El Int where
  sz := 1
  cells x := [.int .i64 x]
  len _ := rfl
  one x v hv := by simp at hv; rw [hv]; rfl
  pos := by decide
theorem rowInt : Flat.Row Try.prog intEl 25 3 (.int .i64 0) 0 8 := ⟨Try.underlying25, by kernel_rfl, rfl, by decide⟩
theorem fv_iv (zs : List Int) : Flat.fv intEl zs = iv zs := by
  unfold Flat.fv iv
  induction zs with
  | nil => rfl
  | cons x r ih => rw [List.flatMap_cons, ih]; rfl
theorem owns_iff {B : Nat} {w : World} {v : Value} {zs : List Int} : Flat.Owns intEl 3 B w v zs ↔ Owns B w v zs := by
  unfold Flat.Owns Owns
  rw [fv_iv]; rfl
theorem flat_sees {B : Nat} {w : World} {v : Value} {zs : List Int} (h : Sees B w v zs) : Flat.Sees intEl B w v zs := by
  obtain ⟨a, cap, rfl, h1, h2, h3⟩ := h
  refine ⟨a, cap, rfl, h1, h2, fun hne => ?_⟩
  obtain ⟨b, off, rfl, hb, hc⟩ := h3 hne
  refine ⟨b, off, rfl, hb, fun j hj i u hu => ?_⟩
  change [Value.int .i64 zs[j]][i]? = some u at hu
  rcases i with _ | i
  · change w.cell? ⟨b, off + j * 1 + 0, none⟩ = _
    rw [Nat.mul_one, Nat.add_zero, hc j hj]; simpa using hu
  · simp at hu
/-- append(u, v...) -/
theorem appJ (u v : Value) (ty : TypeId) (xs zs : List Int) (B b0 : Nat) (w : World) (hu : Owns b0 w u xs) (h0 : b0 ≤ w.heap.size) (hv : Sees B w v zs) (hlen : xs.length + zs.length ≤ 4194304) :
    ∃ v' w', (Builtin.append_ #[25, 25] ty #[u, v]).run Try.prog w = .ok v' w' ∧ Owns b0 w' v' (xs ++ zs) ∧ w.grownBy w' u.ownBlock ∧ (∀ k, v'.ownBlock = some k → u.ownBlock = some k ∨ w.heap.size ≤ k) := by
  obtain ⟨v', w', hr, hO, hG, hk⟩ := Flat.app rowInt u v ty xs zs B b0 w (owns_iff.2 hu) h0 (flat_sees hv) hlen
  exact ⟨v', w', hr, owns_iff.1 hO, hG, hk⟩
theorem owns_lit (w : World) {B : Nat} (hB : B ≤ w.heap.size) : Owns B (w.alloc (.cells #[] 3)) (.slice (some ⟨w.heap.size, 0, none⟩) 0 0) [] := World.ownsRow_lit w #[] 0 hB (by simp [maxLen]) rfl
end Ints
end Go.Proofs.Ytppkohkcffnghaa
/- slices.Clone of numbers. -/
set_option linter.unusedVariables false
namespace Go.Proofs.Ytppkohkcffnghaa
open Go.RowKit
namespace Ints
open Bas

set_option maxRecDepth 100000 in
set_option maxHeartbeats 1600000 in
theorem cloneC (v : Value) (zs : List Int) (B : Nat) (w : World) (hv : Sees B w v zs) (hB : B ≤ w.heap.size) (hlen : zs.length ≤ 1048576) :
    Calls Try.prog 58 #[v] w fun e w' => ∃ v', e = .returned v' ∧ Owns w.heap.size w' v' zs ∧ Below w.heap.size w w' := by
  have qT : ∀ (w : World) (a : Option Addr) (n c n' c' : Nat), (binOp .eql 25 (.slice a n c) (.slice none n' c')).run Try.prog w = .ok (.bool a.isNone) w := fun w a n c n' c' => Lib.run_eql_slice_nil w _ _ a n c n' c' Try.underlying25
  obtain ⟨a, cap, rfl, h1, h2, h3⟩ := id hv
  cases a with
  | none =>
    have hz : zs = [] := by
      by_cases h : zs = []
      · exact h
      · obtain ⟨b, off, h, -⟩ := h3 h; cases h
    subst hz
    go_enter Try.func58, Try.ntmps58
    go_wp2
    go_ret
    exact ⟨_, rfl, ⟨by simp [iv], .inl ⟨rfl, rfl⟩⟩, Below.refl _ _⟩
  | some ad =>
    have u0 := owns_lit w (Nat.le_refl _)
    have b0 := alloc_below w (.cells #[] 3)
    have hv0 := hv.on b0 hB
    obtain ⟨q, hq⟩ : ∃ q, w.heap.size = q := ⟨_, rfl⟩
    have hq1 : (w.alloc (.cells #[] 3)).heap.size = q + 1 := by rw [← hq]; simp
    rw [hq] at u0 b0
    obtain ⟨n, hn⟩ : ∃ n, zs.length = n := ⟨_, rfl⟩
    rw [hn] at hv0 ⊢
    obtain ⟨w0, hw0⟩ : ∃ w0, w.alloc (.cells #[] 3) = w0 := ⟨_, rfl⟩
    rw [hw0] at u0 b0 hv0 hq1
    obtain ⟨v3, w4, hr3, O3, G3, L3⟩ := appJ (.slice (some ⟨q, 0, none⟩) 0 0) (.slice (some ad) n cap) 25 [] zs B q w0 u0 (by omega) hv0 (by simp; omega)
    rw [List.nil_append] at O3
    have bF : Below q w w4 := b0.grown G3 (by omega) (fun k hk => by cases hk; exact Nat.le_refl _)
    rw [hq]
    clear h3 hn h1 h2
    go_enter Try.func58, Try.ntmps58
    go_wp2_with (at_builtin; refine wpList_app _ rfl (.tmp 5) (.tmp 6) 25 rfl _ _ _ _ rfl rfl hr3 ?_)
    go_ret
    exact ⟨_, rfl, O3, bF⟩
end Ints
end Go.Proofs.Ytppkohkcffnghaa
/- What stockOf makes. -/
set_option linter.unusedVariables false
set_option linter.unusedSimpArgs false
namespace Go.Proofs.Ytppkohkcffnghaa
open Go.RowKit
namespace Ops
open Bas Flat

/-- noughts, and a counter -/
def noughts (n : Int) : List Int := List.replicate 20 0 ++ [n]
theorem noughts_iv (n : Int) : Ints.iv (noughts n) = [.int .i64 0, .int .i64 0, .int .i64 0, .int .i64 0, .int .i64 0, .int .i64 0, .int .i64 0, .int .i64 0, .int .i64 0, .int .i64 0, .int .i64 0, .int .i64 0, .int .i64 0, .int .i64 0, .int .i64 0, .int .i64 0, .int .i64 0, .int .i64 0, .int .i64 0, .int .i64 0, .int .i64 n] := rfl
/-- the stock of lists -/
def stockL (zs cs ms : List Int) (n : Int) : List Int := over (over (over (noughts n) 0 zs) 4 cs) 12 ms
theorem noughts_length (n : Int) : (noughts n).length = 21 := by simp [noughts]

set_option maxRecDepth 100000 in
set_option maxHeartbeats 3200000 in
theorem stockC (vr vc vm : Value) (zs cs ms : List Int) (n : Int) (B : Nat) (w : World) (hr : Ints.Sees B w vr zs) (hc : Ints.Sees B w vc cs) (hm : Ints.Sees B w vm ms) (hB : B ≤ w.heap.size) (h1 : zs.length ≤ 4) (h2 : cs.length ≤ 8) (h3 : ms.length ≤ 8) :
    Calls Try.prog 56 #[vr, .agg #[vc, vm, .int .i64 n]] w fun e w' => e = .returned (.agg (Ints.iv (stockL zs cs ms n)).toArray) ∧ Below w.heap.size w w' := by
  obtain ⟨q0, hq0⟩ : ∃ q, w.heap.size = q := ⟨_, rfl⟩
  have X0 := Blk.new w #[vc, vm, .int .i64 n] 37
  have b0 := alloc_below w (.cells #[vc, vm, .int .i64 n] 37)
  obtain ⟨W0, hW0⟩ : ∃ W, w.alloc (.cells #[vc, vm, .int .i64 n] 37) = W := ⟨_, rfl⟩
  have hz0 : W0.heap.size = q0 + 1 := by rw [← hW0, ← hq0]; simp
  rw [hW0] at X0 b0
  rw [hq0] at X0 b0 hB
  obtain ⟨q1, hq1⟩ : ∃ q, W0.heap.size = q := ⟨_, rfl⟩
  have l01 : q0 < q1 := by omega
  clear hz0
  have R1 := Sk.new W0
  have b1 := alloc_below W0 (.cells #[.int .i64 0, .int .i64 0, .int .i64 0, .int .i64 0, .int .i64 0, .int .i64 0, .int .i64 0, .int .i64 0, .int .i64 0, .int .i64 0, .int .i64 0, .int .i64 0, .int .i64 0, .int .i64 0, .int .i64 0, .int .i64 0, .int .i64 0, .int .i64 0, .int .i64 0, .int .i64 0, .int .i64 0] 90)
  obtain ⟨W1, hW1⟩ : ∃ W, W0.alloc (.cells #[.int .i64 0, .int .i64 0, .int .i64 0, .int .i64 0, .int .i64 0, .int .i64 0, .int .i64 0, .int .i64 0, .int .i64 0, .int .i64 0, .int .i64 0, .int .i64 0, .int .i64 0, .int .i64 0, .int .i64 0, .int .i64 0, .int .i64 0, .int .i64 0, .int .i64 0, .int .i64 0, .int .i64 0] 90) = W := ⟨_, rfl⟩
  have hz1 : W1.heap.size = q1 + 1 := by rw [← hW1, ← hq1]; simp
  rw [hW1] at R1 b1
  rw [hq1] at R1 b1
  obtain ⟨q2, hq2⟩ : ∃ q, W1.heap.size = q := ⟨_, rfl⟩
  have l12 : q1 < q2 := by omega
  clear hz1
  have H2 := Sk.new W1
  have b2 := alloc_below W1 (.cells #[.int .i64 0, .int .i64 0, .int .i64 0, .int .i64 0, .int .i64 0, .int .i64 0, .int .i64 0, .int .i64 0, .int .i64 0, .int .i64 0, .int .i64 0, .int .i64 0, .int .i64 0, .int .i64 0, .int .i64 0, .int .i64 0, .int .i64 0, .int .i64 0, .int .i64 0, .int .i64 0, .int .i64 0] 90)
  obtain ⟨W2, hW2⟩ : ∃ W, W1.alloc (.cells #[.int .i64 0, .int .i64 0, .int .i64 0, .int .i64 0, .int .i64 0, .int .i64 0, .int .i64 0, .int .i64 0, .int .i64 0, .int .i64 0, .int .i64 0, .int .i64 0, .int .i64 0, .int .i64 0, .int .i64 0, .int .i64 0, .int .i64 0, .int .i64 0, .int .i64 0, .int .i64 0, .int .i64 0] 90) = W := ⟨_, rfl⟩
  rw [hW2] at H2 b2
  rw [hq2] at H2 b2
  have bb : Below q0 w W2 := (b0.trans (b1.mono (by omega))).trans (b2.mono (by omega))
  have X2 := (X0.on b1 (by omega)).on b2 (by omega)
  have R2 := R1.on b2 (by omega)
  have nl := noughts_length n
  have st3 := H2.store (by simp) (noughts n) nl
  have H3 := H2.setMany (noughts n) _ _ 0
  rw [over_all (by rw [nl]; simp)] at H3
  have c3 := setCells_below (Nat.le_refl q2) (Ints.iv (noughts n)) 0 W2
  have X3 := X2.on c3 (by omega)
  have R3 := R2.on c3 (by omega)
  have b3 := bb.trans (c3.mono (by omega))
  obtain ⟨W3, hW3⟩ : ∃ W, W2.setCells q2 0 (Ints.iv (noughts n)) = W := ⟨_, rfl⟩
  rw [hW3] at st3 H3 X3 R3 b3
  rw [noughts_iv] at st3
  have hcp := copyOver W3 q2 0 4 4 vr zs B (hr.on b3 hB) (H3.there (k := 0) (n := zs.length) (by omega)) h1
  have H4 := H3.setMany zs _ _ 0
  have c4 := setCells_below (Nat.le_refl q2) (Ints.iv zs) 0 W3
  have X4 := X3.on c4 (by omega)
  have R4 := R3.on c4 (by omega)
  have b4 := b3.trans (c4.mono (by omega))
  obtain ⟨W4, hW4⟩ : ∃ W, W3.setCells q2 0 (Ints.iv zs) = W := ⟨_, rfl⟩
  rw [hW4] at hcp H4 X4 R4 b4
  have x2 : W1.cell? ⟨q0, 2, none⟩ = some (.int .i64 n) := (X0.on b1 (by omega)).cell 2
  have x4 := X4.cell 0
  clear X0 X2 X3 R1 R2 R3 b0 b1 b2 b3 bb c3 c4 hW4 hW3 H2
  go_enter Try.func56, Try.ntmps56
  go_wp2_with (refine wpList_st rfl 90 (.tmp 5) (.tmp 8) rfl (.pointer (some ⟨q2, 0, none⟩)) _ ?b3 ?b5 st3 ?b4; (case b3 => rfl); (case b5 => rfl))
  have l4 := over_length zs (noughts n) 0
  have hcp5 := copyOver W4.drew q2 4 8 8 vc cs B (hc.on (b4.drew) hB) (H4.drew.there (k := 4) (n := cs.length) (by omega)) h2
  have H5 := H4.drew.setMany cs _ _ 4
  have c5 := setCells_below (Nat.le_refl q2) (Ints.iv cs) 4 W4.drew
  have X5 := X4.drew.on c5 (by omega)
  have R5 := R4.drew.on c5 (by omega)
  have b5 := b4.drew.trans (c5.mono (by omega))
  obtain ⟨W5, hW5⟩ : ∃ W, W4.drew.setCells q2 4 (Ints.iv cs) = W := ⟨_, rfl⟩
  rw [hW5] at hcp5 H5 X5 R5 b5
  have x5 := X5.cell 1
  clear hW5 c5 hcp st3
  go_region
  go_wp2
  have l5 := over_length cs (over (noughts n) 0 zs) 4
  have hcp6 := copyOver W5.drew q2 12 8 8 vm ms B (hm.on (b5.drew) hB) (H5.drew.there (k := 12) (n := ms.length) (by omega)) h3
  have H6 := H5.drew.setMany ms _ _ 12
  have c6 := setCells_below (Nat.le_refl q2) (Ints.iv ms) 12 W5.drew
  have R6 := R5.drew.on c6 (by omega)
  have b6 := b5.drew.trans (c6.mono (by omega))
  obtain ⟨W6, hW6⟩ : ∃ W, W5.drew.setCells q2 12 (Ints.iv ms) = W := ⟨_, rfl⟩
  rw [hW6] at hcp6 H6 R6 b6
  clear hW6 c6 hcp5 x4
  go_region
  have l6 := over_length ms (over (over (noughts n) 0 zs) 4 cs) 12
  have hH : (stockL zs cs ms n).length = 21 := by unfold stockL; omega
  have ld7 := H6.load (by omega)
  have st7 := R6.store (by simp) (stockL zs cs ms n) hH
  have R7 := R6.setMany (stockL zs cs ms n) _ _ 0
  rw [over_all (by rw [hH]; simp)] at R7
  have b7 := b6.trans (setCells_below (show q0 ≤ q1 by omega) (Ints.iv (stockL zs cs ms n)) 0 W6)
  obtain ⟨W7, hW7⟩ : ∃ W, W6.setCells q1 0 (Ints.iv (stockL zs cs ms n)) = W := ⟨_, rfl⟩
  rw [hW7] at st7 R7 b7
  have e7 : over (over (over (noughts n) 0 zs) 4 cs) 12 ms = stockL zs cs ms n := rfl
  rw [e7] at ld7
  have ldR := R7.load hH
  go_wp2_with (first
    | (refine wpList_ld rfl 90 (.tmp 5) rfl (.pointer (some ⟨q2, 0, none⟩)) ?f3 _ ld7 ?f4; case f3 => rfl)
    | (refine wpList_st rfl 90 (.tmp 4) (.tmp 23) rfl (.pointer (some ⟨q1, 0, none⟩)) _ ?g3 ?g5 st7 ?g4; (case g3 => rfl); (case g5 => rfl)))
  refine bodyPost_ret (v := .agg (Ints.iv (stockL zs cs ms n)).toArray) ?_ rfl ?_
  · obtain ⟨dd, hd1, hd2⟩ := rowStock
    exact results_cell_row (fn := Try.f56) rfl _ W7 q1 90 (Ints.iv (stockL zs cs ms n)).toArray (0, 0) dd rfl R7 hd1 (by cases dd <;> simp_all) (by rw [List.size_toArray, Ints.iv_length, hH]; exact infoStock)
  · exact ⟨rfl, by rw [hq0]; exact b7⟩
end Ops
end Go.Proofs.Ytppkohkcffnghaa
/- Right values: what l3Vals and rightValues answer. -/
set_option linter.unusedVariables false
namespace Go.Proofs.Ytppkohkcffnghaa
open Go.RowKit
namespace Ths
def valOk (z : Int) : Bool := decide (0 ≤ z ∧ z ≤ 65535)
def valsOk (zs : List Int) : Bool := decide (zs.length = 8) && zs.all valOk
theorem valsOk_mk {zs : List Int} (h : zs.length = 8) (ha : ∀ j (h : j < zs.length), valOk zs[j] = true) : valsOk zs = true := by
  unfold valsOk
  rw [Bool.and_eq_true]
  refine ⟨decide_eq_true h, List.all_eq_true.2 fun x hx => ?_⟩
  obtain ⟨j, hj, rfl⟩ := List.mem_iff_getElem.1 hx
  exact ha j hj
theorem valsOk_len {zs : List Int} (h : ¬ zs.length = 8) : valsOk zs = false := by unfold valsOk; rw [decide_eq_false h]; rfl
theorem valsOk_one {zs : List Int} {j : Nat} (hj : j < zs.length) (h : valOk zs[j] = false) : valsOk zs = false := by
  unfold valsOk
  rw [Bool.and_eq_false_iff]
  exact .inr (List.all_eq_false.2 ⟨zs[j], List.getElem_mem hj, by simp [h]⟩)
theorem valsOk_out {zs : List Int} (h : valsOk zs = true) : zs.length = 8 := by
  unfold valsOk at h
  rw [Bool.and_eq_true] at h
  exact of_decide_eq_true h.1
theorem ret_vals {zs : List Int} {b : Bool} (h : valsOk zs = b) : Ending.returned (.bool b) = .returned (.bool (valsOk zs)) := by rw [h]

set_option maxRecDepth 100000 in
set_option maxHeartbeats 800000 in
theorem specVals (v : Value) (zs : List Int) (B : Nat) (w : World) (hv : Ints.Sees B w v zs) :
    Calls Try.prog 69 #[v] w fun e w' => e = .returned (.bool (valsOk zs)) ∧ w = w' := by
  obtain ⟨a, cap, rfl, h1, h2, h3⟩ := hv
  have hm : (zs.length : Int) ≤ 9223372036854775807 := by unfold maxLen at h2; omega
  by_cases h8 : zs.length = 8
  · rw [h8]
    clear hm h1 h2
    go_enter Try.func69, Try.ntmps69
    go_wp2
    go_loop [3] (fun i => ∃ k : Nat, k ≤ 8 ∧ i = .int .i64 k ∧ (∀ j (h : j < zs.length), j < k → valOk zs[j] = true)) (fun i => 8 - (intOf i).toNat)
    case atStart => exact ⟨0, by omega, rfl, fun j _ h => by omega⟩
    case round =>
      obtain ⟨k, hk, rfl, hall⟩ := hrel
      by_cases hlt : k < 8
      · obtain ⟨b, off, rfl, hbB, hc⟩ := h3 (fun h => by simp [h] at h8)
        have a0 := hc k (by omega)
        obtain ⟨z, hz⟩ : ∃ z, zs[k] = z := ⟨_, rfl⟩
        rw [hz] at a0
        have HZ : Hid (zs[k] = z) := hz
        have HA : Hid (∀ j (h : j < zs.length), j < k → valOk zs[j] = true) := hall
        clear hz hc h3 hall
        by_cases q : 0 ≤ z ∧ z ≤ 65535
        · obtain ⟨q0, q1⟩ := q
          go_wp2
          go_round
          case rel => exact ⟨k + 1, by omega, by go_num, fun j hj hjk => by
            rcases Nat.lt_succ_iff_lt_or_eq.1 hjk with h | h
            · exact HA.out j hj h
            · subst h; rw [HZ.out]; exact decide_eq_true ⟨q0, q1⟩⟩
          case measure => simp [intOf]; omega
        · have HF : Hid (valsOk zs = false) := valsOk_one (j := k) (by omega) (by rw [HZ.out]; exact decide_eq_false q)
          rcases (show z < 0 ∨ (0 ≤ z ∧ 65535 < z) by omega) with q0 | ⟨q0, q1⟩
          all_goals
            try have q2 : decide (z ≤ 65535) = false := by (simp; omega)
            clear q
            go_wp2
            go_ret
            exact ⟨ret_vals HF.out, rfl⟩
      · obtain rfl : k = 8 := by omega
        have HT : Hid (valsOk zs = true) := valsOk_mk h8 fun j hj => hall j hj (by omega)
        clear hall h3
        go_wp2
        go_ret
        exact ⟨ret_vals HT.out, rfl⟩
  · have HF : Hid (valsOk zs = false) := valsOk_len h8
    obtain ⟨n, hn⟩ : ∃ n, zs.length = n := ⟨_, rfl⟩
    rw [hn] at hm h8 ⊢
    have h8' : ((n : Int) != 8) = true := by simp; omega
    clear h3 hn h1 h2 h8
    go_enter Try.func69, Try.ntmps69
    go_wp2
    go_ret
    exact ⟨ret_vals HF.out, rfl⟩

set_option maxRecDepth 100000 in
set_option maxHeartbeats 800000 in
theorem implVals (v : Value) (zs : List Int) (B : Nat) (w : World) (hv : Ints.Sees B w v zs) :
    Calls Try.prog 55 #[v] w fun e w' => e = .returned (.bool (valsOk zs)) ∧ w = w' := by
  obtain ⟨a, cap, rfl, h1, h2, h3⟩ := hv
  have hm : (zs.length : Int) ≤ 9223372036854775807 := by unfold maxLen at h2; omega
  by_cases h8 : zs.length = 8
  · rw [h8]
    clear hm h1 h2
    go_enter Try.func55, Try.ntmps55
    go_wp2
    go_loop [10] (fun i => ∃ k : Nat, k ≤ 8 ∧ i = .int .i64 k ∧ (∀ j (h : j < zs.length), j < k → valOk zs[j] = true)) (fun i => 8 - (intOf i).toNat)
    case atStart => exact ⟨0, by omega, rfl, fun j _ h => by omega⟩
    case round =>
      obtain ⟨k, hk, rfl, hall⟩ := hrel
      by_cases hlt : k < 8
      · obtain ⟨b, off, rfl, hbB, hc⟩ := h3 (fun h => by simp [h] at h8)
        have a0 := hc k (by omega)
        obtain ⟨z, hz⟩ : ∃ z, zs[k] = z := ⟨_, rfl⟩
        rw [hz] at a0
        have HZ : Hid (zs[k] = z) := hz
        have HA : Hid (∀ j (h : j < zs.length), j < k → valOk zs[j] = true) := hall
        clear hz hc h3 hall
        by_cases q : 0 ≤ z ∧ z ≤ 65535
        · obtain ⟨q0, q1⟩ := q
          go_wp2
          go_round
          case rel => exact ⟨k + 1, by omega, by go_num, fun j hj hjk => by
            rcases Nat.lt_succ_iff_lt_or_eq.1 hjk with h | h
            · exact HA.out j hj h
            · subst h; rw [HZ.out]; exact decide_eq_true ⟨q0, q1⟩⟩
          case measure => simp [intOf]; omega
        · have HF : Hid (valsOk zs = false) := valsOk_one (j := k) (by omega) (by rw [HZ.out]; exact decide_eq_false q)
          rcases (show z < 0 ∨ (0 ≤ z ∧ 65535 < z) by omega) with q0 | ⟨q0, q1⟩
          all_goals
            try have q2 : decide (z ≤ 65535) = false := by (simp; omega)
            clear q
            go_wp2
            go_ret
            exact ⟨ret_vals HF.out, rfl⟩
      · obtain rfl : k = 8 := by omega
        have HT : Hid (valsOk zs = true) := valsOk_mk h8 fun j hj => hall j hj (by omega)
        clear hall h3
        go_wp2
        go_ret
        exact ⟨ret_vals HT.out, rfl⟩
  · have HF : Hid (valsOk zs = false) := valsOk_len h8
    obtain ⟨n, hn⟩ : ∃ n, zs.length = n := ⟨_, rfl⟩
    rw [hn] at hm h8 ⊢
    have h8' : ((n : Int) != 8) = true := by simp; omega
    clear h3 hn h1 h2 h8
    go_enter Try.func55, Try.ntmps55
    go_wp2
    go_ret
    exact ⟨ret_vals HF.out, rfl⟩


theorem vals_cells (zs : List Int) : valsOk zs = Ops.cellsOk zs := by
  unfold valsOk Ops.cellsOk
  congr 2
  funext z
  unfold valOk Ops.inn
  rw [Bool.eq_iff_iff]
  simp
theorem specCells (v : Value) (zs : List Int) (B : Nat) (w : World) (hv : Ints.Sees B w v zs) : Calls Try.prog 69 #[v] w fun e w' => e = .returned (.bool (Ops.cellsOk zs)) ∧ w = w' := by
  rw [← vals_cells]; exact specVals v zs B w hv
theorem implCells (v : Value) (zs : List Int) (B : Nat) (w : World) (hv : Ints.Sees B w v zs) : Calls Try.prog 55 #[v] w fun e w' => e = .returned (.bool (Ops.cellsOk zs)) ∧ w = w' := by
  rw [← vals_cells]; exact implVals v zs B w hv
end Ths
end Go.Proofs.Ytppkohkcffnghaa
