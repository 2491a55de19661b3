/- What step does, one theorem a kind of op. -/
import Derived.Test.YtppkohkcffnghaaDoPlain
import Derived.Test.YtppkohkcffnghaaShapeImpl
set_option linter.unusedVariables false
set_option linter.unusedSimpArgs false
namespace Go.Proofs.Ytppkohkcffnghaa
open Go.RowKit
namespace Ops
open Bas Flat

set_option maxRecDepth 100000 in
set_option maxHeartbeats 3200000 in
theorem stepK8 (B p : Nat) (vC vK vO : Value) (xs : List O4) (t0 : Th) (F : List Int → Th → List Int × Th) (Q : World → Prop) (hQ : Stays p Q) (hcode : codeOk xs = true) (s : Cf) (hs : CfOk xs s) (hp : s.pc < xs.length) (hk : xs[s.pc].k = 8)
    (hblock : ∀ W, Dc B W p vC vK vO xs s.r s.t → Q W → Calls Try.prog 122 #[.pointer (some ⟨p, 0, none⟩), .int .i64 (s.pc : Int)] W (StepTo B p vC vK vO xs t0 F s W))
    (W : World) (hd : Dc B W p vC vK vO xs s.r s.t) (hq : Q W) :
    Calls Try.prog 114 #[.pointer (some ⟨p, 0, none⟩), .int .i64 (s.pc : Int)] W (StepTo B p vC vK vO xs t0 F s W) := by
  obtain ⟨av, cv, rfl⟩ := hd.c.form
  have hlen := (code_four hcode).1
  have hgx := xs_at hp
  have hbl : B ≤ W.heap.size := by have := hd.hB; have := hd.d.lt; omega
  obtain ⟨b, off, rfl, hbB, hc⟩ := hd.c.open (by omega)
  obtain ⟨a0, a1, a2, a3⟩ := seeI hc s.pc hp
  have hok := code_at hcode hp
  obtain ⟨pc, hpc⟩ : ∃ pc, s.pc = pc := ⟨_, rfl⟩
  obtain ⟨n, hn⟩ : ∃ n, xs.length = n := ⟨_, rfl⟩
  obtain ⟨x, hx⟩ : ∃ x, xs[s.pc] = x := ⟨_, rfl⟩
  rw [hx] at a0 a1 a2 a3 hok
  have HX : Hid (xs[s.pc] = x) := hx
  have hkind : x.k = 8 := by rw [← hx]; exact hk
  rw [hpc] at a0 a1 a2 a3 ⊢
  rw [hn] at hd ⊢
  have i1 : (pc : Int) < n := by omega
  obtain ⟨q, hqq⟩ : ∃ q, W.heap.size = q := ⟨_, rfl⟩
  have hpl := hd.d.lt
  obtain ⟨kk, oa, ob, oc⟩ := x
  simp only at a0 a1 a2 a3 hkind
  have X1 := Blk.new W #[.int .i64 kk, .int .i64 oa, .int .i64 ob, .int .i64 oc] 30
  have b1 := alloc_below W (.cells #[.int .i64 kk, .int .i64 oa, .int .i64 ob, .int .i64 oc] 30)
  have d1 := hd.on b1 hpl
  have o1 : Only p W _ := Only.of b1
  have q1 := hQ _ _ hq o1
  rw [hqq] at X1 hpl
  have v0 := hd.d.code
  obtain ⟨W1, hW1⟩ : ∃ W1, W.alloc (.cells #[.int .i64 kk, .int .i64 oa, .int .i64 ob, .int .i64 oc] 30) = W1 := ⟨_, rfl⟩
  rw [hW1] at X1 d1 o1 q1
  have c0 := X1.cell 0; have c1 := X1.cell 1; have c2 := X1.cell 2; have c3 := X1.cell 3
  obtain ⟨l1, l2, l3⟩ := ok_len hs.r hs.t
  have hgs := hd.d
  have cB := hblock W1 (by rw [hn]; exact d1) q1
  rw [hpc, hn] at cB
  clear hblock
  subst hkind
  clear hx hc b1 hk
  go_enter Try.func114, Try.ntmps114
  go_wp2_with fail
  refine cB.mono ?_
  rintro e W2 (⟨i, r, t, rfl, h1, h2, h3, h4, h5⟩ | ⟨⟨h0, h⟩, h1⟩)
  · go_wp2
    go_ret
    exact .inl ⟨i, r, t, rfl, h1, h2, h3, h4, o1.trans h5⟩
  · rw [HX.out] at h; cases h
set_option maxRecDepth 100000 in
set_option maxHeartbeats 3200000 in
theorem stepK10 (B p : Nat) (vC vK vO : Value) (xs : List O4) (t0 : Th) (F : List Int → Th → List Int × Th) (Q : World → Prop) (hQ : Stays p Q) (hcode : codeOk xs = true) (s : Cf) (hs : CfOk xs s) (hp : s.pc < xs.length) (hk : xs[s.pc].k = 10)
    (W : World) (hd : Dc B W p vC vK vO xs s.r s.t) (hq : Q W) :
    Calls Try.prog 114 #[.pointer (some ⟨p, 0, none⟩), .int .i64 (s.pc : Int)] W (StepTo B p vC vK vO xs t0 F s W) := by
  obtain ⟨av, cv, rfl⟩ := hd.c.form
  have hlen := (code_four hcode).1
  have hgx := xs_at hp
  have hbl : B ≤ W.heap.size := by have := hd.hB; have := hd.d.lt; omega
  obtain ⟨b, off, rfl, hbB, hc⟩ := hd.c.open (by omega)
  obtain ⟨a0, a1, a2, a3⟩ := seeI hc s.pc hp
  have hok := code_at hcode hp
  obtain ⟨pc, hpc⟩ : ∃ pc, s.pc = pc := ⟨_, rfl⟩
  obtain ⟨n, hn⟩ : ∃ n, xs.length = n := ⟨_, rfl⟩
  obtain ⟨x, hx⟩ : ∃ x, xs[s.pc] = x := ⟨_, rfl⟩
  rw [hx] at a0 a1 a2 a3 hok
  have HX : Hid (xs[s.pc] = x) := hx
  have hkind : x.k = 10 := by rw [← hx]; exact hk
  rw [hpc] at a0 a1 a2 a3 ⊢
  rw [hn] at hd ⊢
  have i1 : (pc : Int) < n := by omega
  obtain ⟨q, hqq⟩ : ∃ q, W.heap.size = q := ⟨_, rfl⟩
  have hpl := hd.d.lt
  obtain ⟨kk, oa, ob, oc⟩ := x
  simp only at a0 a1 a2 a3 hkind
  have X1 := Blk.new W #[.int .i64 kk, .int .i64 oa, .int .i64 ob, .int .i64 oc] 30
  have b1 := alloc_below W (.cells #[.int .i64 kk, .int .i64 oa, .int .i64 ob, .int .i64 oc] 30)
  have d1 := hd.on b1 hpl
  have o1 : Only p W _ := Only.of b1
  have q1 := hQ _ _ hq o1
  rw [hqq] at X1 hpl
  have v0 := hd.d.code
  obtain ⟨W1, hW1⟩ : ∃ W1, W.alloc (.cells #[.int .i64 kk, .int .i64 oa, .int .i64 ob, .int .i64 oc] 30) = W1 := ⟨_, rfl⟩
  rw [hW1] at X1 d1 o1 q1
  have c0 := X1.cell 0; have c1 := X1.cell 1; have c2 := X1.cell 2; have c3 := X1.cell 3
  obtain ⟨l1, l2, l3⟩ := ok_len hs.r hs.t
  have hgs := hd.d
  subst hkind
  have hpan : Hid (∃ h : s.pc < xs.length, xs[s.pc].k = 10) := ⟨hp, by rw [HX.out]⟩
  have hbu : ∀ w : World, (Instr.makeInterface 144 (.agg #[])).run Try.prog w = .ok gave w := fun _ => by kernel_rfl
  clear hx hc b1 hk
  go_enter Try.func114, Try.ntmps114
  go_wp2
  refine ⟨rfl, .inr ⟨hpan.out, rfl, ?_, o1⟩⟩
  exact { d := d1.d, c := d1.c, hB := d1.hB }
set_option maxRecDepth 100000 in
set_option maxHeartbeats 3200000 in
theorem stepK7z (B p : Nat) (vC vK vO : Value) (xs : List O4) (t0 : Th) (F : List Int → Th → List Int × Th) (Q : World → Prop) (hQ : Stays p Q) (hcode : codeOk xs = true) (s : Cf) (hs : CfOk xs s) (hp : s.pc < xs.length) (hk : xs[s.pc].k = 7)
    (hz0 : ∀ x, xs[s.pc] = x → rd s.r x.a = 0)
    (W : World) (hd : Dc B W p vC vK vO xs s.r s.t) (hq : Q W) :
    Calls Try.prog 114 #[.pointer (some ⟨p, 0, none⟩), .int .i64 (s.pc : Int)] W (StepTo B p vC vK vO xs t0 F s W) := by
  obtain ⟨av, cv, rfl⟩ := hd.c.form
  have hlen := (code_four hcode).1
  have hgx := xs_at hp
  have hbl : B ≤ W.heap.size := by have := hd.hB; have := hd.d.lt; omega
  obtain ⟨b, off, rfl, hbB, hc⟩ := hd.c.open (by omega)
  obtain ⟨a0, a1, a2, a3⟩ := seeI hc s.pc hp
  have hok := code_at hcode hp
  obtain ⟨pc, hpc⟩ : ∃ pc, s.pc = pc := ⟨_, rfl⟩
  obtain ⟨n, hn⟩ : ∃ n, xs.length = n := ⟨_, rfl⟩
  obtain ⟨x, hx⟩ : ∃ x, xs[s.pc] = x := ⟨_, rfl⟩
  rw [hx] at a0 a1 a2 a3 hok
  have HX : Hid (xs[s.pc] = x) := hx
  have hkind : x.k = 7 := by rw [← hx]; exact hk
  rw [hpc] at a0 a1 a2 a3 ⊢
  rw [hn] at hd ⊢
  have i1 : (pc : Int) < n := by omega
  obtain ⟨q, hqq⟩ : ∃ q, W.heap.size = q := ⟨_, rfl⟩
  have hpl := hd.d.lt
  obtain ⟨kk, oa, ob, oc⟩ := x
  simp only at a0 a1 a2 a3 hkind
  have X1 := Blk.new W #[.int .i64 kk, .int .i64 oa, .int .i64 ob, .int .i64 oc] 30
  have b1 := alloc_below W (.cells #[.int .i64 kk, .int .i64 oa, .int .i64 ob, .int .i64 oc] 30)
  have d1 := hd.on b1 hpl
  have o1 : Only p W _ := Only.of b1
  have q1 := hQ _ _ hq o1
  rw [hqq] at X1 hpl
  have v0 := hd.d.code
  obtain ⟨W1, hW1⟩ : ∃ W1, W.alloc (.cells #[.int .i64 kk, .int .i64 oa, .int .i64 ob, .int .i64 oc] 30) = W1 := ⟨_, rfl⟩
  rw [hW1] at X1 d1 o1 q1
  have c0 := X1.cell 0; have c1 := X1.cell 1; have c2 := X1.cell 2; have c3 := X1.cell 3
  obtain ⟨l1, l2, l3⟩ := ok_len hs.r hs.t
  have hgs := hd.d
  subst hkind
  obtain ⟨sp, hsp, g1, g2, g3⟩ := spans_ok hok
  obtain rfl : ((0, 3), (1, 20), (0, 0)) = sp := Option.some.inj hsp
  obtain ⟨na, rfl, hna⟩ := nat_of g1 (Int.le_refl _)
  obtain ⟨nb, rfl, hnb⟩ := nat_of g2 (by simp)
  simp only at hna hnb
  have e1 := d1.d.reg l1 (by omega : na < 4)
  have i2 : (na : Int) < 4 := by omega
  have hp1 := step_plain (t0 := t0) (F := F) hcode hs hp (by rw [HX.out]; simp) (by rw [HX.out]; simp) (by rw [HX.out]; simp) (by rw [HX.out]; simp)
  rw [HX.out, hpc] at hp1
  obtain ⟨hp1, hp2, hp3⟩ := hp1
  have HL : Hid (Leads xs t0 F s _) := Leads.step hp hp1
  have HO : Hid (CfOk xs _) := hp2
  have hz : rd s.r (na : Int) = 0 := hz0 _ HX.out
  have HR : Hid (plainR ⟨7, (na : Int), (nb : Int), oc⟩ s.r s.t = s.r) := rfl
  have HT : Hid (plainT ⟨7, (na : Int), (nb : Int), oc⟩ s.r s.t = s.t) := rfl
  have HN : Hid (nextPc ⟨7, (na : Int), (nb : Int), oc⟩ s.r pc = pc + 1 + nb) := by
    show (if (7 : Int) = 7 ∧ rd s.r (na : Int) = 0 then pc + 1 + ((nb : Nat) : Int).toNat else pc + 1) = _
    rw [if_pos ⟨rfl, hz⟩]; simp
  rw [hz] at e1
  clear hx hc b1 hk
  go_enter Try.func114, Try.ntmps114
  go_wp2
  go_region
  go_wp2
  go_ret
  refine .inl ⟨pc + 1 + nb, s.r, s.t, by go_num, by omega, ?_, ?_, ?_, o1.drew⟩
  · have := HL.out; rw [HR.out, HT.out, HN.out] at this; exact this
  · have := HO.out; rw [HR.out, HT.out, HN.out] at this; exact this
  · exact { d := d1.d, c := d1.c, hB := d1.hB }
set_option maxRecDepth 100000 in
set_option maxHeartbeats 3200000 in
theorem stepK7n (B p : Nat) (vC vK vO : Value) (xs : List O4) (t0 : Th) (F : List Int → Th → List Int × Th) (Q : World → Prop) (hQ : Stays p Q) (hcode : codeOk xs = true) (s : Cf) (hs : CfOk xs s) (hp : s.pc < xs.length) (hk : xs[s.pc].k = 7)
    (hz0 : ∀ x, xs[s.pc] = x → (rd s.r x.a == 0) = false)
    (W : World) (hd : Dc B W p vC vK vO xs s.r s.t) (hq : Q W) :
    Calls Try.prog 114 #[.pointer (some ⟨p, 0, none⟩), .int .i64 (s.pc : Int)] W (StepTo B p vC vK vO xs t0 F s W) := by
  obtain ⟨av, cv, rfl⟩ := hd.c.form
  have hlen := (code_four hcode).1
  have hgx := xs_at hp
  have hbl : B ≤ W.heap.size := by have := hd.hB; have := hd.d.lt; omega
  obtain ⟨b, off, rfl, hbB, hc⟩ := hd.c.open (by omega)
  obtain ⟨a0, a1, a2, a3⟩ := seeI hc s.pc hp
  have hok := code_at hcode hp
  obtain ⟨pc, hpc⟩ : ∃ pc, s.pc = pc := ⟨_, rfl⟩
  obtain ⟨n, hn⟩ : ∃ n, xs.length = n := ⟨_, rfl⟩
  obtain ⟨x, hx⟩ : ∃ x, xs[s.pc] = x := ⟨_, rfl⟩
  rw [hx] at a0 a1 a2 a3 hok
  have HX : Hid (xs[s.pc] = x) := hx
  have hkind : x.k = 7 := by rw [← hx]; exact hk
  rw [hpc] at a0 a1 a2 a3 ⊢
  rw [hn] at hd ⊢
  have i1 : (pc : Int) < n := by omega
  obtain ⟨q, hqq⟩ : ∃ q, W.heap.size = q := ⟨_, rfl⟩
  have hpl := hd.d.lt
  obtain ⟨kk, oa, ob, oc⟩ := x
  simp only at a0 a1 a2 a3 hkind
  have X1 := Blk.new W #[.int .i64 kk, .int .i64 oa, .int .i64 ob, .int .i64 oc] 30
  have b1 := alloc_below W (.cells #[.int .i64 kk, .int .i64 oa, .int .i64 ob, .int .i64 oc] 30)
  have d1 := hd.on b1 hpl
  have o1 : Only p W _ := Only.of b1
  have q1 := hQ _ _ hq o1
  rw [hqq] at X1 hpl
  have v0 := hd.d.code
  obtain ⟨W1, hW1⟩ : ∃ W1, W.alloc (.cells #[.int .i64 kk, .int .i64 oa, .int .i64 ob, .int .i64 oc] 30) = W1 := ⟨_, rfl⟩
  rw [hW1] at X1 d1 o1 q1
  have c0 := X1.cell 0; have c1 := X1.cell 1; have c2 := X1.cell 2; have c3 := X1.cell 3
  obtain ⟨l1, l2, l3⟩ := ok_len hs.r hs.t
  have hgs := hd.d
  subst hkind
  obtain ⟨sp, hsp, g1, g2, g3⟩ := spans_ok hok
  obtain rfl : ((0, 3), (1, 20), (0, 0)) = sp := Option.some.inj hsp
  obtain ⟨na, rfl, hna⟩ := nat_of g1 (Int.le_refl _)
  obtain ⟨nb, rfl, hnb⟩ := nat_of g2 (by simp)
  simp only at hna hnb
  have e1 := d1.d.reg l1 (by omega : na < 4)
  have i2 : (na : Int) < 4 := by omega
  have hp1 := step_plain (t0 := t0) (F := F) hcode hs hp (by rw [HX.out]; simp) (by rw [HX.out]; simp) (by rw [HX.out]; simp) (by rw [HX.out]; simp)
  rw [HX.out, hpc] at hp1
  obtain ⟨hp1, hp2, hp3⟩ := hp1
  have HL : Hid (Leads xs t0 F s _) := Leads.step hp hp1
  have HO : Hid (CfOk xs _) := hp2
  have hz : (rd s.r (na : Int) == 0) = false := hz0 _ HX.out
  have HR : Hid (plainR ⟨7, (na : Int), (nb : Int), oc⟩ s.r s.t = s.r) := rfl
  have HT : Hid (plainT ⟨7, (na : Int), (nb : Int), oc⟩ s.r s.t = s.t) := rfl
  have HN : Hid (nextPc ⟨7, (na : Int), (nb : Int), oc⟩ s.r pc = pc + 1) := by
    show (if (7 : Int) = 7 ∧ rd s.r (na : Int) = 0 then pc + 1 + ((nb : Nat) : Int).toNat else pc + 1) = _
    rw [if_neg (fun h => by rw [h.2] at hz; cases hz)]
  obtain ⟨y, hy⟩ : ∃ y, rd s.r (na : Int) = y := ⟨_, rfl⟩
  rw [hy] at e1 hz
  clear hy
  clear hx hc b1 hk
  go_enter Try.func114, Try.ntmps114
  go_wp2
  go_region
  go_wp2
  go_ret
  refine .inl ⟨pc + 1, s.r, s.t, by go_num, by omega, ?_, ?_, ?_, o1.drew⟩
  · have := HL.out; rw [HR.out, HT.out, HN.out] at this; exact this
  · have := HO.out; rw [HR.out, HT.out, HN.out] at this; exact this
  · exact { d := d1.d, c := d1.c, hB := d1.hB }
set_option maxRecDepth 100000 in
set_option maxHeartbeats 3200000 in
theorem stepK11 (B p : Nat) (vC vK vO : Value) (xs : List O4) (t0 : Th) (F : List Int → Th → List Int × Th) (Q : World → Prop) (hQ : Stays p Q) (hcode : codeOk xs = true) (s : Cf) (hs : CfOk xs s) (hp : s.pc < xs.length) (hk : xs[s.pc].k = 11)
    (hF : ForkOk F) (hfork : ∀ W, Dc B W p vC vK vO xs s.r s.t → Q W → Calls Try.prog 123 #[.pointer (some ⟨p, 0, none⟩)] W fun e W' => e = .returned (.tuple #[]) ∧ Dc B W' p vC vK vO xs (F s.r s.t).1 (F s.r s.t).2 ∧ Only p W W')
    (W : World) (hd : Dc B W p vC vK vO xs s.r s.t) (hq : Q W) :
    Calls Try.prog 114 #[.pointer (some ⟨p, 0, none⟩), .int .i64 (s.pc : Int)] W (StepTo B p vC vK vO xs t0 F s W) := by
  obtain ⟨av, cv, rfl⟩ := hd.c.form
  have hlen := (code_four hcode).1
  have hgx := xs_at hp
  have hbl : B ≤ W.heap.size := by have := hd.hB; have := hd.d.lt; omega
  obtain ⟨b, off, rfl, hbB, hc⟩ := hd.c.open (by omega)
  obtain ⟨a0, a1, a2, a3⟩ := seeI hc s.pc hp
  have hok := code_at hcode hp
  obtain ⟨pc, hpc⟩ : ∃ pc, s.pc = pc := ⟨_, rfl⟩
  obtain ⟨n, hn⟩ : ∃ n, xs.length = n := ⟨_, rfl⟩
  obtain ⟨x, hx⟩ : ∃ x, xs[s.pc] = x := ⟨_, rfl⟩
  rw [hx] at a0 a1 a2 a3 hok
  have HX : Hid (xs[s.pc] = x) := hx
  have hkind : x.k = 11 := by rw [← hx]; exact hk
  rw [hpc] at a0 a1 a2 a3 ⊢
  rw [hn] at hd ⊢
  have i1 : (pc : Int) < n := by omega
  obtain ⟨q, hqq⟩ : ∃ q, W.heap.size = q := ⟨_, rfl⟩
  have hpl := hd.d.lt
  obtain ⟨kk, oa, ob, oc⟩ := x
  simp only at a0 a1 a2 a3 hkind
  have X1 := Blk.new W #[.int .i64 kk, .int .i64 oa, .int .i64 ob, .int .i64 oc] 30
  have b1 := alloc_below W (.cells #[.int .i64 kk, .int .i64 oa, .int .i64 ob, .int .i64 oc] 30)
  have d1 := hd.on b1 hpl
  have o1 : Only p W _ := Only.of b1
  have q1 := hQ _ _ hq o1
  rw [hqq] at X1 hpl
  have v0 := hd.d.code
  obtain ⟨W1, hW1⟩ : ∃ W1, W.alloc (.cells #[.int .i64 kk, .int .i64 oa, .int .i64 ob, .int .i64 oc] 30) = W1 := ⟨_, rfl⟩
  rw [hW1] at X1 d1 o1 q1
  have c0 := X1.cell 0; have c1 := X1.cell 1; have c2 := X1.cell 2; have c3 := X1.cell 3
  obtain ⟨l1, l2, l3⟩ := ok_len hs.r hs.t
  have hgs := hd.d
  have cB := hfork W1 (by rw [hn]; exact d1) q1
  rw [hn] at cB
  clear hfork
  subst hkind
  obtain ⟨hp1, hp2⟩ := step_fork (t0 := t0) hF hs hp (by rw [HX.out])
  rw [hpc] at hp1 hp2
  have HL : Hid (Leads xs t0 F s _) := Leads.step hp hp1
  have HO : Hid (CfOk xs _) := hp2
  clear hx hc b1 hk
  go_enter Try.func114, Try.ntmps114
  go_wp2_with fail
  refine cB.mono ?_
  rintro e W2 ⟨rfl, d2, o2⟩
  go_wp2
  go_ret
  exact .inl ⟨pc + 1, _, _, by go_num, by omega, HL.out, HO.out, d2, o1.trans o2⟩
set_option maxRecDepth 100000 in
set_option maxHeartbeats 3200000 in
theorem stepKp (B p : Nat) (vC vK vO : Value) (xs : List O4) (t0 : Th) (F : List Int → Th → List Int × Th) (Q : World → Prop) (hQ : Stays p Q) (hcode : codeOk xs = true) (s : Cf) (hs : CfOk xs s) (hp : s.pc < xs.length) (hk : xs[s.pc].k ≤ 6 ∨ 12 ≤ xs[s.pc].k)
    (W : World) (hd : Dc B W p vC vK vO xs s.r s.t) (hq : Q W) :
    Calls Try.prog 114 #[.pointer (some ⟨p, 0, none⟩), .int .i64 (s.pc : Int)] W (StepTo B p vC vK vO xs t0 F s W) := by
  obtain ⟨av, cv, rfl⟩ := hd.c.form
  have hlen := (code_four hcode).1
  have hgx := xs_at hp
  have hbl : B ≤ W.heap.size := by have := hd.hB; have := hd.d.lt; omega
  obtain ⟨b, off, rfl, hbB, hc⟩ := hd.c.open (by omega)
  obtain ⟨a0, a1, a2, a3⟩ := seeI hc s.pc hp
  have hok := code_at hcode hp
  obtain ⟨pc, hpc⟩ : ∃ pc, s.pc = pc := ⟨_, rfl⟩
  obtain ⟨n, hn⟩ : ∃ n, xs.length = n := ⟨_, rfl⟩
  obtain ⟨x, hx⟩ : ∃ x, xs[s.pc] = x := ⟨_, rfl⟩
  rw [hx] at a0 a1 a2 a3 hok
  have HX : Hid (xs[s.pc] = x) := hx
  have hkind : x.k ≤ 6 ∨ 12 ≤ x.k := by rw [← hx]; exact hk
  rw [hpc] at a0 a1 a2 a3 ⊢
  rw [hn] at hd ⊢
  have i1 : (pc : Int) < n := by omega
  obtain ⟨q, hqq⟩ : ∃ q, W.heap.size = q := ⟨_, rfl⟩
  have hpl := hd.d.lt
  obtain ⟨kk, oa, ob, oc⟩ := x
  simp only at a0 a1 a2 a3 hkind
  have X1 := Blk.new W #[.int .i64 kk, .int .i64 oa, .int .i64 ob, .int .i64 oc] 30
  have b1 := alloc_below W (.cells #[.int .i64 kk, .int .i64 oa, .int .i64 ob, .int .i64 oc] 30)
  have d1 := hd.on b1 hpl
  have o1 : Only p W _ := Only.of b1
  have q1 := hQ _ _ hq o1
  rw [hqq] at X1 hpl
  have v0 := hd.d.code
  obtain ⟨W1, hW1⟩ : ∃ W1, W.alloc (.cells #[.int .i64 kk, .int .i64 oa, .int .i64 ob, .int .i64 oc] 30) = W1 := ⟨_, rfl⟩
  rw [hW1] at X1 d1 o1 q1
  have c0 := X1.cell 0; have c1 := X1.cell 1; have c2 := X1.cell 2; have c3 := X1.cell 3
  obtain ⟨l1, l2, l3⟩ := ok_len hs.r hs.t
  have hgs := hd.d
  have cB := doPlain p (.slice (some ⟨b, off, none⟩) n cv) vK vO s.r s.t ⟨kk, oa, ob, oc⟩ hok hkind hs.r hs.t W1.drew d1.d.drew
  have hp1 := step_plain (t0 := t0) (F := F) hcode hs hp (by rw [HX.out]; show ¬ kk = 8; omega) (by rw [HX.out]; show ¬ kk = 9; omega) (by rw [HX.out]; show ¬ kk = 10; omega) (by rw [HX.out]; show ¬ kk = 11; omega)
  rw [HX.out, hpc] at hp1
  obtain ⟨hp1, hp2, hp3⟩ := hp1
  have HL : Hid (Leads xs t0 F s _) := Leads.step hp hp1
  have HO : Hid (CfOk xs _) := hp2
  have HN : Hid (nextPc ⟨kk, oa, ob, oc⟩ s.r pc = pc + 1) := by
    show (if kk = 7 ∧ _ then _ else _) = _
    rw [if_neg (by omega)]
  have n8 : (kk == 8) = false := by simp; omega
  have n10 : (kk == 10) = false := by simp; omega
  have n7 : (kk == 7) = false := by simp; omega
  have n11 : (kk == 11) = false := by simp; omega
  have eV : O4.val ⟨kk, oa, ob, oc⟩ = .agg #[.int .i64 kk, .int .i64 oa, .int .i64 ob, .int .i64 oc] := rfl
  rw [eV] at cB
  obtain ⟨R, hR⟩ : ∃ R, plainR ⟨kk, oa, ob, oc⟩ s.r s.t = R := ⟨_, rfl⟩
  obtain ⟨T, hT⟩ : ∃ T, plainT ⟨kk, oa, ob, oc⟩ s.r s.t = T := ⟨_, rfl⟩
  rw [hR, hT] at cB HL HO
  clear hR hT hkind hp1 hp2
  clear hx hc b1 hk
  go_enter Try.func114, Try.ntmps114
  go_wp2_with fail
  go_region_with (go_at_call 124; refine cB.mono ?_; rintro e W2 ⟨rfl, d2, o2⟩)
  have o3 := o1.drew.trans o2
  have dF : Dc B W2 p (.slice (some ⟨b, off, none⟩) n cv) vK vO xs R T := { d := d2, c := d1.drew.code o2, hB := hd.hB }
  go_wp2
  go_ret
  refine .inl ⟨pc + 1, R, T, by go_num, by omega, ?_, ?_, dF, o3⟩
  · have := HL.out; rw [HN.out] at this; exact this
  · have := HO.out; rw [HN.out] at this; exact this
end Ops
end Go.Proofs.Ytppkohkcffnghaa
