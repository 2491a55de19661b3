/- Several texts of one proof, in build order: CalcL, SerialL, SerialInv, SegL, TotalL, KidL, DoRow, DoCatch, DoReach, DoNums. -/
import Derived.Deep.MidRow
import Derived.Defers
import Derived.Recover
import Derived.Test.YtppkohkcffnghaaKB1
/- What an op makes of registers; right registers. -/
namespace Go.Proofs.Ytppkohkcffnghaa
open Go.RowKit
namespace Ops
open Bas

/-- registers are right -/
def regsOk (zs : List Int) : Bool := decide (zs.length = 4) && zs.all (inn 0 65535)
theorem regsOk_mk {zs : List Int} (h : zs.length = 4) (ha : ∀ j (h : j < zs.length), inn 0 65535 zs[j] = true) : regsOk zs = true := by
  unfold regsOk
  rw [Bool.and_eq_true]
  refine ⟨decide_eq_true h, List.all_eq_true.2 fun x hx => ?_⟩
  obtain ⟨j, hj, rfl⟩ := List.mem_iff_getElem.1 hx
  exact ha j hj
theorem regsOk_len {zs : List Int} (h : ¬ zs.length = 4) : regsOk zs = false := by unfold regsOk; rw [decide_eq_false h]; rfl
theorem regsOk_at {zs : List Int} {j : Nat} (hj : j < zs.length) (h : inn 0 65535 zs[j] = false) : regsOk zs = false := by
  unfold regsOk
  rw [Bool.and_eq_false_iff]
  exact .inr (List.all_eq_false.2 ⟨zs[j], List.getElem_mem hj, by simp [h]⟩)
theorem regsOk_out {zs : List Int} (h : regsOk zs = true) : zs.length = 4 ∧ ∀ j (h : j < zs.length), 0 ≤ zs[j] ∧ zs[j] ≤ 65535 := by
  unfold regsOk at h
  rw [Bool.and_eq_true] at h
  obtain ⟨h1, h2⟩ := h
  refine ⟨of_decide_eq_true h1, fun j hj => ?_⟩
  have := List.all_eq_true.1 h2 _ (List.getElem_mem hj)
  unfold inn at this
  simpa using this
theorem ret_regs {zs : List Int} {b : Bool} (h : regsOk zs = b) : Ending.returned (.bool b) = .returned (.bool (regsOk zs)) := by rw [h]

/-- what is reckoned of an op's fields and registers -/
def reck (k b c : Int) (zs : List Int) : Int :=
  if k = 1 then b
  else if k = 2 then (zs.getD b.toNat 0 + zs.getD c.toNat 0) % 65536
  else if k = 3 then (zs.getD b.toNat 0 - zs.getD c.toNat 0 + 65536) % 65536
  else if zs.getD b.toNat 0 < zs.getD c.toNat 0 then 1 else 0
/-- it is reckoned -/
def calcMay (k a b c : Int) (zs : List Int) : Bool := opOk k a b c && regsOk zs && decide (k ≤ 4)
def calcTo (k a b c : Int) (zs : List Int) : List Int := if calcMay k a b c zs = true then zs.set a.toNat (reck k b c zs) else zs
theorem calcTo_length (k a b c : Int) (zs : List Int) : (calcTo k a b c zs).length = zs.length := by unfold calcTo; split <;> simp
theorem calcTo_no {k a b c : Int} {zs : List Int} (h : calcMay k a b c zs = false) : calcTo k a b c zs = zs := by unfold calcTo; rw [h]; rfl
theorem calcTo_yes {k a b c : Int} {zs : List Int} (h : calcMay k a b c zs = true) : calcTo k a b c zs = zs.set a.toNat (reck k b c zs) := by unfold calcTo; rw [if_pos h]

set_option maxRecDepth 100000 in
theorem isValueC (x : Int) (w : World) : Calls Try.prog 73 #[.int .i64 x] w fun e w' => e = .returned (.bool (inn 0 65535 x)) ∧ w = w' := by
  unfold inn
  by_cases h1 : 0 ≤ x
  · have h1' : decide (0 ≤ x) = true := decide_eq_true h1
    go_enter Try.func73, Try.ntmps73
    go_wp2
    go_ret
    exact ⟨by simp [h1], rfl⟩
  · have h1' : decide (0 ≤ x) = false := decide_eq_false h1
    go_enter Try.func73, Try.ntmps73
    go_wp2
    go_ret
    exact ⟨by simp, rfl⟩

set_option maxRecDepth 100000 in
set_option maxHeartbeats 800000 in
theorem regsImpl (v : Value) (zs : List Int) (B : Nat) (w : World) (hv : Ints.Sees B w v zs) : Calls Try.prog 54 #[v] w fun e w' => e = .returned (.bool (regsOk zs)) ∧ w = w' := by
  obtain ⟨a, cap, rfl, h1, h2, h3⟩ := hv
  have hm : (zs.length : Int) ≤ 9223372036854775807 := by unfold maxLen at h2; omega
  by_cases h4 : zs.length = 4
  · rw [h4]
    clear hm h1 h2
    obtain ⟨b, off, rfl, -, hc⟩ := h3 (fun h => by simp [h] at h4)
    clear h3
    go_enter Try.func54, Try.ntmps54
    go_wp2
    go_loop [10] (fun i => ∃ k : Nat, k ≤ 4 ∧ i = .int .i64 k ∧ (∀ j (h : j < zs.length), j < k → inn 0 65535 zs[j] = true)) (fun i => 4 - (intOf i).toNat)
    case atStart => exact ⟨0, by omega, rfl, fun j _ h => by omega⟩
    case round =>
      obtain ⟨k, hk, rfl, hall⟩ := hrel
      by_cases hlt : k < 4
      · have a0 := hc k (by omega)
        obtain ⟨x, hx⟩ : ∃ x, zs[k] = x := ⟨_, rfl⟩
        rw [hx] at a0
        have HX : Hid (zs[k] = x) := hx
        have HA : Hid (∀ j (h : j < zs.length), j < k → inn 0 65535 zs[j] = true) := hall
        have cV := isValueC x w
        obtain ⟨q, hq⟩ : ∃ q, inn 0 65535 x = q := ⟨_, rfl⟩
        rw [hq] at cV
        have HQ : Hid (inn 0 65535 x = q) := hq
        clear hx hc hall hq
        cases q
        · go_wp2_with fail
          refine cV.mono ?_
          rintro e w1 ⟨rfl, rfl⟩
          go_wp2
          go_ret
          exact ⟨ret_regs (regsOk_at (j := k) (by omega) (by rw [HX.out]; exact HQ.out)), rfl⟩
        · go_wp2_with fail
          refine cV.mono ?_
          rintro e w1 ⟨rfl, rfl⟩
          go_wp2
          go_round
          case rel => exact ⟨k + 1, by omega, by go_num, fun j hj hjk => by
            rcases Nat.lt_succ_iff_lt_or_eq.1 hjk with h | h
            · exact HA.out j hj h
            · subst h; rw [HX.out]; exact HQ.out⟩
          case measure => simp [intOf]; omega
      · obtain rfl : k = 4 := by omega
        have HT : Hid (regsOk zs = true) := regsOk_mk h4 fun j hj => hall j hj (by omega)
        clear hall hc
        go_wp2
        go_ret
        exact ⟨ret_regs HT.out, rfl⟩
  · have HF : Hid (regsOk zs = false) := regsOk_len h4
    obtain ⟨n, hn⟩ : ∃ n, zs.length = n := ⟨_, rfl⟩
    rw [hn] at hm h4 ⊢
    have h4' : ((n : Int) != 4) = true := by simp; omega
    clear h3 hn h1 h2 h4
    go_enter Try.func54, Try.ntmps54
    go_wp2
    go_ret
    exact ⟨ret_regs HF.out, rfl⟩

set_option maxRecDepth 100000 in
set_option maxHeartbeats 800000 in
theorem regsSpec (v : Value) (zs : List Int) (B : Nat) (w : World) (hv : Ints.Sees B w v zs) : Calls Try.prog 83 #[v] w fun e w' => e = .returned (.bool (regsOk zs)) ∧ w = w' := by
  obtain ⟨a, cap, rfl, h1, h2, h3⟩ := hv
  have hm : (zs.length : Int) ≤ 9223372036854775807 := by unfold maxLen at h2; omega
  by_cases h4 : zs.length = 4
  · rw [h4]
    clear hm h1 h2
    obtain ⟨b, off, rfl, -, hc⟩ := h3 (fun h => by simp [h] at h4)
    clear h3
    go_enter Try.func83, Try.ntmps83
    go_wp2
    go_loop [3] (fun i => ∃ k : Nat, k ≤ 4 ∧ i = .int .i64 k ∧ (∀ j (h : j < zs.length), j < k → inn 0 65535 zs[j] = true)) (fun i => 4 - (intOf i).toNat)
    case atStart => exact ⟨0, by omega, rfl, fun j _ h => by omega⟩
    case round =>
      obtain ⟨k, hk, rfl, hall⟩ := hrel
      by_cases hlt : k < 4
      · have a0 := hc k (by omega)
        obtain ⟨x, hx⟩ : ∃ x, zs[k] = x := ⟨_, rfl⟩
        rw [hx] at a0
        have HX : Hid (zs[k] = x) := hx
        have HA : Hid (∀ j (h : j < zs.length), j < k → inn 0 65535 zs[j] = true) := hall
        have cV := valC x w
        obtain ⟨q, hq⟩ : ∃ q, inn 0 65535 x = q := ⟨_, rfl⟩
        rw [hq] at cV
        have HQ : Hid (inn 0 65535 x = q) := hq
        clear hx hc hall hq
        cases q
        · go_wp2_with fail
          refine cV.mono ?_
          rintro e w1 ⟨rfl, rfl⟩
          go_wp2
          go_ret
          exact ⟨ret_regs (regsOk_at (j := k) (by omega) (by rw [HX.out]; exact HQ.out)), rfl⟩
        · go_wp2_with fail
          refine cV.mono ?_
          rintro e w1 ⟨rfl, rfl⟩
          go_wp2
          go_round
          case rel => exact ⟨k + 1, by omega, by go_num, fun j hj hjk => by
            rcases Nat.lt_succ_iff_lt_or_eq.1 hjk with h | h
            · exact HA.out j hj h
            · subst h; rw [HX.out]; exact HQ.out⟩
          case measure => simp [intOf]; omega
      · obtain rfl : k = 4 := by omega
        have HT : Hid (regsOk zs = true) := regsOk_mk h4 fun j hj => hall j hj (by omega)
        clear hall hc
        go_wp2
        go_ret
        exact ⟨ret_regs HT.out, rfl⟩
  · have HF : Hid (regsOk zs = false) := regsOk_len h4
    obtain ⟨n, hn⟩ : ∃ n, zs.length = n := ⟨_, rfl⟩
    rw [hn] at hm h4 ⊢
    have h4' : ((n : Int) != 4) = true := by simp; omega
    clear h3 hn h1 h2 h4
    go_enter Try.func83, Try.ntmps83
    go_wp2
    go_ret
    exact ⟨ret_regs HF.out, rfl⟩
end Ops
end Go.Proofs.Ytppkohkcffnghaa
/- One by one: what programs do, as plain mathematics: a machine that goes from place to place, with the marks of the blocks that are open. -/
set_option linter.unusedVariables false
set_option linter.unusedSimpArgs false
namespace Go.Proofs.Ytppkohkcffnghaa
namespace Ops

/-- things: cells, map, counter -/
structure Th where
  c : List Int
  m : List Int
  n : Int
def cellsOk (l : List Int) : Bool := decide (l.length = 8) && l.all (inn 0 65535)
def mapOk (l : List Int) : Bool := decide (l.length = 8) && l.all (inn 0 65536)
def thOk (t : Th) : Bool := cellsOk t.c && mapOk t.m && inn 0 65535 t.n
/-- the mark of a block: where it begins, and what there was -/
structure Mk where
  pc : Nat
  r : List Int
  t : Th
/-- where the machine is -/
structure Cf where
  pc : Nat
  r : List Int
  t : Th
  k : List Mk
/-- how it ends -/
structure Rn where
  out : Int
  r : List Int
  t : Th
def rd (l : List Int) (i : Int) : Int := l.getD i.toNat 0
def wr (l : List Int) (i v : Int) : List Int := l.set i.toNat v
theorem wr_length (l : List Int) (i v : Int) : (wr l i v).length = l.length := by simp [wr]

/-- the registers behind an op that is neither a block's nor a fork -/
def plainR (o : O4) (r : List Int) (t : Th) : List Int :=
  if o.k = 5 then wr r o.a (rd t.c o.b) else if o.k = 12 then wr r o.c (rd t.m o.a % 65536) else if o.k = 13 then wr r o.a (rd t.m o.b % 65536)
  else if o.k = 14 then wr r o.b (rd t.m o.a % 65536) else if o.k = 16 then wr r o.a t.n else if o.k ≤ 4 then calcTo o.k o.a o.b o.c r else r
/-- the things behind it -/
def plainT (o : O4) (r : List Int) (t : Th) : Th :=
  if o.k = 6 then { t with c := wr t.c o.a (rd r o.b) } else if o.k = 12 then { t with m := wr t.m o.a (1 + rd r o.b) } else if o.k = 14 then { t with m := wr t.m o.a 0 }
  else if o.k = 15 then { t with n := (t.n + rd r o.a) % 65536 } else t
def nextPc (o : O4) (r : List Int) (pc : Nat) : Nat := if o.k = 7 ∧ rd r o.a = 0 then pc + 1 + o.b.toNat else pc + 1
/-- one op; F: what a fork makes of registers and things -/
def step (xs : List O4) (t0 : Th) (F : List Int → Th → List Int × Th) (s : Cf) : Cf ⊕ Rn :=
  if (xs.getD s.pc z4).k = 8 then .inl ⟨s.pc + 1, s.r, s.t, ⟨s.pc, s.r, s.t⟩ :: s.k⟩
  else if (xs.getD s.pc z4).k = 9 then (match s.k with
    | [] => .inr ⟨0, [], t0⟩
    | m :: k => .inl ⟨s.pc + 1, wr s.r (xs.getD m.pc z4).a 1, s.t, k⟩)
  else if (xs.getD s.pc z4).k = 10 then (match s.k with
    | [] => .inr ⟨2, s.r, t0⟩
    | m :: k => .inl ⟨(endOf xs m.pc).toNat + 1, wr m.r (xs.getD m.pc z4).a 0, m.t, k⟩)
  else if (xs.getD s.pc z4).k = 11 then .inl ⟨s.pc + 1, (F s.r s.t).1, (F s.r s.t).2, s.k⟩
  else .inl ⟨nextPc (xs.getD s.pc z4) s.r s.pc, plainR (xs.getD s.pc z4) s.r s.t, plainT (xs.getD s.pc z4) s.r s.t, s.k⟩
def runF (xs : List O4) (t0 : Th) (F : List Int → Th → List Int × Th) : Nat → Cf → Option Rn
  | 0, _ => none
  | f + 1, s => if s.pc < xs.length then (match step xs t0 F s with
    | .inl s' => runF xs t0 F f s'
    | .inr r => some r) else some ⟨1, s.r, s.t⟩
/-- from here it ends so -/
def Ends (xs : List O4) (t0 : Th) (F : List Int → Th → List Int × Th) (s : Cf) (r : Rn) : Prop := ∃ f, runF xs t0 F f s = some r
section
variable {xs : List O4} {t0 : Th} {F : List Int → Th → List Int × Th} {s s' s'' : Cf} {r r' : Rn}
theorem runF_mono : ∀ (f g : Nat) (s : Cf), f ≤ g → runF xs t0 F f s = some r → runF xs t0 F g s = some r
  | 0, _, _, _, h => by simp [runF] at h
  | f + 1, 0, _, hg, _ => by omega
  | f + 1, g + 1, s, hg, h => by
    unfold runF at h ⊢
    split
    · rename_i hp
      rw [if_pos hp] at h
      split
      · rename_i s' he
        rw [he] at h
        exact runF_mono f g s' (by omega) h
      · rename_i r2 he
        rw [he] at h; exact h
    · rename_i hp
      rw [if_neg hp] at h; exact h
theorem Ends.unique (h : Ends xs t0 F s r) (h' : Ends xs t0 F s r') : r = r' := by
  obtain ⟨f, h⟩ := h
  obtain ⟨g, h'⟩ := h'
  have a := runF_mono f (max f g) s (Nat.le_max_left _ _) h
  have b := runF_mono g (max f g) s (Nat.le_max_right _ _) h'
  exact Option.some.inj (a.symm.trans b)
theorem Ends.over (h : xs.length ≤ s.pc) : Ends xs t0 F s ⟨1, s.r, s.t⟩ := ⟨1, by unfold runF; rw [if_neg (by omega)]⟩
theorem Ends.halt (h : s.pc < xs.length) (hs : step xs t0 F s = .inr r) : Ends xs t0 F s r := ⟨1, by unfold runF; rw [if_pos h, hs]⟩
/-- however it ends from there, so it ends from here -/
def Leads (xs : List O4) (t0 : Th) (F : List Int → Th → List Int × Th) (s s' : Cf) : Prop := ∀ r, Ends xs t0 F s' r → Ends xs t0 F s r
theorem Leads.refl (s : Cf) : Leads xs t0 F s s := fun _ h => h
theorem Leads.trans (h : Leads xs t0 F s s') (h' : Leads xs t0 F s' s'') : Leads xs t0 F s s'' := fun r hr => h r (h' r hr)
theorem Leads.step (h : s.pc < xs.length) (hs : step xs t0 F s = .inl s') : Leads xs t0 F s s' := fun r ⟨f, hr⟩ => ⟨f + 1, by
  unfold runF
  rw [if_pos h, hs]; exact hr⟩
end
/-- how code ends, from these registers and things: a step more than there are ops is enough where the code is right (TotalL) -/
def run (xs : List O4) (F : List Int → Th → List Int × Th) (r : List Int) (t : Th) : Rn := (runF xs t F (xs.length + 1) ⟨0, r, t, []⟩).getD ⟨0, [], t⟩
/-- kids cannot fork -/
def noF : List Int → Th → List Int × Th := fun r t => (r, t)
/-- what kids do, one behind the other, in this order: each one's register 0, and the things -/
def kidsGo (kss : List (List O4)) (r : List Int) : List Int → List Int → Th → List Int × Th
  | [], res, t => (res, t)
  | i :: l, res, t => kidsGo kss r l (if (run (kss.getD i.toNat []) noF r t).out = 1 then wr res i (rd (run (kss.getD i.toNat []) noF r t).r 0) else res) (run (kss.getD i.toNat []) noF r t).t
/-- a fork -/
def forkF (kss : List (List O4)) (order : List Int) : List Int → Th → List Int × Th := fun r t =>
  ((kidsGo kss r order (List.replicate kss.length 0) t).1 ++ r.drop kss.length, (kidsGo kss r order (List.replicate kss.length 0) t).2)

/-! ### what stays right -/
theorem cellsOk_out {l : List Int} (h : cellsOk l = true) : l.length = 8 ∧ ∀ j (h : j < l.length), 0 ≤ l[j] ∧ l[j] ≤ 65535 := by
  unfold cellsOk at h
  rw [Bool.and_eq_true] at h
  refine ⟨of_decide_eq_true h.1, fun j hj => ?_⟩
  have := List.all_eq_true.1 h.2 _ (List.getElem_mem hj)
  unfold inn at this
  simpa using this
theorem mapOk_out {l : List Int} (h : mapOk l = true) : l.length = 8 ∧ ∀ j (h : j < l.length), 0 ≤ l[j] ∧ l[j] ≤ 65536 := by
  unfold mapOk at h
  rw [Bool.and_eq_true] at h
  refine ⟨of_decide_eq_true h.1, fun j hj => ?_⟩
  have := List.all_eq_true.1 h.2 _ (List.getElem_mem hj)
  unfold inn at this
  simpa using this
theorem all_wr {l : List Int} {p : Int → Bool} (h : l.all p = true) (i : Int) {v : Int} (hv : p v = true) : (wr l i v).all p = true := by
  rw [List.all_eq_true] at h ⊢
  intro x hx
  rcases List.mem_or_eq_of_mem_set hx with hx | rfl
  · exact h x hx
  · exact hv
theorem regs_wr {r : List Int} (h : regsOk r = true) (i : Int) {v : Int} (hv : 0 ≤ v ∧ v ≤ 65535) : regsOk (wr r i v) = true := by
  unfold regsOk at h ⊢
  rw [Bool.and_eq_true] at h ⊢
  exact ⟨by rw [wr_length]; exact h.1, all_wr h.2 i (by unfold inn; simp; exact hv)⟩
theorem cells_wr {r : List Int} (h : cellsOk r = true) (i : Int) {v : Int} (hv : 0 ≤ v ∧ v ≤ 65535) : cellsOk (wr r i v) = true := by
  unfold cellsOk at h ⊢
  rw [Bool.and_eq_true] at h ⊢
  exact ⟨by rw [wr_length]; exact h.1, all_wr h.2 i (by unfold inn; simp; exact hv)⟩
theorem map_wr {r : List Int} (h : mapOk r = true) (i : Int) {v : Int} (hv : 0 ≤ v ∧ v ≤ 65536) : mapOk (wr r i v) = true := by
  unfold mapOk at h ⊢
  rw [Bool.and_eq_true] at h ⊢
  exact ⟨by rw [wr_length]; exact h.1, all_wr h.2 i (by unfold inn; simp; exact hv)⟩
theorem rd_all {l : List Int} {lo hi : Int} (h0 : lo ≤ 0 ∧ 0 ≤ hi) (h : ∀ j (h : j < l.length), lo ≤ l[j] ∧ l[j] ≤ hi) (i : Int) : lo ≤ rd l i ∧ rd l i ≤ hi := by
  unfold rd
  rw [List.getD_eq_getElem?_getD]
  by_cases hi' : i.toNat < l.length
  · rw [List.getElem?_eq_getElem hi']; exact h _ hi'
  · rw [List.getElem?_eq_none (by omega)]; exact h0
theorem th_parts {t : Th} (h : thOk t = true) : cellsOk t.c = true ∧ mapOk t.m = true ∧ 0 ≤ t.n ∧ t.n ≤ 65535 := by
  unfold thOk at h
  rw [Bool.and_eq_true, Bool.and_eq_true] at h
  refine ⟨h.1.1, h.1.2, ?_⟩
  have := h.2
  unfold inn at this
  simpa using this
theorem th_mk {t : Th} (h1 : cellsOk t.c = true) (h2 : mapOk t.m = true) (h3 : 0 ≤ t.n ∧ t.n ≤ 65535) : thOk t = true := by
  unfold thOk
  rw [h1, h2]
  unfold inn
  simp; exact h3
theorem calc_regs {o : O4} {r : List Int} (ho : okOp o = true) (h : regsOk r = true) : regsOk (calcTo o.k o.a o.b o.c r) = true := by
  unfold calcTo
  split
  · refine regs_wr h o.a ?_
    have hr := (regsOk_out h).2
    have h1 := rd_all (lo := 0) (hi := 65535) (by omega) hr o.b
    have h2 := rd_all (lo := 0) (hi := 65535) (by omega) hr o.c
    unfold rd at h1 h2
    rename_i hm
    unfold reck
    split
    · rename_i hk
      have hq : okOp o = true := ho
      unfold okOp opOk at hq
      rw [hk] at hq
      simp only [spans, Int.reduceEq, if_true, if_false, reduceIte, Bool.and_eq_true] at hq
      have := hq.1.2
      unfold inn at this
      simpa using this
    · split
      · omega
      · split
        · omega
        · split <;> omega
  · exact h
theorem plainR_ok {o : O4} {r : List Int} {t : Th} (ho : okOp o = true) (hr : regsOk r = true) (ht : thOk t = true) : regsOk (plainR o r t) = true := by
  obtain ⟨h1, h2, h3⟩ := th_parts ht
  have m := rd_all (lo := 0) (hi := 65536) (by omega) (mapOk_out h2).2
  unfold plainR
  split
  · exact regs_wr hr _ (rd_all (by omega) (cellsOk_out h1).2 _)
  · split
    · exact regs_wr hr _ (by omega)
    · split
      · exact regs_wr hr _ (by omega)
      · split
        · exact regs_wr hr _ (by omega)
        · split
          · exact regs_wr hr _ h3
          · split
            · exact calc_regs ho hr
            · exact hr
theorem plainT_ok {o : O4} {r : List Int} {t : Th} (hr : regsOk r = true) (ht : thOk t = true) : thOk (plainT o r t) = true := by
  obtain ⟨h1, h2, h3⟩ := th_parts ht
  have q := rd_all (lo := 0) (hi := 65535) (by omega) (regsOk_out hr).2
  unfold plainT
  split
  · exact th_mk (cells_wr h1 _ (q _)) h2 h3
  · split
    · exact th_mk h1 (map_wr h2 _ (by have := q o.b; omega)) h3
    · split
      · exact th_mk h1 (map_wr h2 _ (by omega)) h3
      · split
        · exact th_mk h1 h2 (by show 0 ≤ (t.n + rd r o.a) % 65536 ∧ (t.n + rd r o.a) % 65536 ≤ 65535; omega)
        · exact ht

/-! ### the blocks that are open -/
/-- what lies below an open block is the stack where it began -/
theorem stack_below {xs : List O4} {b : Nat} {rest : List Int} : ∀ (k : Nat) (ex : List Int), stAt xs k = ex ++ (b : Int) :: rest → rest = stAt xs b
  | 0, ex, h => by
    have h0 : stAt xs 0 = [-1] := rfl
    rw [h0] at h
    rcases ex with _ | ⟨x, ex⟩
    · simp at h
    · simp at h
  | k + 1, ex, h => by
    have hs : stAt xs (k + 1) = stepS (stAt xs k) k (xs.getD k z4) := rfl
    rw [hs] at h
    unfold stepS at h
    split at h
    · rcases ex with _ | ⟨x, ex⟩
      · simp only [List.nil_append, List.cons.injEq] at h
        have hb : b = k := by omega
        rw [hb]; exact h.2.symm
      · simp only [List.cons_append, List.cons.injEq] at h
        exact stack_below k ex h.2
    · split at h
      · rcases hk : stAt xs k with _ | ⟨x, l⟩
        · rw [hk] at h; simp at h
        · rw [hk, List.tail_cons] at h
          exact stack_below k (x :: ex) (by rw [hk, h]; rfl)
      · exact stack_below k ex h
/-- where a block ends, the stack is what it was where it began -/
theorem end_stack {xs : List O4} {r : List Int} : ∀ (n k : Nat) (ex : List Int) (d : Int) (e : Nat), k + n = xs.length → stAt xs k = ex ++ r → (ex.length : Int) = d → 1 ≤ d → endGo (xs.drop k) d k = (e : Int) → stAt xs (e + 1) = r
  | 0, k, ex, d, e, hk, hs, hd, h1, he => by
    rw [List.drop_of_length_le (by omega)] at he
    simp [endGo] at he
  | n + 1, k, ex, d, e, hk, hs, hd, h1, he => by
    have hlt : k < xs.length := by omega
    have hst := stAt_succ hlt
    rw [endGo_step hlt] at he
    by_cases h8 : xs[k].k = 8
    · rw [delta8 h8, if_neg (by omega)] at he
      rw [step8 h8, hs] at hst
      exact end_stack n (k + 1) ((k : Int) :: ex) (d + 1) e (by omega) hst (by simp; omega) (by omega) he
    · by_cases h9 : xs[k].k = 9
      · rw [delta9 h9] at he
        rw [step9 h9, hs] at hst
        rcases ex with _ | ⟨x, ex⟩
        · simp at hd; omega
        · rw [List.cons_append, List.tail_cons] at hst
          by_cases hz : d + -1 = 0
          · rw [if_pos hz] at he
            have hke : k = e := by omega
            subst hke
            have : ex = [] := by simp at hd; exact List.eq_nil_of_length_eq_zero (by omega)
            rw [this] at hst; exact hst
          · rw [if_neg hz] at he
            exact end_stack n (k + 1) ex (d + -1) e (by omega) hst (by simp at hd; omega) (by omega) he
      · rw [delta0 h8 h9, Int.add_zero, if_neg (by omega)] at he
        rw [step0 h8 h9, hs] at hst
        exact end_stack n (k + 1) ex d e (by omega) hst hd h1 he
end Ops
end Go.Proofs.Ytppkohkcffnghaa
/- What stays true of the machine, step by step, in right code. -/
set_option linter.unusedVariables false
set_option linter.unusedSimpArgs false
namespace Go.Proofs.Ytppkohkcffnghaa
namespace Ops

theorem code_four {xs : List O4} (h : codeOk xs = true) : xs.length ≤ 24 ∧ xs.all okOp = true ∧ closedGo xs 0 = true ∧ skipsGo xs xs 0 = true := by
  rw [codeOk_split] at h
  simp only [Bool.and_eq_true, decide_eq_true_eq] at h
  exact ⟨h.1, h.2.1, h.2.2.1, h.2.2.2.1⟩
theorem code_at {xs : List O4} (h : codeOk xs = true) {i : Nat} (hi : i < xs.length) : okOp xs[i] = true := List.all_eq_true.1 (code_four h).2.1 _ (List.getElem_mem hi)
theorem skips_at {xs : List O4} (h : skipsGo xs xs 0 = true) : ∀ k, k ≤ xs.length → skipsGo xs (xs.drop k) k = true
  | 0, _ => by rw [List.drop_zero]; exact h
  | k + 1, hk => by
    have := skips_at h k (by omega)
    rw [skipsGo_step (by omega), Bool.and_eq_true] at this
    exact this.2
theorem skip_right {xs : List O4} (h : codeOk xs = true) {i : Nat} (hi : i < xs.length) (h7 : xs[i].k = 7) : skipOk xs i = true := by
  have := skips_at (code_four h).2.2.2 i (by omega)
  rw [skipsGo_step hi, Bool.and_eq_true] at this
  have h1 := this.1
  rw [h7] at h1
  simpa using h1
/-- a skip goes on in the block in which it stands -/
theorem skip_stack {xs : List O4} (h : codeOk xs = true) {i : Nat} (hi : i < xs.length) (h7 : xs[i].k = 7) : i + 1 + xs[i].b.toNat ≤ xs.length ∧ 0 ≤ xs[i].b ∧ stAt xs (i + 1 + xs[i].b.toNat) = stAt xs i := by
  have hs := skip_right h hi h7
  have hg : xs.getD i z4 = xs[i] := by simp [List.getD, hi]
  have hb : 0 ≤ xs[i].b := by
    have := code_at h hi
    unfold okOp opOk at this
    rw [h7] at this
    simp only [spans, Int.reduceEq, if_true, if_false, reduceIte, Bool.and_eq_true, or_self, or_false, false_or] at this
    have h2 := this.1.2
    unfold inn at h2
    simp at h2
    omega
  unfold skipOk at hs
  rw [hg, Bool.and_eq_true, decide_eq_true_eq] at hs
  have hl : i + 1 + xs[i].b.toNat ≤ xs.length := by omega
  refine ⟨hl, hb, ?_⟩
  have hst := stAt_succ hi
  rw [step0 (by omega) (by omega)] at hst
  obtain ⟨h1, -⟩ := closed_at (code_four h).2.2.1 i (by omega)
  obtain ⟨-, h2⟩ := st_sorted xs i
  match hS : stAt xs i, h1 with
  | b :: r, _ =>
    have hbl : b < ((i + 1 : Nat) : Int) := by have := h2 b (by rw [hS]; simp); omega
    rw [hS] at hst
    exact (skip_walk (code_four h).2.2.1 (b := b) (r := r) xs[i].b.toNat (i + 1) [] 0 hst rfl hl hbl).1 hs.2
/-- behind the end of a block the stack is what it was ahead of it; and the end of an open block is still to come -/
theorem block_end {xs : List O4} (h : codeOk xs = true) {b : Nat} (hb : b < xs.length) (h8 : xs[b].k = 8) : ∃ e : Nat, endOf xs b = (e : Int) ∧ e < xs.length ∧ stAt xs (e + 1) = stAt xs b ∧ ∀ k (rest : List Int), stAt xs k = (b : Int) :: rest → k ≤ e := by
  obtain ⟨e, he, h1, h2, -⟩ := shapes8 h hb h8
  have hg : xs.getD b z4 = xs[b] := by simp [List.getD, hb]
  have hgo : endGo (xs.drop (b + 1)) 1 (b + 1) = (e : Int) := by
    have h0 : endOf xs b = endGo (xs.drop b) 0 b := by
      unfold endOf
      rw [Int.toNat_natCast, if_pos ⟨by omega, by omega, by rw [hg]; exact h8⟩]
    rw [h0, endGo_step hb, delta8 h8, if_neg (by omega)] at he
    exact he
  have hst := stAt_succ hb
  rw [step8 h8] at hst
  have hs := end_stack (r := stAt xs b) (xs.length - (b + 1)) (b + 1) [(b : Int)] 1 e (by omega) hst rfl (by omega) hgo
  refine ⟨e, he, h2, hs, fun k rest hk => ?_⟩
  rcases Nat.lt_or_ge e k with hlt | hge
  · exfalso
    have hn : (b : Int) ∉ stAt xs (e + 1) := by
      rw [hs]
      intro hm
      have := (st_sorted xs b).2 _ hm
      omega
    have := gone (xs := xs) (b := (b : Int)) (k - (e + 1)) (e + 1) (by omega) hn
    rw [show e + 1 + (k - (e + 1)) = k by omega, hk] at this
    simp at this
  · exact hge

/-- what holds of the machine wherever it is -/
structure CfOk (xs : List O4) (s : Cf) : Prop where
  pc : s.pc ≤ xs.length
  r : regsOk s.r = true
  t : thOk s.t = true
  k : ∀ m ∈ s.k, regsOk m.r = true ∧ thOk m.t = true ∧ m.pc < xs.length ∧ (xs.getD m.pc z4).k = 8
  st : stAt xs s.pc = s.k.map (fun m => (m.pc : Int)) ++ [-1]
theorem CfOk.start {xs : List O4} {r : List Int} {t : Th} (hr : regsOk r = true) (ht : thOk t = true) : CfOk xs ⟨0, r, t, []⟩ :=
  { pc := Nat.zero_le _, r := hr, t := ht, k := fun m hm => by simp at hm, st := rfl }
def ForkOk (F : List Int → Th → List Int × Th) : Prop := ∀ r t, regsOk r = true → thOk t = true → regsOk (F r t).1 = true ∧ thOk (F r t).2 = true
section
variable {xs : List O4} {t0 : Th} {F : List Int → Th → List Int × Th} {s : Cf}
theorem xs_at {xs : List O4} {i : Nat} (hi : i < xs.length) : xs.getD i z4 = xs[i] := by simp [List.getD, hi]
theorem step_begin (h : CfOk xs s) (hp : s.pc < xs.length) (h8 : xs[s.pc].k = 8) : step xs t0 F s = .inl ⟨s.pc + 1, s.r, s.t, ⟨s.pc, s.r, s.t⟩ :: s.k⟩ ∧ CfOk xs ⟨s.pc + 1, s.r, s.t, ⟨s.pc, s.r, s.t⟩ :: s.k⟩ := by
  have hg := xs_at hp
  refine ⟨by unfold step; rw [hg, if_pos h8], { pc := hp, r := h.r, t := h.t, k := fun m hm => ?_, st := ?_ }⟩
  · rcases List.mem_cons.1 hm with rfl | hm
    · exact ⟨h.r, h.t, hp, by rw [hg]; exact h8⟩
    · exact h.k m hm
  · show stAt xs (s.pc + 1) = _
    rw [stAt_succ hp, step8 h8, h.st]; rfl
theorem step_end (hc : codeOk xs = true) (h : CfOk xs s) (hp : s.pc < xs.length) (h9 : xs[s.pc].k = 9) : ∃ m k, s.k = m :: k ∧ step xs t0 F s = .inl ⟨s.pc + 1, wr s.r (xs.getD m.pc z4).a 1, s.t, k⟩ ∧ CfOk xs ⟨s.pc + 1, wr s.r (xs.getD m.pc z4).a 1, s.t, k⟩ := by
  have hg := xs_at hp
  have hst := stAt_succ hp
  rw [step9 h9, h.st] at hst
  have h1 := (closed_at (code_four hc).2.2.1 (s.pc + 1) (by omega)).1
  match hk : s.k with
  | [] => rw [hk] at hst; rw [hst] at h1; simp at h1
  | m :: k =>
    refine ⟨m, k, rfl, by unfold step; rw [hg, if_neg (by omega), if_pos h9, hk], { pc := hp, r := regs_wr h.r _ (by omega), t := h.t, k := fun q hq => h.k q (by rw [hk]; simp [hq]), st := ?_ }⟩
    show stAt xs (s.pc + 1) = _
    rw [hst, hk]; rfl
theorem step_give (h : CfOk xs s) (hp : s.pc < xs.length) (h10 : xs[s.pc].k = 10) (hk : s.k = []) : step xs t0 F s = .inr ⟨2, s.r, t0⟩ := by
  unfold step
  rw [xs_at hp, if_neg (by omega), if_neg (by omega), if_pos h10, hk]
theorem step_abort (hc : codeOk xs = true) (h : CfOk xs s) (hp : s.pc < xs.length) (h10 : xs[s.pc].k = 10) {m : Mk} {k : List Mk} (hk : s.k = m :: k) :
    ∃ e : Nat, endOf xs m.pc = (e : Int) ∧ s.pc ≤ e ∧ e < xs.length ∧ step xs t0 F s = .inl ⟨e + 1, wr m.r (xs.getD m.pc z4).a 0, m.t, k⟩ ∧ CfOk xs ⟨e + 1, wr m.r (xs.getD m.pc z4).a 0, m.t, k⟩ := by
  obtain ⟨a1, a2, a3, a4⟩ := h.k m (by rw [hk]; simp)
  rw [xs_at a3] at a4
  obtain ⟨e, e1, e2, e3, e4⟩ := block_end hc a3 a4
  have hst := h.st
  rw [hk, List.map_cons, List.cons_append] at hst
  have hrest := stack_below s.pc [] hst
  refine ⟨e, e1, e4 _ _ hst, e2, by unfold step; rw [xs_at hp, if_neg (by omega), if_neg (by omega), if_pos h10, hk]; simp only [e1, Int.toNat_natCast], { pc := e2, r := regs_wr a1 _ (by omega), t := a2, k := fun q hq => h.k q (by rw [hk]; simp [hq]), st := ?_ }⟩
  show stAt xs (e + 1) = _
  rw [e3, ← hrest]
theorem step_fork (hF : ForkOk F) (h : CfOk xs s) (hp : s.pc < xs.length) (h11 : xs[s.pc].k = 11) : step xs t0 F s = .inl ⟨s.pc + 1, (F s.r s.t).1, (F s.r s.t).2, s.k⟩ ∧ CfOk xs ⟨s.pc + 1, (F s.r s.t).1, (F s.r s.t).2, s.k⟩ := by
  obtain ⟨f1, f2⟩ := hF s.r s.t h.r h.t
  refine ⟨by unfold step; rw [xs_at hp, if_neg (by omega), if_neg (by omega), if_neg (by omega), if_pos h11], { pc := hp, r := f1, t := f2, k := h.k, st := ?_ }⟩
  show stAt xs (s.pc + 1) = _
  rw [stAt_succ hp, step0 (by omega) (by omega)]; exact h.st
theorem step_plain (hc : codeOk xs = true) (h : CfOk xs s) (hp : s.pc < xs.length) (h8 : ¬ xs[s.pc].k = 8) (h9 : ¬ xs[s.pc].k = 9) (h10 : ¬ xs[s.pc].k = 10) (h11 : ¬ xs[s.pc].k = 11) :
    step xs t0 F s = .inl ⟨nextPc xs[s.pc] s.r s.pc, plainR xs[s.pc] s.r s.t, plainT xs[s.pc] s.r s.t, s.k⟩ ∧ CfOk xs ⟨nextPc xs[s.pc] s.r s.pc, plainR xs[s.pc] s.r s.t, plainT xs[s.pc] s.r s.t, s.k⟩ ∧ s.pc < nextPc xs[s.pc] s.r s.pc := by
  have ho := code_at hc hp
  have key : nextPc xs[s.pc] s.r s.pc ≤ xs.length ∧ stAt xs (nextPc xs[s.pc] s.r s.pc) = stAt xs s.pc ∧ s.pc < nextPc xs[s.pc] s.r s.pc := by
    unfold nextPc
    split
    · rename_i h7
      obtain ⟨a, b, c⟩ := skip_stack hc hp h7.1
      exact ⟨a, c, by omega⟩
    · exact ⟨hp, by rw [stAt_succ hp, step0 h8 h9], by omega⟩
  refine ⟨by unfold step; rw [xs_at hp, if_neg h8, if_neg h9, if_neg h10, if_neg h11], { pc := key.1, r := plainR_ok ho h.r h.t, t := plainT_ok h.r h.t, k := h.k, st := ?_ }, key.2.2⟩
  show stAt xs (nextPc xs[s.pc] s.r s.pc) = _
  rw [key.2.1]; exact h.st
end
end Ops
end Go.Proofs.Ytppkohkcffnghaa
/- Pieces of right code: from one place to another in one block; how a block's body leads to its end or to a place that gives up. -/
set_option linter.unusedVariables false
set_option linter.unusedSimpArgs false
namespace Go.Proofs.Ytppkohkcffnghaa
namespace Ops

/-- between the beginning of a block and its end the block stays open -/
theorem inside {xs : List O4} {r : List Int} : ∀ (n k : Nat) (ex : List Int) (d : Int) (e : Nat), k + n = xs.length → stAt xs k = ex ++ r → (ex.length : Int) = d → 1 ≤ d → endGo (xs.drop k) d k = (e : Int) → ∀ j, k ≤ j → j ≤ e → ∃ ex', ex' ≠ [] ∧ stAt xs j = ex' ++ r
  | 0, k, ex, d, e, hk, hs, hd, h1, he => by
    rw [List.drop_of_length_le (by omega)] at he
    simp [endGo] at he
  | n + 1, k, ex, d, e, hk, hs, hd, h1, he => by
    intro j hkj hje
    have hlt : k < xs.length := by omega
    have hst := stAt_succ hlt
    have hex : ex ≠ [] := fun h => by rw [h] at hd; simp at hd; omega
    rcases Nat.eq_or_lt_of_le hkj with rfl | hlt2
    · exact ⟨ex, hex, hs⟩
    rw [endGo_step hlt] at he
    by_cases h8 : xs[k].k = 8
    · rw [delta8 h8, if_neg (by omega)] at he
      rw [step8 h8, hs] at hst
      exact inside n (k + 1) ((k : Int) :: ex) (d + 1) e (by omega) hst (by simp; omega) (by omega) he j (by omega) hje
    · by_cases h9 : xs[k].k = 9
      · rw [delta9 h9] at he
        rw [step9 h9, hs] at hst
        rcases ex with _ | ⟨x, ex⟩
        · simp at hd; omega
        · rw [List.cons_append, List.tail_cons] at hst
          by_cases hz : d + -1 = 0
          · rw [if_pos hz] at he
            omega
          · rw [if_neg hz] at he
            exact inside n (k + 1) ex (d + -1) e (by omega) hst (by simp at hd; omega) (by omega) he j (by omega) hje
      · rw [delta0 h8 h9, Int.add_zero, if_neg (by omega)] at he
        rw [step0 h8 h9, hs] at hst
        exact inside n (k + 1) ex d e (by omega) hst hd h1 he j (by omega) hje

/-- a piece of code, in one block -/
structure Seg (xs : List O4) (fr to : Nat) : Prop where
  le : fr ≤ to
  len : to ≤ xs.length
  cap : ∀ k, k ≤ xs.length → stAt xs k = stAt xs fr → k ≤ to
  noEnd : ∀ k (h : k < xs.length), k < to → stAt xs k = stAt xs fr → ¬ xs[k].k = 9
theorem Seg.whole {xs : List O4} (hc : codeOk xs = true) : Seg xs 0 xs.length :=
  { le := Nat.zero_le _, len := Nat.le_refl _, cap := fun k h _ => h, noEnd := fun k h _ hs h9 => by
      have hst := stAt_succ h
      have h0 : stAt xs 0 = [-1] := rfl
      rw [step9 h9, hs, h0, List.tail_cons] at hst
      have := (closed_at (code_four hc).2.2.1 (k + 1) (by omega)).1
      rw [hst] at this
      simp at this }
/-- the body of a block -/
theorem Seg.body {xs : List O4} (hc : codeOk xs = true) {b : Nat} (hb : b < xs.length) (h8 : xs[b].k = 8) : ∃ e : Nat, endOf xs b = (e : Int) ∧ Seg xs (b + 1) e ∧ (∃ h : e < xs.length, xs[e].k = 9) ∧ stAt xs (e + 1) = stAt xs b := by
  obtain ⟨e, he, h1, h2, h3, -⟩ := shapes8 hc hb h8
  obtain ⟨e', he', -, hs, hcap⟩ := block_end hc hb h8
  have hee : e' = e := by omega
  subst hee
  have hg := xs_at hb
  have hgo : endGo (xs.drop (b + 1)) 1 (b + 1) = (e' : Int) := by
    have h0 : endOf xs b = endGo (xs.drop b) 0 b := by
      unfold endOf
      rw [Int.toNat_natCast, if_pos ⟨by omega, by omega, by rw [hg]; exact h8⟩]
    rw [h0, endGo_step hb, delta8 h8, if_neg (by omega)] at he
    exact he
  have hst := stAt_succ hb
  rw [step8 h8] at hst
  have hin := inside (r := stAt xs b) (xs.length - (b + 1)) (b + 1) [(b : Int)] 1 e' (by omega) hst rfl (by omega) hgo
  refine ⟨e', he, { le := h1, len := by omega, cap := fun k _ hk => hcap k (stAt xs b) (hk.trans hst), noEnd := fun k hk hke hks h9 => ?_ }, ⟨h2, h3 h2⟩, hs⟩
  have hst2 := stAt_succ hk
  rw [step9 h9, hks, hst, List.tail_cons] at hst2
  by_cases hkb : b + 1 ≤ k + 1
  · obtain ⟨ex, hex, h⟩ := hin (k + 1) hkb hke
    rw [hst2] at h
    have := congrArg List.length h
    rw [List.length_append] at this
    have : 0 < ex.length := List.length_pos_iff.2 hex
    omega
  · have hk2 : k < b := by omega
    have := (st_sorted xs k).2 (b : Int) (by rw [hks, hst]; simp)
    omega
/-- how a piece of code ends: at its end, or at a place that gives up -/
def SegEnds (xs : List O4) (t0 : Th) (F : List Int → Th → List Int × Th) (s : Cf) (to : Nat) (b : Bool) (r : List Int) (t : Th) : Prop :=
  (b = true ∧ Leads xs t0 F s ⟨to, r, t, s.k⟩ ∧ CfOk xs ⟨to, r, t, s.k⟩) ∨
  (b = false ∧ ∃ (p : Nat) (hp : p < xs.length), xs[p].k = 10 ∧ Leads xs t0 F s ⟨p, r, t, s.k⟩ ∧ CfOk xs ⟨p, r, t, s.k⟩)
section
variable {xs : List O4} {t0 : Th} {F : List Int → Th → List Int × Th} {s s' : Cf} {to : Nat} {b : Bool} {r : List Int} {t : Th}
theorem SegEnds.done (hl : Leads xs t0 F s ⟨to, r, t, s.k⟩) (ok : CfOk xs ⟨to, r, t, s.k⟩) : SegEnds xs t0 F s to true r t := .inl ⟨rfl, hl, ok⟩
theorem SegEnds.gave {p : Nat} (hp : p < xs.length) (h10 : xs[p].k = 10) (hl : Leads xs t0 F s ⟨p, r, t, s.k⟩) (ok : CfOk xs ⟨p, r, t, s.k⟩) : SegEnds xs t0 F s to false r t := .inr ⟨rfl, p, hp, h10, hl, ok⟩
theorem SegEnds.ok (h : SegEnds xs t0 F s to b r t) : regsOk r = true ∧ thOk t = true := by
  rcases h with ⟨-, -, ok⟩ | ⟨-, p, hp, -, -, ok⟩ <;> exact ⟨ok.r, ok.t⟩
theorem SegEnds.from (h : SegEnds xs t0 F s' to b r t) (hl : Leads xs t0 F s s') (hk : s'.k = s.k) : SegEnds xs t0 F s to b r t := by
  rcases h with ⟨rfl, h1, ok⟩ | ⟨rfl, p, hp, h10, h1, ok⟩
  · rw [hk] at h1 ok; exact .done (hl.trans h1) ok
  · rw [hk] at h1 ok; exact .gave hp h10 (hl.trans h1) ok
/-- a whole block: the body's end, and where the machine goes on behind it -/
theorem block_over (hc : codeOk xs = true) (hs : CfOk xs s) (hp : s.pc < xs.length) (h8 : xs[s.pc].k = 8) {e : Nat} (he : endOf xs s.pc = (e : Int)) (hbd : SegEnds xs t0 F ⟨s.pc + 1, s.r, s.t, ⟨s.pc, s.r, s.t⟩ :: s.k⟩ e b r t)
    (h9 : ∃ h : e < xs.length, xs[e].k = 9) :
    Leads xs t0 F s ⟨e + 1, wr (if b then r else s.r) (xs[s.pc]).a (if b then 1 else 0), if b then t else s.t, s.k⟩ ∧ CfOk xs ⟨e + 1, wr (if b then r else s.r) (xs[s.pc]).a (if b then 1 else 0), if b then t else s.t, s.k⟩ := by
  have l1 : Leads xs t0 F s ⟨s.pc + 1, s.r, s.t, ⟨s.pc, s.r, s.t⟩ :: s.k⟩ := Leads.step hp (step_begin hs hp h8).1
  have hg := xs_at hp
  rcases hbd with ⟨rfl, hl, ok⟩ | ⟨rfl, pb, hp2, h10, hl, ok⟩
  ·
    obtain ⟨h9a, h9b⟩ := h9
    obtain ⟨m, k, hmk, hst, hok⟩ := step_end (t0 := t0) (F := F) hc ok h9a h9b
    simp only [List.cons.injEq] at hmk
    obtain ⟨rfl, rfl⟩ := hmk
    simp only [if_true]
    rw [hg] at hst hok
    exact ⟨(l1.trans hl).trans (Leads.step h9a hst), hok⟩
  ·
    obtain ⟨e', h1, h2, h3, hst, hok⟩ := step_abort (t0 := t0) (F := F) hc ok hp2 h10 (m := ⟨s.pc, s.r, s.t⟩) (k := s.k) rfl
    have hee : e' = e := by have h1 : endOf xs s.pc = (e' : Int) := h1; omega
    subst hee
    simp only [Bool.false_eq_true, if_false]
    rw [hg] at hst hok
    exact ⟨(l1.trans hl).trans (Leads.step hp2 hst), hok⟩
/-- a whole program -/
theorem SegEnds.ends (h : SegEnds xs t0 F ⟨0, s.r, s.t, []⟩ xs.length b r t) : Ends xs t0 F ⟨0, s.r, s.t, []⟩ (if b then ⟨1, r, t⟩ else ⟨2, r, t0⟩) := by
  rcases h with ⟨rfl, hl, ok⟩ | ⟨rfl, p, hp, h10, hl, ok⟩
  · exact hl _ (Ends.over (Nat.le_refl _))
  · exact hl _ (Ends.halt hp (step_give ok hp h10 rfl))
end
end Ops
end Go.Proofs.Ytppkohkcffnghaa
/- Right code comes to an end. -/
set_option linter.unusedVariables false
namespace Go.Proofs.Ytppkohkcffnghaa
namespace Ops

theorem Ends.total {xs : List O4} {t0 : Th} {F : List Int → Th → List Int × Th} (hc : codeOk xs = true) (hF : ForkOk F) : ∀ (n : Nat) (s : Cf), xs.length - s.pc ≤ n → CfOk xs s → ∃ q, Ends xs t0 F s q := by
  intro n
  induction n with
  | zero => intro s hn hs; exact ⟨_, Ends.over (by omega)⟩
  | succ n ih =>
    intro s hn hs
    by_cases hp : s.pc < xs.length
    · have go : ∀ s', step xs t0 F s = .inl s' → CfOk xs s' → s.pc < s'.pc → ∃ q, Ends xs t0 F s q := fun s' e ok hlt => by
        obtain ⟨q, hq⟩ := ih s' (by omega) ok
        exact ⟨q, Leads.step hp e q hq⟩
      by_cases h8 : xs[s.pc].k = 8
      · obtain ⟨e, ok⟩ := step_begin (t0 := t0) (F := F) hs hp h8
        exact go _ e ok (Nat.lt_succ_self _)
      by_cases h9 : xs[s.pc].k = 9
      · obtain ⟨m, k, -, e, ok⟩ := step_end (t0 := t0) (F := F) hc hs hp h9
        exact go _ e ok (Nat.lt_succ_self _)
      by_cases h10 : xs[s.pc].k = 10
      · match hk : s.k with
        | [] => exact ⟨_, Ends.halt hp (step_give hs hp h10 hk)⟩
        | m :: k =>
          obtain ⟨e, c1, c2, c3, c4, c5⟩ := step_abort (t0 := t0) (F := F) hc hs hp h10 hk
          exact go _ c4 c5 (Nat.lt_succ_of_le c2)
      by_cases h11 : xs[s.pc].k = 11
      · obtain ⟨e, ok⟩ := step_fork (t0 := t0) hF hs hp h11
        exact go _ e ok (Nat.lt_succ_self _)
      · obtain ⟨e, ok, hlt⟩ := step_plain (t0 := t0) (F := F) hc hs hp h8 h9 h10 h11
        exact go _ e ok hlt
    · exact ⟨_, Ends.over (by omega)⟩
theorem fuel_enough {xs : List O4} {t0 : Th} {F : List Int → Th → List Int × Th} (hc : codeOk xs = true) (hF : ForkOk F) : ∀ (n : Nat) (s : Cf), xs.length - s.pc ≤ n → CfOk xs s → ∃ q, runF xs t0 F (n + 1) s = some q := by
  intro n
  induction n with
  | zero => intro s hn hs; exact ⟨_, by unfold runF; rw [if_neg (by omega)]⟩
  | succ n ih =>
    intro s hn hs
    by_cases hp : s.pc < xs.length
    · have go : ∀ s', step xs t0 F s = .inl s' → CfOk xs s' → s.pc < s'.pc → ∃ q, runF xs t0 F (n + 1 + 1) s = some q := fun s' e ok hlt => by
        obtain ⟨q, hq⟩ := ih s' (by omega) ok
        exact ⟨q, by rw [runF, if_pos hp, e]; exact hq⟩
      by_cases h8 : xs[s.pc].k = 8
      · obtain ⟨e, ok⟩ := step_begin (t0 := t0) (F := F) hs hp h8
        exact go _ e ok (Nat.lt_succ_self _)
      by_cases h9 : xs[s.pc].k = 9
      · obtain ⟨m, k, -, e, ok⟩ := step_end (t0 := t0) (F := F) hc hs hp h9
        exact go _ e ok (Nat.lt_succ_self _)
      by_cases h10 : xs[s.pc].k = 10
      · match hk : s.k with
        | [] => exact ⟨_, by rw [runF, if_pos hp, step_give hs hp h10 hk]⟩
        | m :: k =>
          obtain ⟨e, c1, c2, c3, c4, c5⟩ := step_abort (t0 := t0) (F := F) hc hs hp h10 hk
          exact go _ c4 c5 (Nat.lt_succ_of_le c2)
      by_cases h11 : xs[s.pc].k = 11
      · obtain ⟨e, ok⟩ := step_fork (t0 := t0) hF hs hp h11
        exact go _ e ok (Nat.lt_succ_self _)
      · obtain ⟨e, ok, hlt⟩ := step_plain (t0 := t0) (F := F) hc hs hp h8 h9 h10 h11
        exact go _ e ok hlt
    · exact ⟨_, by unfold runF; rw [if_neg hp]⟩
theorem run_eq {xs : List O4} {F : List Int → Th → List Int × Th} (hc : codeOk xs = true) (hF : ForkOk F) {r : List Int} {t : Th} (hr : regsOk r = true) (ht : thOk t = true) {q : Rn} (h : Ends xs t F ⟨0, r, t, []⟩ q) : run xs F r t = q := by
  obtain ⟨q', hq'⟩ := fuel_enough (t0 := t) hc hF xs.length ⟨0, r, t, []⟩ (by show xs.length - 0 ≤ xs.length; omega) (CfOk.start hr ht)
  unfold run
  rw [hq']
  exact Ends.unique ⟨_, hq'⟩ h
theorem noF_ok : ForkOk noF := fun r t a b => ⟨a, b⟩
/-- .. from its beginning -/
theorem ends_total {xs : List O4} {F : List Int → Th → List Int × Th} (hc : codeOk xs = true) (hF : ForkOk F) {r : List Int} {t : Th} (hr : regsOk r = true) (ht : thOk t = true) : ∃ q, Ends xs t F ⟨0, r, t, []⟩ q :=
  Ends.total hc hF xs.length _ (by show xs.length - 0 ≤ xs.length; omega) (CfOk.start hr ht)
end Ops
end Go.Proofs.Ytppkohkcffnghaa
/- Kids: what code without forks that touches neither map nor counter does, whatever these hold. -/
set_option linter.unusedVariables false
set_option linter.unusedSimpArgs false
namespace Go.Proofs.Ytppkohkcffnghaa
namespace Ops

/-- the same things with another map and another counter -/
def reT (m : List Int) (n : Int) (t : Th) : Th := ⟨t.c, m, n⟩
def reK (m : List Int) (n : Int) (k : Mk) : Mk := ⟨k.pc, k.r, reT m n k.t⟩
def reC (m : List Int) (n : Int) (s : Cf) : Cf := ⟨s.pc, s.r, reT m n s.t, s.k.map (reK m n)⟩
def reR (m : List Int) (n : Int) (q : Rn) : Rn := ⟨q.out, q.r, reT m n q.t⟩
def reS (m : List Int) (n : Int) : Cf ⊕ Rn → Cf ⊕ Rn
  | .inl s => .inl (reC m n s)
  | .inr q => .inr (reR m n q)
/-- ops that touch neither map nor counter -/
def Dry (xs : List O4) : Prop := ∀ i (h : i < xs.length), xs[i].k < 11 ∨ xs[i].k = 11
theorem plainT_re {o : O4} (h : o.k ≤ 11) (r : List Int) (t : Th) (m : List Int) (n : Int) : plainT o r (reT m n t) = reT m n (plainT o r t) := by
  unfold plainT
  by_cases h6 : o.k = 6
  · rw [if_pos h6, if_pos h6]; rfl
  · rw [if_neg h6, if_neg h6, if_neg (by omega), if_neg (by omega), if_neg (by omega), if_neg (by omega), if_neg (by omega), if_neg (by omega)]
theorem plainR_re {o : O4} (h : o.k ≤ 11) (r : List Int) (t : Th) (m : List Int) (n : Int) : plainR o r (reT m n t) = plainR o r t := by
  unfold plainR
  by_cases h5 : o.k = 5
  · rw [if_pos h5, if_pos h5]; rfl
  · have a : ¬ o.k = 12 := by omega
    have b : ¬ o.k = 13 := by omega
    have c : ¬ o.k = 14 := by omega
    have d : ¬ o.k = 16 := by omega
    simp only [if_neg h5, if_neg a, if_neg b, if_neg c, if_neg d]
theorem step_re {xs : List O4} (hd : Dry xs) {s : Cf} (hp : s.pc < xs.length) (t0 : Th) (m : List Int) (n : Int) : step xs (reT m n t0) noF (reC m n s) = reS m n (step xs t0 noF s) := by
  have hg := xs_at hp
  have hk : xs[s.pc].k ≤ 11 := by rcases hd s.pc hp with h | h <;> omega
  obtain ⟨pc, r, t, k⟩ := s
  have hg : xs.getD pc z4 = xs[pc] := hg
  have hk : xs[pc].k ≤ 11 := hk
  have hd' : ∀ T k, step xs T noF ⟨pc, r, reT m n t, k⟩ = (if xs[pc].k = 8 then .inl ⟨pc + 1, r, reT m n t, ⟨pc, r, reT m n t⟩ :: k⟩
      else if xs[pc].k = 9 then (match k with
        | [] => .inr ⟨0, [], T⟩
        | q :: k => .inl ⟨pc + 1, wr r (xs.getD q.pc z4).a 1, reT m n t, k⟩)
      else if xs[pc].k = 10 then (match k with
        | [] => .inr ⟨2, r, T⟩
        | q :: k => .inl ⟨(endOf xs q.pc).toNat + 1, wr q.r (xs.getD q.pc z4).a 0, q.t, k⟩)
      else if xs[pc].k = 11 then .inl ⟨pc + 1, (noF r (reT m n t)).1, (noF r (reT m n t)).2, k⟩
      else .inl ⟨nextPc xs[pc] r pc, plainR xs[pc] r (reT m n t), plainT xs[pc] r (reT m n t), k⟩) := fun T k => by
    rw [← hg]; rfl
  show step xs (reT m n t0) noF ⟨pc, r, reT m n t, k.map (reK m n)⟩ = _
  rw [hd']
  clear hd'
  unfold step
  simp only [hg]
  by_cases h8 : xs[pc].k = 8
  · rw [if_pos h8, if_pos h8]; rfl
  rw [if_neg h8, if_neg h8]
  by_cases h9 : xs[pc].k = 9
  · rw [if_pos h9, if_pos h9]; cases k <;> rfl
  rw [if_neg h9, if_neg h9]
  by_cases h10 : xs[pc].k = 10
  · rw [if_pos h10, if_pos h10]; cases k <;> rfl
  rw [if_neg h10, if_neg h10]
  by_cases h11 : xs[pc].k = 11
  · rw [if_pos h11, if_pos h11]; rfl
  rw [if_neg h11, if_neg h11, plainT_re hk, plainR_re hk]; rfl
theorem runF_re {xs : List O4} (hd : Dry xs) (t0 : Th) (m : List Int) (n : Int) : ∀ (f : Nat) (s : Cf), runF xs (reT m n t0) noF f (reC m n s) = (runF xs t0 noF f s).map (reR m n)
  | 0, _ => rfl
  | f + 1, s => by
    unfold runF
    show (if s.pc < xs.length then _ else _) = _
    by_cases hp : s.pc < xs.length
    · rw [if_pos hp, if_pos hp, step_re hd hp]
      cases hs : step xs t0 noF s with
      | inl s' => exact runF_re hd t0 m n f s'
      | inr q => rfl
    · rw [if_neg hp, if_neg hp]; rfl
theorem Ends.re {xs : List O4} (hd : Dry xs) {t0 : Th} {s : Cf} {q : Rn} (h : Ends xs t0 noF s q) (m : List Int) (n : Int) : Ends xs (reT m n t0) noF (reC m n s) (reR m n q) := by
  obtain ⟨f, h⟩ := h
  exact ⟨f, by rw [runF_re hd, h]; rfl⟩
/-- a kid's ops -/
theorem kid_dry {xs : List O4} (h : kidOk xs = true) : codeOk xs = true ∧ hasFork xs = false ∧ Dry xs := by
  unfold kidOk at h
  rw [Bool.and_eq_true, Bool.and_eq_true] at h
  obtain ⟨⟨h1, h2⟩, h3⟩ := h
  refine ⟨h1, by simpa using h2, fun i hi => ?_⟩
  have ho := code_at h1 hi
  have ht := List.all_eq_true.1 h3 _ (List.getElem_mem hi)
  have hk : 0 ≤ xs[i].k ∧ xs[i].k ≤ 16 := by
    have := ho
    unfold okOp opOk at this
    rcases Int.lt_or_le xs[i].k 1 with hx | hx
    · rw [spans_none (.inl hx)] at this; simp at this
    · rcases Int.lt_or_le 16 xs[i].k with hy | hy
      · rw [spans_none (.inr hy)] at this; simp at this
      · omega
  rcases Int.lt_or_le xs[i].k 12 with h | h
  · omega
  · exfalso
    unfold touch at ht
    rw [if_pos ho, if_neg (by omega), if_pos (by omega)] at ht
    simp at ht
/-- a kid does the same, whatever map and counter hold, and leaves them -/
theorem kid_run {xs : List O4} (h : kidOk xs = true) {r : List Int} {t : Th} {q : Rn} (hr : regsOk r = true) (he : Ends xs t noF ⟨0, r, t, []⟩ q) (m : List Int) (n : Int) (ht : thOk (reT m n t) = true) : run xs noF r (reT m n t) = reR m n q :=
  run_eq (kid_dry h).1 noF_ok hr ht (he.re (kid_dry h).2.2 m n)
end Ops
end Go.Proofs.Ytppkohkcffnghaa
/- A doing in its block: the program, the order, registers, cells, map, counter; what is read of it and put into it. -/
set_option linter.unusedVariables false
set_option linter.unusedSimpArgs false
namespace Go.Proofs.Ytppkohkcffnghaa
open Go.RowKit
namespace Ops
open Bas Flat

/-- all numbers of a stock, in order -/
def nums (r : List Int) (t : Th) : List Int := r ++ (t.c ++ (t.m ++ [t.n]))
theorem nums_length {r : List Int} {t : Th} (hr : r.length = 4) (hc : t.c.length = 8) (hm : t.m.length = 8) : (nums r t).length = 21 := by simp [nums, hr, hc, hm]
theorem ok_len {r : List Int} {t : Th} (hr : regsOk r = true) (ht : thOk t = true) : r.length = 4 ∧ t.c.length = 8 ∧ t.m.length = 8 :=
  ⟨(regsOk_out hr).1, (cellsOk_out (th_parts ht).1).1, (mapOk_out (th_parts ht).2.1).1⟩
/-- the cells of a doing -/
def dcells (vC vK vO : Value) (H : List Int) : Array Value := (vC :: vK :: vO :: Ints.iv H).toArray
/-- a doing lies in block p -/
def Dn (W : World) (p : Nat) (vC vK vO : Value) (H : List Int) : Prop := Blk W p (dcells vC vK vO H) 93
/-- a stock lies in block p -/
def Sk (W : World) (p : Nat) (H : List Int) : Prop := Blk W p (Ints.iv H).toArray 90
section
variable {W W' : World} {p : Nat} {vC vK vO : Value} {H : List Int}
theorem Dn.code (h : Dn W p vC vK vO H) : W.cell? ⟨p, 0, none⟩ = some vC := (Blk.cell h 0).trans rfl
theorem Dn.kids (h : Dn W p vC vK vO H) : W.cell? ⟨p, 1, none⟩ = some vK := (Blk.cell h 1).trans rfl
theorem Dn.ord (h : Dn W p vC vK vO H) : W.cell? ⟨p, 2, none⟩ = some vO := (Blk.cell h 2).trans rfl
theorem Dn.num (h : Dn W p vC vK vO H) (j : Nat) (hj : j < H.length) : W.cell? ⟨p, 3 + j, none⟩ = some (.int .i64 H[j]) := by
  rw [Blk.cell h]
  unfold dcells
  rw [List.getElem?_toArray, show 3 + j = j + 1 + 1 + 1 by omega, List.getElem?_cons_succ, List.getElem?_cons_succ, List.getElem?_cons_succ, Ints.iv_get H j hj]
theorem Dn.froz (h : Dn W p vC vK vO H) (i : Nat) : W.frozen? ⟨p, i, none⟩ = false := Blk.froz h i
theorem Dn.lt (h : Dn W p vC vK vO H) : p < W.heap.size := Blk.lt h
theorem Dn.on (h : Dn W p vC vK vO H) {B : Nat} (hb : Below B W W') (hB : p < B) : Dn W' p vC vK vO H := Blk.on h hb hB
theorem Dn.drew (h : Dn W p vC vK vO H) : Dn W.drew p vC vK vO H := h
theorem Dn.other (h : Dn W p vC vK vO H) {q : Nat} (hne : p ≠ q) (i : Nat) (u : Value) : Dn (W.setCell ⟨q, i, none⟩ u) p vC vK vO H := Blk.other h hne i u
theorem Dn.set (h : Dn W p vC vK vO H) (j : Nat) (x : Int) : Dn (W.setCell ⟨p, 3 + j, none⟩ (.int .i64 x)) p vC vK vO (H.set j x) := by
  have := Blk.set h (3 + j) (.int .i64 x)
  have e : (dcells vC vK vO H).setIfInBounds (3 + j) (.int .i64 x) = dcells vC vK vO (H.set j x) := by
    unfold dcells
    rw [List.setIfInBounds_toArray, show 3 + j = j + 1 + 1 + 1 by omega, List.set_cons_succ, List.set_cons_succ, List.set_cons_succ, ← Ints.iv_set]
  rw [e] at this
  exact this
theorem Sk.num (h : Sk W p H) (j : Nat) (hj : j < H.length) : W.cell? ⟨p, j, none⟩ = some (.int .i64 H[j]) := by
  rw [Blk.cell h, List.getElem?_toArray, Ints.iv_get H j hj]
theorem Sk.lt (h : Sk W p H) : p < W.heap.size := Blk.lt h
theorem Sk.on (h : Sk W p H) {B : Nat} (hb : Below B W W') (hB : p < B) : Sk W' p H := Blk.on h hb hB
theorem Sk.drew (h : Sk W p H) : Sk W.drew p H := h
/-- many cells at once -/
theorem Dn.range (h : Dn W p vC vK vO H) (k n : Nat) : W.rangeAt p (3 + k) (Ints.iv ((H.drop k).take n)) := fun j v hv => by
  have hj : j < ((H.drop k).take n).length := by rw [← Ints.iv_length]; exact (List.getElem?_eq_some_iff.1 hv).1
  have hk : k + j < H.length := by simp at hj; omega
  rw [Ints.iv_get _ j hj] at hv
  have := h.num (k + j) hk
  rw [Nat.add_assoc, this, ← hv]
  congr 2
  simp
theorem Sk.range (h : Sk W p H) (k n : Nat) : W.rangeAt p k (Ints.iv ((H.drop k).take n)) := fun j v hv => by
  have hj : j < ((H.drop k).take n).length := by rw [← Ints.iv_length]; exact (List.getElem?_eq_some_iff.1 hv).1
  have hk : k + j < H.length := by simp at hj; omega
  rw [Ints.iv_get _ j hj] at hv
  have := h.num (k + j) hk
  rw [this, ← hv]
  congr 2
  simp
theorem Dn.there (h : Dn W p vC vK vO H) {k n : Nat} (hn : k + n ≤ H.length) : W.there p (3 + k) n := fun j hj =>
  ⟨by rw [Nat.add_assoc, h.num (k + j) (by omega)]; rfl, h.froz _⟩
theorem Sk.there (h : Sk W p H) {k n : Nat} (hn : k + n ≤ H.length) : W.there p k n := fun j hj =>
  ⟨by rw [h.num (k + j) (by omega)]; rfl, Blk.froz h _⟩
/-- numbers put over the old ones from place k on -/
def over (H : List Int) (k : Nat) : List Int → List Int
  | [] => H
  | x :: r => over (H.set k x) (k + 1) r
theorem over_length (l : List Int) : ∀ (H : List Int) (k : Nat), (over H k l).length = H.length := by
  induction l with
  | nil => intro H k; rfl
  | cons x r ih => intro H k; rw [over, ih]; simp
theorem over_get (l : List Int) : ∀ (H : List Int) (k j : Nat), k + l.length ≤ H.length → (over H k l)[j]? = if k ≤ j ∧ j < k + l.length then l[j - k]? else H[j]? := by
  induction l with
  | nil => intro H k j _; rw [if_neg (by simp)]; rfl
  | cons x r ih =>
    intro H k j hk
    rw [List.length_cons] at hk
    rw [over, ih _ _ _ (by simp; omega), List.length_cons]
    by_cases h1 : k + 1 ≤ j ∧ j < k + 1 + r.length
    · rw [if_pos h1, if_pos (by omega), show j - k = (j - (k + 1)) + 1 by omega, List.getElem?_cons_succ]
    · rw [if_neg h1]
      by_cases h2 : j = k
      · subst h2
        rw [if_pos (by omega), Nat.sub_self, List.getElem?_cons_zero, List.getElem?_set_self (by omega)]
      · rw [List.getElem?_set_ne (by omega), if_neg (by omega)]
theorem over_mid (a b c l : List Int) (h : l.length = b.length) : over (a ++ (b ++ c)) a.length l = a ++ (l ++ c) := by
  apply List.ext_getElem?
  intro j
  rw [over_get _ _ _ _ (by simp; omega)]
  by_cases h1 : a.length ≤ j ∧ j < a.length + l.length
  · rw [if_pos h1, List.getElem?_append_right (by omega), List.getElem?_append_left (by omega)]
  · rw [if_neg h1]
    by_cases h2 : j < a.length
    · rw [List.getElem?_append_left h2, List.getElem?_append_left h2]
    · rw [List.getElem?_append_right (by omega), List.getElem?_append_right (by omega), List.getElem?_append_right (by omega), List.getElem?_append_right (by omega), h]
theorem Dn.setMany : ∀ (l : List Int) (W : World) (H : List Int) (k : Nat), Dn W p vC vK vO H → Dn (W.setCells p (3 + k) (Ints.iv l)) p vC vK vO (over H k l)
  | [], W, H, k, h => h
  | x :: r, W, H, k, h => by
    have := Dn.setMany r _ _ (k + 1) (h.set k x)
    exact this
theorem Sk.set (h : Sk W p H) (j : Nat) (x : Int) : Sk (W.setCell ⟨p, j, none⟩ (.int .i64 x)) p (H.set j x) := by
  have := Blk.set h j (.int .i64 x)
  rw [List.setIfInBounds_toArray, ← Ints.iv_set] at this
  exact this
theorem Sk.setMany : ∀ (l : List Int) (W : World) (H : List Int) (k : Nat), Sk W p H → Sk (W.setCells p k (Ints.iv l)) p (over H k l)
  | [], W, H, k, h => h
  | x :: r, W, H, k, h => by
    have := Sk.setMany r _ _ (k + 1) (h.set k x)
    exact this
end
theorem setCells_below {B p : Nat} (hp : B ≤ p) : ∀ (l : List Value) (k : Nat) (W : World), Below B W (W.setCells p k l)
  | [], k, W => Below.refl _ _
  | x :: r, k, W => ((Below.refl B W).setCell (p := ⟨p, k, none⟩) hp x).trans (setCells_below hp r (k + 1) _)
theorem setCells_block {p q : Nat} (hpq : q ≠ p) : ∀ (l : List Value) (k : Nat) (W : World), (W.setCells p k l).heap[q]? = W.heap[q]?
  | [], k, W => rfl
  | x :: r, k, W => (setCells_block hpq r (k + 1) _).trans (Below.heap_setCell W ⟨p, k, none⟩ x q hpq)
theorem setCells_size (p : Nat) : ∀ (l : List Value) (k : Nat) (W : World), (W.setCells p k l).heap.size = W.heap.size
  | [], k, W => rfl
  | x :: r, k, W => (setCells_size p r (k + 1) _).trans (by simp [World.setCell])
theorem Sk.other {W : World} {p q : Nat} {H : List Int} (h : Sk W p H) (hne : p ≠ q) (k : Nat) (l : List Value) : Sk (W.setCells q k l) p H := (setCells_block hne l k W).trans h
theorem Dn.others {W : World} {p q : Nat} {vC vK vO : Value} {H : List Int} (h : Dn W p vC vK vO H) (hne : p ≠ q) (k : Nat) (l : List Value) : Dn (W.setCells q k l) p vC vK vO H := (setCells_block hne l k W).trans h

/-! ### worlds in which one old block alone may have changed -/
/-- from W to W' no block has changed but p and new ones -/
structure Only (p : Nat) (W W' : World) : Prop where
  os : W'.os = W.os
  tape : W'.tape = W.tape
  output : W'.output = W.output
  size : W.heap.size ≤ W'.heap.size
  block : ∀ i, i < W.heap.size → i ≠ p → W'.heap[i]? = W.heap[i]?
section
variable {p : Nat} {W W' W'' : World}
theorem Only.refl (p : Nat) (W : World) : Only p W W := ⟨rfl, rfl, rfl, Nat.le_refl _, fun _ _ _ => rfl⟩
theorem Only.trans (h : Only p W W') (h' : Only p W' W'') : Only p W W'' :=
  ⟨h'.os.trans h.os, h'.tape.trans h.tape, h'.output.trans h.output, Nat.le_trans h.size h'.size, fun i hi hp => (h'.block i (Nat.lt_of_lt_of_le hi h.size) hp).trans (h.block i hi hp)⟩
theorem Only.below (h : Only p W W') {B : Nat} (hB : B ≤ W.heap.size) (hp : B ≤ p) : Below B W W' :=
  ⟨h.os, h.tape, h.output, h.size, fun i hi => h.block i (by omega) (by omega)⟩
theorem Only.of (h : Below W.heap.size W W') : Only p W W' := ⟨h.os, h.tape, h.output, h.size, fun i hi _ => h.block i hi⟩
theorem Only.ofB {B : Nat} (h : Below B W W') (hB : W.heap.size ≤ B) : Only p W W' := ⟨h.os, h.tape, h.output, h.size, fun i hi _ => h.block i (by omega)⟩
theorem Only.drew (h : Only p W W') : Only p W W'.drew := ⟨h.os, h.tape, h.output, h.size, h.block⟩
theorem Only.undrew (h : Only p W.drew W') : Only p W W' := ⟨h.os, h.tape, h.output, h.size, h.block⟩
theorem Only.set (h : Only p W W') (i : Nat) (u : Value) : Only p W (W'.setCell ⟨p, i, none⟩ u) :=
  ⟨h.os, h.tape, h.output, by simp [World.setCell]; exact h.size, fun j hj hp => (Below.heap_setCell W' ⟨p, i, none⟩ u j hp).trans (h.block j hj hp)⟩
theorem Only.setMany (h : Only p W W') (k : Nat) (l : List Value) : Only p W (W'.setCells p k l) := by
  have b := setCells_below (B := 0) (p := p) (Nat.zero_le _) l k W'
  exact ⟨b.os.trans h.os, b.tape.trans h.tape, b.output.trans h.output, Nat.le_trans h.size b.size, fun j hj hp => (setCells_block hp l k W').trans (h.block j hj hp)⟩
theorem Only.setNew (h : Only p W W') {q : Nat} (hq : W.heap.size ≤ q) (i : Nat) (u : Value) : Only p W (W'.setCell ⟨q, i, none⟩ u) :=
  ⟨h.os, h.tape, h.output, by simp [World.setCell]; exact h.size, fun j hj hp => (Below.heap_setCell W' ⟨q, i, none⟩ u j (show j ≠ q by omega)).trans (h.block j hj hp)⟩
theorem Only.alloc (h : Only p W W') (o : Obj) : Only p W (W'.alloc o) := h.trans (Only.of (alloc_below W' o))
theorem Dn.only {q : Nat} {vC vK vO : Value} {H : List Int} (h : Dn W q vC vK vO H) (ho : Only p W W') (hne : q ≠ p) : Dn W' q vC vK vO H := (ho.block q h.lt hne).trans h
theorem Sk.only {q : Nat} {H : List Int} (h : Sk W q H) (ho : Only p W W') (hne : q ≠ p) : Sk W' q H := (ho.block q h.lt hne).trans h
end
/-- what an OpAbort panics with -/
abbrev gave : Value := .iface 144 (.agg #[])
end Ops
end Go.Proofs.Ytppkohkcffnghaa
/- The closure that recovers, and what reaches leaves by its door. -/
set_option linter.unusedVariables false
set_option linter.unusedSimpArgs false
namespace Go.Proofs.Ytppkohkcffnghaa
open Go.RowKit
namespace Ops
open Bas Flat

theorem ta_gave (w : World) : (Instr.typeAssert gave 20 144 true).run Try.prog w = .ok (.tuple #[.agg #[], .bool true]) w := by kernel_rfl
theorem ta_nil (w : World) : (Instr.typeAssert .nilIface 20 144 true).run Try.prog w = .ok (.tuple #[.agg #[], .bool false]) w := by kernel_rfl
theorem ne_gave (w : World) : (binOp .neq 20 gave .nilIface).run Try.prog w = .ok (.bool true) w := by kernel_rfl
theorem ne_nil (w : World) : (binOp .neq 20 .nilIface .nilIface).run Try.prog w = .ok (.bool false) w := by kernel_rfl
theorem eq_gave (w : World) : (binOp .eql 20 gave .nilIface).run Try.prog w = .ok (.bool false) w := by kernel_rfl
theorem eq_nil (w : World) : (binOp .eql 20 .nilIface .nilIface).run Try.prog w = .ok (.bool true) w := by kernel_rfl
theorem rep18 : Array.replicate 18 undef = #[undef, undef, undef, undef, undef, undef, undef, undef, undef, undef, undef, undef, undef, undef, undef, undef, undef, undef] := rfl

set_option maxRecDepth 100000 in
set_option maxHeartbeats 1600000 in
/-- a frame that gives up: the panic is taken, and the result says so -/
theorem catchPanic (q : Nat) (w : World) (b : Bool) (hc : w.cell? ⟨q, 0, none⟩ = some (.bool b)) (hz : w.frozen? ⟨q, 0, none⟩ = false) :
    CallsD Try.prog 113 #[.pointer (some ⟨q, 0, none⟩)] (.panicking ({ v := gave, recovered := false } :: [])) w fun e u' w' =>
      e = .returned (.tuple #[]) ∧ u' = .panicking ({ v := gave, recovered := true } :: []) ∧ w' = (w.alloc (.cells #[] 144)).setCell ⟨q, 0, none⟩ (.bool false) := by
  have hq := World.block_lt_of_cell? w _ hc
  have hc2 : (w.alloc (.cells #[] 144)).cell? ⟨q, 0, none⟩ = some (.bool b) := by rw [World.cell?_alloc_lt _ _ _ hq]; exact hc
  have hz2 : (w.alloc (.cells #[] 144)).frozen? ⟨q, 0, none⟩ = false := by rw [World.frozen?_alloc_past _ _ _ hq]; exact hz
  clear hc hz hq
  refine callsD_of_wpS Try.func113 rfl fun c₀ cs hu => ?_
  apply wpS_seq
  apply wpS_region
  simp [wpOpsS, go_sem, recoverD, hu, Try.ntmps113, Exit.thenS, rep18]
  have h1 := fun w => ta_gave w
  have h2 := fun w => ne_gave w
  have h3 := fun w => eq_gave w
  have hz0 : ∀ w : World, (zeroValue 144).run Try.prog w = .ok (.agg #[]) w := fun _ => by kernel_rfl
  refine wpS_of_wp ?_
  go_wp2
  simp [bodyPostS, results, Try.results113]
set_option maxRecDepth 100000 in
set_option maxHeartbeats 1600000 in
/-- a frame that returns: the result says so -/
theorem catchIdle (q : Nat) (w : World) (b : Bool) (hc : w.cell? ⟨q, 0, none⟩ = some (.bool b)) (hz : w.frozen? ⟨q, 0, none⟩ = false) :
    CallsD Try.prog 113 #[.pointer (some ⟨q, 0, none⟩)] .returning w fun e u' w' =>
      e = .returned (.tuple #[]) ∧ u' = .returning ∧ w' = (w.alloc (.cells #[] 144)).setCell ⟨q, 0, none⟩ (.bool true) := by
  have hq := World.block_lt_of_cell? w _ hc
  have hc2 : (w.alloc (.cells #[] 144)).cell? ⟨q, 0, none⟩ = some (.bool b) := by rw [World.cell?_alloc_lt _ _ _ hq]; exact hc
  have hz2 : (w.alloc (.cells #[] 144)).frozen? ⟨q, 0, none⟩ = false := by rw [World.frozen?_alloc_past _ _ _ hq]; exact hz
  clear hc hz hq
  refine callsD_of_wpS Try.func113 rfl fun c₀ cs hu => ?_
  apply wpS_seq
  apply wpS_region
  simp [wpOpsS, go_sem, recoverD, hu, Try.ntmps113, Exit.thenS, rep18]
  have h1 := fun w => ta_nil w
  have h2 := fun w => ne_nil w
  have h3 := fun w => eq_nil w
  have hz0 : ∀ w : World, (zeroValue 144).run Try.prog w = .ok (.agg #[]) w := fun _ => by kernel_rfl
  refine wpS_of_wp ?_
  go_wp2
  cases c₀
  simp_all [bodyPostS, results, Try.results113]
end Ops
end Go.Proofs.Ytppkohkcffnghaa
/- What reaches answers, if step does what it should. -/
set_option linter.unusedVariables false
set_option linter.unusedSimpArgs false
namespace Go.Proofs.Ytppkohkcffnghaa
open Go.RowKit
namespace Ops
open Bas Flat

/-- a doing on its way: its block, its code -/
structure Dc (B : Nat) (W : World) (p : Nat) (vC vK vO : Value) (xs : List O4) (r : List Int) (t : Th) : Prop where
  d : Dn W p vC vK vO (nums r t)
  c : Sees4 B W vC xs
  hB : B ≤ p
section
variable {B p : Nat} {W W' : World} {vC vK vO : Value} {xs : List O4} {r : List Int} {t : Th}
theorem Dc.on (h : Dc B W p vC vK vO xs r t) {B' : Nat} (hb : Below B' W W') (hp : p < B') : Dc B W' p vC vK vO xs r t :=
  { d := h.d.on hb hp, c := h.c.on hb (by have := h.hB; omega), hB := h.hB }
theorem Dc.drew (h : Dc B W p vC vK vO xs r t) : Dc B W.drew p vC vK vO xs r t := { d := h.d, c := h.c, hB := h.hB }
theorem Dc.code (h : Dc B W p vC vK vO xs r t) (ho : Only p W W') : Sees4 B W' vC xs := h.c.on (ho.below (B := B) (by have := h.hB; have := h.d.lt; omega) h.hB) (Nat.le_refl _)
end
/-- a premise about worlds that stays while p alone changes -/
def Stays (p : Nat) (Q : World → Prop) : Prop := ∀ W W', Q W → Only p W W' → Q W'
/-- what step does -/
def StepTo (B p : Nat) (vC vK vO : Value) (xs : List O4) (t0 : Th) (F : List Int → Th → List Int × Th) (s : Cf) (W : World) : Ending → World → Prop := fun e W' =>
  (∃ (i : Nat) (r : List Int) (t : Th), e = .returned (.int .i64 (i : Int)) ∧ s.pc < i ∧ Leads xs t0 F s ⟨i, r, t, s.k⟩ ∧ CfOk xs ⟨i, r, t, s.k⟩ ∧ Dc B W' p vC vK vO xs r t ∧ Only p W W') ∨
  ((∃ h : s.pc < xs.length, xs[s.pc].k = 10) ∧ e = .panicked [{ v := gave, recovered := false }] ∧ Dc B W' p vC vK vO xs s.r s.t ∧ Only p W W')
/-- what reaches does -/
def ReachTo (B p : Nat) (vC vK vO : Value) (xs : List O4) (t0 : Th) (F : List Int → Th → List Int × Th) (s : Cf) (to : Nat) (W : World) : Ending → World → Prop := fun e W' =>
  ∃ (b : Bool) (r : List Int) (t : Th), e = .returned (.bool b) ∧ SegEnds xs t0 F s to b r t ∧ Dc B W' p vC vK vO xs r t ∧ Only p W W'

set_option maxRecDepth 100000 in
set_option maxHeartbeats 3200000 in
theorem reachOf (B p : Nat) (vC vK vO : Value) (xs : List O4) (t0 : Th) (F : List Int → Th → List Int × Th) (Q : World → Prop) (hQ : Stays p Q) (fr to : Nat) (hseg : Seg xs fr to) (hlen : xs.length ≤ 1048576)
    (hstep : ∀ (s : Cf) (W : World), fr ≤ s.pc → s.pc < to → CfOk xs s → stAt xs s.pc = stAt xs fr → Dc B W p vC vK vO xs s.r s.t → Q W →
      Calls Try.prog 114 #[.pointer (some ⟨p, 0, none⟩), .int .i64 (s.pc : Int)] W (StepTo B p vC vK vO xs t0 F s W))
    (s : Cf) (hs : CfOk xs s) (hpc : s.pc = fr) (W : World) (hd : Dc B W p vC vK vO xs s.r s.t) (hq : Q W) :
    Calls Try.prog 95 #[.pointer (some ⟨p, 0, none⟩), .int .i64 (fr : Int), .int .i64 (to : Int)] W (ReachTo B p vC vK vO xs t0 F s to W) := by
  have hmf : ∀ (fn : Fn) (first cap : Array Value) (w : World), (Instr.makeFunc fn first cap).run Try.prog w = .ok (.func fn first cap) w := fun _ _ _ _ => rfl
  obtain ⟨q, hqq⟩ : ∃ q, W.heap.size = q := ⟨_, rfl⟩
  have hp := hd.d.lt
  have R1 := Blk.new W #[.bool false] 4
  have b1 := alloc_below W (.cells #[.bool false] 4)
  have d1 := hd.on b1 hp
  have o1 : Only p W (W.alloc (.cells #[.bool false] 4)) := Only.of b1
  have q1 := hQ _ _ hq o1
  rw [hqq] at R1 hp
  obtain ⟨W1, hW1⟩ : ∃ W1, W.alloc (.cells #[.bool false] 4) = W1 := ⟨_, rfl⟩
  have HW1 := (show Hid _ from hW1)
  rw [hW1] at R1 d1 o1 q1
  clear hW1 b1
  go_enter_defers Try.func95, Try.ntmps95
  go_wp2
  rw [HW1.out]
  go_loopw [7] (fun iv wr => ∃ (k : Nat) (r : List Int) (t : Th), iv = .int .i64 (k : Int) ∧ fr ≤ k ∧ k ≤ to ∧ Leads xs t0 F s ⟨k, r, t, s.k⟩ ∧ CfOk xs ⟨k, r, t, s.k⟩ ∧ Dc B wr p vC vK vO xs r t ∧ Only p W wr ∧ Q wr ∧ Blk wr q #[.bool false] 4) (fun iv _ => to - (intOf iv).toNat)
  case atStart => exact ⟨fr, s.r, s.t, rfl, Nat.le_refl _, hseg.le, by rw [← hpc]; exact Leads.refl _, by rw [← hpc]; exact hs, d1, o1, q1, R1⟩
  case round =>
    obtain ⟨k, r, t, rfl, h1, h2, hl, hok, hd2, ho, hq2, hR⟩ := hrel
    clear d1 o1 q1 R1 hd hq HW1
    by_cases hlt : k < to
    · have i1 : (k : Int) < to := by omega
      have hst : stAt xs k = stAt xs fr := by
        have a := hok.st
        have b := hs.st
        rw [hpc] at b
        exact a.trans b.symm
      have cS := hstep ⟨k, r, t, s.k⟩ wr h1 hlt hok hst hd2 hq2
      go_wp2_with fail
      refine cS.mono ?_
      rintro e w2 (⟨i2, r2, t2, rfl, hi2, hl2, hok2, hd3, ho3⟩ | ⟨⟨hk, h10⟩, rfl, hd3, ho3⟩)
      · have hle : i2 ≤ to := hseg.cap i2 hok2.pc (by
          have a := hok2.st
          have b := hok.st
          exact (a.trans b.symm).trans hst)
        have hR2 : Blk w2 q #[.bool false] 4 := (ho3.block q hR.lt (by omega)).trans hR
        have hi2' : k < i2 := hi2
        go_wp2
        go_roundw
        case rel => exact ⟨i2, r2, t2, rfl, by omega, hle, hl.trans hl2, hok2, hd3, ho.trans ho3, hQ _ _ hq2 ho3, hR2⟩
        case measure => simp [intOf]; omega
      · have hR2 : Blk w2 q #[.bool false] 4 := (ho3.block q hR.lt (by omega)).trans hR
        have r0 := hR2.cell 0
        have f0 := hR2.froz 0
        have h0 : w2.cell? ⟨q, 0, none⟩ = some (.bool false) := r0
        have bF : Below q w2 ((w2.alloc (.cells #[] 144)).setCell ⟨q, 0, none⟩ (.bool false)) := ((alloc_below w2 _).mono (Nat.le_of_lt hR2.lt)).setCell (p := ⟨q, 0, none⟩) (Nat.le_refl _) _
        have oF : Only p W ((w2.alloc (.cells #[] 144)).setCell ⟨q, 0, none⟩ (.bool false)) := ((ho.trans ho3).alloc _).setNew (by omega) _ _
        have dF := hd3.on bF hp
        have hE : SegEnds xs t0 F s to false r t := .gave hk h10 hl hok
        have HR3 : Blk ((w2.alloc (.cells #[] 144)).setCell ⟨q, 0, none⟩ (.bool false)) q #[.bool false] 4 := ((hR2.on (alloc_below w2 _) hR2.lt).set 0 (.bool false))
        go_wp2
        refine leaves_cons (f := 113) (args := #[.pointer (some ⟨q, 0, none⟩)]) (by simp) (by simp [go_sem]) ?_
        refine (catchPanic q w2 false h0 f0).mono ?_
        rintro e u' w'' ⟨rfl, rfl, rfl⟩
        have r3 := HR3.cell 0
        have f3 := HR3.froz 0
        have r3 : ((w2.alloc (.cells #[] 144)).setCell ⟨q, 0, none⟩ (.bool false)).cell? ⟨q, 0, none⟩ = some (.bool false) := r3
        obtain ⟨wf, hwf⟩ : ∃ wf, (w2.alloc (.cells #[] 144)).setCell ⟨q, 0, none⟩ (.bool false) = wf := ⟨_, rfl⟩
        rw [hwf] at r3 oF dF ⊢
        clear hwf
        simp [Leaves, settle, results, Try.results95, go_sem, r3]
        exact ⟨_, _, _, rfl, hE, dF, oF⟩
    · obtain rfl : k = to := by omega
      have r0 := hR.cell 0
      have f0 := hR.froz 0
      have h0 : wr.cell? ⟨q, 0, none⟩ = some (.bool false) := r0
      have R2 := hR.set 0 (.bool true)
      have bF : Below q wr (((wr.setCell ⟨q, 0, none⟩ (.bool true)).alloc (.cells #[] 144)).setCell ⟨q, 0, none⟩ (.bool true)) :=
        (((Below.refl q wr).setCell (p := ⟨q, 0, none⟩) (Nat.le_refl _) (.bool true)).trans ((alloc_below _ _).mono (Nat.le_of_lt R2.lt))).setCell (p := ⟨q, 0, none⟩) (Nat.le_refl _) _
      have oF : Only p W (((wr.setCell ⟨q, 0, none⟩ (.bool true)).alloc (.cells #[] 144)).setCell ⟨q, 0, none⟩ (.bool true)) := ((ho.setNew (by omega) _ _).alloc _).setNew (by omega) _ _
      have dF := hd2.on bF hp
      have hE : SegEnds xs t0 F s k true r t := .done hl hok
      have HR3 : Blk (((wr.setCell ⟨q, 0, none⟩ (.bool true)).alloc (.cells #[] 144)).setCell ⟨q, 0, none⟩ (.bool true)) q #[.bool true] 4 := ((R2.on (alloc_below _ _) R2.lt).set 0 (.bool true))
      have r2 : (wr.setCell ⟨q, 0, none⟩ (.bool true)).cell? ⟨q, 0, none⟩ = some (.bool true) := R2.cell 0
      have f2 : (wr.setCell ⟨q, 0, none⟩ (.bool true)).frozen? ⟨q, 0, none⟩ = false := R2.froz 0
      go_wp2
      refine leaves_cons (f := 113) (args := #[.pointer (some ⟨q, 0, none⟩)]) (by simp) (by simp [go_sem]) ?_
      refine (catchIdle q _ true r2 f2).mono ?_
      rintro e u' w'' ⟨rfl, rfl, rfl⟩
      have r3 : (((wr.setCell ⟨q, 0, none⟩ (.bool true)).alloc (.cells #[] 144)).setCell ⟨q, 0, none⟩ (.bool true)).cell? ⟨q, 0, none⟩ = some (.bool true) := HR3.cell 0
      obtain ⟨wf, hwf⟩ : ∃ wf, (((wr.setCell ⟨q, 0, none⟩ (.bool true)).alloc (.cells #[] 144)).setCell ⟨q, 0, none⟩ (.bool true)) = wf := ⟨_, rfl⟩
      rw [hwf] at r3 oF dF ⊢
      clear hwf
      simp [Leaves, settle, results, Try.results95, go_sem, r3]
      exact ⟨_, _, _, rfl, hE, dF, oF⟩
end Ops
end Go.Proofs.Ytppkohkcffnghaa
/- Registers, cells, map and counter of a doing, each by its place. -/
set_option linter.unusedVariables false
set_option linter.unusedSimpArgs false
namespace Go.Proofs.Ytppkohkcffnghaa
open Go.RowKit
namespace Ops
open Bas Flat

section
variable {W : World} {p : Nat} {vC vK vO : Value} {r : List Int} {t : Th}
theorem rd_nat {l : List Int} {a : Nat} (h : a < l.length) : rd l (a : Int) = l[a] := by unfold rd; rw [Int.toNat_natCast, List.getD_eq_getElem?_getD, List.getElem?_eq_getElem h]; rfl
theorem Dn.reg (h : Dn W p vC vK vO (nums r t)) (hr : r.length = 4) {a : Nat} (ha : a < 4) : W.cell? ⟨p, 3 + a, none⟩ = some (.int .i64 (rd r (a : Int))) := by
  rw [rd_nat (by omega), h.num a (by simp [nums]; omega)]
  congr 2
  unfold nums
  exact List.getElem_append_left (by omega)
theorem Dn.cel (h : Dn W p vC vK vO (nums r t)) (hr : r.length = 4) (hc : t.c.length = 8) {a : Nat} (ha : a < 8) : W.cell? ⟨p, 7 + a, none⟩ = some (.int .i64 (rd t.c (a : Int))) := by
  rw [rd_nat (by omega), show 7 + a = 3 + (4 + a) by omega, h.num (4 + a) (by simp [nums]; omega)]
  congr 2
  have : (nums r t)[4 + a]? = some t.c[a] := by
    unfold nums
    rw [List.getElem?_append_right (by omega), hr, Nat.add_sub_cancel_left, List.getElem?_append_left (by omega), List.getElem?_eq_getElem]
  rw [List.getElem?_eq_getElem (by simp [nums]; omega)] at this
  exact Option.some.inj this
theorem Dn.key (h : Dn W p vC vK vO (nums r t)) (hr : r.length = 4) (hc : t.c.length = 8) (hm : t.m.length = 8) {a : Nat} (ha : a < 8) : W.cell? ⟨p, 15 + a, none⟩ = some (.int .i64 (rd t.m (a : Int))) := by
  rw [rd_nat (by omega), show 15 + a = 3 + (12 + a) by omega, h.num (12 + a) (by simp [nums]; omega)]
  congr 2
  have : (nums r t)[12 + a]? = some t.m[a] := by
    unfold nums
    rw [List.getElem?_append_right (by omega), hr, List.getElem?_append_right (by omega), hc, show 12 + a - 4 - 8 = a by omega, List.getElem?_append_left (by omega), List.getElem?_eq_getElem]
  rw [List.getElem?_eq_getElem (by simp [nums]; omega)] at this
  exact Option.some.inj this
theorem Dn.cnt (h : Dn W p vC vK vO (nums r t)) (hr : r.length = 4) (hc : t.c.length = 8) (hm : t.m.length = 8) : W.cell? ⟨p, 23, none⟩ = some (.int .i64 t.n) := by
  rw [show 23 = 3 + 20 by omega, h.num 20 (by simp [nums]; omega)]
  congr 2
  have : (nums r t)[20]? = some t.n := by
    unfold nums
    rw [List.getElem?_append_right (by omega), hr, List.getElem?_append_right (by omega), hc, List.getElem?_append_right (by omega), hm]; rfl
  rw [List.getElem?_eq_getElem (by simp [nums]; omega)] at this
  exact Option.some.inj this
theorem Dn.setReg (h : Dn W p vC vK vO (nums r t)) (hr : r.length = 4) {a : Nat} (ha : a < 4) (x : Int) : Dn (W.setCell ⟨p, 3 + a, none⟩ (.int .i64 x)) p vC vK vO (nums (wr r (a : Int) x) t) := by
  have := h.set a x
  have e : (nums r t).set a x = nums (wr r (a : Int) x) t := by
    unfold nums wr
    rw [List.set_append_left _ _ (by omega), Int.toNat_natCast]
  rw [e] at this; exact this
theorem Dn.setCel (h : Dn W p vC vK vO (nums r t)) (hr : r.length = 4) (hc : t.c.length = 8) {a : Nat} (ha : a < 8) (x : Int) : Dn (W.setCell ⟨p, 7 + a, none⟩ (.int .i64 x)) p vC vK vO (nums r { t with c := wr t.c (a : Int) x }) := by
  have := h.set (4 + a) x
  have e : (nums r t).set (4 + a) x = nums r { t with c := wr t.c (a : Int) x } := by
    unfold nums wr
    rw [List.set_append_right _ _ (by omega), hr, Nat.add_sub_cancel_left, List.set_append_left _ _ (by omega), Int.toNat_natCast]
  rw [e, show 3 + (4 + a) = 7 + a by omega] at this; exact this
theorem Dn.setKey (h : Dn W p vC vK vO (nums r t)) (hr : r.length = 4) (hc : t.c.length = 8) (hm : t.m.length = 8) {a : Nat} (ha : a < 8) (x : Int) : Dn (W.setCell ⟨p, 15 + a, none⟩ (.int .i64 x)) p vC vK vO (nums r { t with m := wr t.m (a : Int) x }) := by
  have := h.set (12 + a) x
  have e : (nums r t).set (12 + a) x = nums r { t with m := wr t.m (a : Int) x } := by
    unfold nums wr
    rw [List.set_append_right _ _ (by omega), hr, List.set_append_right _ _ (by omega), hc, show 12 + a - 4 - 8 = a by omega, List.set_append_left _ _ (by omega), Int.toNat_natCast]
  rw [e, show 3 + (12 + a) = 15 + a by omega] at this; exact this
theorem Dn.setCnt (h : Dn W p vC vK vO (nums r t)) (hr : r.length = 4) (hc : t.c.length = 8) (hm : t.m.length = 8) (x : Int) : Dn (W.setCell ⟨p, 23, none⟩ (.int .i64 x)) p vC vK vO (nums r { t with n := x }) := by
  have := h.set 20 x
  have e : (nums r t).set 20 x = nums r { t with n := x } := by
    unfold nums
    rw [List.set_append_right _ _ (by omega), hr, List.set_append_right _ _ (by omega), hc, List.set_append_right _ _ (by omega), hm]; rfl
  rw [e] at this; exact this
end
/-- a field of an op, as a place -/
theorem nat_of {lo hi x : Int} (h : inn lo hi x = true) (h0 : 0 ≤ lo) : ∃ n : Nat, x = (n : Int) ∧ (n : Int) ≤ hi := by
  unfold inn at h
  simp at h
  exact ⟨x.toNat, by omega, by omega⟩
theorem Only.alloc1 {p : Nat} (W : World) (o : Obj) : Only p W (W.alloc o) := Only.of (alloc_below W o)
end Ops
end Go.Proofs.Ytppkohkcffnghaa
