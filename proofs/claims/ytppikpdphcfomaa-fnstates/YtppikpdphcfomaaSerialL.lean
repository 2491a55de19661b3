/- One by one: what programs do, as plain mathematics: a machine that goes from place to place, with the marks of the blocks that are open. -/
import Derived.Test.YtppikpdphcfomaaShapeTrue
import Derived.Test.YtppikpdphcfomaaCalcL
set_option linter.unusedVariables false
set_option linter.unusedSimpArgs false
namespace Go.Proofs.Ytppikpdphcfomaa
namespace Ops

/-- things: cells, map, counter -/
structure Th where
  c : List Int
  m : List Int
  n : Int
def cellsOk (l : List Int) : Bool := decide (l.length = 8) && l.all (inn 0 65535)
def mapOk (l : List Int) : Bool := decide (l.length = 8) && l.all (inn 0 65536)
def thOk (t : Th) : Bool := cellsOk t.c && mapOk t.m && inn 0 65535 t.n
/-- the mark of a block: where it begins, and what there was -/
structure Mk where
  pc : Nat
  r : List Int
  t : Th
/-- where the machine is -/
structure Cf where
  pc : Nat
  r : List Int
  t : Th
  k : List Mk
/-- how it ends -/
structure Rn where
  out : Int
  r : List Int
  t : Th
def rd (l : List Int) (i : Int) : Int := l.getD i.toNat 0
def wr (l : List Int) (i v : Int) : List Int := l.set i.toNat v
theorem wr_length (l : List Int) (i v : Int) : (wr l i v).length = l.length := by simp [wr]

/-- the registers behind an op that is neither a block's nor a fork -/
def plainR (o : O4) (r : List Int) (t : Th) : List Int :=
  if o.k = 5 then wr r o.a (rd t.c o.b) else if o.k = 12 then wr r o.c (rd t.m o.a % 65536) else if o.k = 13 then wr r o.a (rd t.m o.b % 65536)
  else if o.k = 14 then wr r o.b (rd t.m o.a % 65536) else if o.k = 16 then wr r o.a t.n else if o.k ≤ 4 then calcTo o.k o.a o.b o.c r else r
/-- the things behind it -/
def plainT (o : O4) (r : List Int) (t : Th) : Th :=
  if o.k = 6 then { t with c := wr t.c o.a (rd r o.b) } else if o.k = 12 then { t with m := wr t.m o.a (1 + rd r o.b) } else if o.k = 14 then { t with m := wr t.m o.a 0 }
  else if o.k = 15 then { t with n := (t.n + rd r o.a) % 65536 } else t
def nextPc (o : O4) (r : List Int) (pc : Nat) : Nat := if o.k = 7 ∧ rd r o.a = 0 then pc + 1 + o.b.toNat else pc + 1
/-- one op; F: what a fork makes of registers and things -/
def step (xs : List O4) (t0 : Th) (F : List Int → Th → List Int × Th) (s : Cf) : Cf ⊕ Rn :=
  if (xs.getD s.pc z4).k = 8 then .inl ⟨s.pc + 1, s.r, s.t, ⟨s.pc, s.r, s.t⟩ :: s.k⟩
  else if (xs.getD s.pc z4).k = 9 then (match s.k with
    | [] => .inr ⟨0, [], t0⟩
    | m :: k => .inl ⟨s.pc + 1, wr s.r (xs.getD m.pc z4).a 1, s.t, k⟩)
  else if (xs.getD s.pc z4).k = 10 then (match s.k with
    | [] => .inr ⟨2, s.r, t0⟩
    | m :: k => .inl ⟨(endOf xs m.pc).toNat + 1, wr m.r (xs.getD m.pc z4).a 0, m.t, k⟩)
  else if (xs.getD s.pc z4).k = 11 then .inl ⟨s.pc + 1, (F s.r s.t).1, (F s.r s.t).2, s.k⟩
  else .inl ⟨nextPc (xs.getD s.pc z4) s.r s.pc, plainR (xs.getD s.pc z4) s.r s.t, plainT (xs.getD s.pc z4) s.r s.t, s.k⟩
def runF (xs : List O4) (t0 : Th) (F : List Int → Th → List Int × Th) : Nat → Cf → Option Rn
  | 0, _ => none
  | f + 1, s => if s.pc < xs.length then (match step xs t0 F s with
    | .inl s' => runF xs t0 F f s'
    | .inr r => some r) else some ⟨1, s.r, s.t⟩
/-- from here it ends so -/
def Ends (xs : List O4) (t0 : Th) (F : List Int → Th → List Int × Th) (s : Cf) (r : Rn) : Prop := ∃ f, runF xs t0 F f s = some r
section
variable {xs : List O4} {t0 : Th} {F : List Int → Th → List Int × Th} {s s' s'' : Cf} {r r' : Rn}
theorem runF_mono : ∀ (f g : Nat) (s : Cf), f ≤ g → runF xs t0 F f s = some r → runF xs t0 F g s = some r
  | 0, _, _, _, h => by simp [runF] at h
  | f + 1, 0, _, hg, _ => by omega
  | f + 1, g + 1, s, hg, h => by
    unfold runF at h ⊢
    split
    · rename_i hp
      rw [if_pos hp] at h
      split
      · rename_i s' he
        rw [he] at h
        exact runF_mono f g s' (by omega) h
      · rename_i r2 he
        rw [he] at h; exact h
    · rename_i hp
      rw [if_neg hp] at h; exact h
theorem Ends.unique (h : Ends xs t0 F s r) (h' : Ends xs t0 F s r') : r = r' := by
  obtain ⟨f, h⟩ := h
  obtain ⟨g, h'⟩ := h'
  have a := runF_mono f (max f g) s (Nat.le_max_left _ _) h
  have b := runF_mono g (max f g) s (Nat.le_max_right _ _) h'
  exact Option.some.inj (a.symm.trans b)
theorem Ends.over (h : xs.length ≤ s.pc) : Ends xs t0 F s ⟨1, s.r, s.t⟩ := ⟨1, by unfold runF; rw [if_neg (by omega)]⟩
theorem Ends.halt (h : s.pc < xs.length) (hs : step xs t0 F s = .inr r) : Ends xs t0 F s r := ⟨1, by unfold runF; rw [if_pos h, hs]⟩
/-- however it ends from there, so it ends from here -/
def Leads (xs : List O4) (t0 : Th) (F : List Int → Th → List Int × Th) (s s' : Cf) : Prop := ∀ r, Ends xs t0 F s' r → Ends xs t0 F s r
theorem Leads.refl (s : Cf) : Leads xs t0 F s s := fun _ h => h
theorem Leads.trans (h : Leads xs t0 F s s') (h' : Leads xs t0 F s' s'') : Leads xs t0 F s s'' := fun r hr => h r (h' r hr)
theorem Leads.step (h : s.pc < xs.length) (hs : step xs t0 F s = .inl s') : Leads xs t0 F s s' := fun r ⟨f, hr⟩ => ⟨f + 1, by
  unfold runF
  rw [if_pos h, hs]; exact hr⟩
end
/-- how code ends, from these registers and things: a step more than there are ops is enough where the code is right (TotalL) -/
def run (xs : List O4) (F : List Int → Th → List Int × Th) (r : List Int) (t : Th) : Rn := (runF xs t F (xs.length + 1) ⟨0, r, t, []⟩).getD ⟨0, [], t⟩
/-- kids cannot fork -/
def noF : List Int → Th → List Int × Th := fun r t => (r, t)
/-- what kids do, one behind the other, in this order: each one's register 0, and the things -/
def kidsGo (kss : List (List O4)) (r : List Int) : List Int → List Int → Th → List Int × Th
  | [], res, t => (res, t)
  | i :: l, res, t => kidsGo kss r l (if (run (kss.getD i.toNat []) noF r t).out = 1 then wr res i (rd (run (kss.getD i.toNat []) noF r t).r 0) else res) (run (kss.getD i.toNat []) noF r t).t
/-- a fork -/
def forkF (kss : List (List O4)) (order : List Int) : List Int → Th → List Int × Th := fun r t =>
  ((kidsGo kss r order (List.replicate kss.length 0) t).1 ++ r.drop kss.length, (kidsGo kss r order (List.replicate kss.length 0) t).2)

/-! ### what stays right -/
theorem cellsOk_out {l : List Int} (h : cellsOk l = true) : l.length = 8 ∧ ∀ j (h : j < l.length), 0 ≤ l[j] ∧ l[j] ≤ 65535 := by
  unfold cellsOk at h
  rw [Bool.and_eq_true] at h
  refine ⟨of_decide_eq_true h.1, fun j hj => ?_⟩
  have := List.all_eq_true.1 h.2 _ (List.getElem_mem hj)
  unfold inn at this
  simpa using this
theorem mapOk_out {l : List Int} (h : mapOk l = true) : l.length = 8 ∧ ∀ j (h : j < l.length), 0 ≤ l[j] ∧ l[j] ≤ 65536 := by
  unfold mapOk at h
  rw [Bool.and_eq_true] at h
  refine ⟨of_decide_eq_true h.1, fun j hj => ?_⟩
  have := List.all_eq_true.1 h.2 _ (List.getElem_mem hj)
  unfold inn at this
  simpa using this
theorem all_wr {l : List Int} {p : Int → Bool} (h : l.all p = true) (i : Int) {v : Int} (hv : p v = true) : (wr l i v).all p = true := by
  rw [List.all_eq_true] at h ⊢
  intro x hx
  rcases List.mem_or_eq_of_mem_set hx with hx | rfl
  · exact h x hx
  · exact hv
theorem regs_wr {r : List Int} (h : regsOk r = true) (i : Int) {v : Int} (hv : 0 ≤ v ∧ v ≤ 65535) : regsOk (wr r i v) = true := by
  unfold regsOk at h ⊢
  rw [Bool.and_eq_true] at h ⊢
  exact ⟨by rw [wr_length]; exact h.1, all_wr h.2 i (by unfold inn; simp; exact hv)⟩
theorem cells_wr {r : List Int} (h : cellsOk r = true) (i : Int) {v : Int} (hv : 0 ≤ v ∧ v ≤ 65535) : cellsOk (wr r i v) = true := by
  unfold cellsOk at h ⊢
  rw [Bool.and_eq_true] at h ⊢
  exact ⟨by rw [wr_length]; exact h.1, all_wr h.2 i (by unfold inn; simp; exact hv)⟩
theorem map_wr {r : List Int} (h : mapOk r = true) (i : Int) {v : Int} (hv : 0 ≤ v ∧ v ≤ 65536) : mapOk (wr r i v) = true := by
  unfold mapOk at h ⊢
  rw [Bool.and_eq_true] at h ⊢
  exact ⟨by rw [wr_length]; exact h.1, all_wr h.2 i (by unfold inn; simp; exact hv)⟩
theorem rd_all {l : List Int} {lo hi : Int} (h0 : lo ≤ 0 ∧ 0 ≤ hi) (h : ∀ j (h : j < l.length), lo ≤ l[j] ∧ l[j] ≤ hi) (i : Int) : lo ≤ rd l i ∧ rd l i ≤ hi := by
  unfold rd
  rw [List.getD_eq_getElem?_getD]
  by_cases hi' : i.toNat < l.length
  · rw [List.getElem?_eq_getElem hi']; exact h _ hi'
  · rw [List.getElem?_eq_none (by omega)]; exact h0
theorem th_parts {t : Th} (h : thOk t = true) : cellsOk t.c = true ∧ mapOk t.m = true ∧ 0 ≤ t.n ∧ t.n ≤ 65535 := by
  unfold thOk at h
  rw [Bool.and_eq_true, Bool.and_eq_true] at h
  refine ⟨h.1.1, h.1.2, ?_⟩
  have := h.2
  unfold inn at this
  simpa using this
theorem th_mk {t : Th} (h1 : cellsOk t.c = true) (h2 : mapOk t.m = true) (h3 : 0 ≤ t.n ∧ t.n ≤ 65535) : thOk t = true := by
  unfold thOk
  rw [h1, h2]
  unfold inn
  simp; exact h3
theorem calc_regs {o : O4} {r : List Int} (ho : okOp o = true) (h : regsOk r = true) : regsOk (calcTo o.k o.a o.b o.c r) = true := by
  unfold calcTo
  split
  · refine regs_wr h o.a ?_
    have hr := (regsOk_out h).2
    have h1 := rd_all (lo := 0) (hi := 65535) (by omega) hr o.b
    have h2 := rd_all (lo := 0) (hi := 65535) (by omega) hr o.c
    unfold rd at h1 h2
    rename_i hm
    unfold reck
    split
    · rename_i hk
      have hq : okOp o = true := ho
      unfold okOp opOk at hq
      rw [hk] at hq
      simp only [spans, Int.reduceEq, if_true, if_false, reduceIte, Bool.and_eq_true] at hq
      have := hq.1.2
      unfold inn at this
      simpa using this
    · split
      · omega
      · split
        · omega
        · split <;> omega
  · exact h
theorem plainR_ok {o : O4} {r : List Int} {t : Th} (ho : okOp o = true) (hr : regsOk r = true) (ht : thOk t = true) : regsOk (plainR o r t) = true := by
  obtain ⟨h1, h2, h3⟩ := th_parts ht
  have m := rd_all (lo := 0) (hi := 65536) (by omega) (mapOk_out h2).2
  unfold plainR
  split
  · exact regs_wr hr _ (rd_all (by omega) (cellsOk_out h1).2 _)
  · split
    · exact regs_wr hr _ (by omega)
    · split
      · exact regs_wr hr _ (by omega)
      · split
        · exact regs_wr hr _ (by omega)
        · split
          · exact regs_wr hr _ h3
          · split
            · exact calc_regs ho hr
            · exact hr
theorem plainT_ok {o : O4} {r : List Int} {t : Th} (hr : regsOk r = true) (ht : thOk t = true) : thOk (plainT o r t) = true := by
  obtain ⟨h1, h2, h3⟩ := th_parts ht
  have q := rd_all (lo := 0) (hi := 65535) (by omega) (regsOk_out hr).2
  unfold plainT
  split
  · exact th_mk (cells_wr h1 _ (q _)) h2 h3
  · split
    · exact th_mk h1 (map_wr h2 _ (by have := q o.b; omega)) h3
    · split
      · exact th_mk h1 (map_wr h2 _ (by omega)) h3
      · split
        · exact th_mk h1 h2 (by show 0 ≤ (t.n + rd r o.a) % 65536 ∧ (t.n + rd r o.a) % 65536 ≤ 65535; omega)
        · exact ht

/-! ### the blocks that are open -/
/-- what lies below an open block is the stack where it began -/
theorem stack_below {xs : List O4} {b : Nat} {rest : List Int} : ∀ (k : Nat) (ex : List Int), stAt xs k = ex ++ (b : Int) :: rest → rest = stAt xs b
  | 0, ex, h => by
    have h0 : stAt xs 0 = [-1] := rfl
    rw [h0] at h
    rcases ex with _ | ⟨x, ex⟩
    · simp at h
    · simp at h
  | k + 1, ex, h => by
    have hs : stAt xs (k + 1) = stepS (stAt xs k) k (xs.getD k z4) := rfl
    rw [hs] at h
    unfold stepS at h
    split at h
    · rcases ex with _ | ⟨x, ex⟩
      · simp only [List.nil_append, List.cons.injEq] at h
        have hb : b = k := by omega
        rw [hb]; exact h.2.symm
      · simp only [List.cons_append, List.cons.injEq] at h
        exact stack_below k ex h.2
    · split at h
      · rcases hk : stAt xs k with _ | ⟨x, l⟩
        · rw [hk] at h; simp at h
        · rw [hk, List.tail_cons] at h
          exact stack_below k (x :: ex) (by rw [hk, h]; rfl)
      · exact stack_below k ex h
/-- where a block ends, the stack is what it was where it began -/
theorem end_stack {xs : List O4} {r : List Int} : ∀ (n k : Nat) (ex : List Int) (d : Int) (e : Nat), k + n = xs.length → stAt xs k = ex ++ r → (ex.length : Int) = d → 1 ≤ d → endGo (xs.drop k) d k = (e : Int) → stAt xs (e + 1) = r
  | 0, k, ex, d, e, hk, hs, hd, h1, he => by
    rw [List.drop_of_length_le (by omega)] at he
    simp [endGo] at he
  | n + 1, k, ex, d, e, hk, hs, hd, h1, he => by
    have hlt : k < xs.length := by omega
    have hst := stAt_succ hlt
    rw [endGo_step hlt] at he
    by_cases h8 : xs[k].k = 8
    · rw [delta8 h8, if_neg (by omega)] at he
      rw [step8 h8, hs] at hst
      exact end_stack n (k + 1) ((k : Int) :: ex) (d + 1) e (by omega) hst (by simp; omega) (by omega) he
    · by_cases h9 : xs[k].k = 9
      · rw [delta9 h9] at he
        rw [step9 h9, hs] at hst
        rcases ex with _ | ⟨x, ex⟩
        · simp at hd; omega
        · rw [List.cons_append, List.tail_cons] at hst
          by_cases hz : d + -1 = 0
          · rw [if_pos hz] at he
            have hke : k = e := by omega
            subst hke
            have : ex = [] := by simp at hd; exact List.eq_nil_of_length_eq_zero (by omega)
            rw [this] at hst; exact hst
          · rw [if_neg hz] at he
            exact end_stack n (k + 1) ex (d + -1) e (by omega) hst (by simp at hd; omega) (by omega) he
      · rw [delta0 h8 h9, Int.add_zero, if_neg (by omega)] at he
        rw [step0 h8 h9, hs] at hst
        exact end_stack n (k + 1) ex d e (by omega) hst hd h1 he
end Ops
end Go.Proofs.Ytppikpdphcfomaa
