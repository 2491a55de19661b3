/- The table of reckonings and its functions. -/
import Derived.Test.YtppkohkcffnghaaCalcL
import Derived.Maps.OwnSet
import Derived.Deep.QuietTactic
import Derived.BigQuiet
set_option linter.unusedVariables false
namespace Go.Proofs.Ytppkohkcffnghaa
open Go.RowKit Go.Maps
namespace Ops
open Bas

theorem below_drewN {B : Nat} {a w : World} (h : Below B a w) : ∀ n, Below B a (w.drewN n)
  | 0 => h
  | n + 1 => by unfold World.drewN; exact (below_drewN h n).drew
/-- one where it is less, else nought -/
def lt01 (x y : Int) : Int := if x < y then 1 else 0
theorem lawInt : Keyed Try.prog 3 := int_keyed Try.underlying3
theorem zeroFn (w : World) : (zeroValue 163).run Try.prog w = .ok .nilFunc w := by kernel_rfl

/-- how a function of the table reads: by its number -/
def fnElem : Value → Option (DataW Unit × List MemPlace)
  | .func (.func n) a b => if a = #[] ∧ b = #[] then some (.lit (.int .i64 n), []) else none
  | .nilFunc => some (.lit (.bool false), [])
  | _ => none
theorem fnElem_mk (n : Nat) : fnElem (.func (.func n) #[] #[]) = some (.lit (.int .i64 n), []) := by simp [fnElem]
theorem fnElem_inv {v : Value} {n : Nat} {ps : List MemPlace} (h : fnElem v = some (.lit (.int .i64 n), ps)) : v = .func (.func n) #[] #[] := by
  unfold fnElem at h
  split at h
  · split at h
    · rename_i hc
      obtain ⟨rfl, rfl⟩ := hc
      simp at h
      rw [Int.natCast_inj.1 h.1]
    · cases h
  · simp at h
  · cases h

theorem wf1 : (Lit.int .i64 1).wf = true := by decide
theorem wf2 : (Lit.int .i64 2).wf = true := by decide
theorem wf3 : (Lit.int .i64 3).wf = true := by decide
theorem wf4 : (Lit.int .i64 4).wf = true := by decide

/-- what the table tells of a kind -/
def lookV (k : Int) : Value :=
  if k = 1 then .tuple #[.func (.func 130) #[] #[], .bool true]
  else if k = 2 then .tuple #[.func (.func 131) #[] #[], .bool true]
  else if k = 3 then .tuple #[.func (.func 132) #[] #[], .bool true]
  else if k = 4 then .tuple #[.func (.func 133) #[] #[], .bool true]
  else .tuple #[.nilFunc, .bool false]
def fnV (k : Int) : Value :=
  if k = 1 then .func (.func 130) #[] #[]
  else if k = 2 then .func (.func 131) #[] #[]
  else if k = 3 then .func (.func 132) #[] #[]
  else if k = 4 then .func (.func 133) #[] #[]
  else .nilFunc
def isFn (k : Int) : Bool := decide (1 ≤ k) && decide (k ≤ 4)
theorem lookV_eq (k : Int) : lookV k = .tuple #[fnV k, .bool (isFn k)] := by
  unfold lookV fnV isFn
  by_cases h1 : k = 1
  · subst h1; rfl
  by_cases h2 : k = 2
  · subst h2; rfl
  by_cases h3 : k = 3
  · subst h3; rfl
  by_cases h4 : k = 4
  · subst h4; rfl
  have e : (decide (1 ≤ k) && decide (k ≤ 4)) = false := by
    rw [Bool.and_eq_false_iff, decide_eq_false_iff_not, decide_eq_false_iff_not]; omega
  simp only [h1, h2, h3, h4, if_false, e]

def tab : DataW Unit := ((((DataW.map []).put (.int .i64 1) (.lit (.int .i64 (130 : Nat)))).put (.int .i64 2) (.lit (.int .i64 (131 : Nat)))).put (.int .i64 3) (.lit (.int .i64 (132 : Nat)))).put (.int .i64 4) (.lit (.int .i64 (133 : Nat)))
theorem tab_eq : tab = .map [(.int .i64 1, .lit (.int .i64 (130 : Nat))), (.int .i64 2, .lit (.int .i64 (131 : Nat))), (.int .i64 3, .lit (.int .i64 (132 : Nat))), (.int .i64 4, .lit (.int .i64 (133 : Nat)))] := by
  unfold tab; rfl

theorem look_tab {w : World} {b n : Nat} (h : w.ownsMap Try.prog 3 fnElem b n tab) (k : Int) (hk : (Lit.int .i64 k).wf = true) :
    (Instr.lookup 165 (.map (some b)) (.int .i64 k) true).run Try.prog w = .ok (lookV k) w := by
  obtain ⟨v, ps, hr, hv⟩ := h.look_ok lawInt Try.underlying165 (zeroFn w) (zd := .lit (.bool false)) (zp := []) rfl (keyOf_int_mk Try.underlying3 hk)
  rw [hr]
  rw [tab_eq] at hv ⊢
  unfold lookV
  by_cases h1 : k = 1
  · subst h1; rw [if_pos rfl, fnElem_inv hv]; rfl
  by_cases h2 : k = 2
  · subst h2; rw [if_neg (by decide), if_pos rfl, fnElem_inv hv]; rfl
  by_cases h3 : k = 3
  · subst h3; rw [if_neg (by decide), if_neg (by decide), if_pos rfl, fnElem_inv hv]; rfl
  by_cases h4 : k = 4
  · subst h4; rw [if_neg (by decide), if_neg (by decide), if_neg (by decide), if_pos rfl, fnElem_inv hv]; rfl
  rw [if_neg h1, if_neg h2, if_neg h3, if_neg h4]
  have e1 : ¬ (1 : Int) = k := fun h => h1 h.symm
  have e2 : ¬ (2 : Int) = k := fun h => h2 h.symm
  have e3 : ¬ (3 : Int) = k := fun h => h3 h.symm
  have e4 : ¬ (4 : Int) = k := fun h => h4 h.symm
  have hh : Maps.has (DataW.map [(.int .i64 1, (.lit (.int .i64 (130 : Nat)) : DataW Unit)), (.int .i64 2, .lit (.int .i64 (131 : Nat))), (.int .i64 3, .lit (.int .i64 (132 : Nat))), (.int .i64 4, .lit (.int .i64 (133 : Nat)))]) (.int .i64 k) = false := by
    simp [Maps.has, Lit.sameKey, e1, e2, e3, e4]
  have ha : (DataW.map [(.int .i64 1, (.lit (.int .i64 (130 : Nat)) : DataW Unit)), (.int .i64 2, .lit (.int .i64 (131 : Nat))), (.int .i64 3, .lit (.int .i64 (132 : Nat))), (.int .i64 4, .lit (.int .i64 (133 : Nat)))]).atKey (.int .i64 k) (.lit (.bool false)) = .lit (.bool false) := by
    simp [DataW.atKey, Lit.sameKey, e1, e2, e3, e4]
  rw [ha] at hv
  have hv' : v = .nilFunc := by
    unfold fnElem at hv
    split at hv
    · split at hv <;> simp at hv
    · rfl
    · cases hv
  rw [hh, hv']

set_option maxRecDepth 100000 in
set_option maxHeartbeats 1600000 in
theorem tableC (w : World) : Calls Try.prog 129 #[] w fun e w' => ∃ b, e = .returned (.map (some b)) ∧ (∀ k : Int, (Lit.int .i64 k).wf = true → (Instr.lookup 165 (.map (some b)) (.int .i64 k) true).run Try.prog w' = .ok (.tuple #[fnV k, .bool (isFn k)]) w') ∧ Below w.heap.size w w' := by
  have o0 := World.ownsMap_made w Try.prog 3 fnElem
  have b0 := alloc_below w (.map #[] 0)
  obtain ⟨w1, r1, o1, g1⟩ := o0.update lawInt Try.underlying165 (by unfold maxLen; omega) (keyOf_int_mk Try.underlying3 wf1) (fnElem_mk 130)
  obtain ⟨w2, r2, o2, g2⟩ := o1.update lawInt Try.underlying165 (by unfold maxLen; omega) (keyOf_int_mk Try.underlying3 wf2) (fnElem_mk 131)
  obtain ⟨w3, r3, o3, g3⟩ := o2.update lawInt Try.underlying165 (by unfold maxLen; omega) (keyOf_int_mk Try.underlying3 wf3) (fnElem_mk 132)
  obtain ⟨w4, r4, o4, g4⟩ := o3.update lawInt Try.underlying165 (by unfold maxLen; omega) (keyOf_int_mk Try.underlying3 wf4) (fnElem_mk 133)
  have hg := grownBy_trans (grownBy_trans (grownBy_trans g1 g2) g3) g4
  have bel := b0.grown hg (by simp) (fun k hk => by cases hk; exact Nat.le_refl _)
  have HL : Hid (∀ k : Int, (Lit.int .i64 k).wf = true → (Instr.lookup 165 (.map (some w.heap.size)) (.int .i64 k) true).run Try.prog w4 = .ok (.tuple #[fnV k, .bool (isFn k)]) w4) := fun k hk => lookV_eq k ▸ look_tab o4 k hk
  clear o0 o1 o2 o3 o4 g1 g2 g3 g4 hg b0
  have hmm := @run_makeMap Try.prog
  go_enter Try.func129, Try.ntmps129
  go_wp2
  go_ret
  exact ⟨_, rfl, HL.out, bel⟩

theorem u16_mod (n : Int) : wrap64 (IntKind.u16.wrap n) = n % 65536 := by
  have e : IntKind.u16.wrap n = n % 65536 := by simp [IntKind.wrap, IntKind.signed, IntKind.bits]
  rw [e]; unfold wrap64; omega
set_option maxRecDepth 100000 in
theorem wrappedC (n : Int) (w : World) : Calls Try.prog 127 #[.int .i64 n] w fun e w' => e = .returned (.int .i64 (n % 65536)) ∧ w = w' := by
  go_enter Try.func127, Try.ntmps127
  go_wp2
  go_ret
  exact ⟨congrArg (fun z => Ending.returned (.int .i64 z)) (u16_mod n), rfl⟩

set_option maxRecDepth 100000 in
theorem lessNumC (x y : Int) (w : World) : Calls Try.prog 134 #[.int .i64 x, .int .i64 y] w fun e w' => e = .returned (.int .i64 (lt01 x y)) ∧ w = w' := by
  unfold lt01
  by_cases h : x < y
  · rw [if_pos h]
    go_enter Try.func134, Try.ntmps134
    go_wp2
    go_ret
    exact ⟨rfl, rfl⟩
  · rw [if_neg h]
    go_enter Try.func134, Try.ntmps134
    go_wp2
    go_ret
    exact ⟨rfl, rfl⟩

set_option maxRecDepth 100000 in
theorem clo1C (k a b c : Int) (v : Value) (w : World) : Calls Try.prog 130 #[opV k a b c, v] w fun e w' => e = .returned (.int .i64 b) ∧ Below w.heap.size w w' := by
  show Calls _ _ #[.agg #[.int .i64 k, .int .i64 a, .int .i64 b, .int .i64 c], _] _ _
  go_enter Try.func130, Try.ntmps130
  go_wp2
  go_ret
  exact ⟨rfl, alloc_below _ _⟩

set_option maxRecDepth 100000 in
set_option maxHeartbeats 1600000 in
theorem clo2C (k a : Int) (jb jc : Nat) (hb : jb < 4) (hc : jc < 4) (rb ro cap : Nat) (x y : Int) (w : World) (hlt : rb < w.heap.size) (hx : w.cell? ⟨rb, ro + jb, none⟩ = some (.int .i64 x)) (hy : w.cell? ⟨rb, ro + jc, none⟩ = some (.int .i64 y))
    (x1 : 0 ≤ x) (x2 : x ≤ 65535) (y1 : 0 ≤ y) (y2 : y ≤ 65535) :
    Calls Try.prog 131 #[opV k a jb jc, .slice (some ⟨rb, ro, none⟩) 4 cap] w fun e w' => e = .returned (.int .i64 ((x + y) % 65536)) ∧ Below w.heap.size w w' := by
  show Calls _ _ #[.agg #[.int .i64 k, .int .i64 a, .int .i64 jb, .int .i64 jc], _] _ _
  have hx' := ((alloc_below w (.cells #[.int .i64 k, .int .i64 a, .int .i64 jb, .int .i64 jc] 30)).cell (p := ⟨rb, ro + jb, none⟩) hlt).trans hx
  have hy' := ((alloc_below w (.cells #[.int .i64 k, .int .i64 a, .int .i64 jb, .int .i64 jc] 30)).cell (p := ⟨rb, ro + jc, none⟩) hlt).trans hy
  have i1 : (0 : Int) ≤ jb := by omega
  have i2 : (jb : Int) < 4 := by omega
  have i3 : (0 : Int) ≤ jc := by omega
  have i4 : (jc : Int) < 4 := by omega
  go_enter Try.func131, Try.ntmps131
  go_wp2_with fail
  go_quiet ((go_at_call 127; exact Calls.quiet_of_same ((wrappedC _ _).mono fun e w' h => ⟨h.1, h.2.symm⟩)))
  go_wp2
  go_ret
  exact ⟨rfl, below_drewN (alloc_below _ _) _⟩

set_option maxRecDepth 100000 in
set_option maxHeartbeats 1600000 in
theorem clo3C (k a : Int) (jb jc : Nat) (hb : jb < 4) (hc : jc < 4) (rb ro cap : Nat) (x y : Int) (w : World) (hlt : rb < w.heap.size) (hx : w.cell? ⟨rb, ro + jb, none⟩ = some (.int .i64 x)) (hy : w.cell? ⟨rb, ro + jc, none⟩ = some (.int .i64 y))
    (x1 : 0 ≤ x) (x2 : x ≤ 65535) (y1 : 0 ≤ y) (y2 : y ≤ 65535) :
    Calls Try.prog 132 #[opV k a jb jc, .slice (some ⟨rb, ro, none⟩) 4 cap] w fun e w' => e = .returned (.int .i64 ((x - y) % 65536)) ∧ Below w.heap.size w w' := by
  show Calls _ _ #[.agg #[.int .i64 k, .int .i64 a, .int .i64 jb, .int .i64 jc], _] _ _
  have hx' := ((alloc_below w (.cells #[.int .i64 k, .int .i64 a, .int .i64 jb, .int .i64 jc] 30)).cell (p := ⟨rb, ro + jb, none⟩) hlt).trans hx
  have hy' := ((alloc_below w (.cells #[.int .i64 k, .int .i64 a, .int .i64 jb, .int .i64 jc] 30)).cell (p := ⟨rb, ro + jc, none⟩) hlt).trans hy
  have i1 : (0 : Int) ≤ jb := by omega
  have i2 : (jb : Int) < 4 := by omega
  have i3 : (0 : Int) ≤ jc := by omega
  have i4 : (jc : Int) < 4 := by omega
  go_enter Try.func132, Try.ntmps132
  go_wp2_with fail
  go_quiet ((go_at_call 127; exact Calls.quiet_of_same ((wrappedC _ _).mono fun e w' h => ⟨h.1, h.2.symm⟩)))
  go_wp2
  go_ret
  exact ⟨rfl, below_drewN (alloc_below _ _) _⟩

set_option maxRecDepth 100000 in
set_option maxHeartbeats 1600000 in
theorem clo4C (k a : Int) (jb jc : Nat) (hb : jb < 4) (hc : jc < 4) (rb ro cap : Nat) (x y : Int) (w : World) (hlt : rb < w.heap.size) (hx : w.cell? ⟨rb, ro + jb, none⟩ = some (.int .i64 x)) (hy : w.cell? ⟨rb, ro + jc, none⟩ = some (.int .i64 y))
    (x1 : 0 ≤ x) (x2 : x ≤ 65535) (y1 : 0 ≤ y) (y2 : y ≤ 65535) :
    Calls Try.prog 133 #[opV k a jb jc, .slice (some ⟨rb, ro, none⟩) 4 cap] w fun e w' => e = .returned (.int .i64 (lt01 x y)) ∧ Below w.heap.size w w' := by
  show Calls _ _ #[.agg #[.int .i64 k, .int .i64 a, .int .i64 jb, .int .i64 jc], _] _ _
  have hx' := ((alloc_below w (.cells #[.int .i64 k, .int .i64 a, .int .i64 jb, .int .i64 jc] 30)).cell (p := ⟨rb, ro + jb, none⟩) hlt).trans hx
  have hy' := ((alloc_below w (.cells #[.int .i64 k, .int .i64 a, .int .i64 jb, .int .i64 jc] 30)).cell (p := ⟨rb, ro + jc, none⟩) hlt).trans hy
  have i1 : (0 : Int) ≤ jb := by omega
  have i2 : (jb : Int) < 4 := by omega
  have i3 : (0 : Int) ≤ jc := by omega
  have i4 : (jc : Int) < 4 := by omega
  go_enter Try.func133, Try.ntmps133
  go_wp2_with fail
  go_quiet ((go_at_call 134; exact Calls.quiet_of_same ((lessNumC _ _ _).mono fun e w' h => ⟨h.1, h.2.symm⟩)))
  go_wp2
  go_ret
  exact ⟨rfl, below_drewN (alloc_below _ _) _⟩

end Ops
end Go.Proofs.Ytppkohkcffnghaa
