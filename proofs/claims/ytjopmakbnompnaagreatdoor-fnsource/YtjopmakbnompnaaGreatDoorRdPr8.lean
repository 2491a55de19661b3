/- Several texts of one proof, in build order: AsFacts, AsErr, AsWalk, ImplWords, PartsL, ShelfS, ImplParts. -/
import Derived.WalkKit
import Derived.LaidEql
import Derived.Stop.Asserts
import Derived.RowKitTokens
import Derived.Maps.OwnSet
import Derived.Maps.Views
import Derived.Lib.Split
import Derived.Shelf.Lays
import Derived.Shelf.Strings.SplitCore
import Derived.Shelf.Strings.Count
import Derived.Shelf.Small.Wraps
import Derived.Test.YtjopmakbnompnaaGreatDoorProg
import Derived.Shelf.Strings.Search3
import Derived.Lib.SplitLaws
import Derived.Deep.QuietTactic
import Derived.BigQuiet
import Derived.Test.YtjopmakbnompnaaGreatDoorRdPr1
import Derived.Test.YtjopmakbnompnaaGreatDoorRdPr3
import Derived.Test.YtjopmakbnompnaaGreatDoorRdPr5
/- The model's entries for reflectlite, at the types of the program's own error. -/
set_option linter.unusedVariables false
set_option linter.unusedSimpArgs false
namespace Go.Proofs.YtjopmakbnompnaaGreatDoor
open Go.RowKit Go.Extern.Stop Go.Stop Go.Extern
namespace AsErr
open Bas

/-- errors.As of no error -/
theorem as_none (t : Value) (w : World) : Calls Tryz.prog 59 #[.nilIface, t] w fun e w' => e = .returned (.bool false) ∧ w = w' := by
  go_enter Tryz.func59, Tryz.ntmps59
  go_wp2
  go_ret
  exact ⟨rfl, rfl⟩

/-- the handle of a type -/
abbrev hd (t : Nat) : Value := .pointer (some ⟨10, t, none⟩)
/-- reflectlite's Value: the type, where it lies, what it is -/
abbrev rv (t : Nat) (a : Addr) (f : Int) : Value := .agg #[hd t, .pointer (some a), .int .u64 f]
theorem value_ptr (t : Addr) (w : World) : (ReflectliteValue.unpack (.iface 91 (.pointer (some t)))).run Tryz.prog w = .ok (rv 91 ⟨w.heap.size, 0, none⟩ 150) (w.alloc (.cells #[.pointer (some t)] 91)) := by kernel_rfl
theorem value_line (s : ByteArray) (w : World) : (ReflectliteValue.unpack (.iface 89 (.agg #[.string s]))).run Tryz.prog w = .ok (rv 89 ⟨w.heap.size, 0, none⟩ 153) (w.alloc (.cells #[.string s] 89)) := by kernel_rfl
theorem type_ptr (a : Addr) (w : World) : (ReflectliteValue.methodAny (ReflectliteValue.valueError "reflectlite.Value.Type" 0) (fun t _ _ _ => ReflectliteType.toType t) #[rv 91 a 150]).run Tryz.prog w = .ok (.iface 142 (.agg #[hd 91])) w := by kernel_rfl
theorem m_kind (h : Value) (w : World) : (Go.method 325 142 (.agg #[h]) "Kind").run Tryz.prog w = .ok (158, h) w := by kernel_rfl
theorem m_elem (h : Value) (w : World) : (Go.method 325 142 (.agg #[h]) "Elem").run Tryz.prog w = .ok (168, .agg #[h]) w := by kernel_rfl
theorem m_impl (h : Value) (w : World) : (Go.method 325 142 (.agg #[h]) "Implements").run Tryz.prog w = .ok (169, .agg #[h]) w := by kernel_rfl
theorem m_asgn (h : Value) (w : World) : (Go.method 325 142 (.agg #[h]) "AssignableTo").run Tryz.prog w = .ok (166, .agg #[h]) w := by kernel_rfl
theorem kind_ptr (w : World) : ((ReflectliteType.abiMethod fun t => Functor.map (fun a : Nat => Value.int IntKind.u8 (a : Int)) (Rtype.kind t)) #[hd 91]).run Tryz.prog w = .ok (.int .u8 22) w := by kernel_rfl
theorem kind_line (w : World) : ((ReflectliteType.abiMethod fun t => Functor.map (fun a : Nat => Value.int IntKind.u8 (a : Int)) (Rtype.kind t)) #[hd 89]).run Tryz.prog w = .ok (.int .u8 25) w := by kernel_rfl
theorem elem_ptr (w : World) : (ReflectliteType.method ReflectliteType.elem #[.agg #[hd 91]]).run Tryz.prog w = .ok (.iface 142 (.agg #[hd 89])) w := by kernel_rfl
theorem impl_line (w : World) : (ReflectliteType.relation "Implements" ReflectliteType.implements_ #[.agg #[hd 89], .iface 142 (.agg #[hd 50])]).run Tryz.prog w = .ok (.bool true) w := by kernel_rfl
theorem type_line (v : Value) (w : World) : (ReflectliteType.typeOf #[.iface 89 v]).run Tryz.prog w = .ok (.iface 142 (.agg #[hd 89])) w := by kernel_rfl
theorem asgn_line (w : World) : (ReflectliteType.relation "AssignableTo" ReflectliteType.assignableTo #[.agg #[hd 89], .iface 142 (.agg #[hd 89])]).run Tryz.prog w = .ok (.bool true) w := by kernel_rfl
theorem parts_ptr (a : Addr) (w : World) : (ReflectliteValue.parts (rv 91 a 150)).run Tryz.prog w = .ok (some (91, a, 150)) w := by kernel_rfl
theorem parts_var (a : Addr) (w : World) : (ReflectliteValue.parts (rv 89 a 409)).run Tryz.prog w = .ok (some (89, a, 409)) w := by kernel_rfl
theorem parts_line (a : Addr) (w : World) : (ReflectliteValue.parts (rv 89 a 153)).run Tryz.prog w = .ok (some (89, a, 153)) w := by kernel_rfl
theorem elem_is (w : World) : (Rtype.elem? 91).run Tryz.prog w = .ok (some 89) w := by kernel_rfl
theorem mk_var (p : Addr) (w : World) : (ReflectliteValue.mk 89 p ReflectliteValue.flagAddr).run Tryz.prog w = .ok (rv 89 p 409) w := by kernel_rfl
theorem direct (w : World) : (Rtype.directlyAssignable 89 89).run Tryz.prog w = .ok true w := by kernel_rfl
theorem one_cell (w : World) : (sizeOf 89).run Tryz.prog w = .ok 1 w := by kernel_rfl
theorem is_agg (w : World) : (isAgg 89).run Tryz.prog w = .ok true w := by kernel_rfl
end AsErr
end Go.Proofs.YtjopmakbnompnaaGreatDoor
/- What errors.As answers of the program's own error: the line that is wrong, or none. -/
set_option linter.unusedVariables false
set_option linter.unusedSimpArgs false
namespace Go.Proofs.YtjopmakbnompnaaGreatDoor
open Go.RowKit Go.Extern.Stop Go.Stop Go.Extern
namespace AsErr
open Bas

/-- a Value of the pointer is not nil -/
theorem not_nil (a p : Addr) (W : World) (ha : W.cell? a = some (.pointer (some p))) :
    (ReflectliteValue.method (ReflectliteValue.valueError "reflectlite.Value.IsNil" 0) ReflectliteValue.isNil #[rv 91 a 150]).run Tryz.prog W = .ok (.bool false) W := by
  rw [show (ReflectliteValue.method _ _ #[rv 91 a 150] : Sem Value) = ReflectliteValue.parts (rv 91 a 150) >>= _ from rfl]
  simp only [Sem.run_bind, parts_ptr, Result.andThen]
  simp [ReflectliteValue.isNil, loadVar, isAgg, underlying, Tryz.underlying91, ha, Result.andThen]
/-- what the pointer points to -/
theorem points (a p : Addr) (W : World) (ha : W.cell? a = some (.pointer (some p))) :
    (ReflectliteValue.method (ReflectliteValue.valueError "reflectlite.Value.Elem" 0) ReflectliteValue.elem #[rv 91 a 150]).run Tryz.prog W = .ok (rv 89 p 409) W := by
  rw [show (ReflectliteValue.method _ _ #[rv 91 a 150] : Sem Value) = ReflectliteValue.parts (rv 91 a 150) >>= _ from rfl]
  simp only [Sem.run_bind, parts_ptr, Result.andThen]
  simp [ReflectliteValue.elem, loadVar, isAgg, underlying, Tryz.underlying91, ha, Result.andThen, elem_is, mk_var]
/-- the line is laid where the pointer points -/
theorem put_line (ta b : Addr) (s : ByteArray) (old : Value) (W : World) (hb : W.cell? b = some (.string s)) (ht : W.cell? ta = some old) (hf : W.frozen? ta = false) :
    (ReflectliteValue.set #[rv 89 ta 409, rv 89 b 153]).run Tryz.prog W = .ok (.tuple #[]) (W.setCell ta (.string s)) := by
  rw [show (ReflectliteValue.set #[rv 89 ta 409, rv 89 b 153] : Sem Value) = ReflectliteValue.parts (rv 89 ta 409) >>= fun x => ReflectliteValue.parts (rv 89 b 153) >>= _ from rfl]
  simp only [Sem.run_bind, parts_var, parts_line, Result.andThen]
  simp [ReflectliteValue.flagAddr, loadVar, is_agg, one_cell, hb, Result.andThen, direct, storeVar, Value.cells, storeCells, Addr.add]
  have hl := run_loadCells_list (P := Tryz.prog) (w := W) b [.string s] (fun j v hj => by
    rcases j with _ | j
    · simp at hj; rw [← hj]; exact hb
    · simp at hj)
  change (loadCells b 1).run Tryz.prog W = .ok #[.string s] W at hl
  rw [hl]
  simp [storeCells, Addr.add, Result.andThen]
  rw [run_store Tryz.prog W ta (.string s) _ rfl]
  simp [ht, hf]
end AsErr
end Go.Proofs.YtjopmakbnompnaaGreatDoor
/- errors.As of the program's own error, whose line is laid where the target points. -/
set_option linter.unusedVariables false
set_option linter.unusedSimpArgs false
namespace Go.Proofs.YtjopmakbnompnaaGreatDoor
open Go.RowKit Go.Extern.Stop Go.Stop Go.Extern
namespace AsErr
open Bas

/-- the type error is where errors.As looks for it -/
def EType (w : World) : Prop := w.cell? ⟨1, 0, none⟩ = some (.iface 142 (.agg #[hd 50]))
theorem EType.on {w w' : World} (h : EType w) (hb : Below w.heap.size w w') : EType w' := (hb.cell (World.block_lt_of_cell? _ _ h)).trans h
theorem cell_lt {w : World} {a : Addr} {v : Value} (h : w.cell? a = some v) : a.block < w.heap.size := World.block_lt_of_cell? _ _ h

set_option maxRecDepth 100000 in
set_option maxHeartbeats 4000000 in
theorem as_line (s : ByteArray) (t : Addr) (old : Value) (w : World) (hg : EType w) (ht0 : w.cell? t = some old) (hf0 : w.frozen? t = false) :
    Calls Tryz.prog 59 #[.iface 89 (.agg #[.string s]), .iface 91 (.pointer (some t))] w fun e w' => e = .returned (.bool true) ∧
      w' = ((((w.alloc (.cells #[.pointer (some t)] 91)).alloc (.cells #[hd 91, .pointer (some ⟨w.heap.size, 0, none⟩), .int .u64 150] 120)).alloc (.cells #[hd 91, .pointer (some ⟨w.heap.size, 0, none⟩), .int .u64 150] 120)).alloc (.cells #[.string s] 89)).setCell t (.string s) := by
  have e91 := @run_callFunc_extern Tryz.prog 91 _ (fun args => ReflectliteValue.unpack (args.getD 0 (.tuple #[]))) Tryz.func91 (by kernel_rfl) (by kernel_rfl) (by kernel_rfl) (by kernel_rfl)
  have e92 := @run_callFunc_extern Tryz.prog 92 _ (ReflectliteValue.methodAny (ReflectliteValue.valueError "reflectlite.Value.Type" 0) (fun t _ _ _ => ReflectliteType.toType t)) Tryz.func92 (by kernel_rfl) (by kernel_rfl) (by kernel_rfl) (by kernel_rfl)
  have e93 := @run_callFunc_extern Tryz.prog 93 _ (ReflectliteValue.method (ReflectliteValue.valueError "reflectlite.Value.IsNil" 0) ReflectliteValue.isNil) Tryz.func93 (by kernel_rfl) (by kernel_rfl) (by kernel_rfl) (by kernel_rfl)
  have eKi := @run_callFunc_extern Tryz.prog 158 _ (ReflectliteType.abiMethod fun t => do pure (.int .u8 (← Rtype.kind t))) Tryz.func158 (by kernel_rfl) (by kernel_rfl) (by kernel_rfl) (by kernel_rfl)
  have eEl := @run_callFunc_extern Tryz.prog 168 _ (ReflectliteType.method ReflectliteType.elem) Tryz.func168 (by kernel_rfl) (by kernel_rfl) (by kernel_rfl) (by kernel_rfl)
  have eIm := @run_callFunc_extern Tryz.prog 169 _ (ReflectliteType.relation "Implements" ReflectliteType.implements_) Tryz.func169 (by kernel_rfl) (by kernel_rfl) (by kernel_rfl) (by kernel_rfl)
  have eTy := @run_callFunc_extern Tryz.prog 108 _ ReflectliteType.typeOf Tryz.func108 (by kernel_rfl) (by kernel_rfl) (by kernel_rfl) (by kernel_rfl)
  have eAs := @run_callFunc_extern Tryz.prog 166 _ (ReflectliteType.relation "AssignableTo" ReflectliteType.assignableTo) Tryz.func166 (by kernel_rfl) (by kernel_rfl) (by kernel_rfl) (by kernel_rfl)
  have eVE := @run_callFunc_extern Tryz.prog 109 _ (ReflectliteValue.method (ReflectliteValue.valueError "reflectlite.Value.Elem" 0) ReflectliteValue.elem) Tryz.func109 (by kernel_rfl) (by kernel_rfl) (by kernel_rfl) (by kernel_rfl)
  have eSe := @run_callFunc_extern Tryz.prog 110 _ ReflectliteValue.set Tryz.func110 (by kernel_rfl) (by kernel_rfl) (by kernel_rfl) (by kernel_rfl)
  have f1 := value_ptr; have f2 := value_line; have f3 := type_ptr; have f4 := m_kind; have f5 := m_elem; have f6 := m_impl; have f7 := m_asgn
  have f8 := kind_ptr; have f9 := kind_line; have f10 := elem_ptr; have f11 := impl_line; have f12 := type_line; have f13 := asgn_line
  have hgl := cell_lt hg
  have htl := cell_lt ht0
  obtain ⟨W1, h1⟩ : ∃ W, w.alloc (.cells #[.pointer (some t)] 91) = W := ⟨_, rfl⟩
  have b1 := alloc_below w (.cells #[.pointer (some t)] 91)
  have B1 := Blk.new w #[.pointer (some t)] 91
  have s1 : W1.heap.size = w.heap.size + 1 := by rw [← h1]; simp
  rw [h1] at b1 B1
  have n8 := not_nil ⟨w.heap.size, 0, none⟩ t ((w.alloc (.cells #[.pointer (some t)] 91)).alloc (.cells #[hd 91, .pointer (some ⟨w.heap.size, 0, none⟩), .int .u64 150] 120)) (by simp)
  have hg2 : ((w.alloc (.cells #[.pointer (some t)] 91)).alloc (.cells #[hd 91, .pointer (some ⟨w.heap.size, 0, none⟩), .int .u64 150] 120)).cell? ⟨1, 0, none⟩ = some (.iface 142 (.agg #[hd 50])) :=
    EType.on (EType.on hg (alloc_below _ _)) (alloc_below _ _)
  have el := points ⟨w.heap.size, 0, none⟩ t (((w.alloc (.cells #[.pointer (some t)] 91)).alloc (.cells #[hd 91, .pointer (some ⟨w.heap.size, 0, none⟩), .int .u64 150] 120)).alloc (.cells #[hd 91, .pointer (some ⟨w.heap.size, 0, none⟩), .int .u64 150] 120)) (by rw [World.cell?_alloc_lt _ _ ⟨w.heap.size, 0, none⟩ (by simp; omega)]; simp)
  have st := put_line t ⟨w.heap.size + 1 + 1 + 1, 0, none⟩ s old ((((w.alloc (.cells #[.pointer (some t)] 91)).alloc (.cells #[hd 91, .pointer (some ⟨w.heap.size, 0, none⟩), .int .u64 150] 120)).alloc (.cells #[hd 91, .pointer (some ⟨w.heap.size, 0, none⟩), .int .u64 150] 120)).alloc (.cells #[.string s] 89))
    (by rw [World.cell?_alloc_at _ _ _ _ (by simp)]; rfl)
    (by rw [World.cell?_alloc_lt _ _ t (by simp; omega), World.cell?_alloc_lt _ _ t (by simp; omega), World.cell?_alloc_lt _ _ t (by simp; omega), World.cell?_alloc_lt _ _ t htl]; exact ht0)
    (by rw [World.frozen?_alloc_old _ _ t (by simp; omega), World.frozen?_alloc_old _ _ t (by simp; omega), World.frozen?_alloc_old _ _ t (by simp; omega), World.frozen?_alloc_old _ _ t (Nat.ne_of_lt htl)]; exact hf0)
  clear h1 b1 B1 s1
  go_enter Tryz.func59, Tryz.ntmps59
  go_wp2
  refine wp_loop_rounds 1 ?_
  rw [rounds_succ]
  go_wp2
  go_ret
  exact ⟨rfl, rfl⟩
end AsErr
end Go.Proofs.YtjopmakbnompnaaGreatDoor
/- The program's words: the table, how many fields a kind names, the kinds by their words. -/
set_option linter.unusedVariables false
set_option linter.unusedSimpArgs false
namespace Go.Proofs.YtjopmakbnompnaaGreatDoor
open Go.RowKit Go.Maps
namespace Ops
open Bas

/-- the table of the words -/
def WTab (w : World) : Prop := ∀ i (h : i < words.length), w.cell? ⟨0, i, none⟩ = some (.string ⟨words[i].toArray⟩)
theorem WTab.on {w w' : World} (h : WTab w) (hb : Below w.heap.size w w') : WTab w' := fun i hi => (hb.cell (World.block_lt_of_cell? _ _ (h i hi))).trans (h i hi)
theorem WTab.below {w w' : World} {B : Nat} (h : WTab w) (hb : Below B w w') (hB : w.heap.size ≤ B) : WTab w' := h.on (hb.mono hB)

/-! ### how many fields a kind names -/
def one01 (p : Int × Int) : Nat := if p = (0, 0) then 0 else 1
theorem named_nargs {k : Int} (h : 1 ≤ k ∧ k ≤ 16) : ∃ p q r, spans k = some (p, q, r) ∧ nargs k = one01 p + one01 q + one01 r := by
  rcases kinds k with rfl | rfl | rfl | rfl | rfl | rfl | rfl | rfl | rfl | rfl | rfl | rfl | rfl | rfl | rfl | rfl | h'
  case inr.inr.inr.inr.inr.inr.inr.inr.inr.inr.inr.inr.inr.inr.inr.inr => omega
  all_goals exact ⟨_, _, _, rfl, by decide⟩
def cnt3 (p q r : Int × Int) : Nat → Nat
  | 0 => 0
  | 1 => one01 p
  | 2 => one01 p + one01 q
  | _ => one01 p + one01 q + one01 r
set_option maxRecDepth 100000 in
theorem spAt0 (p0 p1 q0 q1 r0 r1 : Int) (W : World) : (Instr.index 101 (.agg #[.int .i64 p0, .int .i64 p1, .int .i64 q0, .int .i64 q1, .int .i64 r0, .int .i64 r1]) (.int .i64 0)).run Tryz.prog W = .ok (.agg #[.int .i64 p0, .int .i64 p1]) W := by kernel_rfl
set_option maxRecDepth 100000 in
theorem spAt1 (p0 p1 q0 q1 r0 r1 : Int) (W : World) : (Instr.index 101 (.agg #[.int .i64 p0, .int .i64 p1, .int .i64 q0, .int .i64 q1, .int .i64 r0, .int .i64 r1]) (.int .i64 1)).run Tryz.prog W = .ok (.agg #[.int .i64 q0, .int .i64 q1]) W := by kernel_rfl
set_option maxRecDepth 100000 in
theorem spAt2 (p0 p1 q0 q1 r0 r1 : Int) (W : World) : (Instr.index 101 (.agg #[.int .i64 p0, .int .i64 p1, .int .i64 q0, .int .i64 q1, .int .i64 r0, .int .i64 r1]) (.int .i64 2)).run Tryz.prog W = .ok (.agg #[.int .i64 r0, .int .i64 r1]) W := by kernel_rfl
set_option maxRecDepth 100000 in
set_option maxHeartbeats 1600000 in
theorem namedC (k : Int) (h : 1 ≤ k ∧ k ≤ 16) (w : World) : Calls Tryz.prog 38 #[.int .i64 k] w fun e w' => e = .returned (.int .i64 (nargs k)) ∧ Below w.heap.size w w' := by
  obtain ⟨⟨p0, p1⟩, ⟨q0, q1⟩, ⟨r0, r1⟩, hs, hn⟩ := named_nargs h
  have hS := spansC k w
  rw [hs] at hS
  change Calls _ _ _ _ (fun e w' => e = .returned (.tuple #[.agg #[.int .i64 p0, .int .i64 p1, .int .i64 q0, .int .i64 q1, .int .i64 r0, .int .i64 r1], .bool true]) ∧ Below w.heap.size w w') at hS
  rw [hn]
  clear hn hs h
  obtain ⟨g, hg⟩ : ∃ g, w.heap.size = g := ⟨_, rfl⟩
  rw [hg] at hS ⊢
  go_enter Tryz.func38, Tryz.ntmps38
  go_wp2_with fail
  refine hS.mono ?_
  rintro e w1 ⟨rfl, b1⟩
  go_wp2
  have b2 := b1.alloc (by have := b1.size; omega) (.cells #[.int .i64 p0, .int .i64 p1, .int .i64 q0, .int .i64 q1, .int .i64 r0, .int .i64 r1] 101)
  go_loopw [3, 14] (fun nv iv wr => ∃ (i m : Nat), i ≤ 3 ∧ iv = .int .i64 i ∧ nv = .int .i64 m ∧ m ≤ i ∧ m = cnt3 (p0, p1) (q0, q1) (r0, r1) i ∧ Below g w wr) (fun _ iv _ => 3 - (intOf iv).toNat)
  case atStart => exact ⟨0, 0, by omega, rfl, rfl, by omega, rfl, b2⟩
  case round =>
    obtain ⟨i, m, hi, rfl, rfl, hm, hc, hb⟩ := hrel
    clear b2
    have x0 := spAt0 p0 p1 q0 q1 r0 r1
    have x1 := spAt1 p0 p1 q0 q1 r0 r1
    have x2 := spAt2 p0 p1 q0 q1 r0 r1
    have hsz : g ≤ wr.heap.size := by have := hb.size; omega
    have HC : Hid (m = cnt3 (p0, p1) (q0, q1) (r0, r1) i) := hc
    clear hc
    match i, hi with
    | 0, _ =>
      by_cases hz : p0 = 0 ∧ p1 = 0
      · obtain ⟨hx0, hy0⟩ := hz
        have HN : Hid (m = cnt3 (p0, p1) (q0, q1) (r0, r1) 1) := by
          have h := HC.out
          show m = _
          simp only [cnt3] at h ⊢
          rw [h, hx0, hy0]; simp [one01]
        subst hx0
        subst hy0
        go_wp2
        go_roundw
        case rel => exact ⟨1, m, by omega, by go_num, rfl, by omega, HN.out, hb.alloc hsz _⟩
        case measure => simp [intOf]
      · have HN : Hid (m + 1 = cnt3 (p0, p1) (q0, q1) (r0, r1) 1) := by
          have h := HC.out
          have h1 : one01 (p0, p1) = 1 := by unfold one01; rw [if_neg]; simpa using hz
          show m + 1 = _
          simp only [cnt3] at h ⊢
          rw [h, h1]
        by_cases hx : p0 = 0
        · have hy : ¬ p1 = 0 := fun h => hz ⟨hx, h⟩
          clear hz
          subst hx
          go_wp2
          go_roundw
          case rel => exact ⟨1, m + 1, by omega, by go_num, by go_num, by omega, HN.out, hb.alloc hsz _⟩
          case measure => simp [intOf]
        · clear hz
          go_wp2
          go_roundw
          case rel => exact ⟨1, m + 1, by omega, by go_num, by go_num, by omega, HN.out, hb.alloc hsz _⟩
          case measure => simp [intOf]
    | 1, _ =>
      by_cases hz : q0 = 0 ∧ q1 = 0
      · obtain ⟨hx0, hy0⟩ := hz
        have HN : Hid (m = cnt3 (p0, p1) (q0, q1) (r0, r1) 2) := by
          have h := HC.out
          show m = _
          simp only [cnt3] at h ⊢
          rw [h, hx0, hy0]; simp [one01]
        subst hx0
        subst hy0
        go_wp2
        go_roundw
        case rel => exact ⟨2, m, by omega, by go_num, rfl, by omega, HN.out, hb.alloc hsz _⟩
        case measure => simp [intOf]
      · have HN : Hid (m + 1 = cnt3 (p0, p1) (q0, q1) (r0, r1) 2) := by
          have h := HC.out
          have h1 : one01 (q0, q1) = 1 := by unfold one01; rw [if_neg]; simpa using hz
          show m + 1 = _
          simp only [cnt3] at h ⊢
          rw [h, h1]
        by_cases hx : q0 = 0
        · have hy : ¬ q1 = 0 := fun h => hz ⟨hx, h⟩
          clear hz
          subst hx
          go_wp2
          go_roundw
          case rel => exact ⟨2, m + 1, by omega, by go_num, by go_num, by omega, HN.out, hb.alloc hsz _⟩
          case measure => simp [intOf]
        · clear hz
          go_wp2
          go_roundw
          case rel => exact ⟨2, m + 1, by omega, by go_num, by go_num, by omega, HN.out, hb.alloc hsz _⟩
          case measure => simp [intOf]
    | 2, _ =>
      by_cases hz : r0 = 0 ∧ r1 = 0
      · obtain ⟨hx0, hy0⟩ := hz
        have HN : Hid (m = cnt3 (p0, p1) (q0, q1) (r0, r1) 3) := by
          have h := HC.out
          show m = _
          simp only [cnt3] at h ⊢
          rw [h, hx0, hy0]; simp [one01]
        subst hx0
        subst hy0
        go_wp2
        go_roundw
        case rel => exact ⟨3, m, by omega, by go_num, rfl, by omega, HN.out, hb.alloc hsz _⟩
        case measure => simp [intOf]
      · have HN : Hid (m + 1 = cnt3 (p0, p1) (q0, q1) (r0, r1) 3) := by
          have h := HC.out
          have h1 : one01 (r0, r1) = 1 := by unfold one01; rw [if_neg]; simpa using hz
          show m + 1 = _
          simp only [cnt3] at h ⊢
          rw [h, h1]
        by_cases hx : r0 = 0
        · have hy : ¬ r1 = 0 := fun h => hz ⟨hx, h⟩
          clear hz
          subst hx
          go_wp2
          go_roundw
          case rel => exact ⟨3, m + 1, by omega, by go_num, by go_num, by omega, HN.out, hb.alloc hsz _⟩
          case measure => simp [intOf]
        · clear hz
          go_wp2
          go_roundw
          case rel => exact ⟨3, m + 1, by omega, by go_num, by go_num, by omega, HN.out, hb.alloc hsz _⟩
          case measure => simp [intOf]
    | 3, _ =>
      have HF : Hid (m = one01 (p0, p1) + one01 (q0, q1) + one01 (r0, r1)) := HC.out
      go_wp2
      go_ret
      exact ⟨by rw [HF.out]; rfl, hb⟩

/-! ### the kinds by their words -/
def tabTo : Nat → DataW Unit
  | 0 => .map []
  | k + 1 => if k = 0 then .map [] else (tabTo k).put (.string (words.getD k [])) (.lit (.int .i64 k))
theorem tab_map : ∀ k, IsMap (tabTo k)
  | 0 => isMap_empty
  | k + 1 => by
    unfold tabTo
    split
    · exact isMap_empty
    · exact (tab_map k).put _ _
theorem kindTo_succ (p : Txt) (k : Nat) : kindTo p (k + 1) = if 1 ≤ k ∧ words.getD k [] = p then k else kindTo p k := rfl
theorem tab_look (p : Txt) (z : DataW Unit) : ∀ k, (tabTo k).atKey (.string p) z = (if kindTo p k = 0 then z else .lit (.int .i64 (kindTo p k))) ∧ has (tabTo k) (.string p) = decide (kindTo p k ≠ 0)
  | 0 => ⟨rfl, rfl⟩
  | k + 1 => by
    obtain ⟨h1, h2⟩ := tab_look p z k
    by_cases hk : k = 0
    · subst hk
      have e2 : tabTo (0 + 1) = .map [] := rfl
      have e : kindTo p (0 + 1) = 0 := kindTo_one p
      rw [e, e2]
      exact ⟨rfl, rfl⟩
    · have e2 : tabTo (k + 1) = (tabTo k).put (.string (words.getD k [])) (.lit (.int .i64 k)) := by
        show (if k = 0 then _ else _) = _
        rw [if_neg hk]
      by_cases hw : words.getD k [] = p
      · have e : kindTo p (k + 1) = k := by rw [kindTo_succ, if_pos ⟨by omega, hw⟩]
        rw [e, e2, hw, if_neg hk]
        exact ⟨atKey_put_same (tab_map k) (by simp [WideAt.IsKeyLit]) _ _, by rw [has_put_same (tab_map k) (by simp [WideAt.IsKeyLit])]; simp [hk]⟩
      · have hne : Lit.string p ≠ Lit.string (words.getD k []) := fun e => hw (by injection e with e; exact e.symm)
        have e : kindTo p (k + 1) = kindTo p k := by rw [kindTo_succ, if_neg (fun h => hw h.2)]
        rw [e, e2, atKey_put_other hne, has_put_other hne]
        exact ⟨h1, h2⟩
theorem lawStr : Keyed Tryz.prog 9 := string_keyed Tryz.underlying9
theorem zeroInt (w : World) : (zeroValue 3).run Tryz.prog w = .ok (.int .i64 0) w := by kernel_rfl
theorem wfSmall {k : Nat} (h : k ≤ 1000) : (Lit.int .i64 (k : Int)).wf = true := WalkArith.wf_i64 (by omega)
/-- what the map answers -/
def KindsAt (w : World) (b : Nat) : Prop := ∀ L : Txt, L.length ≤ 1048576 → (Instr.lookup 67 (.map (some b)) (.string ⟨L.toArray⟩) true).run Tryz.prog w = .ok (.tuple #[.int .i64 (kindTo L 17), .bool (decide (kindTo L 17 ≠ 0))]) w
theorem kinds_at {w : World} {b n : Nat} (h : w.ownsMap Tryz.prog 9 (plainElem Tryz.prog 3) b n (tabTo 17)) : KindsAt w b := by
  intro L hL
  have hkey : keyOf Tryz.prog 9 (.string ⟨L.toArray⟩) = some (.string L) := by
    have := Go.WideMaps.keyOf_string_mk (P := Tryz.prog) Tryz.underlying9 (s := ⟨L.toArray⟩) (by unfold maxLen; show L.toArray.size ≤ _; simp; omega)
    simpa using this
  obtain ⟨v, ps, hr, hv⟩ := h.look_ok lawStr Tryz.underlying67 (zeroInt w) (zd := .lit (.int .i64 0)) (zp := []) (plainElem_int Tryz.underlying3 (by decide)) hkey
  obtain ⟨h1, h2⟩ := tab_look L (.lit (.int .i64 0)) 17
  obtain ⟨a, rfl, hz, -⟩ := plainElem_int_inv Tryz.underlying3 hv
  obtain ⟨kk, hkk⟩ : ∃ kk, kindTo L 17 = kk := ⟨_, rfl⟩
  rw [hkk] at h1 h2 ⊢
  clear hkk
  rw [h1] at hz
  rw [hr, h2]
  have : a = (kk : Int) := by
    clear hr h1 h2 hv
    split at hz
    · rename_i h0
      simp only [Prod.mk.injEq, DataW.lit.injEq, Lit.int.injEq, true_and] at hz
      rw [h0, ← hz.1]; rfl
    · simp only [Prod.mk.injEq, DataW.lit.injEq, Lit.int.injEq, true_and] at hz
      exact hz.1.symm
  rw [this]
set_option maxRecDepth 100000 in
set_option maxHeartbeats 1600000 in
theorem kindsC (w : World) (hT : WTab w) : Calls Tryz.prog 37 #[] w fun e w' => ∃ b, e = .returned (.map (some b)) ∧ KindsAt w' b ∧ Below w.heap.size w w' := by
  have o0 := World.ownsMap_made w Tryz.prog 9 (plainElem (H := Unit) Tryz.prog 3)
  have b0 := alloc_below w (.map #[] 0)
  obtain ⟨g, hg⟩ : ∃ g, w.heap.size = g := ⟨_, rfl⟩
  rw [hg] at o0 b0 ⊢
  have hmm := @run_makeMap Tryz.prog
  have HT := (show Hid _ from hT)
  clear hT
  go_enter Tryz.func37, Tryz.ntmps37
  go_wp2
  clear hmm
  go_loopw [2] (fun iv wr => ∃ k : Nat, 1 ≤ k ∧ k ≤ 17 ∧ iv = .int .i64 k ∧ wr.ownsMap Tryz.prog 9 (plainElem Tryz.prog 3) g k (tabTo k) ∧ Below g w wr) (fun iv _ => 17 - (intOf iv).toNat)
  case atStart => exact ⟨1, by omega, by omega, rfl, o0.mono (by omega), b0⟩
  case round =>
    obtain ⟨k, hk1, hk2, rfl, o, b⟩ := hrel
    clear o0 b0
    have hsz : g ≤ wr.heap.size := by have := b.size; omega
    by_cases hlt : k < 17
    · have hkl : k < words.length := by rw [words_length]; exact hlt
      have cw := WTab.on HT.out (w' := wr) (by rw [hg]; exact b) k hkl
      have i1 : (k : Int) ≤ 16 := by omega
      have i2 : (0 : Int) ≤ k := by omega
      have i3 : (k : Int) < 17 := by omega
      have hgw : words.getD k [] = words[k] := by rw [List.getD_eq_getElem?_getD, List.getElem?_eq_getElem hkl]; rfl
      have hkey : keyOf Tryz.prog 9 (.string ⟨words[k].toArray⟩) = some (.string (words.getD k [])) := by
        have hl5 : words[k].length ≤ 5 := by
          have : ∀ q ∈ words, q.length ≤ 5 := by decide
          exact this _ (List.getElem_mem hkl)
        have := Go.WideMaps.keyOf_string_mk (P := Tryz.prog) Tryz.underlying9 (s := ⟨words[k].toArray⟩) (by unfold maxLen; show words[k].toArray.size ≤ _; simp; omega)
        rw [hgw]
        simpa using this
      obtain ⟨wd, hwd⟩ : ∃ wd, words[k] = wd := ⟨_, rfl⟩
      rw [hwd] at cw hkey
      obtain ⟨w1, r1, o1, g1⟩ := o.update lawStr Tryz.underlying67 (by unfold maxLen; omega) hkey (plainElem_int (H := Unit) Tryz.underlying3 (wfSmall (k := k) (by omega)))
      have o2 : w1.ownsMap Tryz.prog 9 (plainElem Tryz.prog 3) g (k + 1) (tabTo (k + 1)) := by
        have e : tabTo (k + 1) = (tabTo k).put (.string (words.getD k [])) (.lit (.int .i64 k)) := by
          show (if k = 0 then _ else _) = _
          rw [if_neg (by omega)]
        rw [e]; exact o1
      have b2 := b.grown g1 hsz (fun q hq => by injection hq with e; omega)
      clear o o1 g1 hgw hkey hwd b
      go_wp2
      clear r1 cw
      go_roundw
      case rel => exact ⟨k + 1, by omega, by omega, by go_num, o2, b2⟩
      case measure => simp [intOf]; omega
    · obtain rfl : k = 17 := by omega
      have HL := (show Hid _ from kinds_at o)
      clear o
      go_wp2
      go_ret
      exact ⟨_, rfl, HL.out, b⟩
end Ops
end Go.Proofs.YtjopmakbnompnaaGreatDoor
/- The program's way of parting a line at its blanks, as plain mathematics. -/
set_option linter.unusedVariables false
set_option linter.unusedSimpArgs false
namespace Go.Proofs.YtjopmakbnompnaaGreatDoor
namespace Ops
open Num

theorem at_index {L : Txt} {c : UInt8} {i : Nat} (h : Lib.indexByte L c = i) : i < L.length ∧ L = L.take i ++ c :: L.drop (i + 1) ∧ ∀ x ∈ L.take i, x ≠ c := by
  obtain ⟨h1, h2⟩ := Lib.indexByte_some h
  obtain ⟨hi, hc⟩ := List.getElem?_eq_some_iff.1 h1
  refine ⟨hi, ?_, fun x hx e => ?_⟩
  · rw [← hc, ← List.drop_eq_getElem_cons hi, List.take_append_drop]
  · obtain ⟨j, hj, rfl⟩ := List.mem_iff_getElem.1 hx
    have hj' : j < i := by simp at hj; omega
    refine h2 j hj' ?_
    rw [← e, List.getElem_take, List.getElem?_eq_getElem]
theorem none_at {L : Txt} {c : UInt8} (h : Lib.indexByte L c = -1) : ∀ x ∈ L, x ≠ c := by
  intro x hx e
  obtain ⟨j, hj, rfl⟩ := List.mem_iff_getElem.1 hx
  exact Lib.indexByte_none h j (by rw [← e, List.getElem?_eq_getElem hj])
theorem index_two (L : Txt) (c : UInt8) : Lib.indexByte L c = -1 ∨ ∃ i : Nat, Lib.indexByte L c = i := by
  have := Lib.indexByte_ge L c
  by_cases h : Lib.indexByte L c = -1
  · exact .inl h
  · exact .inr ⟨(Lib.indexByte L c).toNat, by omega⟩
theorem split_pos (c : UInt8) (L : Txt) : 1 ≤ (split c L).length := by
  rcases h : split c L with _ | ⟨p, r⟩
  · exact absurd h (split_ne c L)
  · simp
theorem split_two {c : UInt8} {L : Txt} (h : c ∈ L) : 2 ≤ (split c L).length := by
  rcases index_two L c with hi | ⟨i, hi⟩
  · exact absurd rfl (none_at hi c h)
  · obtain ⟨-, e, hp⟩ := at_index hi
    rw [e, split_at hp]
    have := split_pos c (L.drop (i + 1))
    simp; omega
theorem parts_split (c : UInt8) : ∀ (k : Nat) (L : Txt), Lib.splitK [c] 0 k L = split c L ∨ ∃ q last, Lib.splitK [c] 0 k L = q ++ [last] ∧ q.length = k ∧ c ∈ last ∧ k + 1 < (split c L).length
  | 0, L => by
    by_cases h : c ∈ L
    · exact .inr ⟨[], L, rfl, rfl, h, by have := split_two h; omega⟩
    · exact .inl (split_all (fun x hx e => h (by rw [← e]; exact hx))).symm
  | k + 1, L => by
    unfold Lib.splitK
    rw [Lib.index_one]
    rcases index_two L c with hi | ⟨i, hi⟩
    · rw [hi, if_pos (by rfl)]
      exact .inl (split_all (none_at hi)).symm
    · have hn : ¬ (((i : Int) == -1) = true) := by
        intro e
        have := beq_iff_eq.1 e
        omega
      rw [hi, if_neg hn, Int.toNat_natCast, Nat.add_zero, List.length_singleton]
      obtain ⟨-, e, hp⟩ := at_index hi
      have hs : split c L = L.take i :: split c (L.drop (i + 1)) := by
        conv => lhs; rw [e]
        exact split_at hp _
      rw [hs]
      rcases parts_split c k (L.drop (i + 1)) with h | ⟨q, last, h1, h2, h3, h4⟩
      · exact .inl (by rw [h])
      · exact .inr ⟨L.take i :: q, last, by rw [h1]; rfl, by simp [h2], h3, by simp; omega⟩
theorem glue_length (a : Txt) {l : List Txt} (h : l ≠ []) : (glue a l).length = l.length := by
  cases l with
  | nil => exact absurd rfl h
  | cons p q => rfl
theorem split_le (c : UInt8) (L : Txt) : (split c L).length ≤ L.length + 1 := by
  induction L with
  | nil => simp [split]
  | cons x r ih =>
    unfold split
    split
    · simp; omega
    · rw [glue_length _ (split_ne c r)]; simp; omega
theorem split_back (c : UInt8) : ∀ (L p : Txt) (r : List Txt), split c L = p :: r → L = p ++ r.flatMap (fun q => c :: q)
  | [], p, r, h => by
    have h1 : split c ([] : Txt) = [[]] := rfl
    rw [h1, List.cons.injEq] at h
    rw [← h.1, ← h.2]; rfl
  | x :: t, p, r, h => by
    have h0 : split c (x :: t) = if x = c then [] :: split c t else glue [x] (split c t) := rfl
    rw [h0] at h
    rcases hs : split c t with _ | ⟨p', r'⟩
    · exact absurd hs (split_ne c t)
    · have ih := split_back c t p' r' hs
      rw [hs] at h
      split at h
      · rename_i hx
        rw [List.cons.injEq] at h
        rw [← h.1, ← h.2, ih, hx]; simp
      · have hg : glue [x] (p' :: r') = (x :: p') :: r' := rfl
        rw [hg, List.cons.injEq] at h
        rw [← h.1, ← h.2, ih]; simp
theorem read_back {r : List Txt} {ns : List Int} (h : ReadN r ns) (hl : ns.length = r.length) : r = ns.map Lib.itoa := by
  apply List.ext_getElem (by simp [hl])
  intro j h1 h2
  have hj : j < ns.length := by omega
  rcases h.2 j hj h1 with ⟨-, -, -, e⟩ | ⟨e, -⟩
  · rw [List.getElem_map]; exact e.symm
  · cases e
theorem joinN_flat (ns : List Int) : joinN ns = (ns.map Lib.itoa).flatMap (fun q => 32 :: q) := by
  induction ns with
  | nil => rfl
  | cons n r ih => simp [joinN, ih]
theorem nums_of {k : Int} {ns : List Int} (h : ns.length = nargs k) : nums (ofNums k ns) = ns := by
  have := nargs_le k
  unfold nums ofNums
  simp only
  rw [← h]
  match ns, h with
  | [], _ => rfl
  | [a], _ => rfl
  | [a, b], _ => rfl
  | [a, b, c], _ => rfl
  | _ :: _ :: _ :: _ :: _, h => simp at h; omega
/-- what the program holds of the parts -/
def PartsIs (L p0 : Txt) (r : List Txt) : Prop := split 32 L = p0 :: r ∨ (r.length = 3 ∧ (∀ t, r[2]? = some t → 32 ∈ t) ∧ RdOp L z4 false)
theorem long_no {L : Txt} (h : 4 < (split 32 L).length) : RdOp L z4 false := by
  refine .inr ⟨rfl, rfl, fun o ho e => ?_⟩
  have := congrArg List.length (parts_of ho e)
  simp [nums_length] at this
  have := nargs_le o.k
  omega
theorem splitK_len (c : UInt8) : ∀ (k : Nat) (L : Txt), ∀ q ∈ Lib.splitK [c] 0 k L, q.length ≤ L.length
  | 0, L => by intro q hq; simp [Lib.splitK] at hq; simp [hq]
  | k + 1, L => by
    intro q hq
    unfold Lib.splitK at hq
    split at hq
    · simp at hq; simp [hq]
    · rcases List.mem_cons.1 hq with rfl | hq
      · exact List.length_take_le' _ _
      · have := splitK_len c k _ q hq
        rw [List.length_drop] at this; omega
theorem parts_is {L : Txt} {k : Nat} (hk : k = min 3 L.length) : ∃ p0 r, Lib.splitK [32] 0 k L = p0 :: r ∧ PartsIs L p0 r ∧ ∀ q ∈ p0 :: r, q.length ≤ L.length := by
  have hlen := splitK_len 32 k L
  rcases parts_split 32 k L with h | ⟨q, last, h1, h2, h3, h4⟩
  · obtain ⟨p0, r, hp⟩ : ∃ p0 r, split 32 L = p0 :: r := by
      rcases hs : split 32 L with _ | ⟨p, r⟩
      · exact absurd hs (split_ne 32 L)
      · exact ⟨p, r, rfl⟩
    exact ⟨p0, r, h.trans hp, .inl hp, by rw [h, hp] at hlen; exact hlen⟩
  · have hle := split_le 32 L
    have hk3 : k = 3 := by omega
    subst hk3
    match q, h2 with
    | [a, b, c], _ =>
      exact ⟨a, [b, c, last], h1, .inr ⟨rfl, fun t ht => by simp at ht; rw [← ht]; exact h3, long_no (by omega)⟩, by rw [h1] at hlen; exact hlen⟩
theorem pi_kind {L p0 : Txt} {r : List Txt} (hp : PartsIs L p0 r) (h : kindTo p0 17 = 0 ∨ ¬ r.length = nargs (kindTo p0 17)) : RdOp L z4 false := by
  rcases hp with hp | ⟨-, -, hp⟩
  · exact no_kind hp h
  · exact hp
theorem pi_num {L p0 : Txt} {r : List Txt} (hp : PartsIs L p0 r) {i : Nat} (hi : i < r.length) {n : Int} (h : RdRes r[i] n false) : RdOp L z4 false := by
  rcases hp with hp | ⟨-, -, hp⟩
  · exact no_num hp hi h
  · exact hp
theorem itoa_blank (n : Int) (h1 : -999999999 ≤ n) (h2 : n ≤ 999999999) : ¬ (32 : UInt8) ∈ Lib.itoa n := by
  rcases Int.lt_or_le n 0 with h | h
  · obtain ⟨m, rfl⟩ : ∃ m : Nat, n = -(m : Int) := ⟨(-n).toNat, by omega⟩
    intro hm
    have hneg : Lib.itoa (-(m : Int)) = 45 :: Lib.itoa (m : Int) := by rw [Lib.itoa_neg m (by omega), Lib.itoa_nonneg]
    rw [hneg] at hm
    rcases List.mem_cons.1 hm with e | hm
    · revert e; decide
    · exact (itoa_plain (by omega) _ hm).1 rfl
  · exact fun hm => (itoa_plain h _ hm).1 rfl
theorem pi_all {L p0 : Txt} {r : List Txt} {ns : List Int} (hp : PartsIs L p0 r) (hk : kindTo p0 17 ≠ 0) (hr : ReadN r ns) (hl : ns.length = r.length) (hn : r.length = nargs (kindTo p0 17)) :
    (okOp (ofNums (kindTo p0 17) ns) = true → RdOp L (ofNums (kindTo p0 17) ns) true) ∧ (okOp (ofNums (kindTo p0 17) ns) = false → RdOp L z4 false) := by
  rcases hp with hp | ⟨h3, hb, hp⟩
  · obtain ⟨t1, t2⟩ := told_op hp hk hr hl
    obtain ⟨hk1, hk2⟩ := kind_word hk
    refine ⟨fun ho => t1 ?_, fun ho => t2 ?_⟩
    · unfold showOp
      rw [if_pos ho, nums_of (by rw [hl, hn]), joinN_flat, ← read_back hr hl]
      show wordOf (kindTo p0 17 : Int) ++ _ = L
      rw [hk2]
      exact (split_back 32 L p0 r hp).symm
    · have hs : showOp (ofNums (kindTo p0 17) ns) = [] := by unfold showOp; rw [if_neg (by simp [ho])]
      rw [hs]
      intro e
      rw [← e] at hp
      have h1 : split 32 ([] : Txt) = [[]] := rfl
      rw [h1, List.cons.injEq] at hp
      exact word_ne hk1 (hk2.trans hp.1.symm)
  · exfalso
    have h2 : 2 < ns.length := by omega
    have h2' : 2 < r.length := by omega
    have := hb r[2] (by rw [List.getElem?_eq_getElem h2'])
    rcases hr.2 2 h2 h2' with ⟨-, b1, b2, e⟩ | ⟨e, -⟩
    · rw [← e] at this
      exact itoa_blank _ b1 b2 this
    · cases e
end Ops
end Go.Proofs.YtjopmakbnompnaaGreatDoor
/-
  DERIVED: THE SHELF's CONTRACTS AT THIS DUMP, IN PLAIN WORDS (tools/lay-plain.mjs out of 'YtjopmakbnompnaaGreatDoorShelfSSmall.lean', which tools/lay-shelf.mjs wrote): THE SAME DECLARATIONS UNDER THE SAME NAMES: 'import', 'namespace', 'open', 'def', 'theorem' AND NOTHING ELSE: no command of the shelf's: FOR A HAND-IN. Each laying: the table of numbers ('.._ren') and one theorem, a field a fact of the dump's own or the kernel's comparison; each contract: ONE APPLICATION.
-/
namespace Go.Proofs
open Go.Shelf
def Tryz.lays147_ren : Go.Shelf.Ren := ⟨fun | 147 => 36 | 221 => 66 | 268 => 96 | 138 => 97 | 143 => 89 | 195 => 112 | 197 => 113 | 218 => 114 | 219 => 106 | 260 => 125 | 217 => 121 | 225 => 122 | 224 => 123 | 267 => 124 | 266 => 133 | 314 => 134 | n => n, fun | 9 => 9 | 3 => 3 | 31 => 60 | 4 => 4 | 0 => 0 | 105 => 156 | 21 => 21 | 5 => 5 | 46 => 130 | 119 => 181 | 139 => 184 | 138 => 183 | 146 => 179 | 51 => 178 | n => n, fun | 1 => 2 | 3 => 5 | 4 => 6 | n => n⟩
theorem Tryz.lays147 : Go.Proofs.Lays.n147 Tryz.prog Tryz.lays147_ren := {
  mixed := by kernel_rfl
  f138 := Tryz.func97.trans (congrArg some (by kernel_rfl))
  f143 := Tryz.func89.trans (congrArg some (by kernel_rfl))
  f147 := Tryz.func36.trans (congrArg some (by kernel_rfl))
  f195 := Tryz.func112.trans (congrArg some (by kernel_rfl))
  f197 := Tryz.func113.trans (congrArg some (by kernel_rfl))
  f217 := Tryz.func121.trans (congrArg some (by kernel_rfl))
  f218 := Tryz.func114.trans (congrArg some (by kernel_rfl))
  f219 := Tryz.func106.trans (congrArg some (by kernel_rfl))
  f221 := Tryz.func66.trans (congrArg some (by kernel_rfl))
  f224 := Tryz.func123.trans (congrArg some (by kernel_rfl))
  f225 := Tryz.func122.trans (congrArg some (by kernel_rfl))
  f260 := Tryz.func125.trans (congrArg some (by kernel_rfl))
  f266 := Tryz.func133.trans (congrArg some (by kernel_rfl))
  f267 := Tryz.func124.trans (congrArg some (by kernel_rfl))
  f268 := Tryz.func96.trans (congrArg some (by kernel_rfl))
  f314 := Tryz.func134.trans (congrArg some (by kernel_rfl))
  t0 := Tryz.underlying0
  a0 := Tryz.isAgg0
  z0 := Tryz.sizeOf0
  v0 := Tryz.zeroValue0
  t3 := Tryz.underlying3
  a3 := Tryz.isAgg3
  z3 := Tryz.sizeOf3
  v3 := Tryz.zeroValue3
  t4 := Tryz.underlying4
  a4 := Tryz.isAgg4
  z4 := Tryz.sizeOf4
  v4 := Tryz.zeroValue4
  t5 := Tryz.underlying5
  a5 := Tryz.isAgg5
  z5 := Tryz.sizeOf5
  v5 := Tryz.zeroValue5
  t9 := Tryz.underlying9
  a9 := Tryz.isAgg9
  z9 := Tryz.sizeOf9
  v9 := Tryz.zeroValue9
  t21 := Tryz.underlying21
  a21 := Tryz.isAgg21
  z21 := Tryz.sizeOf21
  v21 := Tryz.zeroValue21
  t31 := Tryz.underlying60
  a31 := Tryz.isAgg60
  z31 := Tryz.sizeOf60
  v31 := Tryz.zeroValue60
  t46 := Tryz.underlying130
  a46 := Tryz.isAgg130
  z46 := Tryz.sizeOf130
  v46 := Tryz.zeroValue130
  t51 := Tryz.underlying178
  a51 := Tryz.isAgg178
  z51 := Tryz.sizeOf178
  v51 := Tryz.zeroValue178
  t105 := Tryz.underlying156
  a105 := Tryz.isAgg156
  z105 := Tryz.sizeOf156
  v105 := Tryz.zeroValue156
  t119 := Tryz.underlying181
  a119 := Tryz.isAgg181
  z119 := Tryz.sizeOf181
  t138 := Tryz.underlying183
  a138 := Tryz.isAgg183
  z138 := Tryz.sizeOf183
  v138 := Tryz.zeroValue183
  t139 := Tryz.underlying184
  a139 := Tryz.isAgg184
  z139 := Tryz.sizeOf184
  v139 := Tryz.zeroValue184
  t146 := Tryz.underlying179
  a146 := Tryz.isAgg179
  z146 := Tryz.sizeOf179
  v146 := Tryz.zeroValue179
  g1 := by kernel_rfl
  g3 := by kernel_rfl
  g4 := by kernel_rfl }
def Tryz.lays104_ren : Go.Shelf.Ren := ⟨fun | 104 => 58 | 211 => 90 | 207 => 107 | n => n, fun | 9 => 9 | 4 => 4 | 24 => 86 | 3 => 3 | n => n, fun | n => n⟩
theorem Tryz.lays104 : Go.Proofs.Lays.n104 Tryz.prog Tryz.lays104_ren := {
  mixed := by kernel_rfl
  f104 := Tryz.func58.trans (congrArg some (by kernel_rfl))
  f207 := Tryz.func107.trans (congrArg some (by kernel_rfl))
  f211 := Tryz.func90.trans (congrArg some (by kernel_rfl))
  t3 := Tryz.underlying3
  a3 := Tryz.isAgg3
  z3 := Tryz.sizeOf3
  v3 := Tryz.zeroValue3
  t4 := Tryz.underlying4
  a4 := Tryz.isAgg4
  z4 := Tryz.sizeOf4
  v4 := Tryz.zeroValue4
  t9 := Tryz.underlying9
  a9 := Tryz.isAgg9
  z9 := Tryz.sizeOf9
  v9 := Tryz.zeroValue9
  t24 := Tryz.underlying86
  a24 := Tryz.isAgg86
  z24 := Tryz.sizeOf86
  v24 := Tryz.zeroValue86 }
def Tryz.lays143_ren : Go.Shelf.Ren := ⟨fun | 143 => 89 | 219 => 106 | 217 => 121 | 225 => 122 | 224 => 123 | 267 => 124 | 266 => 133 | 314 => 134 | n => n, fun | 9 => 9 | 3 => 3 | 4 => 4 | 5 => 5 | 46 => 130 | 146 => 179 | 51 => 178 | n => n, fun | 1 => 2 | n => n⟩
theorem Tryz.lays143 : Go.Proofs.Lays.n143 Tryz.prog Tryz.lays143_ren := {
  mixed := by kernel_rfl
  f143 := Tryz.func89.trans (congrArg some (by kernel_rfl))
  f217 := Tryz.func121.trans (congrArg some (by kernel_rfl))
  f219 := Tryz.func106.trans (congrArg some (by kernel_rfl))
  f224 := Tryz.func123.trans (congrArg some (by kernel_rfl))
  f225 := Tryz.func122.trans (congrArg some (by kernel_rfl))
  f266 := Tryz.func133.trans (congrArg some (by kernel_rfl))
  f267 := Tryz.func124.trans (congrArg some (by kernel_rfl))
  f314 := Tryz.func134.trans (congrArg some (by kernel_rfl))
  t3 := Tryz.underlying3
  a3 := Tryz.isAgg3
  z3 := Tryz.sizeOf3
  v3 := Tryz.zeroValue3
  t4 := Tryz.underlying4
  a4 := Tryz.isAgg4
  z4 := Tryz.sizeOf4
  v4 := Tryz.zeroValue4
  t5 := Tryz.underlying5
  a5 := Tryz.isAgg5
  z5 := Tryz.sizeOf5
  v5 := Tryz.zeroValue5
  t9 := Tryz.underlying9
  a9 := Tryz.isAgg9
  z9 := Tryz.sizeOf9
  v9 := Tryz.zeroValue9
  t46 := Tryz.underlying130
  a46 := Tryz.isAgg130
  z46 := Tryz.sizeOf130
  v46 := Tryz.zeroValue130
  t51 := Tryz.underlying178
  a51 := Tryz.isAgg178
  z51 := Tryz.sizeOf178
  v51 := Tryz.zeroValue178
  t146 := Tryz.underlying179
  a146 := Tryz.isAgg179
  z146 := Tryz.sizeOf179
  v146 := Tryz.zeroValue179
  g1 := by kernel_rfl }
end Go.Proofs
/- What the library's SplitN, Index and CutSuffix answer, as the program calls them; its first line. -/
set_option linter.unusedVariables false
set_option linter.unusedSimpArgs false
namespace Go.Proofs.YtjopmakbnompnaaGreatDoor
open Go.RowKit
namespace Ops
open Bas Flat Strs

theorem cells_own (w : World) (ps : List ByteArray) (n : Nat) (hn : ps.length ≤ n) (hm : n ≤ 1000) (qs : List Txt) (hq : ps.map (fun x => x.data.toList) = qs) :
    OwnsS w.heap.size (w.alloc (.cells (Lib.cellsOf ps n) 9)) (.slice (some ⟨w.heap.size, 0, none⟩) ps.length n) qs := by
  subst hq
  have hf : fv strEl (ps.map (fun x => x.data.toList)) = ps.map Value.string := by
    unfold fv
    induction ps with
    | nil => rfl
    | cons x r ih => 
      have := ih (by simp at hn; omega)
      simp only [List.map_cons, List.flatMap_cons, this]
      show [Value.string ⟨x.data.toList.toArray⟩] ++ _ = _
      simp
  show World.ownsRow _ _ _ 1 _ _ _
  rw [hf]
  have hz : (Lib.cellsOf ps n).size = n := Lib.cellsOf_size hn
  refine ⟨by simp, .inr ⟨w.heap.size, n, Lib.cellsOf ps n, by simp, Nat.le_refl _, heap_alloc_new w _, by simpa using hn, by unfold maxLen; omega, by rw [hz]; omega, ?_⟩⟩
  unfold Lib.cellsOf
  simp
theorem hiStr : (Tryz.prog.info? (Tryz.lays147_ren.t 9)).map (fun i => (i.zero, i.size, i.bytes)) = some (some (.string ByteArray.empty), 1, 16) := by kernel_rfl
theorem blank_index (x : ByteArray) : Lib.indexB x ⟨#[32]⟩ = Lib.indexByte x.data.toList 32 := Lib.index_one _ _
set_option maxRecDepth 100000 in
theorem genC (s : ByteArray) (hs : s.size ≤ 1048576) (w : World) :
    Calls Tryz.prog 66 #[.string s, .string ⟨#[32]⟩, .int .i64 0, .int .i64 4] w fun e w' => ∃ v', e = .returned v' ∧ OwnsS w.heap.size w' v' (Lib.splitK [32] 0 (min 3 s.size) s.data.toList) ∧ Below w.heap.size w w' := by
  have hc : Calls Tryz.prog (Tryz.lays147_ren.f 138) #[.string s, .string ⟨#[32]⟩] w fun e w' => e = .returned (.int .i64 (Lib.countB s ⟨#[32]⟩)) ∧ w' = w := by
    refine (Any.strings_Count_one { Tryz.lays147 with } s 32 w).mono fun e w' ⟨he, hw⟩ => ⟨?_, hw⟩
    rw [he]
    show _ = Ending.returned (Value.int .i64 ((Lib.count s.data.toList [32] : Nat) : Int))
    rw [Lib.count_one]
    rfl
  have := Any.strings_genSplit_core { Tryz.lays147 with } hiStr s ⟨#[32]⟩ 0 4 (min 4 (s.size + 1)) w (by omega) (by decide) (by decide)
    (fun x c hx => by
      refine (Any.strings_Index_one { Tryz.lays147 with } x 32 _).mono fun e w' ⟨he, hw⟩ => ⟨?_, hw⟩
      rw [he, blank_index])
    hc (by decide) (by decide) (by rw [if_neg (by decide)]; omega)
  refine this.mono ?_
  rintro e w' ⟨rfl, rfl⟩
  have hk : min 4 (s.size + 1) - 1 = min 3 s.size := by omega
  rw [hk]
  have hl := Lib.splitB_length_le ⟨#[32]⟩ 0 (min 3 s.size) s
  have := cells_own w (Lib.splitB ⟨#[32]⟩ 0 (min 3 s.size) s) (min 4 (s.size + 1)) (by omega) (by omega) _ (Lib.splitB_data _ _ _ _)
  exact ⟨_, rfl, this, alloc_below w _⟩
set_option maxRecDepth 100000 in
theorem splitNC (L : Txt) (hs : L.length ≤ 1048576) (w : World) :
    Calls Tryz.prog 36 #[.string ⟨L.toArray⟩, .string ⟨#[32]⟩, .int .i64 4] w fun e w' => ∃ v' p0 r, e = .returned v' ∧ OwnsS w.heap.size w' v' (p0 :: r) ∧ PartsIs L p0 r ∧ (∀ q ∈ p0 :: r, q.length ≤ L.length) ∧ Below w.heap.size w w' := by
  have hz : (⟨L.toArray⟩ : ByteArray).size = L.length := by show L.toArray.size = _; simp
  have c := genC ⟨L.toArray⟩ (by rw [hz]; exact hs) w
  have hL : (⟨L.toArray⟩ : ByteArray).data.toList = L := by simp
  rw [hz, hL] at c
  obtain ⟨p0, r, e, hp, hl⟩ := parts_is (L := L) rfl
  rw [e] at c
  go_enter Tryz.func36, Tryz.ntmps36
  go_wp2_with fail
  refine c.mono ?_
  rintro e w1 ⟨v1, rfl, S1, b1⟩
  go_wp2
  go_ret
  exact ⟨_, p0, r, rfl, S1, hp, hl, b1⟩
theorem cutC (L : Txt) (hs : L.length ≤ 1048576) (w : World) :
    Calls Tryz.prog 58 #[.string ⟨L.toArray⟩, .string ⟨#[10]⟩] w fun e w' => e = .returned (.tuple #[.string ⟨(Lib.trimSuffix L [10]).toArray⟩, .bool (Lib.hasSuffix L [10])]) ∧ w = w' := by
  have := Any.strings_CutSuffix Tryz.lays104 ⟨L.toArray⟩ ⟨#[10]⟩ w (by show L.toArray.size ≤ _; simp; omega)
  refine this.mono ?_
  rintro e w' ⟨rfl, rfl⟩
  exact ⟨by first | rfl | simp, rfl⟩
/-- the first line, with its end, and what stands behind it -/
def firstOf (L : Txt) : Txt × Txt := if Lib.indexByte L 10 = -1 then (L, []) else (L.take ((Lib.indexByte L 10).toNat + 1), L.drop ((Lib.indexByte L 10).toNat + 1))
set_option maxRecDepth 100000 in
set_option maxHeartbeats 800000 in
theorem firstC (L : Txt) (hs : L.length ≤ 1048576) (w : World) :
    Calls Tryz.prog 57 #[.string ⟨L.toArray⟩] w fun e w' => e = .returned (.tuple #[.string ⟨(firstOf L).1.toArray⟩, .string ⟨(firstOf L).2.toArray⟩]) ∧ Below w.heap.size w w' := by
  have c := Any.strings_Index_one { Tryz.lays143 with } ⟨L.toArray⟩ 10 w
  have hL : (⟨L.toArray⟩ : ByteArray).data.toList = L := by simp
  rw [hL] at c
  rcases index_two L 10 with hi | ⟨i, hi⟩
  · have HF : Hid (firstOf L = (L, [])) := by show _ = _; unfold firstOf; rw [if_pos hi]
    rw [hi] at c
    go_enter Tryz.func57, Tryz.ntmps57
    go_wp2_with fail
    refine c.mono ?_
    rintro e w1 ⟨rfl, rfl⟩
    clear c
    go_wp2
    go_ret2
    rw [HF.out]
    exact ⟨rfl, Below.refl _ _⟩
  · have HF : Hid (firstOf L = (L.take (i + 1), L.drop (i + 1))) := by
      show _ = _
      unfold firstOf
      rw [hi, if_neg (by omega), Int.toNat_natCast]
    obtain ⟨hlt, -, -⟩ := at_index hi
    rw [hi] at c
    have i1 : ¬ (i : Int) < 0 := by omega
    have i2 : (i : Int) + 1 ≤ L.length := by omega
    have i3 : (0 : Int) ≤ (i : Int) + 1 := by omega
    have HX : Hid (∀ a b, (⟨L.toArray⟩ : ByteArray).extract a b = ⟨((L.drop a).take (b - a)).toArray⟩) := fun a b => by rw [piece]
    have hz : (⟨L.toArray⟩ : ByteArray).size = L.length := by show L.toArray.size = _; simp
    obtain ⟨n, hn⟩ : ∃ n, L.length = n := ⟨_, rfl⟩
    rw [hn] at hz i2 hs
    go_enter Tryz.func57, Tryz.ntmps57
    go_wp2_with fail
    refine c.mono ?_
    rintro e w1 ⟨rfl, rfl⟩
    clear c
    go_wp2_with fail
    go_quiet (fail)
    go_wp2
    go_ret2
    rw [HF.out]
    refine ⟨?_, ⟨rfl, rfl, rfl, Nat.le_refl _, fun _ _ => rfl⟩⟩
    have e1 := HX.out 0 (i + 1)
    have e2 := HX.out (i + 1) n
    rw [List.take_of_length_le (by simp; omega)] at e2
    rw [← e2]
    simp only [Nat.sub_zero, List.drop_zero] at e1
    rw [← e1]
    rfl
end Ops
end Go.Proofs.YtjopmakbnompnaaGreatDoor
