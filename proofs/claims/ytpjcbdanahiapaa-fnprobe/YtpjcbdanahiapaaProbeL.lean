/- Probes: a probe's four numbers; right probes; what a step makes of one; the laws' own conversion and comparison. -/
import Derived.Test.YtpjcbdanahiapaaWordOk
import Derived.Test.YtpjcbdanahiapaaOpL
set_option linter.unusedVariables false
set_option linter.unusedSimpArgs false
namespace Go.Proofs.Ytpjcbdanahiapaa
open Go.RowKit
namespace Probes

/-- a probe -/
structure P4 where
  cell : Int
  phase : Int
  ver : Int
  val : Int
abbrev P4.agg (p : P4) : Value := .agg #[.int .i64 p.cell, .int .i64 p.phase, .int .i64 p.ver, .int .i64 p.val]
def zero : P4 := ⟨0, 0, 0, 0⟩
/-- is it right? -/
def probeOk (p : P4) : Bool := Ops.inn 0 7 p.cell && Ops.inn 0 4 p.phase && Ops.inn 0 1000000 p.ver && Ops.inn 0 65535 p.val
/-- what a step makes of one, over the word of its cell -/
def stepF (x : Words.W3) (rv : Int) (p : P4) : P4 :=
  if p.phase = 0 then (if x.own = 0 ∧ x.ver ≤ rv then ⟨p.cell, 1, x.ver, p.val⟩ else ⟨p.cell, 4, p.ver, p.val⟩)
  else if p.phase = 1 then ⟨p.cell, 2, p.ver, x.val⟩
  else if p.phase = 2 then (if x.own = 0 ∧ x.ver = p.ver then ⟨p.cell, 3, p.ver, p.val⟩ else ⟨p.cell, 4, p.ver, p.val⟩)
  else p
/-- the word of cell i -/
def wordAt (ws : List Words.W3) (i : Int) : Words.W3 := ws.getD i.toNat Words.nought
def stepOf (c : Int) (ws : List Words.W3) (rv : Int) (p : P4) : P4 := if (Words.memOk c ws && probeOk p) = true then stepF (wordAt ws p.cell) rv p else p

theorem probeOk_out {p : P4} (h : probeOk p = true) : (0 ≤ p.cell ∧ p.cell ≤ 7) ∧ (0 ≤ p.phase ∧ p.phase ≤ 4) ∧ (0 ≤ p.ver ∧ p.ver ≤ 1000000) ∧ (0 ≤ p.val ∧ p.val ≤ 65535) := by
  unfold probeOk Ops.inn at h
  simp at h
  omega
theorem probeOk_mk {p : P4} (h0 : 0 ≤ p.cell) (h1 : p.cell ≤ 7) (h2 : 0 ≤ p.phase) (h3 : p.phase ≤ 4) (h4 : 0 ≤ p.ver) (h5 : p.ver ≤ 1000000) (h6 : 0 ≤ p.val) (h7 : p.val ≤ 65535) : probeOk p = true := by
  unfold probeOk Ops.inn
  simp
  omega
theorem ret_probe {p : P4} {b : Bool} (h : probeOk p = b) : Ending.returned (.bool b) = .returned (.bool (probeOk p)) := by rw [h]
/-- what lies at cell k of a memory that is seen -/
theorem word_of {B : Nat} {w : World} {a : Option Addr} {n cap : Nat} {ws : List Words.W3} (hv : Words.Sees B w (.slice a n cap) ws) (k : Nat) (hk : k < ws.length) :
    ∃ b off, a = some ⟨b, off, none⟩ ∧ b < B ∧ Words.At w b (off + k * 3) (wordAt ws k) := by
  obtain ⟨a', cap', he, -, -, h3⟩ := hv
  obtain ⟨b, off, rfl, hb, hc⟩ := h3 (fun h => by simp [h] at hk)
  have e : a = some ⟨b, off, none⟩ := by simp at he; exact he.1
  have hx : wordAt ws k = ws[k] := by simp [wordAt, List.getD, hk]
  exact ⟨b, off, e, hb, by rw [hx]; exact hc k hk⟩

set_option maxRecDepth 100000 in
set_option maxHeartbeats 400000 in
theorem toProbeC (p : P4) (w : World) :
    Calls Try.prog 15 #[p.agg] w fun e w' => e = .returned p.agg ∧ Below w.heap.size w w' := by
  go_enter Try.func15, Try.ntmps15
  go_wp2
  exact bodyPost_ret (v := p.agg) (by simp [results, Try.results15, go_sem]) rfl ⟨rfl, (((Below.refl _ _).alloc (Nat.le_refl _) _).alloc (by simp) _).alloc (by simp; omega) _⟩

set_option maxRecDepth 100000 in
set_option maxHeartbeats 400000 in
theorem eqProbeC (p : P4) (w : World) :
    Calls Try.prog 18 #[p.agg, p.agg] w fun e w' => e = .returned (.bool true) ∧ Below w.heap.size w w' := by
  go_enter Try.func18, Try.ntmps18
  go_wp2
  go_ret
  exact ⟨rfl, ((Below.refl _ _).alloc (Nat.le_refl _) _).alloc (by simp) _⟩
end Probes
end Go.Proofs.Ytpjcbdanahiapaa
