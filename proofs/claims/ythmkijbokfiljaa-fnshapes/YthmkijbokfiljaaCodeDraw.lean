/- Some code is drawn, right or spoilt; out of a text of bytes. -/
import Derived.Test.YthmkijbokfiljaaProgDraw
import Derived.Test.YthmkijbokfiljaaBendDraw
set_option linter.unusedVariables false
set_option linter.unusedSimpArgs false
namespace Go.Proofs.Ythmkijbokfiljaa
open Go.RowKit
namespace Ops
open Bas Flat Draw

set_option maxRecDepth 100000 in
set_option maxHeartbeats 3200000 in
theorem anyCodeE {B g : Nat} {v : Value} {l : List UInt8} {w : World} (h : Dr B g v l w) :
    Calls Try.prog 14 #[.pointer (some ⟨g, 0, none⟩)] w (CodePost 1030 B g v l w) := by
  have hlt := h.lt
  go_enter Try.func14, Try.ntmps14
  go_wp2_with fail
  refine (onceE h 3).mono ?_
  rintro e w1 ⟨z, rfl, D1, G1⟩
  clear h
  go_wp2_with fail
  refine (progE D1 z).mono ?_
  rintro e w2 ⟨vc, vk, xs, kss, rfl, O2, hx, -, -, D2, G2⟩
  obtain ⟨ac, cc, rfl⟩ := O2.c.form
  obtain ⟨ak, ck, rfl⟩ := O2.k.form
  obtain ⟨n, hn⟩ : ∃ n, xs.length = n := ⟨_, rfl⟩
  have C2 := O2.c
  rw [hn] at C2 hx ⊢
  obtain ⟨nk, hnk⟩ : ∃ n, kss.length = n := ⟨_, rfl⟩
  rw [hnk]
  have P2 := Blk.new w2 #[.slice ac n cc, .slice ak nk ck] 30
  have C3 := C2.on (alloc_below w2 (.cells #[.slice ac n cc, .slice ak nk ck] 30)) (Nat.le_refl _)
  have D3 := D2.alloc (.cells #[.slice ac n cc, .slice ak nk ck] 30)
  have G3 := grown_new (grown_trans G1 G2) (.cells #[.slice ac n cc, .slice ak nk ck] 30)
  have hw1 := G1.size
  have hw2 := G2.size
  clear O2 C2 D1 D2 G1 G2 hnk
  go_wp2_with fail
  refine (onceE D3 3).mono ?_
  rintro e w4 ⟨y, rfl, D4, G4⟩
  have P4 := P2.grown G4 (fun e => by injection e; omega)
  have C4 := C3.grown G4 (fun k hk e => by injection e with e; have := C3.at k hk; omega)
  have G5 := grown_trans G3 G4
  have x0 := P4.cell 0
  clear P2 C3 D3 G3 G4
  cases y
  · go_wp2
    go_ret
    exact ⟨_, xs, rfl, C4.mono hw1, by omega, D4, G5⟩
  · go_wp2_with fail
    have hw4 := G5.size
    refine (bendE D4 _ xs w4.heap.size C4.sees (Nat.le_refl _) (by omega)).mono ?_
    rintro e w5 ⟨v5, ys, rfl, C5, hy, D5, G6⟩
    clear x0
    go_wp2
    go_ret
    exact ⟨_, ys, rfl, C5.mono hw4, hy, D5, grown_trans G5 G6⟩

def CodeDrawn (w : World) (e : Ending) (w' : World) : Prop := ∃ v' ys, e = .returned v' ∧ Owns4 w.heap.size w' v' ys ∧ ys.length ≤ 1030 ∧ Below w.heap.size w w'
set_option maxRecDepth 100000 in
theorem drawCodeOkC (B : Nat) (v : Value) (l : List UInt8) (w : World) (hC : Draw.Code B w v l) (hB : B ≤ w.heap.size) (hl : l.length ≤ 1048576) :
    Calls Try.prog 5 #[v] w (CodeDrawn w) := by
  have c0 := newC B v l w hC hB hl
  go_enter Try.func5, Try.ntmps5
  go_wp2_with fail
  refine c0.mono ?_
  rintro e w1 ⟨rfl, C1, G1⟩
  have D1 : Dr B w.heap.size v l w1 := ⟨_, C1⟩
  have b1 : Below w.heap.size w w1 := (Below.refl _ _).grown G1 (Nat.le_refl _) (fun k hk => by cases hk)
  go_wp2_with fail
  refine (anyCodeE D1).mono ?_
  rintro e w2 ⟨v2, ys, rfl, C2, hy, D2, G2⟩
  go_wp2
  go_ret
  exact ⟨_, ys, rfl, C2.mono b1.size, hy, b1.grown G2 b1.size (fun k hk => by cases hk; exact Nat.le_refl _)⟩
end Ops
end Go.Proofs.Ythmkijbokfiljaa
