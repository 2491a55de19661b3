/- Some code is spoilt in one place: what comes of it is some code. -/
import Derived.Test.YthmkijbokfiljaaGenDraw
import Derived.Deep.RegionHeld3
set_option linter.unusedVariables false
set_option linter.unusedSimpArgs false
namespace Go.Proofs.Ythmkijbokfiljaa
open Go.RowKit
namespace Ops
open Bas Flat Draw

/-- where a row that is not empty lies -/
theorem own_some {α : Type} {E : El α} {e : TypeId} {B : Nat} {w : World} {a : Option Addr} {n cap : Nat} {xs : List α} (h : Owns E e B w (.slice a n cap) xs) (hn : 0 < xs.length) : ∃ q, a = some ⟨q, 0, none⟩ ∧ B ≤ q ∧ q < w.heap.size ∧ n = xs.length ∧ n ≤ cap := by
  obtain ⟨h1, h2⟩ := h
  rcases h2 with ⟨h', h0⟩ | ⟨q, c, cur, h', hB, hg, hle, _⟩
  · omega
  · simp only [Value.slice.injEq] at h'
    obtain ⟨rfl, rfl, rfl⟩ := h'
    exact ⟨q, rfl, hB, (Array.getElem?_eq_some_iff.1 hg).1, rfl, hle⟩
section
variable {B g : Nat} {v : Value} {l : List UInt8} {w W W' : World} {out : Value} {xs : List O4}
theorem GSt.drew (h : GSt B g v l w W out xs) : GSt B g v l w W.drew out xs := { D := h.D.drew, G := grown_drew h.G, O := h.O.drew, lt := h.lt }
/-- out[k] = x -/
theorem GSt.put {q n cap : Nat} (h : GSt B g v l w W (.slice (some ⟨q, 0, none⟩) n cap) xs) (hn : xs.length = n) (k : Nat) (hk : k < xs.length) (x : O4) : GSt B g v l w (set4 W q k x) (.slice (some ⟨q, 0, none⟩) n cap) (xs.set k x) := by
  have hlt := h.lt
  obtain ⟨h1, h2⟩ := h.O.at q rfl
  have hO := h.O
  unfold Owns4 Owns at hO
  rw [hn] at hO
  have := own_set4 hO k hk x
  refine { D := (((h.D.set (by omega) _ _).set (by omega) _ _).set (by omega) _ _).set (by omega) _ _, G := grown_store (grown_store (grown_store (grown_store h.G h1 _ _) h1 _ _) h1 _ _) h1 _ _, O := ?_, lt := hlt }
  unfold Owns4 Owns
  rw [List.length_set, hn]; exact this
end

theorem GSt.putB {B g : Nat} {v : Value} {l : List UInt8} {w W : World} {xs : List O4} {q n cap : Nat} (h : GSt B g v l w W (.slice (some ⟨q, 0, none⟩) n cap) xs) (hn : xs.length = n) (k : Nat) (hk : k < xs.length) (z : Int) : GSt B g v l w (W.setCell ⟨q, k * 4 + 2, none⟩ (.int .i64 z)) (.slice (some ⟨q, 0, none⟩) n cap) (xs.set k ⟨xs[k].k, xs[k].a, z, xs[k].c⟩) := by
  have hlt := h.lt
  obtain ⟨h1, h2⟩ := h.O.at q rfl
  have hO := h.O
  unfold Owns4 Owns at hO
  rw [hn] at hO
  have := own_set (E := opEl) hO k hk 2 (by decide) (.int .i64 z) ⟨xs[k].k, xs[k].a, z, xs[k].c⟩ rfl
  refine { D := h.D.set (by omega) _ _, G := grown_store h.G h1 _ _, O := ?_, lt := hlt }
  unfold Owns4 Owns
  rw [List.length_set, hn]; exact this

theorem own_take {α : Type} {E : El α} {e : TypeId} {B q n cap k : Nat} {w : World} {xs : List α} (h : Owns E e B w (.slice (some ⟨q, 0, none⟩) n cap) xs) (hk : k ≤ xs.length) : Owns E e B w (.slice (some ⟨q, 0, none⟩) k cap) (xs.take k) := by
  obtain ⟨h1, h2⟩ := h
  have hl : (xs.take k).length = k := by simp; omega
  rcases h2 with ⟨h', _⟩ | ⟨g', cap', cur, h', hb, hg, h3, h4, h5, h6⟩
  · cases h'
  · simp only [Value.slice.injEq, Option.some.injEq, Addr.mk.injEq, and_true] at h'
    obtain ⟨rfl, hl', rfl⟩ := h'
    refine ⟨by rw [fv_length], .inr ⟨q, cap, cur, by rw [hl], hb, hg, by omega, h4, h5, ?_⟩⟩
    have e1 : xs = xs.take k ++ xs.drop k := (List.take_append_drop k xs).symm
    have := congrArg (List.take (k * E.sz)) h6
    rw [List.take_take, Nat.min_eq_left (Nat.mul_le_mul_right _ hk)] at this
    rw [hl, this, e1, fv_append, List.take_append_of_le_length (by rw [fv_length, hl]; exact Nat.le_refl _), List.take_of_length_le (by rw [fv_length, hl]; exact Nat.le_refl _), ← e1]
/-- append(out[:k], out[k+1:]...) -/
theorem GSt.cut {B g : Nat} {v : Value} {l : List UInt8} {w W : World} {xs : List O4} {q n cap : Nat} (h : GSt B g v l w W (.slice (some ⟨q, 0, none⟩) n cap) xs) (hn : xs.length = n) (k : Nat) (hk : k < xs.length) (hcap : n ≤ cap) (hlen : n ≤ 1000) :
    ∃ v' W', (Builtin.append_ #[24, 24] 24 #[.slice (some ⟨q, 0, none⟩) k cap, .slice (if cap = k + 1 then some ⟨q, 0, none⟩ else some ⟨q, (k + 1) * 4, none⟩) (n - (k + 1)) (cap - (k + 1))]).run Try.prog W = .ok v' W' ∧ GSt B g v l w W' v' (xs.take k ++ xs.drop (k + 1)) := by
  have hm : cap ≤ maxLen := by obtain ⟨a, c, e, -, h2, -⟩ := h.O.sees; simp only [Value.slice.injEq] at e; omega
  have hO := h.O
  unfold Owns4 Owns at hO
  rw [hn] at hO
  have hS : Sees4 W.heap.size W (.slice (if cap = k + 1 then some ⟨q, 0, none⟩ else some ⟨q, (k + 1) * 4, none⟩) (n - (k + 1)) (cap - (k + 1))) (xs.drop (k + 1)) := by
    refine ⟨_, cap - (k + 1), by rw [List.length_drop, hn], by rw [List.length_drop, hn]; omega, by omega, fun hne => ?_⟩
    have hlt : k + 1 < n := by
      rcases Nat.lt_or_ge (k + 1) n with h' | h'
      · exact h'
      · exact absurd (List.drop_of_length_le (by omega)) hne
    refine ⟨q, (k + 1) * 4, by rw [if_neg (by omega)], (own_low (E := opEl) hO).2, fun j hj => ?_⟩
    have hj' : k + 1 + j < xs.length := by simp at hj; omega
    have := own_at (E := opEl) hO (k + 1 + j) hj'
    rw [List.getElem_drop]
    rw [show (k + 1) * 4 + j * opEl.sz = (k + 1 + j) * opEl.sz by show (k + 1) * 4 + j * 4 = (k + 1 + j) * 4; omega]
    exact this
  have h' : GSt B g v l w W (.slice (some ⟨q, 0, none⟩) k cap) (xs.take k) := { D := h.D, G := h.G, O := own_take h.O (by omega), lt := h.lt }
  obtain ⟨v', W', hr, P, -⟩ := h'.cat _ _ _ hS (by simp; omega)
  exact ⟨v', W', hr, P⟩

def CodePost (m : Nat) (B g : Nat) (v : Value) (l : List UInt8) (w : World) (e : Ending) (w' : World) : Prop := ∃ v' ys, e = .returned v' ∧ Owns4 w.heap.size w' v' ys ∧ ys.length ≤ m ∧ Dr B g v l w' ∧ w.grownBy w' (some g)

set_option maxRecDepth 100000 in
set_option maxHeartbeats 8000000 in
theorem bendE {B g : Nat} {v : Value} {l : List UInt8} {w : World} (h : Dr B g v l w) (u : Value) (xs : List O4) (Bc : Nat) (hu : Sees4 Bc w u xs) (hBc : Bc ≤ w.heap.size) (hlen : xs.length ≤ 1000) :
    Calls Try.prog 32 #[.pointer (some ⟨g, 0, none⟩), u] w (CodePost 1030 B g v l w) := by
  have P0 : GSt B g v l w (w.alloc (.cells #[] 33)) (.slice (some ⟨w.heap.size, 0, none⟩) 0 0) [] :=
    { D := h.alloc _, G := World.grownBy_alloc w _ _, O := World.ownsRow_lit w #[] 0 (Nat.le_refl _) (by simp [maxLen]) rfl, lt := h.lt }
  obtain ⟨o1, W1, hr1, P1, -⟩ := P0.cat u xs Bc (hu.on (alloc_below w _) hBc) (by simp; omega)
  rw [List.nil_append] at P1
  obtain ⟨a, ucap, rfl⟩ := hu.form
  obtain ⟨a1, cap1, rfl⟩ := P1.O.form
  obtain ⟨n, hn⟩ : ∃ n, xs.length = n := ⟨_, rfl⟩
  rw [hn] at P1 hr1 hlen ⊢
  clear P0 hu h
  go_enter Try.func32, Try.ntmps32
  by_cases hn0 : n = 0
  · have d0 : ((n : Int) == 0) = true := by simp [hn0]
    go_wp2_with (at_builtin; refine wpList_app _ rfl _ _ 24 rfl _ _ _ _ rfl rfl hr1 ?_)
    go_ret
    exact ⟨_, [⟨9, 0, 0, 0⟩], rfl, World.ownsRow_lit W1 #[.int .i64 9, .int .i64 0, .int .i64 0, .int .i64 0] 1 P1.G.size (by simp [maxLen]) rfl, by simp, P1.D.alloc _, grown_new P1.G _⟩
  obtain ⟨q, rfl, hq1, hq2, -, hcap⟩ := own_some P1.O (by omega)
  have d0 : ((n : Int) == 0) = false := by simp [hn0]
  have hnI : (0 : Int) < n := by omega
  go_wp2_with (at_builtin; refine wpList_app _ rfl _ _ 24 rfl _ _ _ _ rfl rfl hr1 ?_)
  clear hr1
  refine (belowE P1.D n hnI).mono ?_
  rintro e w2 ⟨k', rfl, k0, k1, D, G⟩
  have P := P1.draw D G
  clear D G P1 hq2
  obtain ⟨k, rfl⟩ := Int.eq_ofNat_of_zero_le k0
  go_wp2_with fail
  refine (belowE P.D 6 (by omega)).mono ?_
  rintro e w3 ⟨c, rfl, c0, c1, D, G⟩
  have P := P.draw D G
  clear D G
  have hkx : k < xs.length := by omega
  by_cases e0 : c = 0
  · subst e0
    go_wp2_with fail
    refine (anyE P.D).mono ?_
    rintro e w4 ⟨xk, xa, xb, xc, rfl, -, D, G⟩
    have P := P.draw D G
    clear D G
    have eV : opV xk xa xb xc = .agg #[.int .i64 xk, .int .i64 xa, .int .i64 xb, .int .i64 xc] := rfl
    rw [eV]
    clear eV
    have hO := P.O
    unfold Owns4 Owns at hO
    rw [hn] at hO
    obtain ⟨s0, s1, s2, s3⟩ := at4 (own_at (E := opEl) hO k hkx)
    change w4.cell? ⟨q, k * 4, none⟩ = _ at s0
    change w4.cell? ⟨q, k * 4 + 1, none⟩ = _ at s1
    change w4.cell? ⟨q, k * 4 + 2, none⟩ = _ at s2
    change w4.cell? ⟨q, k * 4 + 3, none⟩ = _ at s3
    have hfz := fun j => hO.frozenAt j
    have P' := P.put hn k hkx ⟨xk, xa, xb, xc⟩
    unfold set4 at P'
    clear hO
    go_wp2
    go_ret
    exact ⟨_, _, rfl, P'.O, by simp; omega, P'.D, P'.G⟩
  by_cases e1 : c = 1
  · subst e1
    have hO := P.O
    unfold Owns4 Owns at hO
    rw [hn] at hO
    obtain ⟨s0, s1, s2, s3⟩ := at4 (own_at (E := opEl) hO k hkx)
    change w3.cell? ⟨q, k * 4, none⟩ = _ at s0
    change w3.cell? ⟨q, k * 4 + 1, none⟩ = _ at s1
    change w3.cell? ⟨q, k * 4 + 2, none⟩ = _ at s2
    change w3.cell? ⟨q, k * 4 + 3, none⟩ = _ at s3
    have hfz := fun j => hO.frozenAt j
    have P' := P.put hn k hkx ⟨11, 0, 0, 0⟩
    unfold set4 at P'
    clear hO
    go_wp2
    go_ret
    exact ⟨_, _, rfl, P'.O, by simp; omega, P'.D, P'.G⟩

  by_cases e2 : c = 2
  · subst e2
    have q1 : (k : Int) ≤ cap1 := by omega
    have q2 : (k : Int) + 1 ≤ n := by omega
    have q3 : (n : Int) ≤ cap1 := by omega
    have q4 : (0 : Int) ≤ (k : Int) + 1 := by omega
    have qw : IntKind.i64.wrap ((k : Int) + 1) = (k : Int) + 1 := by rw [IntKind.wrap_i64]; omega
    obtain ⟨v5, W5, hr5, P5⟩ := P.drew.cut hn k hkx hcap hlen
    go_wp2_with fail
    go_region_held3 (fun _ => True) (go_keep) ((refine step_app rfl (.tmp 45) (.tmp 49) 24 rfl (.slice (some ⟨q, 0, none⟩) k cap1) (.slice (if cap1 = k + 1 then some ⟨q, 0, none⟩ else some ⟨q, (k + 1) * 4, none⟩) (n - (k + 1)) (cap1 - (k + 1))) v5 W5 rfl rfl hr5 ?_))
    go_wp2
    all_goals
      go_ret
      exact ⟨_, _, rfl, P5.O, by simp; omega, P5.D, P5.G⟩
  by_cases e3 : c = 3
  · subst e3
    clear hkx k0 k1
    go_wp2
    go_loopw [5] (fun ov wr => ∃ (a : Option Addr) (m c' : Nat) (ys : List O4), ov = .slice a m c' ∧ ys.length = m ∧ m ≤ 1030 ∧ GSt B g v l w wr (.slice a m c') ys) (fun ov _ => 1030 - (match ov with | .slice _ m _ => m | _ => 0))
    case atStart => exact ⟨_, n, cap1, xs, rfl, hn, by omega, P⟩
    case round =>
      obtain ⟨a, m, c', ys, rfl, hm, hm1, P⟩ := hrel
      go_wp2_with fail
      refine (belowE P.D 2 (by omega)).mono ?_
      rintro e w4 ⟨y, rfl, y0, y1, D, G⟩
      have P := P.draw D G
      clear D G
      by_cases hlt : (m : Int) < 24 + y
      · obtain ⟨o5, W5, hr5, P5, -⟩ := P.push ⟨1, 0, 0, 0⟩ (by omega)
        obtain ⟨a5, cap5, rfl⟩ := P5.O.form
        have hl5 : (ys ++ [(⟨1, 0, 0, 0⟩ : O4)]).length = m + 1 := by simp [hm]
        rw [hl5] at P5 hr5
        go_wp2_with (at_builtin; refine wpList_app _ rfl _ _ 24 rfl _ _ _ _ rfl rfl hr5 ?_)
        clear hr5
        go_roundw
        case rel => exact ⟨a5, m + 1, cap5, _, rfl, hl5, by omega, P5⟩
        case measure => simp; omega
      · go_wp2
        go_ret
        exact ⟨_, ys, rfl, by rw [← hm] at P; rw [hm] at P; exact P.O, by omega, P.D, P.G⟩
  by_cases e4 : c = 4
  · subst e4
    have hO := P.O
    unfold Owns4 Owns at hO
    rw [hn] at hO
    obtain ⟨s0, s1, s2, s3⟩ := at4 (own_at (E := opEl) hO k hkx)
    change w3.cell? ⟨q, k * 4, none⟩ = _ at s0
    change w3.cell? ⟨q, k * 4 + 1, none⟩ = _ at s1
    change w3.cell? ⟨q, k * 4 + 2, none⟩ = _ at s2
    change w3.cell? ⟨q, k * 4 + 3, none⟩ = _ at s3
    have hfz := fun j => hO.frozenAt j
    have P' := P.putB hn k hkx (wrap64 (xs[k].b + 1))
    clear hO
    go_wp2
    go_ret
    exact ⟨_, _, rfl, P'.O, by rw [List.length_set]; omega, P'.D, P'.G⟩

  have e5 : c = 5 := by omega
  subst e5
  go_wp2_with fail
  refine (belowE P.D 2 (by omega)).mono ?_
  rintro e w4 ⟨y, rfl, y0, y1, D, G⟩
  have P := P.draw D G
  clear D G
  have hO := P.O
  unfold Owns4 Owns at hO
  rw [hn] at hO
  obtain ⟨s0, s1, s2, s3⟩ := at4 (own_at (E := opEl) hO k hkx)
  change w4.cell? ⟨q, k * 4, none⟩ = _ at s0
  change w4.cell? ⟨q, k * 4 + 1, none⟩ = _ at s1
  change w4.cell? ⟨q, k * 4 + 2, none⟩ = _ at s2
  change w4.cell? ⟨q, k * 4 + 3, none⟩ = _ at s3
  have hfz := fun j => hO.frozenAt j
  have P' := P.put hn k hkx ⟨9 - y, 0, 0, 0⟩
  unfold set4 at P'
  clear hO
  go_wp2
  go_ret
  exact ⟨_, _, rfl, P'.O, by simp; omega, P'.D, P'.G⟩

end Ops
end Go.Proofs.Ythmkijbokfiljaa
