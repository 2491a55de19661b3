/- What the program's EndOf answers. -/
import Derived.Test.YtppkohkcffnghaaShapeImpl
import Derived.Test.YtppkohkcffnghaaStkRow
import Derived.WalkMore
set_option linter.unusedVariables false
set_option linter.unusedSimpArgs false
namespace Go.Proofs.Ytppkohkcffnghaa
open Go.RowKit
namespace Ops
open Bas Flat

theorem getD_atI {xs : List O4} {j : Nat} (hj : j < xs.length) : xs.getD j z4 = xs[j] := by simp [List.getD, hj]
theorem end_noI {xs : List O4} {i : Int} (h : ¬ (0 ≤ i ∧ i < xs.length ∧ (xs.getD i.toNat z4).k = 8)) : endOf xs i = -1 := by unfold endOf; rw [if_neg h]

/-- the open blocks of a search that began at s -/
def StE (s k : Nat) (st : List Int) : Prop := (k = s ∧ st = [-1]) ∨ (s < k ∧ ∃ r, st = r ++ [(s : Int), -1] ∧ ∀ x ∈ r, (s : Int) < x)
theorem StE.push {s k : Nat} {st : List Int} (h : StE s k st) : StE s (k + 1) ((k : Int) :: st) := by
  rcases h with ⟨rfl, rfl⟩ | ⟨h1, r, rfl, h2⟩
  · exact .inr ⟨by omega, [], rfl, fun x hx => by simp at hx⟩
  · refine .inr ⟨by omega, (k : Int) :: r, rfl, fun x hx => ?_⟩
    rcases List.mem_cons.1 hx with rfl | hx
    · omega
    · exact h2 x hx
theorem StE.far {s k : Nat} {st : List Int} (h : StE s k st) (hk : s < k) : 2 ≤ st.length := by
  rcases h with ⟨rfl, -⟩ | ⟨-, r, rfl, -⟩
  · omega
  · simp
theorem StE.one {s k : Nat} {st : List Int} (h : StE s k st) : 1 ≤ st.length := by
  rcases h with ⟨rfl, rfl⟩ | ⟨-, r, rfl, -⟩ <;> simp
theorem StE.keep {s k : Nat} {st : List Int} (h : StE s k st) (hk : s < k) : StE s (k + 1) st := by
  rcases h with ⟨rfl, -⟩ | ⟨h1, r, rfl, h2⟩
  · omega
  · exact .inr ⟨by omega, r, rfl, h2⟩
theorem StE.top {s k : Nat} {st : List Int} (h : StE s k st) (hk : s < k) : (∃ r, st = (s : Int) :: r ∧ r.length = 1) ∨ ∃ y r, st = y :: r ∧ (s : Int) < y ∧ 2 ≤ r.length ∧ StE s (k + 1) r := by
  rcases h with ⟨rfl, -⟩ | ⟨h1, r, rfl, h2⟩
  · omega
  · cases r with
    | nil => exact .inl ⟨[-1], rfl, rfl⟩
    | cons y r => exact .inr ⟨y, r ++ [(s : Int), -1], rfl, h2 y (by simp), by simp, .inr ⟨by omega, r, rfl, fun x hx => h2 x (by simp [hx])⟩⟩

set_option maxRecDepth 100000 in
set_option maxHeartbeats 3200000 in
theorem endImpl (v : Value) (xs : List O4) (i : Int) (B : Nat) (w : World) (hv : Sees4 B w v xs) (hB : B ≤ w.heap.size) (hlen : xs.length ≤ 1048576) :
    Calls Try.prog 125 #[v, .int .i64 i] w fun e w' => e = .returned (.int .i64 (endOf xs i)) ∧ Below w.heap.size w w' := by
  obtain ⟨a, cap, rfl⟩ := hv.form
  obtain ⟨n, hn⟩ : ∃ n, xs.length = n := ⟨_, rfl⟩
  rw [hn] at hv hlen ⊢
  by_cases h0 : 0 ≤ i
  · obtain ⟨s, rfl⟩ := Int.eq_ofNat_of_zero_le h0
    by_cases h1 : s < n
    · obtain ⟨b, off, rfl, hb, hc⟩ := hv.open (by omega)
      obtain ⟨a0, -, -, -⟩ := seeI hc s (by omega)
      have hg := getD_atI (xs := xs) (j := s) (by omega)
      have i2 : (s : Int) < n := by omega
      by_cases h8 : xs[s].k = 8
      · have HE : Hid (endOf xs s = endGo (xs.drop s) 0 s) := by
          show _ = _
          unfold endOf
          rw [Int.toNat_natCast, if_pos ⟨by omega, by omega, by rw [hg]; exact h8⟩]
        have H8 : Hid (xs[s].k = 8) := h8
        rw [h8] at a0
        clear hg h8 hc
        obtain ⟨g, hgg⟩ : ∃ g, w.heap.size = g := ⟨_, rfl⟩
        have cN := noneC w
        rw [hgg] at hB cN ⊢
        go_enter Try.func125, Try.ntmps125
        go_wp2
        go_step3
        go_wp2_with (go_at_call 118; refine cN.mono ?_; rintro e w1 ⟨v1, rfl, O1, b1⟩)
        clear cN a0
        obtain ⟨av1, cv1, rfl⟩ := O1.form
        go_step3
        go_wp2
        go_loopw [5, 6, 7] (fun ev ov kv wr => ∃ (k : Nat) (st : List Int) (av : Option Addr) (cn cv : Nat), ov = .slice av cn cv ∧ s ≤ k ∧ k ≤ n ∧ kv = .int .i64 k ∧ ev = .int .i64 (-1) ∧ st.length ≤ k + 1 ∧ StE s k st ∧ OwnsB g wr (.slice av cn cv) (stk st) ∧ Below g w wr ∧ endOf xs s = endGo (xs.drop k) ((st.length : Int) - 1) k) (fun _ _ kv _ => n - (intOf kv).toNat)
        case atStart => exact ⟨s, [-1], _, _, _, rfl, Nat.le_refl _, by omega, rfl, rfl, by simp, .inl ⟨rfl, rfl⟩, O1, b1, HE.out⟩
        case round =>
          obtain ⟨k, st, av, cn, cv, rfl, hsk, hk, rfl, rfl, hsl, hS, hO, hbw, he⟩ := hrel
          clear HE O1 b1
          have hsz : g ≤ wr.heap.size := by have := hbw.size; omega
          have hs1 := hS.one
          by_cases hlt : k < n
          · obtain ⟨b', off', hab, -, hc⟩ := (hv.on hbw hB).open (by omega)
            simp only [Option.some.injEq, Addr.mk.injEq, and_true] at hab
            obtain ⟨rfl, rfl⟩ := hab
            obtain ⟨a0, -, -, -⟩ := seeI hc k (by omega)
            rw [endGo_step (by omega)] at he
            have i1 : (k : Int) < n := by omega
            have hks : ¬ xs[k].k = 8 → s < k := fun h => by
              rcases Nat.lt_or_eq_of_le hsk with h' | h'
              · exact h'
              · subst h'; exact absurd H8.out h
            obtain ⟨x, hx⟩ : ∃ x, xs[k] = x := ⟨_, rfl⟩
            rw [hx] at a0 he hks
            have HK := kindI x
            clear hx hc H8
            rcases HK with ⟨h8, hD⟩ | ⟨h9, hD⟩ | ⟨h8, h9, hD⟩
            · rw [h8] at a0
              rw [hD, if_neg (by omega)] at he
              have HF : Hid (endOf xs s = endGo (xs.drop (k + 1)) (((((k : Int) :: st).length : Nat) : Int) - 1) (k + 1)) := by
                show _ = _
                rw [he, List.length_cons]
                congr 1
                omega
              clear h8 hD he hks
              go_wp2_with fail
              refine (begunC _ st k g wr hO hsz (by omega)).mono ?_
              rintro e w2 ⟨v2, rfl, O2, G2, -⟩
              obtain ⟨a2, c2, rfl⟩ := O2.form
              have hb2 := hbw.grown G2 hsz (fun k hk => (hO.at k hk).1)
              go_wp2
              go_roundw
              case rel => exact ⟨k + 1, (k : Int) :: st, _, _, _, rfl, by omega, by omega, by go_num, rfl, by simp; omega, hS.push, O2, hb2, HF.out⟩
              case measure => simp [intOf]; omega
            · have hlk := hks (by omega)
              rw [h9] at a0
              rw [hD] at he
              clear h9 hD hks
              rcases hS.top hlk with ⟨r, rfl, hr⟩ | ⟨y, r, rfl, hy, hr, hS'⟩
              · have HF : Hid ((k : Int) = endOf xs s) := by
                  show _ = _
                  rw [he, List.length_cons, if_pos (by omega)]
                clear he
                go_wp2_with fail
                have hF := fun x y W => fieldB0 x y W
                refine (innerC _ s r _ wr hO.sees (Nat.le_refl _)).mono ?_
                rintro e w2 ⟨rfl, b2⟩
                go_wp2
                rw [Exit.noGoto_ret]
                go_ret
                exact ⟨retI HF.out, hbw.trans (b2.mono hsz)⟩
              · have HF : Hid (endOf xs s = endGo (xs.drop (k + 1)) ((r.length : Int) - 1) (k + 1)) := by
                  show _ = _
                  rw [he, List.length_cons, if_neg (by omega)]
                  congr 1
                  omega
                have dy : (y == (s : Int)) = false := by simp; omega
                clear he
                go_wp2_with fail
                have hF := fun x y W => fieldB0 x y W
                refine (innerC _ y r _ wr hO.sees (Nat.le_refl _)).mono ?_
                rintro e w2 ⟨rfl, b2⟩
                have O2 := hO.on b2 (Nat.le_refl _)
                have hb2 := hbw.trans (b2.mono hsz)
                go_wp2_with fail
                refine (endedC _ y r g w2 O2).mono ?_
                rintro e w3 ⟨v3, rfl, O3, -, rfl⟩
                obtain ⟨a3, c3, rfl⟩ := O3.form
                go_wp2
                go_roundw
                case rel => exact ⟨k + 1, r, _, _, _, rfl, by omega, by omega, by go_num, rfl, by simp at hsl; omega, hS', O3, hb2, HF.out⟩
                case measure => simp [intOf]; omega
            · have hlk := hks (by simpa using h8)
              have hs2 := hS.far hlk
              rw [hD, if_neg (by omega), Int.add_zero] at he
              have HF := (show Hid _ from he)
              clear he hD hks
              go_wp2
              go_roundw
              case rel => exact ⟨k + 1, st, _, _, _, rfl, by omega, by omega, by go_num, rfl, by omega, hS.keep hlk, hO, hbw, HF.out⟩
              case measure => simp [intOf]; omega
          · obtain rfl : k = n := by omega
            have HF : Hid (-1 = endOf xs s) := by
              show _ = _
              rw [he, List.drop_of_length_le (by omega)]; rfl
            clear he
            go_wp2
            rw [Exit.noGoto_ret]
            go_ret
            exact ⟨retI HF.out, hbw⟩
      · have HF : Hid (-1 = endOf xs s) := (end_noI (fun h => h8 (by have := h.2.2; rw [Int.toNat_natCast, hg] at this; exact this))).symm
        have d8 : (xs[s].k != 8) = true := by simp [h8]
        obtain ⟨q, hq⟩ : ∃ q, xs[s].k = q := ⟨_, rfl⟩
        rw [hq] at a0 d8
        clear hc h8 hq hg
        go_enter Try.func125, Try.ntmps125
        go_wp2
        go_step3
        go_wp2
        rw [Exit.noGoto_ret]
        go_ret
        exact ⟨retI HF.out, Below.refl _ _⟩
    · have HF : Hid (-1 = endOf xs s) := (end_noI (fun h => h1 (by have := h.2.1; omega))).symm
      have i2 : (n : Int) ≤ s := by omega
      go_enter Try.func125, Try.ntmps125
      go_wp2
      go_step3
      go_wp2
      rw [Exit.noGoto_ret]
      go_ret
      exact ⟨retI HF.out, Below.refl _ _⟩
  · have HF : Hid (-1 = endOf xs i) := (end_noI (fun h => h0 h.1)).symm
    have i2 : i < 0 := by omega
    go_enter Try.func125, Try.ntmps125
    go_wp2
    go_step3
    go_wp2
    rw [Exit.noGoto_ret]
    go_ret
    exact ⟨retI HF.out, Below.refl _ _⟩
end Ops
end Go.Proofs.Ytppkohkcffnghaa
