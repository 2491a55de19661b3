/- Integers put behind an empty row that the call owns: the equation that a walk takes. -/
import Derived.Test.YtppikpdphcfomaaIntRow
import Derived.Deep.Upon
namespace Go.Proofs.Ytppikpdphcfomaa
open Go.RowKit
namespace Ints

theorem grown_refl (w : World) (row : Option Nat) : w.grownBy w row := ⟨rfl, rfl, rfl, Nat.le_refl _, fun _ _ _ => rfl⟩
theorem news_of {w : World} {b off : Nat} {zs : List Int} (hc : ∀ j (h : j < zs.length), w.cell? ⟨b, off + j, none⟩ = some (.int .i64 zs[j])) : ∀ j u, (iv zs)[j]? = some u → w.cell? ((⟨b, off, none⟩ : Addr).add j) = some u := by
  intro j u hu
  have hj : j < zs.length := by rw [← iv_length]; exact (List.getElem?_eq_some_iff.1 hu).1
  have ha : (⟨b, off, none⟩ : Addr).add j = ⟨b, off + j, none⟩ := by unfold Addr.add; split <;> simp_all
  rw [ha, hc j hj, ← hu, iv_get zs j hj]

theorem appI (u v : Value) (ty : TypeId) (zs : List Int) (B b0 : Nat) (w : World) (hu : w.ownsRow b0 3 1 u 0 []) (h0 : b0 ≤ w.heap.size) (hv : Sees B w v zs) (hlen : zs.length ≤ 1048576) :
    ∃ v' w', (Builtin.append_ #[24, 24] ty #[u, v]).run Try.prog w = .ok v' w' ∧ w'.ownsRow b0 3 1 v' zs.length (iv zs) ∧ w.grownBy w' u.ownBlock := by
  obtain ⟨i, hi, hz, hs, hb⟩ := info_parts Try.infoInt
  obtain ⟨a, cap, rfl, h1, h2, h3⟩ := hv
  by_cases hne : zs = []
  · subst hne
    have hsrc : Src Try.prog i.size 24 (.slice a 0 cap) 0 [] w := by
      cases a
      · exact Src.ofNil w Try.underlying24 cap
      · exact Src.ofSlice w Try.underlying24 _ 0 cap [] (by simp) (fun j u h => by simp at h) (fun u h => by cases h)
    have hform : ∃ b c, u = .slice b 0 c := by
      rcases hu.2 with ⟨rfl, -⟩ | ⟨g, c, cur, rfl, -⟩
      · exact ⟨_, _, rfl⟩
      · exact ⟨_, _, rfl⟩
    obtain ⟨b, c, rfl⟩ := hform
    exact ⟨_, w, run_append_nothing w _ _ ty _ i Try.underlying24 hi b 0 c (Nat.zero_le _) _ hsrc, hu, grown_refl w _⟩
  · obtain ⟨b, off, rfl, -, hc⟩ := h3 hne
    have hpos : 0 < zs.length := List.length_pos_iff.2 hne
    obtain ⟨g, c, w', hr, ho, hg, -, -⟩ := run_append_lies (P := Try.prog) w 24 ty b0 3 i _ 1 8 Try.underlying24 hi hz hs hb rfl (by decide) u 0 [] hu ⟨b, off, none⟩ zs.length cap (iv zs) (by rw [iv_length]; omega) (news_of hc) (iv_one zs) hpos (by unfold maxLen; omega) (by omega) h0 w.heap.size rfl
    refine ⟨_, w', hr, ?_, hg⟩
    simpa using ho
theorem own_nil (B : Nat) (w : World) : w.ownsRow B 3 1 (.slice none 0 0) 0 [] := ⟨rfl, .inl ⟨rfl, rfl⟩⟩

/-- append([]int(nil), zs...) -/
theorem appNil (v : Value) (ty : TypeId) (zs : List Int) (B : Nat) (w : World) (hv : Sees B w v zs) (hlen : zs.length ≤ 1048576) :
    ∃ v' w', (Builtin.append_ #[24, 24] ty #[.slice none 0 0, v]).run Try.prog w = .ok v' w' ∧ Owns w.heap.size w' v' zs ∧ Below w.heap.size w w' := by
  obtain ⟨v', w', hr, ho, hg⟩ := appI _ v ty zs B w.heap.size w (own_nil _ _) (Nat.le_refl _) hv hlen
  exact ⟨v', w', hr, ho, (Below.refl _ _).grown hg (Nat.le_refl _) (fun k hk => by cases hk)⟩
/-- append([]int{}, zs...): the empty row is laid first -/
theorem appLit (v : Value) (ty : TypeId) (zs : List Int) (B : Nat) (w : World) (hv : Sees B w v zs) (hB : B ≤ w.heap.size) (hlen : zs.length ≤ 1048576) :
    ∃ v' w', (Builtin.append_ #[24, 24] ty #[.slice (some ⟨w.heap.size, 0, none⟩) 0 0, v]).run Try.prog (w.alloc (.cells #[] 3)) = .ok v' w' ∧ Owns w.heap.size w' v' zs ∧ Below w.heap.size w w' := by
  have L1 : (w.alloc (.cells #[] 3)).ownsRow w.heap.size 3 1 (.slice (some ⟨w.heap.size, 0, none⟩) 0 0) 0 [] := World.ownsRow_lit w #[] 0 (Nat.le_refl _) (by simp [maxLen]) rfl
  obtain ⟨v', w', hr, ho, hg⟩ := appI _ v ty zs B w.heap.size (w.alloc (.cells #[] 3)) L1 (by simp) (hv.on (Bas.alloc_below w _) hB) hlen
  exact ⟨v', w', hr, ho, (Bas.alloc_below w _).grown hg (by simp) (fun k hk => by cases hk; exact Nat.le_refl _)⟩
end Ints
end Go.Proofs.Ytppikpdphcfomaa
