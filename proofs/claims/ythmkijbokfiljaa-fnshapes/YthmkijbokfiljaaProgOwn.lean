/- Programs that a call owns: its code, its kids' row and each kid's code, apart by their blocks' types. -/
import Derived.Test.YthmkijbokfiljaaGenDraw
import Derived.Test.YthmkijbokfiljaaProgRow
set_option linter.unusedVariables false
set_option linter.unusedSimpArgs false
namespace Go.Proofs.Ythmkijbokfiljaa
open Go.RowKit
namespace Ops
open Bas Flat Draw

theorem own_block {α : Type} {E : El α} {e : TypeId} {B : Nat} {W : World} {v : Value} {xs : List α} (h : Owns E e B W v xs) : ∀ k, v.ownBlock = some k → ∃ cur, W.heap[k]? = some (.cells cur e (0, 0)) := by
  intro k hk
  obtain ⟨h1, h2⟩ := h
  rcases h2 with ⟨rfl, h0⟩ | ⟨g, cap, cur, rfl, hg, hh, r⟩
  · cases hk
  · cases hk; exact ⟨cur, hh⟩
/-- a row and a block of another type lie apart -/
theorem own_ne {α : Type} {E : El α} {e t : TypeId} {B p : Nat} {W : World} {v : Value} {xs : List α} {cs : Array Value} (h : Owns E e B W v xs) (hb : Blk W p cs t) (hne : e ≠ t) : ∀ k, v.ownBlock = some k → k ≠ p := by
  rintro k hk rfl
  obtain ⟨cur, hc⟩ := own_block h k hk
  unfold Blk at hb
  rw [hc] at hb
  simp only [Option.some.injEq, Obj.cells.injEq] at hb
  exact hne hb.2.1
/-- two rows of different types lie apart -/
theorem own_apart {α β : Type} {E : El α} {F : El β} {e t : TypeId} {B B' : Nat} {W : World} {v v' : Value} {xs : List α} {ys : List β} (h : Owns E e B W v xs) (h' : Owns F t B' W v' ys) (hne : e ≠ t) : ∀ k, v.ownBlock = some k → some k ≠ v'.ownBlock := by
  intro k hk e'
  obtain ⟨cur, hc⟩ := own_block h k hk
  obtain ⟨cur', hc'⟩ := own_block h' k e'.symm
  rw [hc] at hc'
  simp only [Option.some.injEq, Obj.cells.injEq] at hc'
  exact hne hc'.2.1

/-- kids that the call owns -/
def OwnK (B : Nat) (W : World) (vk : Value) (kss : List (List O4)) : Prop :=
  ∃ ss : List S3, Owns slEl 46 B W vk ss ∧ ss.length = kss.length ∧ ∀ j (h : j < ss.length) (h' : j < kss.length), Owns4 B W ss[j].val kss[j]
section
variable {B B' g : Nat} {W W' : World} {vk : Value} {kss : List (List O4)}
theorem OwnK.keep (h : OwnK B W vk kss) (hk : ∀ b, B ≤ b → b < W.heap.size → W'.heap[b]? = W.heap[b]?) : OwnK B W' vk kss := by
  obtain ⟨ss, h1, h2, h3⟩ := h
  exact ⟨ss, h1.keep fun k e => hk k (h1.at k e).1 (h1.at k e).2, h2, fun j hj hj' => (h3 j hj hj').keep fun k e => hk k ((h3 j hj hj').at k e).1 ((h3 j hj hj').at k e).2⟩
theorem OwnK.on (h : OwnK B W vk kss) (hb : Below W.heap.size W W') : OwnK B W' vk kss := h.keep fun b _ hb' => hb.block b hb'
theorem OwnK.grown (h : OwnK B W vk kss) (hg : W.grownBy W' (some g)) (hlt : g < B) : OwnK B W' vk kss := h.keep fun b h1 h2 => hg.block b h2 (fun e => by injection e; omega)
theorem OwnK.drew (h : OwnK B W vk kss) : OwnK B W.drew vk kss := h
theorem OwnK.mono (h : OwnK B W vk kss) (hB : B' ≤ B) : OwnK B' W vk kss := by
  obtain ⟨ss, h1, h2, h3⟩ := h
  exact ⟨ss, h1.mono hB, h2, fun j hj hj' => (h3 j hj hj').mono hB⟩
theorem OwnK.form (h : OwnK B W vk kss) : ∃ a cap, vk = .slice a kss.length cap := by
  obtain ⟨ss, h1, h2, -⟩ := h
  obtain ⟨a, cap, e⟩ := h1.form
  exact ⟨a, cap, by rw [← h2]; exact e⟩
theorem OwnK.nil (B : Nat) (W : World) : OwnK B W (.slice none 0 0) [] := ⟨[], Owns.nil _ _ _ _, rfl, fun j h => by simp at h⟩
theorem OwnK.sees (h : OwnK B W vk kss) : SeesK W.heap.size W vk kss := by
  obtain ⟨ss, h1, h2, h3⟩ := h
  exact ⟨ss, h1.sees, h2, fun j hj hj' => (h3 j hj hj').sees⟩
/-- a store into a block of another type -/
theorem OwnK.other (h : OwnK B W vk kss) {p : Nat} {cs : Array Value} {t : TypeId} (hb : Blk W p cs t) (h1 : 33 ≠ t) (h2 : 46 ≠ t) (i : Nat) (u : Value) : OwnK B (W.setCell ⟨p, i, none⟩ u) vk kss := by
  obtain ⟨ss, k1, k2, k3⟩ := h
  exact ⟨ss, k1.other (own_ne k1 hb h2) u, k2, fun j hj hj' => (k3 j hj hj').other (own_ne (k3 j hj hj') hb h1) u⟩
theorem seesOneS (W : World) (s : S3) (t : TypeId) : Sees slEl (W.heap.size + 1) (W.alloc (.cells #[.slice s.a s.n s.cap] t)) (.slice (some ⟨W.heap.size, 0, none⟩) 1 1) [s] :=
  ⟨_, 1, rfl, by simp, by unfold maxLen; omega, fun _ => ⟨W.heap.size, 0, rfl, by omega, fun j hj => by
    have hj0 : j = 0 := by simpa using hj
    subst hj0
    intro i u hu
    have hb : Blk (W.alloc (.cells #[.slice s.a s.n s.cap] t)) W.heap.size #[.slice s.a s.n s.cap] t := Blk.new W _ _
    simp only [Nat.zero_mul, Nat.zero_add]
    rw [hb.cell]
    change [Value.slice s.a s.n s.cap][i]? = some u at hu
    simpa using hu⟩⟩
/-- append(kids, Kid{Code: s}) -/
theorem OwnK.push (h : OwnK B W vk kss) (hB : B ≤ W.heap.size) (s : S3) (ys : List O4) (hs : Owns4 B W s.val ys) (hlen : kss.length ≤ 1000000) :
    ∃ v' W', (Builtin.append_ #[28, 28] 28 #[vk, .slice (some ⟨W.heap.size, 0, none⟩) 1 1]).run Try.prog (W.alloc (.cells #[.slice s.a s.n s.cap] 46)) = .ok v' W' ∧ OwnK B W' v' (kss ++ [ys]) ∧ W.grownBy W' vk.ownBlock ∧ (∀ k, vk.ownBlock = some k → B ≤ k ∧ ∃ cur, W.heap[k]? = some (.cells cur 46 (0, 0))) := by
  obtain ⟨ss, k1, k2, k3⟩ := h
  have bA := alloc_below W (.cells #[.slice s.a s.n s.cap] 46)
  have k1' := k1.on bA (Nat.le_refl _)
  obtain ⟨v', W', hr, hO, hG, -⟩ := app rowKid vk _ 28 ss [s] _ B (W.alloc (.cells #[.slice s.a s.n s.cap] 46)) k1' (by simp; omega) (seesOneS W s _) (by simp; omega)
  refine ⟨v', W', hr, ⟨ss ++ [s], hO, by simp [k2], fun j hj hj' => ?_⟩, grown_of_alloc hG, fun k hk => ⟨(k1.at k hk).1, own_block k1 k hk⟩⟩
  by_cases hlt : j < ss.length
  · have := k3 j hlt (by omega)
    have h1 := (this.on bA (Nat.le_refl _)).grown hG (fun k hk => own_apart (this.on bA (Nat.le_refl _)) k1' (by decide) k hk)
    rw [List.getElem_append_left hlt, List.getElem_append_left (by omega)]; exact h1
  · have hj0 : j = ss.length := by simp at hj; omega
    subst hj0
    have h1 := (hs.on bA (Nat.le_refl _)).grown hG (fun k hk => own_apart (hs.on bA (Nat.le_refl _)) k1' (by decide) k hk)
    rw [List.getElem_append_right (Nat.le_refl _), List.getElem_append_right (by omega)]
    simp only [Nat.sub_self, List.getElem_cons_zero, k2]; exact h1
end

/-- a program that the call owns -/
structure OwnP (B : Nat) (W : World) (vc vk : Value) (xs : List O4) (kss : List (List O4)) : Prop where
  c : Owns4 B W vc xs
  k : OwnK B W vk kss
section
variable {B B' g : Nat} {W W' : World} {vc vk : Value} {xs : List O4} {kss : List (List O4)}
theorem OwnP.on (h : OwnP B W vc vk xs kss) (hb : Below W.heap.size W W') : OwnP B W' vc vk xs kss := ⟨h.c.on hb (Nat.le_refl _), h.k.on hb⟩
theorem OwnP.grown (h : OwnP B W vc vk xs kss) (hg : W.grownBy W' (some g)) (hlt : g < B) : OwnP B W' vc vk xs kss :=
  ⟨h.c.grown hg (fun k hk e => by injection e with e; have := h.c.at k hk; omega), h.k.grown hg hlt⟩
theorem OwnP.mono (h : OwnP B W vc vk xs kss) (hB : B' ≤ B) : OwnP B' W vc vk xs kss := ⟨h.c.mono hB, h.k.mono hB⟩
theorem OwnP.other (h : OwnP B W vc vk xs kss) {p : Nat} {cs : Array Value} {t : TypeId} (hb : Blk W p cs t) (h1 : 33 ≠ t) (h2 : 46 ≠ t) (i : Nat) (u : Value) : OwnP B (W.setCell ⟨p, i, none⟩ u) vc vk xs kss :=
  ⟨h.c.other (own_ne h.c hb h1) u, h.k.other hb h1 h2 i u⟩
end
end Ops
end Go.Proofs.Ythmkijbokfiljaa
