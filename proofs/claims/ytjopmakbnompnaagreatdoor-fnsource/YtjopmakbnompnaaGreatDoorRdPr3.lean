/- Several texts of one proof, in build order: OwnProg, ReadOpL, StrRow, SplitSpec, OpSpec, Byt, Shelf. -/
import Derived.Test.YtjopmakbnompnaaGreatDoorProg
import Derived.WalkKit
import Derived.WalkLawsBesides
import Derived.WalkSpells
import Derived.Laws.CopyOwn
import Derived.Laws.IdiomStrings
import Derived.Deep.OwnRows
import Derived.Deep.AppendLies
import Derived.Shelf.LaysM
import Derived.Shelf.LaysC
import Derived.Shelf.Strconv.Itoa3
import Derived.Shelf.Strconv.ErrVarAll
import Derived.Test.YtjopmakbnompnaaGreatDoorRdPr1
import Derived.Test.YtjopmakbnompnaaGreatDoorRdPr2
/- Programs that a call owns: its code, its kids' row and each kid's code, apart by their blocks' types. -/
set_option linter.unusedVariables false
set_option linter.unusedSimpArgs false
namespace Go.Proofs.YtjopmakbnompnaaGreatDoor
open Go.RowKit
namespace Ops
open Bas Flat

theorem own_block {α : Type} {E : El α} {e : TypeId} {B : Nat} {W : World} {v : Value} {xs : List α} (h : Owns E e B W v xs) : ∀ k, v.ownBlock = some k → ∃ cur, W.heap[k]? = some (.cells cur e (0, 0)) := by
  intro k hk
  obtain ⟨h1, h2⟩ := h
  rcases h2 with ⟨rfl, h0⟩ | ⟨g, cap, cur, rfl, hg, hh, r⟩
  · cases hk
  · cases hk; exact ⟨cur, hh⟩
theorem grown_alloc0 {W W' : World} {o : Obj} {row : Option Nat} (h : (W.alloc o).grownBy W' row) : W.grownBy W' row :=
  ⟨h.os, h.tape, h.output, Nat.le_trans (by simp) h.size, fun k hk hne => (h.block k (by simp; omega) hne).trans (Below.heap_alloc W o k hk)⟩
/-- a row and a block of another type lie apart -/
theorem own_ne {α : Type} {E : El α} {e t : TypeId} {B p : Nat} {W : World} {v : Value} {xs : List α} {cs : Array Value} (h : Owns E e B W v xs) (hb : Blk W p cs t) (hne : e ≠ t) : ∀ k, v.ownBlock = some k → k ≠ p := by
  rintro k hk rfl
  obtain ⟨cur, hc⟩ := own_block h k hk
  unfold Blk at hb
  rw [hc] at hb
  simp only [Option.some.injEq, Obj.cells.injEq] at hb
  exact hne hb.2.1
/-- two rows of different types lie apart -/
theorem own_apart {α β : Type} {E : El α} {F : El β} {e t : TypeId} {B B' : Nat} {W : World} {v v' : Value} {xs : List α} {ys : List β} (h : Owns E e B W v xs) (h' : Owns F t B' W v' ys) (hne : e ≠ t) : ∀ k, v.ownBlock = some k → some k ≠ v'.ownBlock := by
  intro k hk e'
  obtain ⟨cur, hc⟩ := own_block h k hk
  obtain ⟨cur', hc'⟩ := own_block h' k e'.symm
  rw [hc] at hc'
  simp only [Option.some.injEq, Obj.cells.injEq] at hc'
  exact hne hc'.2.1

/-- kids that the call owns -/
def OwnK (B : Nat) (W : World) (vk : Value) (kss : List (List O4)) : Prop :=
  ∃ ss : List S3, Owns slEl 47 B W vk ss ∧ ss.length = kss.length ∧ ∀ j (h : j < ss.length) (h' : j < kss.length), Owns4 B W ss[j].val kss[j]
section
variable {B B' g : Nat} {W W' : World} {vk : Value} {kss : List (List O4)}
theorem OwnK.keep (h : OwnK B W vk kss) (hk : ∀ b, B ≤ b → b < W.heap.size → W'.heap[b]? = W.heap[b]?) : OwnK B W' vk kss := by
  obtain ⟨ss, h1, h2, h3⟩ := h
  exact ⟨ss, h1.keep fun k e => hk k (h1.at k e).1 (h1.at k e).2, h2, fun j hj hj' => (h3 j hj hj').keep fun k e => hk k ((h3 j hj hj').at k e).1 ((h3 j hj hj').at k e).2⟩
theorem OwnK.on (h : OwnK B W vk kss) (hb : Below W.heap.size W W') : OwnK B W' vk kss := h.keep fun b _ hb' => hb.block b hb'
theorem OwnK.grown (h : OwnK B W vk kss) (hg : W.grownBy W' (some g)) (hlt : g < B) : OwnK B W' vk kss := h.keep fun b h1 h2 => hg.block b h2 (fun e => by injection e; omega)
theorem OwnK.drew (h : OwnK B W vk kss) : OwnK B W.drew vk kss := h
theorem OwnK.mono (h : OwnK B W vk kss) (hB : B' ≤ B) : OwnK B' W vk kss := by
  obtain ⟨ss, h1, h2, h3⟩ := h
  exact ⟨ss, h1.mono hB, h2, fun j hj hj' => (h3 j hj hj').mono hB⟩
theorem OwnK.form (h : OwnK B W vk kss) : ∃ a cap, vk = .slice a kss.length cap := by
  obtain ⟨ss, h1, h2, -⟩ := h
  obtain ⟨a, cap, e⟩ := h1.form
  exact ⟨a, cap, by rw [← h2]; exact e⟩
theorem OwnK.nil (B : Nat) (W : World) : OwnK B W (.slice none 0 0) [] := ⟨[], Owns.nil _ _ _ _, rfl, fun j h => by simp at h⟩
theorem OwnK.sees (h : OwnK B W vk kss) : SeesK W.heap.size W vk kss := by
  obtain ⟨ss, h1, h2, h3⟩ := h
  exact ⟨ss, h1.sees, h2, fun j hj hj' => (h3 j hj hj').sees⟩
/-- a store into a block of another type -/
theorem OwnK.other (h : OwnK B W vk kss) {p : Nat} {cs : Array Value} {t : TypeId} (hb : Blk W p cs t) (h1 : 36 ≠ t) (h2 : 47 ≠ t) (i : Nat) (u : Value) : OwnK B (W.setCell ⟨p, i, none⟩ u) vk kss := by
  obtain ⟨ss, k1, k2, k3⟩ := h
  exact ⟨ss, k1.other (own_ne k1 hb h2) u, k2, fun j hj hj' => (k3 j hj hj').other (own_ne (k3 j hj hj') hb h1) u⟩
theorem seesOneS (W : World) (s : S3) (t : TypeId) : Sees slEl (W.heap.size + 1) (W.alloc (.cells #[.slice s.a s.n s.cap] t)) (.slice (some ⟨W.heap.size, 0, none⟩) 1 1) [s] :=
  ⟨_, 1, rfl, by simp, by unfold maxLen; omega, fun _ => ⟨W.heap.size, 0, rfl, by omega, fun j hj => by
    have hj0 : j = 0 := by simpa using hj
    subst hj0
    intro i u hu
    have hb : Blk (W.alloc (.cells #[.slice s.a s.n s.cap] t)) W.heap.size #[.slice s.a s.n s.cap] t := Blk.new W _ _
    simp only [Nat.zero_mul, Nat.zero_add]
    rw [hb.cell]
    change [Value.slice s.a s.n s.cap][i]? = some u at hu
    simpa using hu⟩⟩
/-- append(kids, Kid{Code: s}) -/
theorem OwnK.push (h : OwnK B W vk kss) (hB : B ≤ W.heap.size) (s : S3) (ys : List O4) (hs : Owns4 B W s.val ys) (hlen : kss.length ≤ 1000000) :
    ∃ v' W', (Builtin.append_ #[25, 25] 25 #[vk, .slice (some ⟨W.heap.size, 0, none⟩) 1 1]).run Tryz.prog (W.alloc (.cells #[.slice s.a s.n s.cap] 47)) = .ok v' W' ∧ OwnK B W' v' (kss ++ [ys]) ∧ W.grownBy W' vk.ownBlock ∧ (∀ k, vk.ownBlock = some k → B ≤ k ∧ ∃ cur, W.heap[k]? = some (.cells cur 47 (0, 0))) := by
  obtain ⟨ss, k1, k2, k3⟩ := h
  have bA := alloc_below W (.cells #[.slice s.a s.n s.cap] 47)
  have k1' := k1.on bA (Nat.le_refl _)
  obtain ⟨v', W', hr, hO, hG, -⟩ := app rowKid vk _ 25 ss [s] _ B (W.alloc (.cells #[.slice s.a s.n s.cap] 47)) k1' (by simp; omega) (seesOneS W s _) (by simp; omega)
  refine ⟨v', W', hr, ⟨ss ++ [s], hO, by simp [k2], fun j hj hj' => ?_⟩, grown_alloc0 hG, fun k hk => ⟨(k1.at k hk).1, own_block k1 k hk⟩⟩
  by_cases hlt : j < ss.length
  · have := k3 j hlt (by omega)
    have h1 := (this.on bA (Nat.le_refl _)).grown hG (fun k hk => own_apart (this.on bA (Nat.le_refl _)) k1' (by decide) k hk)
    rw [List.getElem_append_left hlt, List.getElem_append_left (by omega)]; exact h1
  · have hj0 : j = ss.length := by simp at hj; omega
    subst hj0
    have h1 := (hs.on bA (Nat.le_refl _)).grown hG (fun k hk => own_apart (hs.on bA (Nat.le_refl _)) k1' (by decide) k hk)
    rw [List.getElem_append_right (Nat.le_refl _), List.getElem_append_right (by omega)]
    simp only [Nat.sub_self, List.getElem_cons_zero, k2]; exact h1
end

/-- a program that the call owns -/
structure OwnP (B : Nat) (W : World) (vc vk : Value) (xs : List O4) (kss : List (List O4)) : Prop where
  c : Owns4 B W vc xs
  k : OwnK B W vk kss
section
variable {B B' g : Nat} {W W' : World} {vc vk : Value} {xs : List O4} {kss : List (List O4)}
theorem OwnP.on (h : OwnP B W vc vk xs kss) (hb : Below W.heap.size W W') : OwnP B W' vc vk xs kss := ⟨h.c.on hb (Nat.le_refl _), h.k.on hb⟩
theorem OwnP.grown (h : OwnP B W vc vk xs kss) (hg : W.grownBy W' (some g)) (hlt : g < B) : OwnP B W' vc vk xs kss :=
  ⟨h.c.grown hg (fun k hk e => by injection e with e; have := h.c.at k hk; omega), h.k.grown hg hlt⟩
theorem OwnP.mono (h : OwnP B W vc vk xs kss) (hB : B' ≤ B) : OwnP B' W vc vk xs kss := ⟨h.c.mono hB, h.k.mono hB⟩
theorem OwnP.other (h : OwnP B W vc vk xs kss) {p : Nat} {cs : Array Value} {t : TypeId} (hb : Blk W p cs t) (h1 : 36 ≠ t) (h2 : 47 ≠ t) (i : Nat) (u : Value) : OwnP B (W.setCell ⟨p, i, none⟩ u) vc vk xs kss :=
  ⟨h.c.other (own_ne h.c hb h1) u, h.k.other hb h1 h2 i u⟩
end
end Ops
end Go.Proofs.YtjopmakbnompnaaGreatDoor
/- ReadOp as plain mathematics: what the word and the numbers tell. -/
set_option linter.unusedVariables false
set_option linter.unusedSimpArgs false
namespace Go.Proofs.YtjopmakbnompnaaGreatDoor
namespace Ops
open Num

/-- the kind whose word it is, of those below k; nought where there is none -/
def kindTo (p : Txt) : Nat → Nat
  | 0 => 0
  | k + 1 => if 1 ≤ k ∧ words.getD k [] = p then k else kindTo p k
theorem kindTo_one (p : Txt) : kindTo p 1 = 0 := by simp [kindTo]
theorem kindTo_le (p : Txt) : ∀ k, kindTo p k ≤ k := by
  intro k
  induction k with
  | zero => simp [kindTo]
  | succ k ih => unfold kindTo; split <;> omega
theorem kindTo_word (p : Txt) : ∀ k, kindTo p k ≠ 0 → 1 ≤ kindTo p k ∧ kindTo p k < k ∧ words.getD (kindTo p k) [] = p := by
  intro k
  induction k with
  | zero => intro h; exact absurd rfl h
  | succ k ih =>
    intro h
    unfold kindTo at h ⊢
    split
    · rename_i hc; exact ⟨hc.1, by omega, hc.2⟩
    · rename_i hc
      rw [if_neg hc] at h
      obtain ⟨a, b, c⟩ := ih h
      exact ⟨a, by omega, c⟩
theorem kind_word {p : Txt} (h : kindTo p 17 ≠ 0) : (1 ≤ (kindTo p 17 : Int) ∧ (kindTo p 17 : Int) ≤ 16) ∧ wordOf (kindTo p 17) = p := by
  obtain ⟨a, b, c⟩ := kindTo_word p 17 h
  refine ⟨by omega, ?_⟩
  unfold wordOf; rw [Int.toNat_natCast]; exact c
theorem kind_of_word {k : Int} (h : 1 ≤ k ∧ k ≤ 16) : (kindTo (wordOf k) 17 : Int) = k := by
  have key : ∀ i < 17, 1 ≤ i → kindTo (words.getD i []) 17 = i := by decide
  have := key k.toNat (by omega) (by omega)
  unfold wordOf; omega

theorem glue_len {a : Txt} {l : List Txt} {n : Nat} (ha : a.length ≤ n) (h : ∀ p ∈ l, p.length + a.length ≤ n) : ∀ p ∈ glue a l, p.length ≤ n := by
  cases l with
  | nil => intro p hp; simp [glue] at hp; rw [hp]; exact ha
  | cons q t =>
    intro p hp
    rcases List.mem_cons.1 hp with rfl | hp
    · have := h q (by simp); simp; omega
    · have := h p (by simp [hp]); omega
theorem split_len (c : UInt8) (L : Txt) : ∀ p ∈ split c L, p.length ≤ L.length := by
  induction L with
  | nil => intro p hp; simp [split] at hp; simp [hp]
  | cons x r ih =>
    unfold split
    split
    · intro p hp
      rcases List.mem_cons.1 hp with rfl | hp
      · simp
      · have := ih p hp; simp; omega
    · refine glue_len (by simp) (fun p hp => ?_)
      have := ih p hp; simp; omega
/-- a right op's parts -/
theorem parts_of {L : Txt} {o : O4} (h : okOp o = true) (e : showOp o = L) : split 32 L = wordOf o.k :: (nums o).map Lib.itoa := by rw [← e]; exact show_split h
theorem no_kind {L p0 : Txt} {r : List Txt} (hs : split 32 L = p0 :: r) (h : kindTo p0 17 = 0 ∨ ¬ r.length = nargs (kindTo p0 17)) : RdOp L z4 false := by
  refine .inr ⟨rfl, rfl, fun o' ho e => ?_⟩
  have := parts_of ho e
  rw [hs, List.cons.injEq] at this
  have hk := kind_of_word (ok_kind ho)
  rw [← this.1] at hk
  rcases h with h | h
  · have := (ok_kind ho).1; omega
  · rw [hk, this.2, List.length_map, nums_length] at h; exact h rfl
theorem no_num {L p0 : Txt} {r : List Txt} (hs : split 32 L = p0 :: r) {i : Nat} (hi : i < r.length) {n : Int} (h : RdRes r[i] n false) : RdOp L z4 false := by
  refine .inr ⟨rfl, rfl, fun o' ho e => ?_⟩
  have := parts_of ho e
  rw [hs, List.cons.injEq] at this
  obtain ⟨-, e2⟩ := this
  subst e2
  rcases h with ⟨h, -⟩ | ⟨-, -, h⟩
  · cases h
  · rw [List.getElem_map] at h
    have hi' : i < (nums o').length := by simpa using hi
    have := nums_small ho _ (List.getElem_mem hi')
    exact h _ (by omega) (by omega) rfl
/-- the numbers that were read -/
def ReadN (r : List Txt) (ns : List Int) : Prop := ns.length ≤ r.length ∧ ∀ j (h : j < ns.length) (h' : j < r.length), RdRes r[j] ns[j] true
theorem read_same {r : List Txt} {ns : List Int} (h : ReadN r ns) (hl : ns.length = r.length) {ms : List Int} (hm : r = ms.map Lib.itoa) (hs : ∀ n ∈ ms, 0 ≤ n ∧ n ≤ 65535) : ns = ms := by
  subst hm
  have hl' : ns.length = ms.length := by simpa using hl
  apply List.ext_getElem hl'
  intro j h1 h2
  have := h.2 j h1 (by simpa using h2)
  rw [List.getElem_map] at this
  have hb := hs _ (List.getElem_mem h2)
  exact (this.unique (.inl ⟨rfl, by omega, by omega, rfl⟩)).1
theorem told_op {L p0 : Txt} {r : List Txt} {ns : List Int} (hs : split 32 L = p0 :: r) (hk : kindTo p0 17 ≠ 0) (hr : ReadN r ns) (hl : ns.length = r.length) :
    (showOp (ofNums (kindTo p0 17) ns) = L → RdOp L (ofNums (kindTo p0 17) ns) true) ∧ (showOp (ofNums (kindTo p0 17) ns) ≠ L → RdOp L z4 false) := by
  obtain ⟨hk1, hk2⟩ := kind_word hk
  refine ⟨fun e => .inl ⟨rfl, ?_, e⟩, fun e => .inr ⟨rfl, rfl, fun o' ho e' => e ?_⟩⟩
  · cases h : okOp (ofNums (kindTo p0 17) ns) with
    | true => rfl
    | false =>
      exfalso
      have : showOp (ofNums (kindTo p0 17) ns) = [] := by unfold showOp; rw [if_neg (by simp [h])]
      rw [this] at e
      rw [← e] at hs
      have h1 : split 32 ([] : Txt) = [[]] := rfl
      rw [h1, List.cons.injEq] at hs
      exact word_ne hk1 (hk2.trans hs.1.symm)
  · have := parts_of ho e'
    rw [hs, List.cons.injEq] at this
    have hk' := kind_of_word (ok_kind ho)
    rw [← this.1] at hk'
    have hn := read_same hr hl this.2 (nums_small ho)
    rw [hk', hn, ← ok_nums ho]; exact e'
theorem readN_nil (r : List Txt) : ReadN r [] := ⟨by simp, fun j h => by simp at h⟩
theorem readN_snoc {r : List Txt} {ns : List Int} (h : ReadN r ns) (hl : ns.length < r.length) {n : Int} (hn : RdRes r[ns.length] n true) : ReadN r (ns ++ [n]) := by
  refine ⟨by simp; omega, fun j h1 h2 => ?_⟩
  by_cases hj : j < ns.length
  · rw [List.getElem_append_left hj]; exact h.2 j hj h2
  · have hj' : j = ns.length := by simp at h1; omega
    subst hj'
    rw [List.getElem_append_right (Nat.le_refl _)]
    simpa using hn
end Ops
end Go.Proofs.YtjopmakbnompnaaGreatDoor
/- Rows of strings in memory. -/
set_option linter.unusedVariables false
namespace Go.Proofs.YtjopmakbnompnaaGreatDoor
open Go.RowKit
namespace Strs
open Bas Flat

def strEl : El (List UInt8) where
  sz := 1
  cells l := [.string ⟨l.toArray⟩]
  len _ := rfl
  one l v hv := by simp at hv; rw [hv]; rfl
  pos := by decide
theorem rowStr : Row Tryz.prog strEl 60 9 (.string ByteArray.empty) [] 16 := ⟨Tryz.underlying60, by kernel_rfl, rfl, by decide⟩
abbrev OwnsS (B : Nat) (w : World) (v : Value) (xs : List (List UInt8)) : Prop := Owns strEl 9 B w v xs
abbrev SeesS (B : Nat) (w : World) (v : Value) (xs : List (List UInt8)) : Prop := Sees strEl B w v xs
theorem atS {w : World} {b o : Nat} {l : List UInt8} (h : At strEl w b o l) : w.cell? ⟨b, o, none⟩ = some (.string ⟨l.toArray⟩) := h 0 _ rfl
/-- the string at place k -/
theorem seeS {w : World} {b off : Nat} {xs : List (List UInt8)} (hc : ∀ j (h : j < xs.length), At strEl w b (off + j * strEl.sz) xs[j]) (k : Nat) (hk : k < xs.length) : w.cell? ⟨b, off + k, none⟩ = some (.string ⟨xs[k].toArray⟩) := by
  have := atS (hc k hk)
  change w.cell? ⟨b, off + k * 1, none⟩ = _ at this
  rw [Nat.mul_one] at this; exact this
theorem seesOneS (W : World) (s : List UInt8) (t : TypeId) : SeesS (W.heap.size + 1) (W.alloc (.cells #[.string ⟨s.toArray⟩] t)) (.slice (some ⟨W.heap.size, 0, none⟩) 1 1) [s] :=
  ⟨_, 1, rfl, by simp, by unfold maxLen; omega, fun _ => ⟨W.heap.size, 0, rfl, by omega, fun j hj => by
    have hj0 : j = 0 := by simpa using hj
    subst hj0
    intro i u hu
    have hb : Blk (W.alloc (.cells #[.string ⟨s.toArray⟩] t)) W.heap.size #[.string ⟨s.toArray⟩] t := Blk.new W _ _
    simp only [Nat.zero_mul, Nat.zero_add]
    rw [hb.cell]
    change [Value.string ⟨s.toArray⟩][i]? = some u at hu
    simpa using hu⟩⟩
theorem grown_allocS {W W' : World} {o : Obj} {row : Option Nat} (h : (W.alloc o).grownBy W' row) : W.grownBy W' row :=
  ⟨h.os, h.tape, h.output, Nat.le_trans (by simp) h.size, fun k hk hne => (h.block k (by simp; omega) hne).trans (Below.heap_alloc W o k hk)⟩
/-- append(v, s) -/
theorem pushS (v : Value) (xs : List (List UInt8)) (B : Nat) (w : World) (h : OwnsS B w v xs) (hB : B ≤ w.heap.size) (hlen : xs.length ≤ 4000000) (s : List UInt8) :
    ∃ v' w', (Builtin.append_ #[60, 60] 60 #[v, .slice (some ⟨w.heap.size, 0, none⟩) 1 1]).run Tryz.prog (w.alloc (.cells #[.string ⟨s.toArray⟩] 9)) = .ok v' w' ∧ OwnsS B w' v' (xs ++ [s]) ∧ w.grownBy w' v.ownBlock ∧ (∀ k, v'.ownBlock = some k → v.ownBlock = some k ∨ w.heap.size ≤ k) := by
  obtain ⟨v', w', hr, hO, hG, hl⟩ := app rowStr v _ 60 xs [s] _ B (w.alloc (.cells #[.string ⟨s.toArray⟩] 9)) (h.on (alloc_below w _) (Nat.le_refl _)) (by simp; omega) (seesOneS w s _) (by simp; omega)
  refine ⟨v', w', hr, hO, grown_allocS hG, fun k hk => ?_⟩
  rcases hl k hk with h | h
  · exact .inl h
  · simp at h; exact .inr (by omega)
/-- a piece of a string -/
theorem piece (s : ByteArray) (i j : Nat) : s.extract i j = ⟨((s.data.toList.drop i).take (j - i)).toArray⟩ := by
  have : (s.extract i j).data = ((s.data.toList.drop i).take (j - i)).toArray := by
    rw [ByteArray.data_extract]
    apply Array.ext'
    simp
  cases h : s.extract i j
  rw [h] at this
  simp only at this
  rw [this]
end Strs
end Go.Proofs.YtjopmakbnompnaaGreatDoor
/- What the specification's l6Split answers: a text parted at each sign. -/
set_option linter.unusedVariables false
set_option linter.unusedSimpArgs false
namespace Go.Proofs.YtjopmakbnompnaaGreatDoor
open Go.RowKit
namespace Ops
open Bas Flat Strs

theorem split_step_yes {c : UInt8} {L : Txt} {P : List Txt} {k f : Nat} (hk : k < L.length) (hf : f ≤ k) (hc : L[k] = c) (h : split c L = P ++ glue ((L.drop f).take (k - f)) (split c (L.drop k))) :
    split c L = (P ++ [(L.drop f).take (k - f)]) ++ glue ((L.drop (k + 1)).take (k + 1 - (k + 1))) (split c (L.drop (k + 1))) := by
  rw [h, List.drop_eq_getElem_cons hk]
  show P ++ glue _ (if L[k] = c then _ else _) = _
  rw [if_pos hc, Nat.sub_self, List.take_zero, glue_nil (split_ne c _)]
  simp [glue]
theorem split_step_no {c : UInt8} {L : Txt} {P : List Txt} {k f : Nat} (hk : k < L.length) (hf : f ≤ k) (hc : ¬ L[k] = c) (h : split c L = P ++ glue ((L.drop f).take (k - f)) (split c (L.drop k))) :
    split c L = P ++ glue ((L.drop f).take (k + 1 - f)) (split c (L.drop (k + 1))) := by
  rw [h, List.drop_eq_getElem_cons hk]
  show P ++ glue _ (if L[k] = c then _ else _) = _
  rw [if_neg hc, glue_glue, show k + 1 - f = (k - f) + 1 by omega]
  have : (L.drop f).take (k - f + 1) = (L.drop f).take (k - f) ++ [L[k]] := by
    rw [List.take_succ_eq_append_getElem (by simp; omega)]
    congr 2
    rw [List.getElem_drop]; congr 1; omega
  rw [this]
theorem split_last {c : UInt8} {L : Txt} {P : List Txt} {f : Nat} (h : split c L = P ++ glue ((L.drop f).take (L.length - f)) (split c (L.drop L.length))) : split c L = P ++ [L.drop f] := by
  rw [h, List.drop_length, List.take_of_length_le (by simp)]
  simp [split, glue]

set_option maxRecDepth 100000 in
set_option maxHeartbeats 3200000 in
theorem splitC (s : ByteArray) (c : UInt8) (hs : s.size ≤ 1048576) (w : World) :
    Calls Tryz.prog 64 #[.string s, .int .u8 c.toNat] w fun e w' => ∃ v', e = .returned v' ∧ OwnsS w.heap.size w' v' (split c s.data.toList) ∧ Below w.heap.size w w' := by
  obtain ⟨L, hLL⟩ : ∃ L, s.data.toList = L := ⟨_, rfl⟩
  have hlen : L.length = s.size := by rw [← hLL]; simp
  have HG : Hid (∀ k (h : k < s.size) (h' : k < L.length), L[k] = s[k]) := fun k h h' => by subst hLL; rfl
  have HP : Hid (∀ i j, s.extract i j = ⟨((L.drop i).take (j - i)).toArray⟩) := fun i j => by rw [piece, hLL]
  rw [hLL]
  clear hLL
  obtain ⟨g, hg⟩ : ∃ g, w.heap.size = g := ⟨_, rfl⟩
  have O0 : OwnsS g (w.alloc (.cells #[] 9)) (.slice (some ⟨w.heap.size, 0, none⟩) 0 0) [] := by rw [← hg]; exact World.ownsRow_lit w #[] 0 (Nat.le_refl _) (by simp [maxLen]) rfl
  have b0 : Below g w (w.alloc (.cells #[] 9)) := by rw [← hg]; exact alloc_below w _
  rw [hg] at O0 ⊢
  have HE : Hid (split c L = [] ++ glue ((L.drop 0).take (0 - 0)) (split c (L.drop 0))) := by
    show _ = _
    simp [glue_nil (split_ne c L)]
  go_enter Tryz.func64, Tryz.ntmps64
  go_wp2
  go_loopw [5, 6, 7] (fun ov fv iv wr => ∃ (k f : Nat) (P : List Txt) (a : Option Addr) (m cp : Nat), ov = .slice a m cp ∧ fv = .int .i64 f ∧ iv = .int .i64 k ∧ f ≤ k ∧ k ≤ s.size ∧ P.length ≤ k ∧ OwnsS g wr (.slice a m cp) P ∧ Below g w wr ∧ split c L = P ++ glue ((L.drop f).take (k - f)) (split c (L.drop k))) (fun _ _ iv _ => s.size - (intOf iv).toNat)
  case atStart => exact ⟨0, 0, [], _, _, _, rfl, rfl, rfl, Nat.le_refl _, Nat.zero_le _, by simp, O0, b0, HE.out⟩
  case round =>
    obtain ⟨k, f, P, a, m, cp, rfl, rfl, rfl, hfk, hk, hPl, O, b, he⟩ := hrel
    clear O0 b0 HE
    have hsz : g ≤ wr.heap.size := by have := b.size; omega
    by_cases hlt : k < s.size
    · have hlt' : k < L.length := by omega
      have hc : s[k].toNat < 256 := s[k].toNat_lt
      have e1 := HG.out k hlt hlt'
      by_cases hq : s[k] = c
      · have HF := (show Hid _ from split_step_yes hlt' hfk (e1.trans hq) he)
        clear he e1
        obtain ⟨v2, w2, hr2, O2, G2, -⟩ := pushS _ P g wr O hsz (by omega) ((L.drop f).take (k - f))
        rw [← HP.out f k] at hr2
        have b2 := b.grown G2 hsz (fun q hq => (O.at q hq).1)
        obtain ⟨a2, c2, rfl⟩ := O2.form
        obtain ⟨n2, hn2⟩ : ∃ n, (P ++ [(L.drop f).take (k - f)]).length = n := ⟨_, rfl⟩
        rw [hn2] at O2 hr2
        have dq : ((s[k].toNat : Int) == (c.toNat : Int)) = true := by rw [hq]; simp
        clear hq
        go_wp2_with (at_builtin; refine wpList_app _ rfl _ _ 60 rfl _ _ _ _ rfl rfl hr2 ?_)
        clear hr2
        go_roundw
        case rel => exact ⟨k + 1, k + 1, _, _, _, _, rfl, by go_num, by go_num, Nat.le_refl _, by omega, by simp; omega, O2, b2, HF.out⟩
        case measure => simp [intOf]; omega
      · have HF := (show Hid _ from split_step_no hlt' hfk (fun e => hq (e1.symm.trans e)) he)
        clear he e1
        have dq : ((s[k].toNat : Int) == (c.toNat : Int)) = false := by
          rw [beq_eq_false_iff_ne]
          intro e
          exact hq (UInt8.toNat_inj.1 (by omega))
        clear hq
        go_wp2
        go_roundw
        case rel => exact ⟨k + 1, f, P, _, _, _, rfl, rfl, by go_num, by omega, by omega, by omega, O, b, HF.out⟩
        case measure => simp [intOf]; omega
    · obtain rfl : k = s.size := by omega
      have HF : Hid (split c L = P ++ [L.drop f]) := split_last (by rw [hlen]; exact he)
      clear he
      obtain ⟨v2, w2, hr2, O2, G2, -⟩ := pushS _ P g wr O hsz (by omega) ((L.drop f).take (s.size - f))
      rw [← HP.out f s.size] at hr2
      rw [List.take_of_length_le (by simp; omega), ← HF.out] at O2
      have b2 := b.grown G2 hsz (fun q hq => (O.at q hq).1)
      obtain ⟨a2, c2, rfl⟩ := O2.form
      go_wp2_with (at_builtin; refine wpList_app _ rfl _ _ 60 rfl _ _ _ _ rfl rfl hr2 ?_)
      clear hr2
      go_ret
      exact ⟨_, rfl, O2, b2⟩
end Ops
end Go.Proofs.YtjopmakbnompnaaGreatDoor
/- The specification's OpOk. -/
namespace Go.Proofs.YtjopmakbnompnaaGreatDoor
open Go.RowKit
namespace Ops

set_option maxRecDepth 100000 in
set_option maxHeartbeats 1600000 in
theorem spec1 (a b c : Int) (w : World) : Calls Tryz.prog 54 #[opV 1 a b c] w fun e w' => e = .returned (.bool (opOk 1 a b c)) ∧ Below w.heap.size w w' := by
  show Calls _ _ #[.agg #[.int .i64 1, .int .i64 a, .int .i64 b, .int .i64 c]] _ _
  have e0 : opOk 1 a b c = (inn 0 3 a && inn 0 65535 b && (c == 0)) := by simp only [← inn_zero]; rfl
  rw [e0]
  clear e0
  obtain ⟨p0, h0⟩ : ∃ p, (inn 0 3 a) = p := ⟨_, rfl⟩
  obtain ⟨p1, h1⟩ : ∃ p, (inn 0 65535 b) = p := ⟨_, rfl⟩
  rw [h0, h1]
  cases p0 <;> cases p1
  all_goals
    go_enter Tryz.func54, Tryz.ntmps54
    go_wp2_with (first | (go_at_call 85; refine (regC a _).mono ?_; rintro e w1 ⟨rfl, rfl⟩; rw [h0]) | (go_at_call 86; refine (valC b _).mono ?_; rintro e w1 ⟨rfl, rfl⟩; rw [h1]))
    go_ret
    exact ⟨by simp, (Below.refl _ _).alloc (Nat.le_refl _) _⟩

set_option maxRecDepth 100000 in
set_option maxHeartbeats 1600000 in
theorem spec2 (a b c : Int) (w : World) : Calls Tryz.prog 54 #[opV 2 a b c] w fun e w' => e = .returned (.bool (opOk 2 a b c)) ∧ Below w.heap.size w w' := by
  show Calls _ _ #[.agg #[.int .i64 2, .int .i64 a, .int .i64 b, .int .i64 c]] _ _
  have e0 : opOk 2 a b c = (inn 0 3 a && inn 0 3 b && inn 0 3 c) := by rfl
  rw [e0]
  clear e0
  obtain ⟨p0, h0⟩ : ∃ p, (inn 0 3 a) = p := ⟨_, rfl⟩
  obtain ⟨p1, h1⟩ : ∃ p, (inn 0 3 b) = p := ⟨_, rfl⟩
  rw [h0, h1]
  cases p0 <;> cases p1
  all_goals
    go_enter Tryz.func54, Tryz.ntmps54
    go_wp2_with (first | (go_at_call 85; refine (regC a _).mono ?_; rintro e w1 ⟨rfl, rfl⟩; rw [h0]) | (go_at_call 85; refine (regC b _).mono ?_; rintro e w1 ⟨rfl, rfl⟩; rw [h1]) | (go_at_call 85; refine (regC c _).mono ?_; rintro e w1 ⟨rfl, rfl⟩))
    go_ret
    exact ⟨by simp, (Below.refl _ _).alloc (Nat.le_refl _) _⟩

set_option maxRecDepth 100000 in
set_option maxHeartbeats 1600000 in
theorem spec3 (a b c : Int) (w : World) : Calls Tryz.prog 54 #[opV 3 a b c] w fun e w' => e = .returned (.bool (opOk 3 a b c)) ∧ Below w.heap.size w w' := by
  show Calls _ _ #[.agg #[.int .i64 3, .int .i64 a, .int .i64 b, .int .i64 c]] _ _
  have e0 : opOk 3 a b c = (inn 0 3 a && inn 0 3 b && inn 0 3 c) := by rfl
  rw [e0]
  clear e0
  obtain ⟨p0, h0⟩ : ∃ p, (inn 0 3 a) = p := ⟨_, rfl⟩
  obtain ⟨p1, h1⟩ : ∃ p, (inn 0 3 b) = p := ⟨_, rfl⟩
  rw [h0, h1]
  cases p0 <;> cases p1
  all_goals
    go_enter Tryz.func54, Tryz.ntmps54
    go_wp2_with (first | (go_at_call 85; refine (regC a _).mono ?_; rintro e w1 ⟨rfl, rfl⟩; rw [h0]) | (go_at_call 85; refine (regC b _).mono ?_; rintro e w1 ⟨rfl, rfl⟩; rw [h1]) | (go_at_call 85; refine (regC c _).mono ?_; rintro e w1 ⟨rfl, rfl⟩))
    go_ret
    exact ⟨by simp, (Below.refl _ _).alloc (Nat.le_refl _) _⟩

set_option maxRecDepth 100000 in
set_option maxHeartbeats 1600000 in
theorem spec4 (a b c : Int) (w : World) : Calls Tryz.prog 54 #[opV 4 a b c] w fun e w' => e = .returned (.bool (opOk 4 a b c)) ∧ Below w.heap.size w w' := by
  show Calls _ _ #[.agg #[.int .i64 4, .int .i64 a, .int .i64 b, .int .i64 c]] _ _
  have e0 : opOk 4 a b c = (inn 0 3 a && inn 0 3 b && inn 0 3 c) := by rfl
  rw [e0]
  clear e0
  obtain ⟨p0, h0⟩ : ∃ p, (inn 0 3 a) = p := ⟨_, rfl⟩
  obtain ⟨p1, h1⟩ : ∃ p, (inn 0 3 b) = p := ⟨_, rfl⟩
  rw [h0, h1]
  cases p0 <;> cases p1
  all_goals
    go_enter Tryz.func54, Tryz.ntmps54
    go_wp2_with (first | (go_at_call 85; refine (regC a _).mono ?_; rintro e w1 ⟨rfl, rfl⟩; rw [h0]) | (go_at_call 85; refine (regC b _).mono ?_; rintro e w1 ⟨rfl, rfl⟩; rw [h1]) | (go_at_call 85; refine (regC c _).mono ?_; rintro e w1 ⟨rfl, rfl⟩))
    go_ret
    exact ⟨by simp, (Below.refl _ _).alloc (Nat.le_refl _) _⟩

set_option maxRecDepth 100000 in
set_option maxHeartbeats 1600000 in
theorem spec5 (a b c : Int) (w : World) : Calls Tryz.prog 54 #[opV 5 a b c] w fun e w' => e = .returned (.bool (opOk 5 a b c)) ∧ Below w.heap.size w w' := by
  show Calls _ _ #[.agg #[.int .i64 5, .int .i64 a, .int .i64 b, .int .i64 c]] _ _
  have e0 : opOk 5 a b c = (inn 0 3 a && inn 0 7 b && (c == 0)) := by simp only [← inn_zero]; rfl
  rw [e0]
  clear e0
  obtain ⟨p0, h0⟩ : ∃ p, (inn 0 3 a) = p := ⟨_, rfl⟩
  obtain ⟨p1, h1⟩ : ∃ p, (inn 0 7 b) = p := ⟨_, rfl⟩
  rw [h0, h1]
  cases p0 <;> cases p1
  all_goals
    go_enter Tryz.func54, Tryz.ntmps54
    go_wp2_with (first | (go_at_call 85; refine (regC a _).mono ?_; rintro e w1 ⟨rfl, rfl⟩; rw [h0]) | (go_at_call 87; refine (cellC b _).mono ?_; rintro e w1 ⟨rfl, rfl⟩; rw [h1]))
    go_ret
    exact ⟨by simp, (Below.refl _ _).alloc (Nat.le_refl _) _⟩

set_option maxRecDepth 100000 in
set_option maxHeartbeats 1600000 in
theorem spec6 (a b c : Int) (w : World) : Calls Tryz.prog 54 #[opV 6 a b c] w fun e w' => e = .returned (.bool (opOk 6 a b c)) ∧ Below w.heap.size w w' := by
  show Calls _ _ #[.agg #[.int .i64 6, .int .i64 a, .int .i64 b, .int .i64 c]] _ _
  have e0 : opOk 6 a b c = (inn 0 7 a && inn 0 3 b && (c == 0)) := by simp only [← inn_zero]; rfl
  rw [e0]
  clear e0
  obtain ⟨p0, h0⟩ : ∃ p, (inn 0 7 a) = p := ⟨_, rfl⟩
  obtain ⟨p1, h1⟩ : ∃ p, (inn 0 3 b) = p := ⟨_, rfl⟩
  rw [h0, h1]
  cases p0 <;> cases p1
  all_goals
    go_enter Tryz.func54, Tryz.ntmps54
    go_wp2_with (first | (go_at_call 87; refine (cellC a _).mono ?_; rintro e w1 ⟨rfl, rfl⟩; rw [h0]) | (go_at_call 85; refine (regC b _).mono ?_; rintro e w1 ⟨rfl, rfl⟩; rw [h1]))
    go_ret
    exact ⟨by simp, (Below.refl _ _).alloc (Nat.le_refl _) _⟩

set_option maxRecDepth 100000 in
set_option maxHeartbeats 1600000 in
theorem spec7 (a b c : Int) (w : World) : Calls Tryz.prog 54 #[opV 7 a b c] w fun e w' => e = .returned (.bool (opOk 7 a b c)) ∧ Below w.heap.size w w' := by
  show Calls _ _ #[.agg #[.int .i64 7, .int .i64 a, .int .i64 b, .int .i64 c]] _ _
  have e0 : opOk 7 a b c = (inn 0 3 a && inn 1 20 b && (c == 0)) := by simp only [← inn_zero]; rfl
  rw [e0]
  clear e0
  obtain ⟨p0, h0⟩ : ∃ p, (inn 0 3 a) = p := ⟨_, rfl⟩
  obtain ⟨p1, h1⟩ : ∃ p, (inn 1 20 b) = p := ⟨_, rfl⟩
  rw [h0, h1]
  cases p0 <;> cases p1
  all_goals
    go_enter Tryz.func54, Tryz.ntmps54
    go_wp2_with (first | (go_at_call 85; refine (regC a _).mono ?_; rintro e w1 ⟨rfl, rfl⟩; rw [h0]) | (go_at_call 88; refine (innC b 1 20 _).mono ?_; rintro e w1 ⟨rfl, rfl⟩; rw [h1]))
    go_ret
    exact ⟨by simp, (Below.refl _ _).alloc (Nat.le_refl _) _⟩

set_option maxRecDepth 100000 in
set_option maxHeartbeats 1600000 in
theorem spec8 (a b c : Int) (w : World) : Calls Tryz.prog 54 #[opV 8 a b c] w fun e w' => e = .returned (.bool (opOk 8 a b c)) ∧ Below w.heap.size w w' := by
  show Calls _ _ #[.agg #[.int .i64 8, .int .i64 a, .int .i64 b, .int .i64 c]] _ _
  have e0 : opOk 8 a b c = (inn 0 3 a && (b == 0) && (c == 0)) := by simp only [← inn_zero]; rfl
  rw [e0]
  clear e0
  obtain ⟨p0, h0⟩ : ∃ p, (inn 0 3 a) = p := ⟨_, rfl⟩
  obtain ⟨p1, h1⟩ : ∃ p, ((b == 0)) = p := ⟨_, rfl⟩
  rw [h0, h1]
  cases p0 <;> cases p1
  all_goals
    go_enter Tryz.func54, Tryz.ntmps54
    go_wp2_with (first | (go_at_call 85; refine (regC a _).mono ?_; rintro e w1 ⟨rfl, rfl⟩; rw [h0]))
    go_ret
    exact ⟨by simp, (Below.refl _ _).alloc (Nat.le_refl _) _⟩

set_option maxRecDepth 100000 in
set_option maxHeartbeats 1600000 in
theorem spec9 (a b c : Int) (w : World) : Calls Tryz.prog 54 #[opV 9 a b c] w fun e w' => e = .returned (.bool (opOk 9 a b c)) ∧ Below w.heap.size w w' := by
  show Calls _ _ #[.agg #[.int .i64 9, .int .i64 a, .int .i64 b, .int .i64 c]] _ _
  have e0 : opOk 9 a b c = ((a == 0) && (b == 0) && (c == 0)) := by simp only [← inn_zero]; rfl
  rw [e0]
  clear e0
  obtain ⟨p0, h0⟩ : ∃ p, ((a == 0)) = p := ⟨_, rfl⟩
  obtain ⟨p1, h1⟩ : ∃ p, ((b == 0)) = p := ⟨_, rfl⟩
  rw [h0, h1]
  cases p0 <;> cases p1
  all_goals
    go_enter Tryz.func54, Tryz.ntmps54
    go_wp2_with fail
    go_ret
    exact ⟨by simp, (Below.refl _ _).alloc (Nat.le_refl _) _⟩

set_option maxRecDepth 100000 in
set_option maxHeartbeats 1600000 in
theorem spec10 (a b c : Int) (w : World) : Calls Tryz.prog 54 #[opV 10 a b c] w fun e w' => e = .returned (.bool (opOk 10 a b c)) ∧ Below w.heap.size w w' := by
  show Calls _ _ #[.agg #[.int .i64 10, .int .i64 a, .int .i64 b, .int .i64 c]] _ _
  have e0 : opOk 10 a b c = ((a == 0) && (b == 0) && (c == 0)) := by simp only [← inn_zero]; rfl
  rw [e0]
  clear e0
  obtain ⟨p0, h0⟩ : ∃ p, ((a == 0)) = p := ⟨_, rfl⟩
  obtain ⟨p1, h1⟩ : ∃ p, ((b == 0)) = p := ⟨_, rfl⟩
  rw [h0, h1]
  cases p0 <;> cases p1
  all_goals
    go_enter Tryz.func54, Tryz.ntmps54
    go_wp2_with fail
    go_ret
    exact ⟨by simp, (Below.refl _ _).alloc (Nat.le_refl _) _⟩

set_option maxRecDepth 100000 in
set_option maxHeartbeats 1600000 in
theorem spec11 (a b c : Int) (w : World) : Calls Tryz.prog 54 #[opV 11 a b c] w fun e w' => e = .returned (.bool (opOk 11 a b c)) ∧ Below w.heap.size w w' := by
  show Calls _ _ #[.agg #[.int .i64 11, .int .i64 a, .int .i64 b, .int .i64 c]] _ _
  have e0 : opOk 11 a b c = ((a == 0) && (b == 0) && (c == 0)) := by simp only [← inn_zero]; rfl
  rw [e0]
  clear e0
  obtain ⟨p0, h0⟩ : ∃ p, ((a == 0)) = p := ⟨_, rfl⟩
  obtain ⟨p1, h1⟩ : ∃ p, ((b == 0)) = p := ⟨_, rfl⟩
  rw [h0, h1]
  cases p0 <;> cases p1
  all_goals
    go_enter Tryz.func54, Tryz.ntmps54
    go_wp2_with fail
    go_ret
    exact ⟨by simp, (Below.refl _ _).alloc (Nat.le_refl _) _⟩

set_option maxRecDepth 100000 in
set_option maxHeartbeats 1600000 in
theorem spec12 (a b c : Int) (w : World) : Calls Tryz.prog 54 #[opV 12 a b c] w fun e w' => e = .returned (.bool (opOk 12 a b c)) ∧ Below w.heap.size w w' := by
  show Calls _ _ #[.agg #[.int .i64 12, .int .i64 a, .int .i64 b, .int .i64 c]] _ _
  have e0 : opOk 12 a b c = (inn 0 7 a && inn 0 3 b && inn 0 3 c) := by rfl
  rw [e0]
  clear e0
  obtain ⟨p0, h0⟩ : ∃ p, (inn 0 7 a) = p := ⟨_, rfl⟩
  obtain ⟨p1, h1⟩ : ∃ p, (inn 0 3 b) = p := ⟨_, rfl⟩
  rw [h0, h1]
  cases p0 <;> cases p1
  all_goals
    go_enter Tryz.func54, Tryz.ntmps54
    go_wp2_with (first | (go_at_call 88; refine (innC a 0 7 _).mono ?_; rintro e w1 ⟨rfl, rfl⟩; rw [h0]) | (go_at_call 85; refine (regC b _).mono ?_; rintro e w1 ⟨rfl, rfl⟩; rw [h1]) | (go_at_call 85; refine (regC c _).mono ?_; rintro e w1 ⟨rfl, rfl⟩))
    go_ret
    exact ⟨by simp, (Below.refl _ _).alloc (Nat.le_refl _) _⟩

set_option maxRecDepth 100000 in
set_option maxHeartbeats 1600000 in
theorem spec13 (a b c : Int) (w : World) : Calls Tryz.prog 54 #[opV 13 a b c] w fun e w' => e = .returned (.bool (opOk 13 a b c)) ∧ Below w.heap.size w w' := by
  show Calls _ _ #[.agg #[.int .i64 13, .int .i64 a, .int .i64 b, .int .i64 c]] _ _
  have e0 : opOk 13 a b c = (inn 0 3 a && inn 0 7 b && (c == 0)) := by simp only [← inn_zero]; rfl
  rw [e0]
  clear e0
  obtain ⟨p0, h0⟩ : ∃ p, (inn 0 3 a) = p := ⟨_, rfl⟩
  obtain ⟨p1, h1⟩ : ∃ p, (inn 0 7 b) = p := ⟨_, rfl⟩
  rw [h0, h1]
  cases p0 <;> cases p1
  all_goals
    go_enter Tryz.func54, Tryz.ntmps54
    go_wp2_with (first | (go_at_call 85; refine (regC a _).mono ?_; rintro e w1 ⟨rfl, rfl⟩; rw [h0]) | (go_at_call 88; refine (innC b 0 7 _).mono ?_; rintro e w1 ⟨rfl, rfl⟩; rw [h1]))
    go_ret
    exact ⟨by simp, (Below.refl _ _).alloc (Nat.le_refl _) _⟩

set_option maxRecDepth 100000 in
set_option maxHeartbeats 1600000 in
theorem spec14 (a b c : Int) (w : World) : Calls Tryz.prog 54 #[opV 14 a b c] w fun e w' => e = .returned (.bool (opOk 14 a b c)) ∧ Below w.heap.size w w' := by
  show Calls _ _ #[.agg #[.int .i64 14, .int .i64 a, .int .i64 b, .int .i64 c]] _ _
  have e0 : opOk 14 a b c = (inn 0 7 a && inn 0 3 b && (c == 0)) := by simp only [← inn_zero]; rfl
  rw [e0]
  clear e0
  obtain ⟨p0, h0⟩ : ∃ p, (inn 0 7 a) = p := ⟨_, rfl⟩
  obtain ⟨p1, h1⟩ : ∃ p, (inn 0 3 b) = p := ⟨_, rfl⟩
  rw [h0, h1]
  cases p0 <;> cases p1
  all_goals
    go_enter Tryz.func54, Tryz.ntmps54
    go_wp2_with (first | (go_at_call 88; refine (innC a 0 7 _).mono ?_; rintro e w1 ⟨rfl, rfl⟩; rw [h0]) | (go_at_call 85; refine (regC b _).mono ?_; rintro e w1 ⟨rfl, rfl⟩; rw [h1]))
    go_ret
    exact ⟨by simp, (Below.refl _ _).alloc (Nat.le_refl _) _⟩

set_option maxRecDepth 100000 in
set_option maxHeartbeats 1600000 in
theorem spec15 (a b c : Int) (w : World) : Calls Tryz.prog 54 #[opV 15 a b c] w fun e w' => e = .returned (.bool (opOk 15 a b c)) ∧ Below w.heap.size w w' := by
  show Calls _ _ #[.agg #[.int .i64 15, .int .i64 a, .int .i64 b, .int .i64 c]] _ _
  have e0 : opOk 15 a b c = (inn 0 3 a && (b == 0) && (c == 0)) := by simp only [← inn_zero]; rfl
  rw [e0]
  clear e0
  obtain ⟨p0, h0⟩ : ∃ p, (inn 0 3 a) = p := ⟨_, rfl⟩
  obtain ⟨p1, h1⟩ : ∃ p, ((b == 0)) = p := ⟨_, rfl⟩
  rw [h0, h1]
  cases p0 <;> cases p1
  all_goals
    go_enter Tryz.func54, Tryz.ntmps54
    go_wp2_with (first | (go_at_call 85; refine (regC a _).mono ?_; rintro e w1 ⟨rfl, rfl⟩; rw [h0]))
    go_ret
    exact ⟨by simp, (Below.refl _ _).alloc (Nat.le_refl _) _⟩

set_option maxRecDepth 100000 in
set_option maxHeartbeats 1600000 in
theorem spec16 (a b c : Int) (w : World) : Calls Tryz.prog 54 #[opV 16 a b c] w fun e w' => e = .returned (.bool (opOk 16 a b c)) ∧ Below w.heap.size w w' := by
  show Calls _ _ #[.agg #[.int .i64 16, .int .i64 a, .int .i64 b, .int .i64 c]] _ _
  have e0 : opOk 16 a b c = (inn 0 3 a && (b == 0) && (c == 0)) := by simp only [← inn_zero]; rfl
  rw [e0]
  clear e0
  obtain ⟨p0, h0⟩ : ∃ p, (inn 0 3 a) = p := ⟨_, rfl⟩
  obtain ⟨p1, h1⟩ : ∃ p, ((b == 0)) = p := ⟨_, rfl⟩
  rw [h0, h1]
  cases p0 <;> cases p1
  all_goals
    go_enter Tryz.func54, Tryz.ntmps54
    go_wp2_with (first | (go_at_call 85; refine (regC a _).mono ?_; rintro e w1 ⟨rfl, rfl⟩; rw [h0]))
    go_ret
    exact ⟨by simp, (Below.refl _ _).alloc (Nat.le_refl _) _⟩

set_option maxRecDepth 100000 in
set_option maxHeartbeats 1600000 in
theorem specNone (k a b c : Int) (w : World) (h : k < 1 ∨ 16 < k) : Calls Tryz.prog 54 #[opV k a b c] w fun e w' => e = .returned (.bool (opOk k a b c)) ∧ Below w.heap.size w w' := by
  show Calls _ _ #[.agg #[.int .i64 k, .int .i64 a, .int .i64 b, .int .i64 c]] _ _
  have e0 : opOk k a b c = false := by unfold opOk; rw [spans_none h]
  rw [e0]
  clear e0
  have d1 : (k == 1) = false := by simp; omega
  have d2 : (k == 2) = false := by simp; omega
  have d3 : (k == 3) = false := by simp; omega
  have d4 : (k == 4) = false := by simp; omega
  have d5 : (k == 5) = false := by simp; omega
  have d6 : (k == 6) = false := by simp; omega
  have d7 : (k == 7) = false := by simp; omega
  have d8 : (k == 8) = false := by simp; omega
  have d9 : (k == 9) = false := by simp; omega
  have d10 : (k == 10) = false := by simp; omega
  have d11 : (k == 11) = false := by simp; omega
  have d12 : (k == 12) = false := by simp; omega
  have d13 : (k == 13) = false := by simp; omega
  have d14 : (k == 14) = false := by simp; omega
  have d15 : (k == 15) = false := by simp; omega
  have d16 : (k == 16) = false := by simp; omega
  clear h
  go_enter Tryz.func54, Tryz.ntmps54
  go_wp2
  go_ret
  exact ⟨rfl, (Below.refl _ _).alloc (Nat.le_refl _) _⟩

theorem specC (k a b c : Int) (w : World) : Calls Tryz.prog 54 #[opV k a b c] w fun e w' => e = .returned (.bool (opOk k a b c)) ∧ Below w.heap.size w w' := by
  rcases kinds k with rfl | rfl | rfl | rfl | rfl | rfl | rfl | rfl | rfl | rfl | rfl | rfl | rfl | rfl | rfl | rfl | h
  · exact spec1 a b c w
  · exact spec2 a b c w
  · exact spec3 a b c w
  · exact spec4 a b c w
  · exact spec5 a b c w
  · exact spec6 a b c w
  · exact spec7 a b c w
  · exact spec8 a b c w
  · exact spec9 a b c w
  · exact spec10 a b c w
  · exact spec11 a b c w
  · exact spec12 a b c w
  · exact spec13 a b c w
  · exact spec14 a b c w
  · exact spec15 a b c w
  · exact spec16 a b c w
  · exact specNone k a b c w h
end Ops
end Go.Proofs.YtjopmakbnompnaaGreatDoor
/- Rows of bytes in memory: what they read as, texts made of them, bytes put behind them. -/
namespace Go.Proofs.YtjopmakbnompnaaGreatDoor
open Go.RowKit

theorem Tryz.infoByte : (Tryz.prog.info? 5).map (fun i => (i.zero, i.size, i.bytes)) = some (some (.int .u8 0), 1, 1) := by kernel_rfl

namespace Bytes

def bv (l : List UInt8) : List Value := l.map fun b => Value.int .u8 (b.toNat : Int)
theorem bv_length (l : List UInt8) : (bv l).length = l.length := by simp [bv]
theorem bv_get (l : List UInt8) (j : Nat) (v : Value) (h : (bv l)[j]? = some v) : ∃ b, l[j]? = some b ∧ v = .int .u8 (b.toNat : Int) := by
  unfold bv at h; rw [List.getElem?_map] at h
  cases hb : l[j]? with
  | none => rw [hb] at h; simp at h
  | some b => rw [hb] at h; simp at h; exact ⟨b, rfl, h.symm⟩
theorem bv_one (l : List UInt8) : ∀ v ∈ bv l, v.oneCell' = true := by
  intro v hv; unfold bv at hv; obtain ⟨b, _, rfl⟩ := List.mem_map.1 hv; rfl
theorem bv_splice (l cs : List UInt8) (k : Nat) : bv (splice l k cs) = splice (bv l) k (bv cs) := by simp [bv, splice]

/-- block g holds just these bytes -/
def Row (w : World) (g : Nat) (l : List UInt8) : Prop := w.heap[g]? = some (.cells (bv l).toArray 5 (0, 0))

theorem Row.lt {w : World} {g : Nat} {l : List UInt8} (h : Row w g l) : g < w.heap.size := by
  unfold Row at h
  rcases Nat.lt_or_ge g w.heap.size with h1 | h1
  · exact h1
  · rw [Array.getElem?_eq_none h1] at h; cases h
theorem Row.alloc {w : World} {g : Nat} {l : List UInt8} (h : Row w g l) (o : Obj) : Row (w.alloc o) g l := by
  have := h.lt; unfold Row at *; rw [Below.heap_alloc _ _ _ this]; exact h
theorem Row.below {w w' : World} {g B : Nat} {l : List UInt8} (h : Row w g l) (hb : Below B w w') (hg : g < B) : Row w' g l := by
  unfold Row at *; rw [hb.block g hg]; exact h
theorem Row.cell {w : World} {g : Nat} {l : List UInt8} (h : Row w g l) (j : Nat) (hj : j < l.length) : w.cell? ⟨g, j, none⟩ = some (.int .u8 (l[j].toNat : Int)) := by
  unfold Row at h; simp [World.cell?, h, bv, hj]
theorem Row.made (w : World) (n : Nat) : Row (w.alloc (.cells (madeCells #[.int .u8 0] n) 5)) w.heap.size (List.replicate n 0) := by
  have e : (madeCells #[Value.int .u8 0] n) = (bv (List.replicate n 0)).toArray := by
    apply Array.ext
    · simp [size_madeCells, bv]
    · intro i h1 h2; simp [madeCells, bv, Nat.mod_one]
  unfold Row
  rw [e]
  show (w.heap.push _)[w.heap.size]? = _
  simp

/-- a row that is filled so far, noughts behind -/
def pad (n : Nat) (A : List UInt8) : List UInt8 := A ++ List.replicate (n - A.length) 0
theorem pad_length (n : Nat) (A : List UInt8) (h : A.length ≤ n) : (pad n A).length = n := by simp [pad]; omega
theorem pad_nil (n : Nat) : pad n [] = List.replicate n 0 := by simp [pad]
theorem pad_full (A : List UInt8) : pad A.length A = A := by simp [pad]
theorem pad_take (n : Nat) (A : List UInt8) : (pad n A).take A.length = A := by simp [pad]
theorem splice_pad (n : Nat) (A cs : List UInt8) (h : A.length + cs.length ≤ n) : splice (pad n A) A.length cs = pad n (A ++ cs) := by
  unfold splice pad
  rw [List.take_left, List.drop_append, List.drop_of_length_le (by omega), List.nil_append, List.drop_replicate, List.append_assoc, List.length_append]
  congr 3
  omega

/-- the text of a row's beginning -/
theorem Row.str {w : World} {g : Nat} {l : List UInt8} (h : Row w g l) (k c : Nat) (hk : k ≤ l.length) :
    (convert 22 9 (.slice (some ⟨g, 0, none⟩) k c)).run Tryz.prog w = .ok (.string ⟨(l.take k).toArray⟩) w := by
  have hl : (l.take k).length = k := by simp; omega
  have := run_convert_bytes_back (P := Tryz.prog) w 22 9 5 ⟨g, 0, none⟩ c (l.take k) Tryz.underlying22 Tryz.underlying5 Tryz.underlying9
    (fun j hj => by
      have h1 := h.cell j (by omega)
      have h2 : (⟨g, 0, none⟩ : Addr).add j = ⟨g, j, none⟩ := by unfold Addr.add; split <;> simp_all
      rw [h2, h1]; simp)
  rw [hl] at this
  exact this

/-- the cells of a new block of one byte, or of two -/
theorem new1 (w : World) (v : Int) (b : UInt8) (h : v = (b.toNat : Int)) : ∀ j c, [b][j]? = some c → (w.alloc (.cells #[.int .u8 v] 5)).cell? ((⟨w.heap.size, 0, none⟩ : Addr).add j) = some (.int .u8 (c.toNat : Int)) := by
  intro j c hj
  match j, hj with
  | 0, hj => simp at hj; subst hj; subst h; simp [Addr.add, World.cell?_alloc_at]
  | j + 1, hj => simp at hj
theorem new2 (w : World) (v u : Int) (b d : UInt8) (h : v = (b.toNat : Int)) (h' : u = (d.toNat : Int)) : ∀ j c, [b, d][j]? = some c → (w.alloc (.cells #[.int .u8 v, .int .u8 u] 5)).cell? ((⟨w.heap.size, 0, none⟩ : Addr).add j) = some (.int .u8 (c.toNat : Int)) := by
  intro j c hj
  match j, hj with
  | 0, hj => simp at hj; subst hj; subst h; simp [Addr.add, World.cell?_alloc_at]
  | 1, hj => simp at hj; subst hj; subst h'; simp [Addr.add, World.cell?_alloc_at]
  | j + 2, hj => simp at hj

/-- the text of one byte -/
theorem str1 (v : Int) (b : UInt8) (h : v = (b.toNat : Int)) (w : World) : (convert 22 9 (.slice (some ⟨w.heap.size, 0, none⟩) 1 1)).run Tryz.prog (w.alloc (.cells #[.int .u8 v] 5)) = .ok (.string ⟨#[b]⟩) (w.alloc (.cells #[.int .u8 v] 5)) := by
  have := run_convert_bytes_back (P := Tryz.prog) (w.alloc (.cells #[.int .u8 v] 5)) 22 9 5 ⟨w.heap.size, 0, none⟩ 1 [b] Tryz.underlying22 Tryz.underlying5 Tryz.underlying9
    (fun j hj => new1 w v b h j _ (List.getElem?_eq_getElem hj))
  exact this

theorem makeRow (n : Nat) (h : n ≤ 140737488355328) (w : World) :
    (Instr.makeSlice 22 (.int .i64 (n : Int)) (.int .i64 (n : Int))).run Tryz.prog w = .ok (.slice (some ⟨w.heap.size, 0, none⟩) n n) (w.alloc (.cells (madeCells #[.int .u8 0] n) 5)) :=
  run_make_row' (P := Tryz.prog) 22 5 (.int .u8 0) 1 Tryz.underlying22 Tryz.infoByte rfl .i64 .i64 n (by omega) (by omega) w

/-- the text of what the call owns -/
theorem own_str {w : World} {B : Nat} {v : Value} {n : Nat} {A : List UInt8} (h : w.ownsRow B 5 1 v n (bv A)) :
    (convert 22 9 v).run Tryz.prog w = .ok (.string ⟨A.toArray⟩) w := by
  obtain ⟨h1, h2⟩ := h
  rw [bv_length] at h1
  rcases h2 with ⟨rfl, rfl⟩ | ⟨g, cap, cur, rfl, _, hg, hnc, _, hsz, htk⟩
  · obtain rfl : A = [] := List.eq_nil_of_length_eq_zero (by omega)
    rw [run_convert_bytes_string w 22 9 5 none 0 0 Tryz.underlying22 Tryz.underlying5 Tryz.underlying9]
    rfl
  · have hl : A.length = n := by omega
    have := run_convert_bytes_back (P := Tryz.prog) w 22 9 5 ⟨g, 0, none⟩ cap A Tryz.underlying22 Tryz.underlying5 Tryz.underlying9
      (fun j hj => by
        have h2 : (⟨g, 0, none⟩ : Addr).add j = ⟨g, j, none⟩ := by unfold Addr.add; split <;> simp_all
        have h3 : cur[j]? = some (.int .u8 (A[j].toNat : Int)) := by
          have h4 : (cur.toList.take (n * 1))[j]? = (bv A)[j]? := by rw [htk]
          rw [List.getElem?_take, if_pos (by omega)] at h4
          rw [← Array.getElem?_toList, h4]
          simp [bv, hj]
        rw [h2]
        simp [World.cell?, hg, h3])
    rw [hl] at this
    exact this
/-- an empty literal owns nothing -/
theorem own_lit (w : World) (B : Nat) (hB : B ≤ w.heap.size) : (w.alloc (.cells #[] 5)).ownsRow B 5 1 (.slice (some ⟨w.heap.size, 0, none⟩) 0 0) 0 (bv []) :=
  World.ownsRow_made w #[] 0 hB (by simp [maxLen]) rfl

/-- bytes put behind what the call owns, as one step of a region that draws its order -/
theorem step_app {ops : Array Oper} {o : Oper} {a : Act} {K : Act → World → Prop} {Q : Exit → Act → World → Prop} {E : Prop} (w w0 : World) (hgd : o.guard = none) (s x : Operand)
    (ho : o.op = .call { callee := .builtin .append, args := #[s, x], argTypes := #[22, 22] }) (B n m c : Nat) (A C : List UInt8) (v : Value) (ad : Addr)
    (hs : a.eval s = v) (hx : a.eval x = .slice (some ad) m c) (hown : w.ownsRow B 5 1 v n (bv A)) (hl : C.length = m)
    (hnews : ∀ j b, C[j]? = some b → w.cell? (ad.add j) = some (.int .u8 (b.toNat : Int))) (hm : 0 < m) (hbig : n + m ≤ 140737488355328) (hB : Below B w0 w) (hbase : B ≤ w.heap.size)
    (h : ∀ g cap w', Hid (w'.ownsRow B 5 1 (.slice (some ⟨g, 0, none⟩) (n + m) cap) (n + m) (bv (A ++ C))) → Hid (Below B w0 w') → K (a.put o.dst (.slice (some ⟨g, 0, none⟩) (n + m) cap)) w') :
    if Region.wanted o (yielded ops a.tmps) = true then Oper.wp Tryz.prog o a w K Q else E := by
  obtain ⟨i0, hi, hz0, hz1, hz2⟩ := info_parts Tryz.infoByte
  refine step_append_lies w hgd s x 22 ho B 5 i0 (.int .u8 0) 1 1 Tryz.underlying22 hi hz0 hz1 hz2 rfl (by decide) v n (bv A) hs hown ad m c (bv C) hx (by rw [bv_length, hl]; omega)
    (fun j u hj => by obtain ⟨b, hb, rfl⟩ := bv_get _ _ _ hj; exact hnews j b hb) (bv_one C) hm (by unfold maxLen; omega) (by omega) hbase w.heap.size rfl ?_
  intro g cap w' hown' hgr _ _
  refine h g cap w' ?_ (hB.grown hgr hbase (fun g hg => (hown.lt g hg).1))
  have e : bv (A ++ C) = bv A ++ bv C := by simp [bv]
  show World.ownsRow _ _ _ _ _ _ _
  rw [e]; exact hown'
end Bytes
end Go.Proofs.YtjopmakbnompnaaGreatDoor
/-
  DERIVED: THE SHELF's CONTRACTS AT THIS DUMP, IN PLAIN WORDS (tools/lay-plain.mjs out of 'YtjopmakbnompnaaGreatDoorShelfSmall.lean', which tools/lay-shelf.mjs wrote): THE SAME DECLARATIONS UNDER THE SAME NAMES: 'import', 'namespace', 'open', 'def', 'theorem' AND NOTHING ELSE: no command of the shelf's: FOR A HAND-IN. Each laying: the table of numbers ('.._ren') and one theorem, a field a fact of the dump's own or the kernel's comparison; each contract: ONE APPLICATION.
-/
namespace Go.Proofs
open Go.Shelf
def Tryz.laysM171_ren : Go.Shelf.Ren := ⟨fun | 171 => 77 | 243 => 101 | 246 => 120 | 283 => 129 | 284 => 130 | 285 => 131 | 286 => 132 | 129 => 138 | 317 => 137 | 318 => 139 | 319 => 140 | 320 => 141 | 337 => 142 | 338 => 143 | n => n, fun | 3 => 3 | 9 => 9 | 2 => 2 | 4 => 4 | 171 => 173 | 0 => 0 | 53 => 166 | 37 => 22 | 5 => 5 | 173 => 176 | 212 => 191 | 51 => 178 | 20 => 20 | 213 => 192 | 46 => 130 | 232 => 195 | 233 => 196 | n => n, fun | 17 => 7 | 18 => 8 | 19 => 9 | n => n⟩
theorem Tryz.laysM171 : Go.Proofs.LaysM.n171 Tryz.prog Tryz.laysM171_ren := {
  mixed := by kernel_rfl
  f129 := Tryz.func138.trans (congrArg some (by kernel_rfl))
  f171 := Tryz.func77.trans (congrArg some (by kernel_rfl))
  f243 := Tryz.func101.trans (congrArg some (by kernel_rfl))
  f246 := Tryz.func120.trans (congrArg some (by kernel_rfl))
  f283 := Tryz.func129.trans (congrArg some (by kernel_rfl))
  f284 := Tryz.func130.trans (congrArg some (by kernel_rfl))
  f285 := Tryz.func131.trans (congrArg some (by kernel_rfl))
  f286 := Tryz.func132.trans (congrArg some (by kernel_rfl))
  f317 := Tryz.func137.trans (congrArg some (by kernel_rfl))
  f318 := Tryz.func139.trans (congrArg some (by kernel_rfl))
  f319 := Tryz.func140.trans (congrArg some (by kernel_rfl))
  f320 := Tryz.func141.trans (congrArg some (by kernel_rfl))
  f337 := Tryz.func142.trans (congrArg some (by kernel_rfl))
  f338 := Tryz.func143.trans (congrArg some (by kernel_rfl))
  t0 := Tryz.underlying0
  a0 := Tryz.isAgg0
  z0 := Tryz.sizeOf0
  v0 := Tryz.zeroValue0
  t2 := Tryz.underlying2
  a2 := Tryz.isAgg2
  z2 := Tryz.sizeOf2
  v2 := Tryz.zeroValue2
  t3 := Tryz.underlying3
  a3 := Tryz.isAgg3
  z3 := Tryz.sizeOf3
  v3 := Tryz.zeroValue3
  t4 := Tryz.underlying4
  a4 := Tryz.isAgg4
  z4 := Tryz.sizeOf4
  v4 := Tryz.zeroValue4
  t5 := Tryz.underlying5
  a5 := Tryz.isAgg5
  z5 := Tryz.sizeOf5
  v5 := Tryz.zeroValue5
  t9 := Tryz.underlying9
  a9 := Tryz.isAgg9
  z9 := Tryz.sizeOf9
  v9 := Tryz.zeroValue9
  t20 := Tryz.underlying20
  a20 := Tryz.isAgg20
  z20 := Tryz.sizeOf20
  v20 := Tryz.zeroValue20
  t37 := Tryz.underlying22
  a37 := Tryz.isAgg22
  z37 := Tryz.sizeOf22
  v37 := Tryz.zeroValue22
  t46 := Tryz.underlying130
  a46 := Tryz.isAgg130
  z46 := Tryz.sizeOf130
  v46 := Tryz.zeroValue130
  t51 := Tryz.underlying178
  a51 := Tryz.isAgg178
  z51 := Tryz.sizeOf178
  v51 := Tryz.zeroValue178
  t53 := Tryz.underlying166
  a53 := Tryz.isAgg166
  z53 := Tryz.sizeOf166
  v53 := Tryz.zeroValue166
  t171 := Tryz.underlying173
  a171 := Tryz.isAgg173
  z171 := Tryz.sizeOf173
  v171 := Tryz.zeroValue173
  t173 := Tryz.underlying176
  a173 := Tryz.isAgg176
  z173 := Tryz.sizeOf176
  v173 := Tryz.zeroValue176
  t212 := Tryz.underlying191
  a212 := Tryz.isAgg191
  z212 := Tryz.sizeOf191
  v212 := Tryz.zeroValue191
  t213 := Tryz.underlying192
  a213 := Tryz.isAgg192
  z213 := Tryz.sizeOf192
  t232 := Tryz.underlying195
  a232 := Tryz.isAgg195
  z232 := Tryz.sizeOf195
  v232 := Tryz.zeroValue195
  t233 := Tryz.underlying196
  a233 := Tryz.isAgg196
  z233 := Tryz.sizeOf196
  v233 := Tryz.zeroValue196
  g17 := by kernel_rfl
  g18 := by kernel_rfl
  g19 := by kernel_rfl
  i0 := by kernel_rfl
  i2 := by kernel_rfl
  i3 := by kernel_rfl
  i4 := by kernel_rfl
  i5 := by kernel_rfl
  i9 := by kernel_rfl
  i20 := by kernel_rfl
  i37 := by kernel_rfl
  i46 := by kernel_rfl
  i51 := by kernel_rfl
  i53 := by kernel_rfl
  i171 := by kernel_rfl
  i173 := by kernel_rfl
  i212 := by kernel_rfl
  i232 := by kernel_rfl
  i233 := by kernel_rfl
  m17 := by kernel_rfl
  m18 := by kernel_rfl
  m19 := by kernel_rfl }
def Tryz.laysC172_ren : Go.Shelf.Ren := ⟨fun | 172 => 68 | 244 => 98 | 245 => 99 | 247 => 115 | 279 => 116 | 280 => 117 | 281 => 118 | 282 => 119 | 287 => 126 | 316 => 127 | 171 => 77 | 205 => 128 | 321 => 135 | 322 => 136 | 243 => 101 | 246 => 120 | 283 => 129 | 284 => 130 | 285 => 131 | 286 => 132 | 129 => 138 | 317 => 137 | 318 => 139 | 319 => 140 | 320 => 141 | 337 => 142 | 338 => 143 | n => n, fun | 9 => 9 | 3 => 3 | 75 => 50 | 76 => 104 | 4 => 4 | 5 => 5 | 167 => 159 | 37 => 22 | 0 => 0 | 85 => 160 | 2 => 2 | 168 => 162 | 53 => 166 | 175 => 167 | 46 => 130 | 210 => 171 | 127 => 186 | 145 => 189 | 143 => 187 | 21 => 21 | 171 => 173 | 173 => 176 | 212 => 191 | 51 => 178 | 20 => 20 | 213 => 192 | 232 => 195 | 233 => 196 | 80 => 197 | n => n, fun | 15 => 3 | 16 => 4 | 17 => 7 | 18 => 8 | 19 => 9 | n => n⟩
theorem Tryz.laysC172 : Go.Proofs.LaysC.n172 Tryz.prog Tryz.laysC172_ren := {
  mixed := by kernel_rfl
  f129 := Tryz.func138.trans (congrArg some (by kernel_rfl))
  f171 := Tryz.func77.trans (congrArg some (by kernel_rfl))
  f172 := Tryz.func68.trans (congrArg some (by kernel_rfl))
  f205 := Tryz.func128.trans (congrArg some (by kernel_rfl))
  f243 := Tryz.func101.trans (congrArg some (by kernel_rfl))
  f244 := Tryz.func98.trans (congrArg some (by kernel_rfl))
  f245 := Tryz.func99.trans (congrArg some (by kernel_rfl))
  f246 := Tryz.func120.trans (congrArg some (by kernel_rfl))
  f247 := Tryz.func115.trans (congrArg some (by kernel_rfl))
  f279 := Tryz.func116.trans (congrArg some (by kernel_rfl))
  f280 := Tryz.func117.trans (congrArg some (by kernel_rfl))
  f281 := Tryz.func118.trans (congrArg some (by kernel_rfl))
  f282 := Tryz.func119.trans (congrArg some (by kernel_rfl))
  f283 := Tryz.func129.trans (congrArg some (by kernel_rfl))
  f284 := Tryz.func130.trans (congrArg some (by kernel_rfl))
  f285 := Tryz.func131.trans (congrArg some (by kernel_rfl))
  f286 := Tryz.func132.trans (congrArg some (by kernel_rfl))
  f287 := Tryz.func126.trans (congrArg some (by kernel_rfl))
  f316 := Tryz.func127.trans (congrArg some (by kernel_rfl))
  f317 := Tryz.func137.trans (congrArg some (by kernel_rfl))
  f318 := Tryz.func139.trans (congrArg some (by kernel_rfl))
  f319 := Tryz.func140.trans (congrArg some (by kernel_rfl))
  f320 := Tryz.func141.trans (congrArg some (by kernel_rfl))
  f321 := Tryz.func135.trans (congrArg some (by kernel_rfl))
  f322 := Tryz.func136.trans (congrArg some (by kernel_rfl))
  f337 := Tryz.func142.trans (congrArg some (by kernel_rfl))
  f338 := Tryz.func143.trans (congrArg some (by kernel_rfl))
  t0 := Tryz.underlying0
  a0 := Tryz.isAgg0
  z0 := Tryz.sizeOf0
  v0 := Tryz.zeroValue0
  t2 := Tryz.underlying2
  a2 := Tryz.isAgg2
  z2 := Tryz.sizeOf2
  v2 := Tryz.zeroValue2
  t3 := Tryz.underlying3
  a3 := Tryz.isAgg3
  z3 := Tryz.sizeOf3
  v3 := Tryz.zeroValue3
  t4 := Tryz.underlying4
  a4 := Tryz.isAgg4
  z4 := Tryz.sizeOf4
  v4 := Tryz.zeroValue4
  t5 := Tryz.underlying5
  a5 := Tryz.isAgg5
  z5 := Tryz.sizeOf5
  v5 := Tryz.zeroValue5
  t9 := Tryz.underlying9
  a9 := Tryz.isAgg9
  z9 := Tryz.sizeOf9
  v9 := Tryz.zeroValue9
  t20 := Tryz.underlying20
  a20 := Tryz.isAgg20
  z20 := Tryz.sizeOf20
  v20 := Tryz.zeroValue20
  t21 := Tryz.underlying21
  a21 := Tryz.isAgg21
  z21 := Tryz.sizeOf21
  v21 := Tryz.zeroValue21
  t37 := Tryz.underlying22
  a37 := Tryz.isAgg22
  z37 := Tryz.sizeOf22
  v37 := Tryz.zeroValue22
  t46 := Tryz.underlying130
  a46 := Tryz.isAgg130
  z46 := Tryz.sizeOf130
  v46 := Tryz.zeroValue130
  t51 := Tryz.underlying178
  a51 := Tryz.isAgg178
  z51 := Tryz.sizeOf178
  v51 := Tryz.zeroValue178
  t53 := Tryz.underlying166
  a53 := Tryz.isAgg166
  z53 := Tryz.sizeOf166
  v53 := Tryz.zeroValue166
  t75 := Tryz.underlying50
  a75 := Tryz.isAgg50
  z75 := Tryz.sizeOf50
  v75 := Tryz.zeroValue50
  t76 := Tryz.underlying104
  a76 := Tryz.isAgg104
  z76 := Tryz.sizeOf104
  v76 := Tryz.zeroValue104
  t85 := Tryz.underlying160
  a85 := Tryz.isAgg160
  z85 := Tryz.sizeOf160
  v85 := Tryz.zeroValue160
  t127 := Tryz.underlying186
  a127 := Tryz.isAgg186
  z127 := Tryz.sizeOf186
  v127 := Tryz.zeroValue186
  t143 := Tryz.underlying187
  a143 := Tryz.isAgg187
  z143 := Tryz.sizeOf187
  v143 := Tryz.zeroValue187
  t145 := Tryz.underlying189
  a145 := Tryz.isAgg189
  z145 := Tryz.sizeOf189
  v145 := Tryz.zeroValue189
  t167 := Tryz.underlying159
  a167 := Tryz.isAgg159
  z167 := Tryz.sizeOf159
  v167 := Tryz.zeroValue159
  t168 := Tryz.underlying162
  a168 := Tryz.isAgg162
  z168 := Tryz.sizeOf162
  v168 := Tryz.zeroValue162
  t171 := Tryz.underlying173
  a171 := Tryz.isAgg173
  z171 := Tryz.sizeOf173
  v171 := Tryz.zeroValue173
  t173 := Tryz.underlying176
  a173 := Tryz.isAgg176
  z173 := Tryz.sizeOf176
  v173 := Tryz.zeroValue176
  t175 := Tryz.underlying167
  a175 := Tryz.isAgg167
  z175 := Tryz.sizeOf167
  v175 := Tryz.zeroValue167
  t210 := Tryz.underlying171
  a210 := Tryz.isAgg171
  z210 := Tryz.sizeOf171
  v210 := Tryz.zeroValue171
  t212 := Tryz.underlying191
  a212 := Tryz.isAgg191
  z212 := Tryz.sizeOf191
  v212 := Tryz.zeroValue191
  t213 := Tryz.underlying192
  a213 := Tryz.isAgg192
  z213 := Tryz.sizeOf192
  t232 := Tryz.underlying195
  a232 := Tryz.isAgg195
  z232 := Tryz.sizeOf195
  v232 := Tryz.zeroValue195
  t233 := Tryz.underlying196
  a233 := Tryz.isAgg196
  z233 := Tryz.sizeOf196
  v233 := Tryz.zeroValue196
  g15 := by kernel_rfl
  g16 := by kernel_rfl
  g17 := by kernel_rfl
  g18 := by kernel_rfl
  g19 := by kernel_rfl
  t80 := Tryz.underlying197
  a80 := Tryz.isAgg197
  z80 := Tryz.sizeOf197
  v80 := Tryz.zeroValue197
  i0 := by kernel_rfl
  i2 := by kernel_rfl
  i3 := by kernel_rfl
  i4 := by kernel_rfl
  i5 := by kernel_rfl
  i9 := by kernel_rfl
  i20 := by kernel_rfl
  i21 := by kernel_rfl
  i37 := by kernel_rfl
  i46 := by kernel_rfl
  i51 := by kernel_rfl
  i53 := by kernel_rfl
  i75 := by kernel_rfl
  i76 := by kernel_rfl
  i80 := by kernel_rfl
  i85 := by kernel_rfl
  i127 := by kernel_rfl
  i143 := by kernel_rfl
  i145 := by kernel_rfl
  i167 := by kernel_rfl
  i168 := by kernel_rfl
  i171 := by kernel_rfl
  i173 := by kernel_rfl
  i175 := by kernel_rfl
  i210 := by kernel_rfl
  i212 := by kernel_rfl
  i232 := by kernel_rfl
  i233 := by kernel_rfl
  m15 := by kernel_rfl
  m16 := by kernel_rfl
  m17 := by kernel_rfl
  m18 := by kernel_rfl
  m19 := by kernel_rfl
  c0 := by kernel_rfl
  c2 := by kernel_rfl
  c3 := by kernel_rfl
  c4 := by kernel_rfl
  c5 := by kernel_rfl
  c9 := by kernel_rfl
  c20 := by kernel_rfl
  c21 := by kernel_rfl
  c37 := by kernel_rfl
  c46 := by kernel_rfl
  c51 := by kernel_rfl
  c53 := by kernel_rfl
  c75 := by kernel_rfl
  c76 := by kernel_rfl
  c80 := by kernel_rfl
  c85 := by kernel_rfl
  c127 := by kernel_rfl
  c143 := by kernel_rfl
  c145 := by kernel_rfl
  c167 := by kernel_rfl
  c168 := by kernel_rfl
  c171 := by kernel_rfl
  c173 := by kernel_rfl
  c175 := by kernel_rfl
  c210 := by kernel_rfl
  c212 := by kernel_rfl
  c213 := by kernel_rfl
  c232 := by kernel_rfl
  c233 := by kernel_rfl }
end Go.Proofs
