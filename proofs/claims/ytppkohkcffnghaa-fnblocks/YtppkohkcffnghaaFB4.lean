/- Several texts of one proof, in build order: ProgRow, OwnProg, ProgOwn, ProgDraw, BendDraw. -/
import Derived.Deep.RegionHeld3
import Derived.Test.YtppkohkcffnghaaKB1
import Derived.Test.YtppkohkcffnghaaFB3
/- Programs in memory: the laws' own copies, comparisons and sizes. -/
set_option linter.unusedVariables false
namespace Go.Proofs.Ytppkohkcffnghaa
open Go.RowKit
namespace Ops
open Bas Flat

/-- a slice as a cell -/
structure S3 where
  a : Option Addr
  n : Nat
  cap : Nat
def S3.val (s : S3) : Value := .slice s.a s.n s.cap
def slEl : El S3 where
  sz := 1
  cells s := [.slice s.a s.n s.cap]
  len _ := rfl
  one s v hv := by simp at hv; rw [hv]; rfl
  pos := by decide
def z3 : S3 := ⟨none, 0, 0⟩
theorem rowKid : Row Try.prog slEl 47 125 (.agg #[.slice none 0 0]) z3 24 := ⟨Try.underlying47, by kernel_rfl, rfl, by decide⟩
theorem at1 {w : World} {b o : Nat} {s : S3} (h : At slEl w b o s) : w.cell? ⟨b, o, none⟩ = some (.slice s.a s.n s.cap) := h 0 _ rfl

/-- kids, each with its code, in blocks of which S holds -/
def SeesKIn (S : Nat → Prop) (w : World) (v : Value) (kss : List (List O4)) : Prop :=
  ∃ ss : List S3, SeesIn slEl S w v ss ∧ ss.length = kss.length ∧ ∀ j (h : j < ss.length) (h' : j < kss.length), SeesIn opEl S w ss[j].val kss[j]
/-- .. below block B -/
def SeesK (B : Nat) (w : World) (v : Value) (kss : List (List O4)) : Prop := SeesKIn (fun b => b < B) w v kss
section
variable {B B' : Nat} {S S' : Nat → Prop} {w w' : World} {v : Value} {kss : List (List O4)}
theorem SeesKIn.keep (h : SeesKIn S w v kss) (hk : ∀ b, S b → w'.heap[b]? = w.heap[b]?) : SeesKIn S w' v kss := by
  obtain ⟨ss, h1, h2, h3⟩ := h
  exact ⟨ss, h1.keep hk, h2, fun j hj hj' => (h3 j hj hj').keep hk⟩
theorem SeesKIn.mono (h : SeesKIn S w v kss) (hs : ∀ b, S b → S' b) : SeesKIn S' w v kss := by
  obtain ⟨ss, h1, h2, h3⟩ := h
  exact ⟨ss, h1.mono hs, h2, fun j hj hj' => (h3 j hj hj').mono hs⟩
theorem SeesKIn.form (h : SeesKIn S w v kss) : ∃ a cap, v = .slice a kss.length cap := by
  obtain ⟨ss, ⟨a, cap, e, -⟩, h2, -⟩ := h
  exact ⟨a, cap, by rw [← h2]; exact e⟩
theorem SeesK.on (h : SeesK B w v kss) (hb : Below B' w w') (hB : B ≤ B') : SeesK B w' v kss := SeesKIn.keep h (fun b hs => hb.block b (by omega))
theorem SeesK.up (h : SeesK B w v kss) (hB : B ≤ B') : SeesK B' w v kss := SeesKIn.mono h (fun b hs => by omega)
theorem SeesK.form (h : SeesK B w v kss) : ∃ a cap, v = .slice a kss.length cap := SeesKIn.form h
theorem SeesK.room (h : SeesK B w v kss) : kss.length ≤ maxLen := by obtain ⟨ss, ⟨a, cap, -, k1, k2, -⟩, h2, -⟩ := h; omega
/-- where the kids lie, and each one's code -/
theorem SeesK.open {a : Option Addr} {n cap : Nat} (h : SeesK B w (.slice a n cap) kss) (hn : 0 < kss.length) :
    ∃ b off, a = some ⟨b, off, none⟩ ∧ b < B ∧ ∀ j (h : j < kss.length), ∃ s : S3, w.cell? ⟨b, off + j, none⟩ = some (.slice s.a s.n s.cap) ∧ Sees4 B w (.slice s.a s.n s.cap) kss[j] := by
  obtain ⟨ss, h1, h2, h3⟩ := h
  obtain ⟨b, off, rfl, hb, hc⟩ := Sees.open (E := slEl) (B := B) h1 (by omega)
  refine ⟨b, off, rfl, hb, fun j hj => ⟨ss[j], ?_, h3 j (by omega) hj⟩⟩
  have := at1 (hc j (by omega))
  change w.cell? ⟨b, off + j * 1, none⟩ = _ at this
  rw [Nat.mul_one] at this; exact this
end

set_option maxRecDepth 100000 in
set_option maxHeartbeats 800000 in
theorem toKidC (v : Value) (xs : List O4) (B : Nat) (w : World) (hv : Sees4 B w v xs) (hB : B ≤ w.heap.size) (hlen : xs.length ≤ 1048576) :
    Calls Try.prog 101 #[.agg #[v]] w fun e w' => ∃ v', e = .returned (.agg #[v']) ∧ Owns4 w.heap.size w' v' xs ∧ Below w.heap.size w w' := by
  obtain ⟨a, cap, rfl⟩ := hv.form
  obtain ⟨n, hn⟩ : ∃ n, xs.length = n := ⟨_, rfl⟩
  rw [hn] at hv ⊢
  have b0 := ((alloc_below w (.cells #[.slice a n cap] 129)).alloc (by simp) (.cells #[.slice none 0 0] 125)).alloc (by simp; omega) (.cells #[.slice none 0 0] 125)
  have hv0 := hv.on b0 hB
  go_enter Try.func101, Try.ntmps101
  go_wp2_with fail
  refine (toOpsC _ xs B _ hv0 (by simp; omega) (by omega)).mono ?_
  rintro e w1 ⟨v', rfl, hO, hb⟩
  obtain ⟨a', cap', rfl⟩ := hO.form
  rw [hn] at hO ⊢
  obtain ⟨hc, hf⟩ := bcell hb
  have hz : w.heap.size + 3 ≤ w1.heap.size := by have := hb.size; simp at this; omega
  have hlow := hO.at
  go_wp2_with fail
  refine bodyPost_ret (v := .agg #[.slice a' n cap']) (by simp [results, Try.results101, go_sem, hc]) rfl ⟨_, rfl, ?_, ?_⟩
  · exact ((hO.other (fun k hk => by have := hlow k hk; simp at this; omega) _).other (fun k hk => by have := hlow k hk; simp at this; omega) _).mono (by simp; omega)
  · exact ((b0.trans (hb.mono (by simp; omega))).setCell (by simp; omega) _).setCell (by simp) _

/-- the kids copied so far -/
structure KRow (g : Nat) (wr : World) (n : Nat) (kss : List (List O4)) (k : Nat) : Prop where
  ex : ∃ ss : List S3, ss.length = k ∧ wr.ownsRow g 125 1 (.slice (some ⟨g, 0, none⟩) n n) n (fv slEl (ss ++ List.replicate (n - k) z3)) ∧ ∀ j (h : j < ss.length) (h' : j < kss.length), Owns4 (g + 1) wr ss[j].val kss[j]

theorem KRow.done {g : Nat} {wr : World} {n : Nat} {kss : List (List O4)} (h : KRow g wr n kss n) (hn : kss.length = n) : SeesKIn (fun b => g ≤ b ∧ b < wr.heap.size) wr (.slice (some ⟨g, 0, none⟩) n n) kss := by
  obtain ⟨ss, h1, h2, h3⟩ := h.ex
  rw [Nat.sub_self, List.replicate_zero, List.append_nil] at h2
  have h2' : Owns slEl 125 g wr (.slice (some ⟨g, 0, none⟩) n n) ss := by unfold Owns; rw [h1]; exact h2
  exact ⟨ss, h2'.within, by omega, fun j hj hj' => (h3 j hj hj').within.mono (fun b hb => ⟨by omega, hb.2⟩)⟩
theorem KRow.on {g : Nat} {wr w' : World} {n k : Nat} {kss : List (List O4)} (h : KRow g wr n kss k) (hb : Below wr.heap.size wr w') : KRow g w' n kss k := by
  obtain ⟨ss, h1, h2, h3⟩ := h.ex
  exact ⟨ss, h1, owns_on h2 hb (Nat.le_refl _), fun j hj hj' => (h3 j hj hj').on hb (Nat.le_refl _)⟩
theorem KRow.put {g : Nat} {wr : World} {n k : Nat} {kss : List (List O4)} (h : KRow g wr n kss k) (hk : k < n) (hn : kss.length = n) (s : S3) (hs : Owns4 (g + 1) wr (.slice s.a s.n s.cap) (kss[k]'(by omega))) :
    KRow g (wr.setCell ⟨g, k, none⟩ (.slice s.a s.n s.cap)) n kss (k + 1) := by
  obtain ⟨ss, h1, h2, h3⟩ := h.ex
  have hl : (ss ++ List.replicate (n - k) z3).length = n := by simp; omega
  have h2' := own_set (E := slEl) h2 k (by omega) 0 (by decide) (.slice s.a s.n s.cap) s (by
    have : ∀ y : S3, (slEl.cells y).set 0 (.slice s.a s.n s.cap) = slEl.cells s := fun y => rfl
    exact (this _).symm)
  have e1 : (ss ++ List.replicate (n - k) z3).set k s = (ss ++ [s]) ++ List.replicate (n - (k + 1)) z3 := by
    rw [show n - k = (n - (k + 1)) + 1 by omega, List.replicate_succ, List.set_append_right _ _ (by omega), h1, Nat.sub_self, List.set_cons_zero, List.append_assoc]
    rfl
  rw [e1] at h2'
  change (wr.setCell ⟨g, k * 1 + 0, none⟩ _).ownsRow _ _ _ _ _ _ at h2'
  rw [Nat.mul_one, Nat.add_zero] at h2'
  refine ⟨ss ++ [s], by simp [h1], h2', fun j hj hj' => ?_⟩
  by_cases hjk : j < ss.length
  · have e2 : (ss ++ [s])[j] = ss[j] := List.getElem_append_left hjk
    rw [e2]
    have := h3 j hjk hj'
    exact this.other (fun k hk => by have := this.at k hk; omega) _
  · have hjk' : j = k := by simp at hj; omega
    subst hjk'
    have e2 : (ss ++ [s])[j] = s := by rw [List.getElem_append_right (by omega)]; simp [h1]
    rw [e2]
    exact hs.other (fun k hk => by have := hs.at k hk; omega) _

set_option maxRecDepth 100000 in
set_option maxHeartbeats 1600000 in
theorem toKidsC (v : Value) (kss : List (List O4)) (B : Nat) (w : World) (hv : SeesK B w v kss) (hB : B ≤ w.heap.size) (hlen : kss.length ≤ 1048576) (hall : ∀ ks ∈ kss, ks.length ≤ 1048576) :
    Calls Try.prog 79 #[v] w fun e w' => ∃ v', e = .returned v' ∧ SeesKIn (fun b => w.heap.size ≤ b ∧ b < w'.heap.size) w' v' kss ∧ Below w.heap.size w w' := by
  obtain ⟨a, cap, rfl⟩ := hv.form
  obtain ⟨n, hn⟩ : ∃ n, kss.length = n := ⟨_, rfl⟩
  rw [hn] at hv hlen ⊢
  obtain ⟨w1, hB1, hs1, hmk, hO⟩ := make rowKid n (by omega) w w.heap.size (Nat.le_refl _)
  obtain ⟨g, hg⟩ : ∃ g, w.heap.size = g := ⟨_, rfl⟩
  rw [hg] at hmk hO hB1 hs1 hB ⊢
  have HV := (show Hid _ from hv)
  have HA := (show Hid _ from hall)
  clear hv hall
  go_enter Try.func79, Try.ntmps79
  go_wp2
  go_loopw [4] (fun i wr => ∃ k : Nat, k ≤ n ∧ i = .int .i64 k ∧ KRow g wr n kss k ∧ Below g w wr ∧ g < wr.heap.size) (fun i _ => n - (intOf i).toNat)
  case atStart => exact ⟨0, Nat.zero_le _, rfl, ⟨[], rfl, hO, fun j h => by simp at h⟩, hB1, hs1⟩
  case round =>
    obtain ⟨k, hk, rfl, hR, hb, hgw⟩ := hrel
    clear hmk hO hB1 hs1
    by_cases hlt : k < n
    · obtain ⟨b, off, rfl, hbB, hc⟩ := SeesK.open HV.out (by omega)
      obtain ⟨s, hs1, hs2⟩ := hc k (by omega)
      have c0 := (hb.cell (p := ⟨b, off + k, none⟩) (by show b < g; omega)).trans hs1
      have hs3 := hs2.on hb hB
      have hsl := HA.out _ (List.getElem_mem (show k < kss.length by omega))
      have cT := toKidC _ _ B wr hs3 (by have := hb.size; omega) hsl
      have hsz := hb.size
      clear hc hs1 hs2 hs3
      go_wp2_with fail
      refine cT.mono ?_
      rintro e w2 ⟨v2, rfl, O2, hb2⟩
      obtain ⟨a2, cap2, rfl⟩ := O2.form
      have hR2 := hR.on hb2
      obtain ⟨ss2, q1, q2, q3⟩ := hR2.ex
      have hl2 : (ss2 ++ List.replicate (n - k) z3).length = n := by simp; omega
      have d0 := at1 (own_at (E := slEl) q2 k (by omega))
      change w2.cell? ⟨g, k * 1, none⟩ = _ at d0
      rw [Nat.mul_one] at d0
      have hfz := fun j => q2.frozenAt j
      clear q3
      go_wp2
      have hR3 := hR2.put hlt hn ⟨a2, _, cap2⟩ (O2.mono (by omega))
      go_roundw
      case rel => exact ⟨k + 1, by omega, by go_num, hR3, (hb.trans (hb2.mono (by omega))).setCell (Nat.le_refl _) _, by have := hb2.size; rw [show (w2.setCell _ _).heap.size = w2.heap.size by simp [World.setCell]]; omega⟩
      case measure => simp [intOf]; omega
    · obtain rfl : k = n := by omega
      go_wp2
      go_ret
      exact ⟨_, rfl, hR.done hn, hb⟩
end Ops
end Go.Proofs.Ytppkohkcffnghaa
/- Programs that a call owns: its code, its kids' row and each kid's code, apart by their blocks' types. -/
set_option linter.unusedVariables false
set_option linter.unusedSimpArgs false
namespace Go.Proofs.Ytppkohkcffnghaa
open Go.RowKit
namespace Ops
open Bas Flat

theorem own_block {α : Type} {E : El α} {e : TypeId} {B : Nat} {W : World} {v : Value} {xs : List α} (h : Owns E e B W v xs) : ∀ k, v.ownBlock = some k → ∃ cur, W.heap[k]? = some (.cells cur e (0, 0)) := by
  intro k hk
  obtain ⟨h1, h2⟩ := h
  rcases h2 with ⟨rfl, h0⟩ | ⟨g, cap, cur, rfl, hg, hh, r⟩
  · cases hk
  · cases hk; exact ⟨cur, hh⟩
theorem grown_alloc0 {W W' : World} {o : Obj} {row : Option Nat} (h : (W.alloc o).grownBy W' row) : W.grownBy W' row :=
  ⟨h.os, h.tape, h.output, Nat.le_trans (by simp) h.size, fun k hk hne => (h.block k (by simp; omega) hne).trans (Below.heap_alloc W o k hk)⟩
/-- a row and a block of another type lie apart -/
theorem own_ne {α : Type} {E : El α} {e t : TypeId} {B p : Nat} {W : World} {v : Value} {xs : List α} {cs : Array Value} (h : Owns E e B W v xs) (hb : Blk W p cs t) (hne : e ≠ t) : ∀ k, v.ownBlock = some k → k ≠ p := by
  rintro k hk rfl
  obtain ⟨cur, hc⟩ := own_block h k hk
  unfold Blk at hb
  rw [hc] at hb
  simp only [Option.some.injEq, Obj.cells.injEq] at hb
  exact hne hb.2.1
/-- two rows of different types lie apart -/
theorem own_apart {α β : Type} {E : El α} {F : El β} {e t : TypeId} {B B' : Nat} {W : World} {v v' : Value} {xs : List α} {ys : List β} (h : Owns E e B W v xs) (h' : Owns F t B' W v' ys) (hne : e ≠ t) : ∀ k, v.ownBlock = some k → some k ≠ v'.ownBlock := by
  intro k hk e'
  obtain ⟨cur, hc⟩ := own_block h k hk
  obtain ⟨cur', hc'⟩ := own_block h' k e'.symm
  rw [hc] at hc'
  simp only [Option.some.injEq, Obj.cells.injEq] at hc'
  exact hne hc'.2.1

/-- kids that the call owns -/
def OwnK (B : Nat) (W : World) (vk : Value) (kss : List (List O4)) : Prop :=
  ∃ ss : List S3, Owns slEl 125 B W vk ss ∧ ss.length = kss.length ∧ ∀ j (h : j < ss.length) (h' : j < kss.length), Owns4 B W ss[j].val kss[j]
section
variable {B B' g : Nat} {W W' : World} {vk : Value} {kss : List (List O4)}
theorem OwnK.keep (h : OwnK B W vk kss) (hk : ∀ b, B ≤ b → b < W.heap.size → W'.heap[b]? = W.heap[b]?) : OwnK B W' vk kss := by
  obtain ⟨ss, h1, h2, h3⟩ := h
  exact ⟨ss, h1.keep fun k e => hk k (h1.at k e).1 (h1.at k e).2, h2, fun j hj hj' => (h3 j hj hj').keep fun k e => hk k ((h3 j hj hj').at k e).1 ((h3 j hj hj').at k e).2⟩
theorem OwnK.on (h : OwnK B W vk kss) (hb : Below W.heap.size W W') : OwnK B W' vk kss := h.keep fun b _ hb' => hb.block b hb'
theorem OwnK.grown (h : OwnK B W vk kss) (hg : W.grownBy W' (some g)) (hlt : g < B) : OwnK B W' vk kss := h.keep fun b h1 h2 => hg.block b h2 (fun e => by injection e; omega)
theorem OwnK.drew (h : OwnK B W vk kss) : OwnK B W.drew vk kss := h
theorem OwnK.mono (h : OwnK B W vk kss) (hB : B' ≤ B) : OwnK B' W vk kss := by
  obtain ⟨ss, h1, h2, h3⟩ := h
  exact ⟨ss, h1.mono hB, h2, fun j hj hj' => (h3 j hj hj').mono hB⟩
theorem OwnK.form (h : OwnK B W vk kss) : ∃ a cap, vk = .slice a kss.length cap := by
  obtain ⟨ss, h1, h2, -⟩ := h
  obtain ⟨a, cap, e⟩ := h1.form
  exact ⟨a, cap, by rw [← h2]; exact e⟩
theorem OwnK.nil (B : Nat) (W : World) : OwnK B W (.slice none 0 0) [] := ⟨[], Owns.nil _ _ _ _, rfl, fun j h => by simp at h⟩
theorem OwnK.sees (h : OwnK B W vk kss) : SeesK W.heap.size W vk kss := by
  obtain ⟨ss, h1, h2, h3⟩ := h
  exact ⟨ss, h1.sees, h2, fun j hj hj' => (h3 j hj hj').sees⟩
/-- a store into a block of another type -/
theorem OwnK.other (h : OwnK B W vk kss) {p : Nat} {cs : Array Value} {t : TypeId} (hb : Blk W p cs t) (h1 : 30 ≠ t) (h2 : 125 ≠ t) (i : Nat) (u : Value) : OwnK B (W.setCell ⟨p, i, none⟩ u) vk kss := by
  obtain ⟨ss, k1, k2, k3⟩ := h
  exact ⟨ss, k1.other (own_ne k1 hb h2) u, k2, fun j hj hj' => (k3 j hj hj').other (own_ne (k3 j hj hj') hb h1) u⟩
theorem seesOneS (W : World) (s : S3) (t : TypeId) : Sees slEl (W.heap.size + 1) (W.alloc (.cells #[.slice s.a s.n s.cap] t)) (.slice (some ⟨W.heap.size, 0, none⟩) 1 1) [s] :=
  ⟨_, 1, rfl, by simp, by unfold maxLen; omega, fun _ => ⟨W.heap.size, 0, rfl, by omega, fun j hj => by
    have hj0 : j = 0 := by simpa using hj
    subst hj0
    intro i u hu
    have hb : Blk (W.alloc (.cells #[.slice s.a s.n s.cap] t)) W.heap.size #[.slice s.a s.n s.cap] t := Blk.new W _ _
    simp only [Nat.zero_mul, Nat.zero_add]
    rw [hb.cell]
    change [Value.slice s.a s.n s.cap][i]? = some u at hu
    simpa using hu⟩⟩
/-- append(kids, Kid{Code: s}) -/
theorem OwnK.push (h : OwnK B W vk kss) (hB : B ≤ W.heap.size) (s : S3) (ys : List O4) (hs : Owns4 B W s.val ys) (hlen : kss.length ≤ 1000000) :
    ∃ v' W', (Builtin.append_ #[47, 47] 47 #[vk, .slice (some ⟨W.heap.size, 0, none⟩) 1 1]).run Try.prog (W.alloc (.cells #[.slice s.a s.n s.cap] 125)) = .ok v' W' ∧ OwnK B W' v' (kss ++ [ys]) ∧ W.grownBy W' vk.ownBlock ∧ (∀ k, vk.ownBlock = some k → B ≤ k ∧ ∃ cur, W.heap[k]? = some (.cells cur 125 (0, 0))) := by
  obtain ⟨ss, k1, k2, k3⟩ := h
  have bA := alloc_below W (.cells #[.slice s.a s.n s.cap] 125)
  have k1' := k1.on bA (Nat.le_refl _)
  obtain ⟨v', W', hr, hO, hG, -⟩ := app rowKid vk _ 47 ss [s] _ B (W.alloc (.cells #[.slice s.a s.n s.cap] 125)) k1' (by simp; omega) (seesOneS W s _) (by simp; omega)
  refine ⟨v', W', hr, ⟨ss ++ [s], hO, by simp [k2], fun j hj hj' => ?_⟩, grown_alloc0 hG, fun k hk => ⟨(k1.at k hk).1, own_block k1 k hk⟩⟩
  by_cases hlt : j < ss.length
  · have := k3 j hlt (by omega)
    have h1 := (this.on bA (Nat.le_refl _)).grown hG (fun k hk => own_apart (this.on bA (Nat.le_refl _)) k1' (by decide) k hk)
    rw [List.getElem_append_left hlt, List.getElem_append_left (by omega)]; exact h1
  · have hj0 : j = ss.length := by simp at hj; omega
    subst hj0
    have h1 := (hs.on bA (Nat.le_refl _)).grown hG (fun k hk => own_apart (hs.on bA (Nat.le_refl _)) k1' (by decide) k hk)
    rw [List.getElem_append_right (Nat.le_refl _), List.getElem_append_right (by omega)]
    simp only [Nat.sub_self, List.getElem_cons_zero, k2]; exact h1
end

/-- a program that the call owns -/
structure OwnP (B : Nat) (W : World) (vc vk : Value) (xs : List O4) (kss : List (List O4)) : Prop where
  c : Owns4 B W vc xs
  k : OwnK B W vk kss
section
variable {B B' g : Nat} {W W' : World} {vc vk : Value} {xs : List O4} {kss : List (List O4)}
theorem OwnP.on (h : OwnP B W vc vk xs kss) (hb : Below W.heap.size W W') : OwnP B W' vc vk xs kss := ⟨h.c.on hb (Nat.le_refl _), h.k.on hb⟩
theorem OwnP.grown (h : OwnP B W vc vk xs kss) (hg : W.grownBy W' (some g)) (hlt : g < B) : OwnP B W' vc vk xs kss :=
  ⟨h.c.grown hg (fun k hk e => by injection e with e; have := h.c.at k hk; omega), h.k.grown hg hlt⟩
theorem OwnP.mono (h : OwnP B W vc vk xs kss) (hB : B' ≤ B) : OwnP B' W vc vk xs kss := ⟨h.c.mono hB, h.k.mono hB⟩
theorem OwnP.other (h : OwnP B W vc vk xs kss) {p : Nat} {cs : Array Value} {t : TypeId} (hb : Blk W p cs t) (h1 : 30 ≠ t) (h2 : 125 ≠ t) (i : Nat) (u : Value) : OwnP B (W.setCell ⟨p, i, none⟩ u) vc vk xs kss :=
  ⟨h.c.other (own_ne h.c hb h1) u, h.k.other hb h1 h2 i u⟩
end
end Ops
end Go.Proofs.Ytppkohkcffnghaa
/- Programs that a call owns, beside the draws. -/

/- Some program is drawn: it is the call's own. -/
set_option linter.unusedVariables false
set_option linter.unusedSimpArgs false
namespace Go.Proofs.Ytppkohkcffnghaa
open Go.RowKit
namespace Ops
open Bas Flat Draw

theorem takeA {P : Program} {ops : Array Oper} {Q : Exit → Act → World → Prop} {md : Region.Mode} {i : Nat} (d : Option Tmp) (v : Value) {oi : Oper} {fuel : Nat} {listed : Array Bool} {a : Act} {w : World} (hi : ops[i]? = some oi) (hd : oi.dst = d)
    (hs : Region.noSelect ops = true) (hf : Region.free md ops listed i = true) (hr : (Region.ready md ops listed).contains i = true)
    (hQ : ∀ c a w, Q (.panic c) (a.put d v) w → Q (.panic c) a w) (hy : Yields P ops oi v a)
    (h : wpAny P md ops Q fuel (listed.setIfInBounds i true) (a.put d v) w) : wpAny P md ops Q (fuel + 1) listed a w := by
  subst hd; exact wpAny_take hi hs hf hr hQ hy h
/-- a program that is being drawn, in its block -/
structure PSt (B g : Nat) (v : Value) (l : List UInt8) (w W : World) (p : Nat) (vc vk : Value) (xs : List O4) (kss : List (List O4)) : Prop where
  D : Dr B g v l W
  G : w.grownBy W (some g)
  P : Blk W p #[vc, vk] 49
  O : OwnP w.heap.size W vc vk xs kss
  lt : g < w.heap.size
  hp : w.heap.size ≤ p
section
variable {B g p : Nat} {v : Value} {l : List UInt8} {w W W' : World} {vc vk : Value} {xs : List O4} {kss : List (List O4)}
theorem PSt.draw (h : PSt B g v l w W p vc vk xs kss) (D : Dr B g v l W') (G : W.grownBy W' (some g)) : PSt B g v l w W' p vc vk xs kss :=
  have a := h.lt; have b := h.hp
  { D := D, G := grown_trans h.G G, P := h.P.grown G (fun e => by injection e; omega), O := h.O.grown G a, lt := a, hp := b }
theorem PSt.drew (h : PSt B g v l w W p vc vk xs kss) : PSt B g v l w W.drew p vc vk xs kss :=
  { D := h.D.drew, G := grown_drew h.G, P := h.P.drew, O := ⟨h.O.c.drew, h.O.k.drew⟩, lt := h.lt, hp := h.hp }
/-- p.Kids = append(p.Kids, Kid{Code: s}) -/
theorem PSt.kid (h : PSt B g v l w W p vc vk xs kss) (s : S3) (ys : List O4) (hs : Owns4 w.heap.size W s.val ys) (hlen : kss.length ≤ 1000000) :
    ∃ v' W', (Builtin.append_ #[47, 47] 47 #[vk, .slice (some ⟨W.heap.size, 0, none⟩) 1 1]).run Try.prog (W.alloc (.cells #[.slice s.a s.n s.cap] 125)) = .ok v' W' ∧ W'.cell? ⟨p, 1, none⟩ = some vk ∧ W'.frozen? ⟨p, 1, none⟩ = false ∧ PSt B g v l w (W'.setCell ⟨p, 1, none⟩ v') p vc v' xs (kss ++ [ys]) := by
  have hlt := h.lt; have hp := h.hp; have hsz := h.G.size
  obtain ⟨v', W', hr, hK, hG, hB⟩ := h.O.k.push hsz s ys hs hlen
  have hne : some p ≠ vk.ownBlock := fun e => by
    obtain ⟨-, cur, hc⟩ := hB p e.symm
    have hb := h.P
    unfold Blk at hb
    rw [hc] at hb
    simp only [Option.some.injEq, Obj.cells.injEq] at hb
    exact absurd hb.2.1 (by decide)
  have P' := h.P.grown hG hne
  have C' : Owns4 w.heap.size W' vc xs := h.O.c.grown hG (fun k hk e => by
    obtain ⟨-, cur, hc⟩ := hB k e.symm
    obtain ⟨cur', hc'⟩ := own_block h.O.c k hk
    rw [hc] at hc'
    simp only [Option.some.injEq, Obj.cells.injEq] at hc'
    exact absurd hc'.2.1 (by decide))
  have D' : Dr B g v l W' := h.D.grown hG (fun k hk => by have := (hB k hk).1; omega)
  have G' : w.grownBy W' (some g) := ⟨hG.os.trans h.G.os, hG.tape.trans h.G.tape, hG.output.trans h.G.output, Nat.le_trans hsz hG.size, fun i hi hne => (hG.block i (by omega) (fun e => by have := (hB i e.symm).1; omega)).trans (h.G.block i hi hne)⟩
  refine ⟨v', W', hr, P'.cell 1, P'.froz 1, { D := D'.set (by omega) _ _, G := grown_store G' hp _ _, P := P'.set 1 v', O := ⟨C'.other (own_ne C' P' (by decide)) _, hK.other P' (by decide) (by decide) _ _⟩, lt := hlt, hp := hp }⟩
end

def ProgPost (B g : Nat) (v : Value) (l : List UInt8) (w : World) (e : Ending) (w' : World) : Prop :=
  ∃ vc vk xs kss, e = .returned (.agg #[vc, vk]) ∧ OwnP w.heap.size w' vc vk xs kss ∧ xs.length ≤ 100 ∧ kss.length ≤ 3 ∧ (∀ ks ∈ kss, ks.length ≤ 100) ∧ Dr B g v l w' ∧ w.grownBy w' (some g)

set_option maxRecDepth 100000 in
set_option maxHeartbeats 8000000 in
theorem progE {B g : Nat} {v : Value} {l : List UInt8} {w : World} (h : Dr B g v l w) (forks : Bool) :
    Calls Try.prog 59 #[.pointer (some ⟨g, 0, none⟩), .bool forks] w (ProgPost B g v l w) := by
  have hlt := h.lt
  have D0 := h.alloc (.cells #[.slice none 0 0, .slice none 0 0] 49)
  have G0 : w.grownBy (w.alloc (.cells #[.slice none 0 0, .slice none 0 0] 49)) (some g) := World.grownBy_alloc w _ _
  have R0 := Blk.new w #[.slice none 0 0, .slice none 0 0] 49
  have hz0 : (w.alloc (.cells #[.slice none 0 0, .slice none 0 0] 49)).heap.size = w.heap.size + 1 := by simp
  obtain ⟨W0, hW0⟩ : ∃ W0, w.alloc (.cells #[.slice none 0 0, .slice none 0 0] 49) = W0 := ⟨_, rfl⟩
  have HW := (show Hid _ from hW0)
  rw [hW0] at D0 G0 R0 hz0
  clear hW0 h
  cases forks
  · go_enter Try.func59, Try.ntmps59
    go_wp2_with fail
    rw [HW.out]
    refine (belowE D0 8 (by omega)).mono ?_
    rintro e w1 ⟨r, rfl, r0, r1, D1, G1⟩
    obtain ⟨m, hm⟩ : ∃ m : Nat, 3 + r = m := ⟨(3 + r).toNat, by omega⟩
    go_wp2_with fail
    refine (gen false 2 (by omega) m (by omega) (by omega) B g v l w1 D1).mono ?_
    rintro e w2 ⟨v2, ys, rfl, O2, hy, D2, G2⟩
    obtain ⟨a2, c2, rfl⟩ := O2.form
    have GG := grown_trans G1 G2
    have R := R0.grown GG (fun e => by injection e; omega)
    have x0 := R.cell 0; have x1 := R.cell 1; have f0 := R.froz 0; have f1 := R.froz 1
    have hw1 := G1.size
    have C := (O2.other (own_ne O2 R (by decide)) (i := 0) (.slice a2 ys.length c2))
    have C := (C.other (own_ne C (R.set 0 _) (by decide)) (i := 1) (.slice none 0 0)).mono (show w.heap.size ≤ w1.heap.size by omega)
    have Dz := (D2.set (show g < w.heap.size by omega) 0 (.slice a2 ys.length c2)).set (show g < w.heap.size by omega) 1 (.slice none 0 0)
    have Gz := grown_store (grown_store (grown_trans G0 GG) (Nat.le_refl _) 0 (.slice a2 ys.length c2)) (Nat.le_refl _) 1 (.slice none 0 0)
    clear D0 G0 R0 D1 G1 D2 G2 GG R
    go_wp2
    refine bodyPost_ret (v := .agg #[.slice a2 ys.length c2, .slice none 0 0]) (by simp [results, Try.results59, go_sem, x0, x1, f0, f1]) rfl ?_
    exact ⟨_, _, ys, [], rfl, ⟨C, OwnK.nil _ _⟩, by omega, by simp, by simp, Dz, Gz⟩
  · go_enter Try.func59, Try.ntmps59
    go_wp2_with fail
    rw [HW.out]
    refine (belowE D0 4 (by omega)).mono ?_
    rintro e w1 ⟨r, rfl, r0, r1, D1, G1⟩
    obtain ⟨m, hm⟩ : ∃ m : Nat, 1 + r = m := ⟨(1 + r).toNat, by omega⟩
    go_wp2_with fail
    refine (gen false 1 (by omega) m (by omega) (by omega) B g v l w1 D1).mono ?_
    rintro e w2 ⟨v2, ys, rfl, O2, hy, D2, G2⟩
    obtain ⟨a2, c2, rfl⟩ := O2.form
    have hw1 := G1.size
    have P : GSt B g v l W0 w2 (.slice a2 ys.length c2) ys := { D := D2, G := grown_trans G1 G2, O := O2.mono hw1, lt := by omega }
    clear D0 D1 G1 D2 G2 O2
    go_wp2_with fail
    refine (belowE P.D 4 (by omega)).mono ?_
    rintro e w3 ⟨s, rfl, s0, s1, D, G⟩
    have P := P.draw D G
    clear D G
    obtain ⟨m2, hm2⟩ : ∃ m : Nat, 1 + s = m := ⟨(1 + s).toNat, by omega⟩
    go_wp2_with fail
    have hob : ∀ k, (Value.slice a2 ys.length c2).ownBlock = some k → k < w3.heap.size := fun k hk => (P.O.at k hk).2
    refine (gen false 1 (by omega) m2 (by omega) (by omega) B g v l w3 P.D).mono ?_
    rintro e w4 ⟨v4, zs, rfl, I, hz, D, G⟩
    obtain ⟨a4, c4, rfl⟩ := I.form
    have P := P.draw D G
    clear D G
    obtain ⟨o5, W5, hr5, P5, G5⟩ := P.push ⟨11, 0, 0, 0⟩ (by omega)
    have I5 := I.grown G5 (fun k hk e => by have := hob k e.symm; have := I.at k hk; omega)
    obtain ⟨o6, W6, hr6, P6, G6⟩ := P5.cat _ zs W5.heap.size I5.sees (by simp; omega)
    obtain ⟨us, hus⟩ : ∃ us, ys ++ [(⟨11, 0, 0, 0⟩ : O4)] ++ zs = us := ⟨_, rfl⟩
    have hul : us.length ≤ 100 := by rw [← hus]; simp; omega
    rw [hus] at P6
    obtain ⟨a6, c6, rfl⟩ := P6.O.form
    have Q : PSt B g v l W0 (W6.alloc (.cells #[.slice a6 us.length c6, .slice none 0 0] 49)) W6.heap.size (.slice a6 us.length c6) (.slice none 0 0) us [] :=
      { D := P6.D.alloc _, G := grown_new P6.G _, P := Blk.new _ _ _, O := ⟨P6.O.on (alloc_below _ _) (Nat.le_refl _), OwnK.nil _ _⟩, lt := P6.lt, hp := P6.G.size }
    obtain ⟨p, hp⟩ : ∃ p, W6.heap.size = p := ⟨_, rfl⟩
    rw [hp] at Q
    clear hus I I5 P P5 P6 G5 G6 hob
    go_wp2_with (at_builtin; first | (refine wpList_app _ rfl _ _ 24 rfl _ _ _ _ rfl rfl hr5 ?_; clear hr5) | (refine wpList_app _ rfl _ _ 24 rfl _ _ _ _ rfl rfl hr6 ?_; clear hr6))
    refine (belowE Q.D 3 (by omega)).mono ?_
    rintro e w7 ⟨t, rfl, t0, t1, D, G⟩
    have Q := Q.draw D G
    clear D G
    go_wp2
    go_loopw [8] (fun nv wr => ∃ (t' : Int) (ak : Option Addr) (nk ck : Nat) (kss : List (List O4)), nv = .int .i64 t' ∧ 0 ≤ t' ∧ (kss.length : Int) + t' ≤ 3 ∧ (∀ ks ∈ kss, ks.length ≤ 100) ∧ PSt B g v l W0 wr p (.slice a6 us.length c6) (.slice ak nk ck) us kss) (fun nv _ => (intOf nv).toNat)
    case atStart => exact ⟨1 + t, none, 0, 0, [], rfl, by omega, by simp; omega, by simp, Q⟩
    case round =>
      obtain ⟨t', ak, nk, ck, kss, rfl, ht0, ht1, hks, Q⟩ := hrel
      by_cases hgo : 0 < t'
      · have x1 := Q.P.cell 1
        have hwr : W0.heap.size ≤ wr.heap.size := Q.G.size
        go_wp2_with fail
        refine wp_region_any (by kernel_rfl) ?_
        change wpAny _ _ _ _ _ _ _ wr.drew
        refine takeA (i := 0) (some 41) (.pointer (some ⟨p, 1, none⟩)) rfl rfl (by kernel_rfl) (by kernel_rfl) (by kernel_rfl) (fun _ _ _ h => h) (Or.inl ⟨by rfl, fun w => by go_simp⟩) ?_
        try simp only [Act.put, List.setIfInBounds_toArray, List.set_cons_zero, List.set_cons_succ]
        refine takeA (i := 2) (some 43) (.pointer (some ⟨g, 0, none⟩)) rfl rfl (by kernel_rfl) (by kernel_rfl) (by kernel_rfl) (fun _ _ _ h => h) (Or.inl ⟨by rfl, fun w => by go_simp⟩) ?_
        try simp only [Act.put, List.setIfInBounds_toArray, List.set_cons_zero, List.set_cons_succ]
        refine takeA (i := 3) (some 44) (.pointer (some ⟨g, 0, none⟩)) rfl rfl (by kernel_rfl) (by kernel_rfl) (by kernel_rfl) (fun _ _ _ h => h) (Or.inl ⟨by rfl, fun w => by go_simp⟩) ?_
        try simp only [Act.put, List.setIfInBounds_toArray, List.set_cons_zero, List.set_cons_succ]
        refine wpAny_ready (rs := [1, 4]) (by kernel_rfl) (by simp) ?_
        refine AllReady.cons rfl (fun K hK0 => ?_) (AllReady.cons rfl (fun K hK0 => ?_) AllReady.nil)
        · have hK := (show Hid _ from hK0)
          clear hK0
          go_simp
          refine hK.out _ _ ?_
          clear hK
          try simp only [Act.put, List.setIfInBounds_toArray, List.set_cons_zero, List.set_cons_succ]
          refine wpAny_ready (rs := [4]) (by kernel_rfl) (by simp) ?_
          refine AllReady.cons rfl (fun K hK0 => ?_) AllReady.nil
          have hK := (show Hid _ from hK0)
          clear hK0
          go_simp
          refine (belowE Q.D.drew 5 (by omega)).mono ?_
          rintro e w8 ⟨y, rfl, y0, y1, D, G⟩
          have Q8 := Q.drew.draw D G
          clear D G x1
          have x1 := Q8.P.cell 1
          obtain ⟨m8, hm8⟩ : ∃ m : Nat, 2 + y = m := ⟨(2 + y).toNat, by omega⟩
          have qm : IntKind.i64.wrap (2 + y) = (m8 : Int) := by rw [hm8, IntKind.wrap_i64]; omega
          have hm81 : 1 ≤ m8 ∧ m8 ≤ 100 := by omega
          have hs8 : W0.heap.size ≤ w8.heap.size := Q8.G.size
          clear hm8
          go_simp
          refine hK.out _ _ ?_
          clear hK
          try simp only [Act.put, List.setIfInBounds_toArray, List.set_cons_zero, List.set_cons_succ]
          refine takeA (i := 5) (some 46) (.int .i64 m8) rfl rfl (by kernel_rfl) (by kernel_rfl) (by kernel_rfl) (fun _ _ _ h => h) (Or.inl ⟨by rfl, fun w => by go_simp⟩) ?_
          try simp only [Act.put, List.setIfInBounds_toArray, List.set_cons_zero, List.set_cons_succ]
          refine wpAny_ready (rs := [6]) (by kernel_rfl) (by simp) ?_
          refine AllReady.cons rfl (fun K hK0 => ?_) AllReady.nil
          have hK := (show Hid _ from hK0)
          clear hK0
          go_simp
          refine (gen true 1 (by omega) m8 (by omega) (by omega) B g v l w8 Q8.D).mono ?_
          rintro e w9 ⟨v9, ks, rfl, O9, hk9, D, G⟩
          have Q9 := Q8.draw D G
          clear D G x1 qm
          have x1 := Q9.P.cell 1
          obtain ⟨a9, c9, rfl⟩ := O9.form
          obtain ⟨v10, W10, hr10, z1, z2, Q10⟩ := Q9.kid ⟨a9, ks.length, c9⟩ ks (O9.mono hs8) (by omega)
          obtain ⟨a10, c10, rfl⟩ := Q10.O.k.form
          obtain ⟨n10, hn10⟩ : ∃ n, (kss ++ [ks]).length = n := ⟨_, rfl⟩
          rw [hn10] at Q10 hr10
          have x2 := ((alloc_below w9 (.cells #[.slice a9 ks.length c9] 125)).cell (p := ⟨p, 1, none⟩) Q9.P.lt).trans x1
          go_simp
          refine hK.out _ _ ?_
          clear hK
          try simp only [Act.put, List.setIfInBounds_toArray, List.set_cons_zero, List.set_cons_succ]
          refine takeA (i := 7) (some 48) (.agg #[.slice a9 ks.length c9]) rfl rfl (by kernel_rfl) (by kernel_rfl) (by kernel_rfl) (fun _ _ _ h => h) (Or.inl ⟨by rfl, fun w => by go_simp⟩) ?_
          try simp only [Act.put, List.setIfInBounds_toArray, List.set_cons_zero, List.set_cons_succ]
          refine wpAny_ready (rs := [8]) (by kernel_rfl) (by simp) ?_
          refine AllReady.cons rfl (fun K hK0 => ?_) AllReady.nil
          have hK := (show Hid _ from hK0)
          clear hK0
          go_simp
          refine hK.out _ _ ?_
          clear hK
          try simp only [Act.put, List.setIfInBounds_toArray, List.set_cons_zero, List.set_cons_succ]
          refine wpAny_ready (rs := [9]) (by kernel_rfl) (by simp) ?_
          refine AllReady.cons rfl (fun K hK0 => ?_) AllReady.nil
          have hK := (show Hid _ from hK0)
          clear hK0
          refine step_app rfl (.tmp 42) (.tmp 49) 47 rfl (.slice ak nk ck) (.slice (some ⟨w9.heap.size, 0, none⟩) 1 1) (.slice a10 n10 c10) W10 rfl rfl hr10 ?_
          refine hK.out _ _ ?_
          clear hK
          try simp only [Act.put, List.setIfInBounds_toArray, List.set_cons_zero, List.set_cons_succ]
          refine takeA (i := 10) (some 51) (.pointer (some ⟨p, 1, none⟩)) rfl rfl (by kernel_rfl) (by kernel_rfl) (by kernel_rfl) (fun _ _ _ h => h) (Or.inl ⟨by rfl, fun w => by go_simp⟩) ?_
          try simp only [Act.put, List.setIfInBounds_toArray, List.set_cons_zero, List.set_cons_succ]
          refine wpAny_ready (rs := [11]) (by kernel_rfl) (by simp) ?_
          refine AllReady.cons rfl (fun K hK0 => ?_) AllReady.nil
          have hK := (show Hid _ from hK0)
          clear hK0
          go_simp
          refine hK.out _ _ ?_
          clear hK
          try simp only [Act.put, List.setIfInBounds_toArray, List.set_cons_zero, List.set_cons_succ]
          refine wpAny_done (by kernel_rfl) ?_ _
          clear x1 x2 z1 z2 hr10 Q Q8 Q9 O9
          go_wp2
          go_roundw
          case rel =>
            refine ⟨t' - 1, _, _, _, kss ++ [ks], by go_num, by omega, by simp; omega, fun k hk => ?_, Q10⟩
            rcases List.mem_append.1 hk with h | h
            · exact hks k h
            · obtain rfl : k = ks := by simpa using h
              omega
          case measure => simp [intOf]; omega
        · have hK := (show Hid _ from hK0)
          clear hK0
          go_simp
          refine (belowE Q.D.drew 5 (by omega)).mono ?_
          rintro e w8 ⟨y, rfl, y0, y1, D, G⟩
          have Q8 := Q.drew.draw D G
          clear D G x1
          have x1 := Q8.P.cell 1
          obtain ⟨m8, hm8⟩ : ∃ m : Nat, 2 + y = m := ⟨(2 + y).toNat, by omega⟩
          have qm : IntKind.i64.wrap (2 + y) = (m8 : Int) := by rw [hm8, IntKind.wrap_i64]; omega
          have hm81 : 1 ≤ m8 ∧ m8 ≤ 100 := by omega
          have hs8 : W0.heap.size ≤ w8.heap.size := Q8.G.size
          clear hm8
          go_simp
          refine hK.out _ _ ?_
          clear hK
          try simp only [Act.put, List.setIfInBounds_toArray, List.set_cons_zero, List.set_cons_succ]
          refine takeA (i := 5) (some 46) (.int .i64 m8) rfl rfl (by kernel_rfl) (by kernel_rfl) (by kernel_rfl) (fun _ _ _ h => h) (Or.inl ⟨by rfl, fun w => by go_simp⟩) ?_
          try simp only [Act.put, List.setIfInBounds_toArray, List.set_cons_zero, List.set_cons_succ]
          refine wpAny_ready (rs := [1, 6]) (by kernel_rfl) (by simp) ?_
          refine AllReady.cons rfl (fun K hK0 => ?_) (AllReady.cons rfl (fun K hK0 => ?_) AllReady.nil)
          · have hK := (show Hid _ from hK0)
            clear hK0
            go_simp
            refine hK.out _ _ ?_
            clear hK
            try simp only [Act.put, List.setIfInBounds_toArray, List.set_cons_zero, List.set_cons_succ]
            refine wpAny_ready (rs := [6]) (by kernel_rfl) (by simp) ?_
            refine AllReady.cons rfl (fun K hK0 => ?_) AllReady.nil
            have hK := (show Hid _ from hK0)
            clear hK0
            go_simp
            refine (gen true 1 (by omega) m8 (by omega) (by omega) B g v l w8 Q8.D).mono ?_
            rintro e w9 ⟨v9, ks, rfl, O9, hk9, D, G⟩
            have Q9 := Q8.draw D G
            clear D G x1 qm
            have x1 := Q9.P.cell 1
            obtain ⟨a9, c9, rfl⟩ := O9.form
            obtain ⟨v10, W10, hr10, z1, z2, Q10⟩ := Q9.kid ⟨a9, ks.length, c9⟩ ks (O9.mono hs8) (by omega)
            obtain ⟨a10, c10, rfl⟩ := Q10.O.k.form
            obtain ⟨n10, hn10⟩ : ∃ n, (kss ++ [ks]).length = n := ⟨_, rfl⟩
            rw [hn10] at Q10 hr10
            have x2 := ((alloc_below w9 (.cells #[.slice a9 ks.length c9] 125)).cell (p := ⟨p, 1, none⟩) Q9.P.lt).trans x1
            go_simp
            refine hK.out _ _ ?_
            clear hK
            try simp only [Act.put, List.setIfInBounds_toArray, List.set_cons_zero, List.set_cons_succ]
            refine takeA (i := 7) (some 48) (.agg #[.slice a9 ks.length c9]) rfl rfl (by kernel_rfl) (by kernel_rfl) (by kernel_rfl) (fun _ _ _ h => h) (Or.inl ⟨by rfl, fun w => by go_simp⟩) ?_
            try simp only [Act.put, List.setIfInBounds_toArray, List.set_cons_zero, List.set_cons_succ]
            refine wpAny_ready (rs := [8]) (by kernel_rfl) (by simp) ?_
            refine AllReady.cons rfl (fun K hK0 => ?_) AllReady.nil
            have hK := (show Hid _ from hK0)
            clear hK0
            go_simp
            refine hK.out _ _ ?_
            clear hK
            try simp only [Act.put, List.setIfInBounds_toArray, List.set_cons_zero, List.set_cons_succ]
            refine wpAny_ready (rs := [9]) (by kernel_rfl) (by simp) ?_
            refine AllReady.cons rfl (fun K hK0 => ?_) AllReady.nil
            have hK := (show Hid _ from hK0)
            clear hK0
            refine step_app rfl (.tmp 42) (.tmp 49) 47 rfl (.slice ak nk ck) (.slice (some ⟨w9.heap.size, 0, none⟩) 1 1) (.slice a10 n10 c10) W10 rfl rfl hr10 ?_
            refine hK.out _ _ ?_
            clear hK
            try simp only [Act.put, List.setIfInBounds_toArray, List.set_cons_zero, List.set_cons_succ]
            refine takeA (i := 10) (some 51) (.pointer (some ⟨p, 1, none⟩)) rfl rfl (by kernel_rfl) (by kernel_rfl) (by kernel_rfl) (fun _ _ _ h => h) (Or.inl ⟨by rfl, fun w => by go_simp⟩) ?_
            try simp only [Act.put, List.setIfInBounds_toArray, List.set_cons_zero, List.set_cons_succ]
            refine wpAny_ready (rs := [11]) (by kernel_rfl) (by simp) ?_
            refine AllReady.cons rfl (fun K hK0 => ?_) AllReady.nil
            have hK := (show Hid _ from hK0)
            clear hK0
            go_simp
            refine hK.out _ _ ?_
            clear hK
            try simp only [Act.put, List.setIfInBounds_toArray, List.set_cons_zero, List.set_cons_succ]
            refine wpAny_done (by kernel_rfl) ?_ _
            clear x1 x2 z1 z2 hr10 Q Q8 Q9 O9
            go_wp2
            go_roundw
            case rel =>
              refine ⟨t' - 1, _, _, _, kss ++ [ks], by go_num, by omega, by simp; omega, fun k hk => ?_, Q10⟩
              rcases List.mem_append.1 hk with h | h
              · exact hks k h
              · obtain rfl : k = ks := by simpa using h
                omega
            case measure => simp [intOf]; omega
          · have hK := (show Hid _ from hK0)
            clear hK0
            go_simp
            refine (gen true 1 (by omega) m8 (by omega) (by omega) B g v l w8 Q8.D).mono ?_
            rintro e w9 ⟨v9, ks, rfl, O9, hk9, D, G⟩
            have Q9 := Q8.draw D G
            clear D G x1 qm
            have x1 := Q9.P.cell 1
            obtain ⟨a9, c9, rfl⟩ := O9.form
            obtain ⟨v10, W10, hr10, z1, z2, Q10⟩ := Q9.kid ⟨a9, ks.length, c9⟩ ks (O9.mono hs8) (by omega)
            obtain ⟨a10, c10, rfl⟩ := Q10.O.k.form
            obtain ⟨n10, hn10⟩ : ∃ n, (kss ++ [ks]).length = n := ⟨_, rfl⟩
            rw [hn10] at Q10 hr10
            have x2 := ((alloc_below w9 (.cells #[.slice a9 ks.length c9] 125)).cell (p := ⟨p, 1, none⟩) Q9.P.lt).trans x1
            go_simp
            refine hK.out _ _ ?_
            clear hK
            try simp only [Act.put, List.setIfInBounds_toArray, List.set_cons_zero, List.set_cons_succ]
            refine takeA (i := 7) (some 48) (.agg #[.slice a9 ks.length c9]) rfl rfl (by kernel_rfl) (by kernel_rfl) (by kernel_rfl) (fun _ _ _ h => h) (Or.inl ⟨by rfl, fun w => by go_simp⟩) ?_
            try simp only [Act.put, List.setIfInBounds_toArray, List.set_cons_zero, List.set_cons_succ]
            refine wpAny_ready (rs := [1, 8]) (by kernel_rfl) (by simp) ?_
            refine AllReady.cons rfl (fun K hK0 => ?_) (AllReady.cons rfl (fun K hK0 => ?_) AllReady.nil)
            · have hK := (show Hid _ from hK0)
              clear hK0
              go_simp
              refine hK.out _ _ ?_
              clear hK
              try simp only [Act.put, List.setIfInBounds_toArray, List.set_cons_zero, List.set_cons_succ]
              refine wpAny_ready (rs := [8]) (by kernel_rfl) (by simp) ?_
              refine AllReady.cons rfl (fun K hK0 => ?_) AllReady.nil
              have hK := (show Hid _ from hK0)
              clear hK0
              go_simp
              refine hK.out _ _ ?_
              clear hK
              try simp only [Act.put, List.setIfInBounds_toArray, List.set_cons_zero, List.set_cons_succ]
              refine wpAny_ready (rs := [9]) (by kernel_rfl) (by simp) ?_
              refine AllReady.cons rfl (fun K hK0 => ?_) AllReady.nil
              have hK := (show Hid _ from hK0)
              clear hK0
              refine step_app rfl (.tmp 42) (.tmp 49) 47 rfl (.slice ak nk ck) (.slice (some ⟨w9.heap.size, 0, none⟩) 1 1) (.slice a10 n10 c10) W10 rfl rfl hr10 ?_
              refine hK.out _ _ ?_
              clear hK
              try simp only [Act.put, List.setIfInBounds_toArray, List.set_cons_zero, List.set_cons_succ]
              refine takeA (i := 10) (some 51) (.pointer (some ⟨p, 1, none⟩)) rfl rfl (by kernel_rfl) (by kernel_rfl) (by kernel_rfl) (fun _ _ _ h => h) (Or.inl ⟨by rfl, fun w => by go_simp⟩) ?_
              try simp only [Act.put, List.setIfInBounds_toArray, List.set_cons_zero, List.set_cons_succ]
              refine wpAny_ready (rs := [11]) (by kernel_rfl) (by simp) ?_
              refine AllReady.cons rfl (fun K hK0 => ?_) AllReady.nil
              have hK := (show Hid _ from hK0)
              clear hK0
              go_simp
              refine hK.out _ _ ?_
              clear hK
              try simp only [Act.put, List.setIfInBounds_toArray, List.set_cons_zero, List.set_cons_succ]
              refine wpAny_done (by kernel_rfl) ?_ _
              clear x1 x2 z1 z2 hr10 Q Q8 Q9 O9
              go_wp2
              go_roundw
              case rel =>
                refine ⟨t' - 1, _, _, _, kss ++ [ks], by go_num, by omega, by simp; omega, fun k hk => ?_, Q10⟩
                rcases List.mem_append.1 hk with h | h
                · exact hks k h
                · obtain rfl : k = ks := by simpa using h
                  omega
              case measure => simp [intOf]; omega
            · have hK := (show Hid _ from hK0)
              clear hK0
              go_simp
              refine hK.out _ _ ?_
              clear hK
              try simp only [Act.put, List.setIfInBounds_toArray, List.set_cons_zero, List.set_cons_succ]
              refine wpAny_ready (rs := [1]) (by kernel_rfl) (by simp) ?_
              refine AllReady.cons rfl (fun K hK0 => ?_) AllReady.nil
              have hK := (show Hid _ from hK0)
              clear hK0
              go_simp
              refine hK.out _ _ ?_
              clear hK
              try simp only [Act.put, List.setIfInBounds_toArray, List.set_cons_zero, List.set_cons_succ]
              refine wpAny_ready (rs := [9]) (by kernel_rfl) (by simp) ?_
              refine AllReady.cons rfl (fun K hK0 => ?_) AllReady.nil
              have hK := (show Hid _ from hK0)
              clear hK0
              refine step_app rfl (.tmp 42) (.tmp 49) 47 rfl (.slice ak nk ck) (.slice (some ⟨w9.heap.size, 0, none⟩) 1 1) (.slice a10 n10 c10) W10 rfl rfl hr10 ?_
              refine hK.out _ _ ?_
              clear hK
              try simp only [Act.put, List.setIfInBounds_toArray, List.set_cons_zero, List.set_cons_succ]
              refine takeA (i := 10) (some 51) (.pointer (some ⟨p, 1, none⟩)) rfl rfl (by kernel_rfl) (by kernel_rfl) (by kernel_rfl) (fun _ _ _ h => h) (Or.inl ⟨by rfl, fun w => by go_simp⟩) ?_
              try simp only [Act.put, List.setIfInBounds_toArray, List.set_cons_zero, List.set_cons_succ]
              refine wpAny_ready (rs := [11]) (by kernel_rfl) (by simp) ?_
              refine AllReady.cons rfl (fun K hK0 => ?_) AllReady.nil
              have hK := (show Hid _ from hK0)
              clear hK0
              go_simp
              refine hK.out _ _ ?_
              clear hK
              try simp only [Act.put, List.setIfInBounds_toArray, List.set_cons_zero, List.set_cons_succ]
              refine wpAny_done (by kernel_rfl) ?_ _
              clear x1 x2 z1 z2 hr10 Q Q8 Q9 O9
              go_wp2
              go_roundw
              case rel =>
                refine ⟨t' - 1, _, _, _, kss ++ [ks], by go_num, by omega, by simp; omega, fun k hk => ?_, Q10⟩
                rcases List.mem_append.1 hk with h | h
                · exact hks k h
                · obtain rfl : k = ks := by simpa using h
                  omega
              case measure => simp [intOf]; omega
      · obtain rfl : t' = 0 := by omega
        have R := R0.grown Q.G (fun e => by injection e; omega)
        have x0 := R.cell 0; have x1 := R.cell 1; have f0 := R.froz 0; have f1 := R.froz 1
        have p0 := Q.P.cell 0; have p1 := Q.P.cell 1
        have hpp := Q.hp
        have GG := grown_trans G0 Q.G
        have C := Q.O.other R (by decide) (by decide) 0 (.slice a6 us.length c6)
        have C := (C.other (R.set 0 _) (by decide) (by decide) 1 (.slice ak nk ck)).mono (show w.heap.size ≤ W0.heap.size by omega)
        have Dz := (Q.D.set (show g < w.heap.size by omega) 0 (.slice a6 us.length c6)).set (show g < w.heap.size by omega) 1 (.slice ak nk ck)
        have Gz := grown_store (grown_store GG (Nat.le_refl _) 0 (.slice a6 us.length c6)) (Nat.le_refl _) 1 (.slice ak nk ck)
        clear Q GG R
        go_wp2
        refine bodyPost_ret (v := .agg #[.slice a6 us.length c6, .slice ak nk ck]) (by simp [results, Try.results59, go_sem, x0, x1, f0, f1]) rfl ?_
        exact ⟨_, _, us, kss, rfl, C, hul, by omega, hks, Dz, Gz⟩
end Ops
end Go.Proofs.Ytppkohkcffnghaa
/- Some code is spoilt in one place: what comes of it is some code. -/
set_option linter.unusedVariables false
set_option linter.unusedSimpArgs false
namespace Go.Proofs.Ytppkohkcffnghaa
open Go.RowKit
namespace Ops
open Bas Flat Draw

/-- where a row that is not empty lies -/
theorem own_some {α : Type} {E : El α} {e : TypeId} {B : Nat} {w : World} {a : Option Addr} {n cap : Nat} {xs : List α} (h : Owns E e B w (.slice a n cap) xs) (hn : 0 < xs.length) : ∃ q, a = some ⟨q, 0, none⟩ ∧ B ≤ q ∧ q < w.heap.size ∧ n = xs.length ∧ n ≤ cap := by
  obtain ⟨h1, h2⟩ := h
  rcases h2 with ⟨h', h0⟩ | ⟨q, c, cur, h', hB, hg, hle, _⟩
  · omega
  · simp only [Value.slice.injEq] at h'
    obtain ⟨rfl, rfl, rfl⟩ := h'
    exact ⟨q, rfl, hB, (Array.getElem?_eq_some_iff.1 hg).1, rfl, hle⟩
section
variable {B g : Nat} {v : Value} {l : List UInt8} {w W W' : World} {out : Value} {xs : List O4}
theorem GSt.drew (h : GSt B g v l w W out xs) : GSt B g v l w W.drew out xs := { D := h.D.drew, G := grown_drew h.G, O := h.O.drew, lt := h.lt }
/-- out[k] = x -/
theorem GSt.put {q n cap : Nat} (h : GSt B g v l w W (.slice (some ⟨q, 0, none⟩) n cap) xs) (hn : xs.length = n) (k : Nat) (hk : k < xs.length) (x : O4) : GSt B g v l w (set4 W q k x) (.slice (some ⟨q, 0, none⟩) n cap) (xs.set k x) := by
  have hlt := h.lt
  obtain ⟨h1, h2⟩ := h.O.at q rfl
  have hO := h.O
  unfold Owns4 Owns at hO
  rw [hn] at hO
  have := own_set4 hO k hk x
  refine { D := (((h.D.set (by omega) _ _).set (by omega) _ _).set (by omega) _ _).set (by omega) _ _, G := grown_store (grown_store (grown_store (grown_store h.G h1 _ _) h1 _ _) h1 _ _) h1 _ _, O := ?_, lt := hlt }
  unfold Owns4 Owns
  rw [List.length_set, hn]; exact this
end

theorem GSt.putB {B g : Nat} {v : Value} {l : List UInt8} {w W : World} {xs : List O4} {q n cap : Nat} (h : GSt B g v l w W (.slice (some ⟨q, 0, none⟩) n cap) xs) (hn : xs.length = n) (k : Nat) (hk : k < xs.length) (z : Int) : GSt B g v l w (W.setCell ⟨q, k * 4 + 2, none⟩ (.int .i64 z)) (.slice (some ⟨q, 0, none⟩) n cap) (xs.set k ⟨xs[k].k, xs[k].a, z, xs[k].c⟩) := by
  have hlt := h.lt
  obtain ⟨h1, h2⟩ := h.O.at q rfl
  have hO := h.O
  unfold Owns4 Owns at hO
  rw [hn] at hO
  have := own_set (E := opEl) hO k hk 2 (by decide) (.int .i64 z) ⟨xs[k].k, xs[k].a, z, xs[k].c⟩ rfl
  refine { D := h.D.set (by omega) _ _, G := grown_store h.G h1 _ _, O := ?_, lt := hlt }
  unfold Owns4 Owns
  rw [List.length_set, hn]; exact this

theorem own_take {α : Type} {E : El α} {e : TypeId} {B q n cap k : Nat} {w : World} {xs : List α} (h : Owns E e B w (.slice (some ⟨q, 0, none⟩) n cap) xs) (hk : k ≤ xs.length) : Owns E e B w (.slice (some ⟨q, 0, none⟩) k cap) (xs.take k) := by
  obtain ⟨h1, h2⟩ := h
  have hl : (xs.take k).length = k := by simp; omega
  rcases h2 with ⟨h', _⟩ | ⟨g', cap', cur, h', hb, hg, h3, h4, h5, h6⟩
  · cases h'
  · simp only [Value.slice.injEq, Option.some.injEq, Addr.mk.injEq, and_true] at h'
    obtain ⟨rfl, hl', rfl⟩ := h'
    refine ⟨by rw [fv_length], .inr ⟨q, cap, cur, by rw [hl], hb, hg, by omega, h4, h5, ?_⟩⟩
    have e1 : xs = xs.take k ++ xs.drop k := (List.take_append_drop k xs).symm
    have := congrArg (List.take (k * E.sz)) h6
    rw [List.take_take, Nat.min_eq_left (Nat.mul_le_mul_right _ hk)] at this
    rw [hl, this, e1, fv_append, List.take_append_of_le_length (by rw [fv_length, hl]; exact Nat.le_refl _), List.take_of_length_le (by rw [fv_length, hl]; exact Nat.le_refl _), ← e1]
/-- append(out[:k], out[k+1:]...) -/
theorem GSt.cut {B g : Nat} {v : Value} {l : List UInt8} {w W : World} {xs : List O4} {q n cap : Nat} (h : GSt B g v l w W (.slice (some ⟨q, 0, none⟩) n cap) xs) (hn : xs.length = n) (k : Nat) (hk : k < xs.length) (hcap : n ≤ cap) (hlen : n ≤ 1000) :
    ∃ v' W', (Builtin.append_ #[24, 24] 24 #[.slice (some ⟨q, 0, none⟩) k cap, .slice (if cap = k + 1 then some ⟨q, 0, none⟩ else some ⟨q, (k + 1) * 4, none⟩) (n - (k + 1)) (cap - (k + 1))]).run Try.prog W = .ok v' W' ∧ GSt B g v l w W' v' (xs.take k ++ xs.drop (k + 1)) := by
  have hm : cap ≤ maxLen := by obtain ⟨a, c, e, -, h2, -⟩ := h.O.sees; simp only [Value.slice.injEq] at e; omega
  have hO := h.O
  unfold Owns4 Owns at hO
  rw [hn] at hO
  have hS : Sees4 W.heap.size W (.slice (if cap = k + 1 then some ⟨q, 0, none⟩ else some ⟨q, (k + 1) * 4, none⟩) (n - (k + 1)) (cap - (k + 1))) (xs.drop (k + 1)) := by
    refine ⟨_, cap - (k + 1), by rw [List.length_drop, hn], by rw [List.length_drop, hn]; omega, by omega, fun hne => ?_⟩
    have hlt : k + 1 < n := by
      rcases Nat.lt_or_ge (k + 1) n with h' | h'
      · exact h'
      · exact absurd (List.drop_of_length_le (by omega)) hne
    refine ⟨q, (k + 1) * 4, by rw [if_neg (by omega)], (own_low (E := opEl) hO).2, fun j hj => ?_⟩
    have hj' : k + 1 + j < xs.length := by simp at hj; omega
    have := own_at (E := opEl) hO (k + 1 + j) hj'
    rw [List.getElem_drop]
    rw [show (k + 1) * 4 + j * opEl.sz = (k + 1 + j) * opEl.sz by show (k + 1) * 4 + j * 4 = (k + 1 + j) * 4; omega]
    exact this
  have h' : GSt B g v l w W (.slice (some ⟨q, 0, none⟩) k cap) (xs.take k) := { D := h.D, G := h.G, O := own_take h.O (by omega), lt := h.lt }
  obtain ⟨v', W', hr, P, -⟩ := h'.cat _ _ _ hS (by simp; omega)
  exact ⟨v', W', hr, P⟩

def CodePost (m : Nat) (B g : Nat) (v : Value) (l : List UInt8) (w : World) (e : Ending) (w' : World) : Prop := ∃ v' ys, e = .returned v' ∧ Owns4 w.heap.size w' v' ys ∧ ys.length ≤ m ∧ Dr B g v l w' ∧ w.grownBy w' (some g)

set_option maxRecDepth 100000 in
set_option maxHeartbeats 8000000 in
theorem bendE {B g : Nat} {v : Value} {l : List UInt8} {w : World} (h : Dr B g v l w) (u : Value) (xs : List O4) (Bc : Nat) (hu : Sees4 Bc w u xs) (hBc : Bc ≤ w.heap.size) (hlen : xs.length ≤ 1000) :
    Calls Try.prog 87 #[.pointer (some ⟨g, 0, none⟩), u] w (CodePost 1030 B g v l w) := by
  have P0 : GSt B g v l w (w.alloc (.cells #[] 30)) (.slice (some ⟨w.heap.size, 0, none⟩) 0 0) [] :=
    { D := h.alloc _, G := World.grownBy_alloc w _ _, O := World.ownsRow_lit w #[] 0 (Nat.le_refl _) (by simp [maxLen]) rfl, lt := h.lt }
  obtain ⟨o1, W1, hr1, P1, -⟩ := P0.cat u xs Bc (hu.on (alloc_below w _) hBc) (by simp; omega)
  rw [List.nil_append] at P1
  obtain ⟨a, ucap, rfl⟩ := hu.form
  obtain ⟨a1, cap1, rfl⟩ := P1.O.form
  obtain ⟨n, hn⟩ : ∃ n, xs.length = n := ⟨_, rfl⟩
  rw [hn] at P1 hr1 hlen ⊢
  clear P0 hu h
  go_enter Try.func87, Try.ntmps87
  by_cases hn0 : n = 0
  · have d0 : ((n : Int) == 0) = true := by simp [hn0]
    go_wp2_with (at_builtin; refine wpList_app _ rfl _ _ 24 rfl _ _ _ _ rfl rfl hr1 ?_)
    go_ret
    exact ⟨_, [⟨9, 0, 0, 0⟩], rfl, World.ownsRow_lit W1 #[.int .i64 9, .int .i64 0, .int .i64 0, .int .i64 0] 1 P1.G.size (by simp [maxLen]) rfl, by simp, P1.D.alloc _, grown_new P1.G _⟩
  obtain ⟨q, rfl, hq1, hq2, -, hcap⟩ := own_some P1.O (by omega)
  have d0 : ((n : Int) == 0) = false := by simp [hn0]
  have hnI : (0 : Int) < n := by omega
  go_wp2_with (at_builtin; refine wpList_app _ rfl _ _ 24 rfl _ _ _ _ rfl rfl hr1 ?_)
  clear hr1
  refine (belowE P1.D n hnI).mono ?_
  rintro e w2 ⟨k', rfl, k0, k1, D, G⟩
  have P := P1.draw D G
  clear D G P1 hq2
  obtain ⟨k, rfl⟩ := Int.eq_ofNat_of_zero_le k0
  go_wp2_with fail
  refine (belowE P.D 6 (by omega)).mono ?_
  rintro e w3 ⟨c, rfl, c0, c1, D, G⟩
  have P := P.draw D G
  clear D G
  have hkx : k < xs.length := by omega
  by_cases e0 : c = 0
  · subst e0
    go_wp2_with fail
    refine (anyE P.D).mono ?_
    rintro e w4 ⟨xk, xa, xb, xc, rfl, -, D, G⟩
    have P := P.draw D G
    clear D G
    have eV : opV xk xa xb xc = .agg #[.int .i64 xk, .int .i64 xa, .int .i64 xb, .int .i64 xc] := rfl
    rw [eV]
    clear eV
    have hO := P.O
    unfold Owns4 Owns at hO
    rw [hn] at hO
    obtain ⟨s0, s1, s2, s3⟩ := at4 (own_at (E := opEl) hO k hkx)
    change w4.cell? ⟨q, k * 4, none⟩ = _ at s0
    change w4.cell? ⟨q, k * 4 + 1, none⟩ = _ at s1
    change w4.cell? ⟨q, k * 4 + 2, none⟩ = _ at s2
    change w4.cell? ⟨q, k * 4 + 3, none⟩ = _ at s3
    have hfz := fun j => hO.frozenAt j
    have P' := P.put hn k hkx ⟨xk, xa, xb, xc⟩
    unfold set4 at P'
    clear hO
    go_wp2
    go_ret
    exact ⟨_, _, rfl, P'.O, by simp; omega, P'.D, P'.G⟩
  by_cases e1 : c = 1
  · subst e1
    have hO := P.O
    unfold Owns4 Owns at hO
    rw [hn] at hO
    obtain ⟨s0, s1, s2, s3⟩ := at4 (own_at (E := opEl) hO k hkx)
    change w3.cell? ⟨q, k * 4, none⟩ = _ at s0
    change w3.cell? ⟨q, k * 4 + 1, none⟩ = _ at s1
    change w3.cell? ⟨q, k * 4 + 2, none⟩ = _ at s2
    change w3.cell? ⟨q, k * 4 + 3, none⟩ = _ at s3
    have hfz := fun j => hO.frozenAt j
    have P' := P.put hn k hkx ⟨11, 0, 0, 0⟩
    unfold set4 at P'
    clear hO
    go_wp2
    go_ret
    exact ⟨_, _, rfl, P'.O, by simp; omega, P'.D, P'.G⟩

  by_cases e2 : c = 2
  · subst e2
    have q1 : (k : Int) ≤ cap1 := by omega
    have q2 : (k : Int) + 1 ≤ n := by omega
    have q3 : (n : Int) ≤ cap1 := by omega
    have q4 : (0 : Int) ≤ (k : Int) + 1 := by omega
    have qw : IntKind.i64.wrap ((k : Int) + 1) = (k : Int) + 1 := by rw [IntKind.wrap_i64]; omega
    obtain ⟨v5, W5, hr5, P5⟩ := P.drew.cut hn k hkx hcap hlen
    go_wp2_with fail
    go_region_held3 (fun _ => True) (go_keep) ((refine step_app rfl (.tmp 45) (.tmp 49) 24 rfl (.slice (some ⟨q, 0, none⟩) k cap1) (.slice (if cap1 = k + 1 then some ⟨q, 0, none⟩ else some ⟨q, (k + 1) * 4, none⟩) (n - (k + 1)) (cap1 - (k + 1))) v5 W5 rfl rfl hr5 ?_))
    go_wp2
    all_goals
      go_ret
      exact ⟨_, _, rfl, P5.O, by simp; omega, P5.D, P5.G⟩
  by_cases e3 : c = 3
  · subst e3
    clear hkx k0 k1
    go_wp2
    go_loopw [5] (fun ov wr => ∃ (a : Option Addr) (m c' : Nat) (ys : List O4), ov = .slice a m c' ∧ ys.length = m ∧ m ≤ 1030 ∧ GSt B g v l w wr (.slice a m c') ys) (fun ov _ => 1030 - (match ov with | .slice _ m _ => m | _ => 0))
    case atStart => exact ⟨_, n, cap1, xs, rfl, hn, by omega, P⟩
    case round =>
      obtain ⟨a, m, c', ys, rfl, hm, hm1, P⟩ := hrel
      go_wp2_with fail
      refine (belowE P.D 2 (by omega)).mono ?_
      rintro e w4 ⟨y, rfl, y0, y1, D, G⟩
      have P := P.draw D G
      clear D G
      by_cases hlt : (m : Int) < 24 + y
      · obtain ⟨o5, W5, hr5, P5, -⟩ := P.push ⟨1, 0, 0, 0⟩ (by omega)
        obtain ⟨a5, cap5, rfl⟩ := P5.O.form
        have hl5 : (ys ++ [(⟨1, 0, 0, 0⟩ : O4)]).length = m + 1 := by simp [hm]
        rw [hl5] at P5 hr5
        go_wp2_with (at_builtin; refine wpList_app _ rfl _ _ 24 rfl _ _ _ _ rfl rfl hr5 ?_)
        clear hr5
        go_roundw
        case rel => exact ⟨a5, m + 1, cap5, _, rfl, hl5, by omega, P5⟩
        case measure => simp; omega
      · go_wp2
        go_ret
        exact ⟨_, ys, rfl, by rw [← hm] at P; rw [hm] at P; exact P.O, by omega, P.D, P.G⟩
  by_cases e4 : c = 4
  · subst e4
    have hO := P.O
    unfold Owns4 Owns at hO
    rw [hn] at hO
    obtain ⟨s0, s1, s2, s3⟩ := at4 (own_at (E := opEl) hO k hkx)
    change w3.cell? ⟨q, k * 4, none⟩ = _ at s0
    change w3.cell? ⟨q, k * 4 + 1, none⟩ = _ at s1
    change w3.cell? ⟨q, k * 4 + 2, none⟩ = _ at s2
    change w3.cell? ⟨q, k * 4 + 3, none⟩ = _ at s3
    have hfz := fun j => hO.frozenAt j
    have P' := P.putB hn k hkx (wrap64 (xs[k].b + 1))
    clear hO
    go_wp2
    go_ret
    exact ⟨_, _, rfl, P'.O, by rw [List.length_set]; omega, P'.D, P'.G⟩

  have e5 : c = 5 := by omega
  subst e5
  go_wp2_with fail
  refine (belowE P.D 2 (by omega)).mono ?_
  rintro e w4 ⟨y, rfl, y0, y1, D, G⟩
  have P := P.draw D G
  clear D G
  have hO := P.O
  unfold Owns4 Owns at hO
  rw [hn] at hO
  obtain ⟨s0, s1, s2, s3⟩ := at4 (own_at (E := opEl) hO k hkx)
  change w4.cell? ⟨q, k * 4, none⟩ = _ at s0
  change w4.cell? ⟨q, k * 4 + 1, none⟩ = _ at s1
  change w4.cell? ⟨q, k * 4 + 2, none⟩ = _ at s2
  change w4.cell? ⟨q, k * 4 + 3, none⟩ = _ at s3
  have hfz := fun j => hO.frozenAt j
  have P' := P.put hn k hkx ⟨9 - y, 0, 0, 0⟩
  unfold set4 at P'
  clear hO
  go_wp2
  go_ret
  exact ⟨_, _, rfl, P'.O, by simp; omega, P'.D, P'.G⟩

end Ops
end Go.Proofs.Ytppkohkcffnghaa
