/- Programs in memory: the laws' own copies, comparisons and sizes. -/
import Derived.Test.YtppkohkcffnghaaOpRow
set_option linter.unusedVariables false
namespace Go.Proofs.Ytppkohkcffnghaa
open Go.RowKit
namespace Ops
open Bas Flat

/-- a slice as a cell -/
structure S3 where
  a : Option Addr
  n : Nat
  cap : Nat
def S3.val (s : S3) : Value := .slice s.a s.n s.cap
def slEl : El S3 where
  sz := 1
  cells s := [.slice s.a s.n s.cap]
  len _ := rfl
  one s v hv := by simp at hv; rw [hv]; rfl
  pos := by decide
def z3 : S3 := ⟨none, 0, 0⟩
theorem rowKid : Row Try.prog slEl 47 125 (.agg #[.slice none 0 0]) z3 24 := ⟨Try.underlying47, by kernel_rfl, rfl, by decide⟩
theorem at1 {w : World} {b o : Nat} {s : S3} (h : At slEl w b o s) : w.cell? ⟨b, o, none⟩ = some (.slice s.a s.n s.cap) := h 0 _ rfl

/-- kids, each with its code, in blocks of which S holds -/
def SeesKIn (S : Nat → Prop) (w : World) (v : Value) (kss : List (List O4)) : Prop :=
  ∃ ss : List S3, SeesIn slEl S w v ss ∧ ss.length = kss.length ∧ ∀ j (h : j < ss.length) (h' : j < kss.length), SeesIn opEl S w ss[j].val kss[j]
/-- .. below block B -/
def SeesK (B : Nat) (w : World) (v : Value) (kss : List (List O4)) : Prop := SeesKIn (fun b => b < B) w v kss
section
variable {B B' : Nat} {S S' : Nat → Prop} {w w' : World} {v : Value} {kss : List (List O4)}
theorem SeesKIn.keep (h : SeesKIn S w v kss) (hk : ∀ b, S b → w'.heap[b]? = w.heap[b]?) : SeesKIn S w' v kss := by
  obtain ⟨ss, h1, h2, h3⟩ := h
  exact ⟨ss, h1.keep hk, h2, fun j hj hj' => (h3 j hj hj').keep hk⟩
theorem SeesKIn.mono (h : SeesKIn S w v kss) (hs : ∀ b, S b → S' b) : SeesKIn S' w v kss := by
  obtain ⟨ss, h1, h2, h3⟩ := h
  exact ⟨ss, h1.mono hs, h2, fun j hj hj' => (h3 j hj hj').mono hs⟩
theorem SeesKIn.form (h : SeesKIn S w v kss) : ∃ a cap, v = .slice a kss.length cap := by
  obtain ⟨ss, ⟨a, cap, e, -⟩, h2, -⟩ := h
  exact ⟨a, cap, by rw [← h2]; exact e⟩
theorem SeesK.on (h : SeesK B w v kss) (hb : Below B' w w') (hB : B ≤ B') : SeesK B w' v kss := SeesKIn.keep h (fun b hs => hb.block b (by omega))
theorem SeesK.up (h : SeesK B w v kss) (hB : B ≤ B') : SeesK B' w v kss := SeesKIn.mono h (fun b hs => by omega)
theorem SeesK.form (h : SeesK B w v kss) : ∃ a cap, v = .slice a kss.length cap := SeesKIn.form h
theorem SeesK.room (h : SeesK B w v kss) : kss.length ≤ maxLen := by obtain ⟨ss, ⟨a, cap, -, k1, k2, -⟩, h2, -⟩ := h; omega
/-- where the kids lie, and each one's code -/
theorem SeesK.open {a : Option Addr} {n cap : Nat} (h : SeesK B w (.slice a n cap) kss) (hn : 0 < kss.length) :
    ∃ b off, a = some ⟨b, off, none⟩ ∧ b < B ∧ ∀ j (h : j < kss.length), ∃ s : S3, w.cell? ⟨b, off + j, none⟩ = some (.slice s.a s.n s.cap) ∧ Sees4 B w (.slice s.a s.n s.cap) kss[j] := by
  obtain ⟨ss, h1, h2, h3⟩ := h
  obtain ⟨b, off, rfl, hb, hc⟩ := Sees.open (E := slEl) (B := B) h1 (by omega)
  refine ⟨b, off, rfl, hb, fun j hj => ⟨ss[j], ?_, h3 j (by omega) hj⟩⟩
  have := at1 (hc j (by omega))
  change w.cell? ⟨b, off + j * 1, none⟩ = _ at this
  rw [Nat.mul_one] at this; exact this
end

set_option maxRecDepth 100000 in
set_option maxHeartbeats 800000 in
theorem toKidC (v : Value) (xs : List O4) (B : Nat) (w : World) (hv : Sees4 B w v xs) (hB : B ≤ w.heap.size) (hlen : xs.length ≤ 1048576) :
    Calls Try.prog 101 #[.agg #[v]] w fun e w' => ∃ v', e = .returned (.agg #[v']) ∧ Owns4 w.heap.size w' v' xs ∧ Below w.heap.size w w' := by
  obtain ⟨a, cap, rfl⟩ := hv.form
  obtain ⟨n, hn⟩ : ∃ n, xs.length = n := ⟨_, rfl⟩
  rw [hn] at hv ⊢
  have b0 := ((alloc_below w (.cells #[.slice a n cap] 129)).alloc (by simp) (.cells #[.slice none 0 0] 125)).alloc (by simp; omega) (.cells #[.slice none 0 0] 125)
  have hv0 := hv.on b0 hB
  go_enter Try.func101, Try.ntmps101
  go_wp2_with fail
  refine (toOpsC _ xs B _ hv0 (by simp; omega) (by omega)).mono ?_
  rintro e w1 ⟨v', rfl, hO, hb⟩
  obtain ⟨a', cap', rfl⟩ := hO.form
  rw [hn] at hO ⊢
  obtain ⟨hc, hf⟩ := bcell hb
  have hz : w.heap.size + 3 ≤ w1.heap.size := by have := hb.size; simp at this; omega
  have hlow := hO.at
  go_wp2_with fail
  refine bodyPost_ret (v := .agg #[.slice a' n cap']) (by simp [results, Try.results101, go_sem, hc]) rfl ⟨_, rfl, ?_, ?_⟩
  · exact ((hO.other (fun k hk => by have := hlow k hk; simp at this; omega) _).other (fun k hk => by have := hlow k hk; simp at this; omega) _).mono (by simp; omega)
  · exact ((b0.trans (hb.mono (by simp; omega))).setCell (by simp; omega) _).setCell (by simp) _

/-- the kids copied so far -/
structure KRow (g : Nat) (wr : World) (n : Nat) (kss : List (List O4)) (k : Nat) : Prop where
  ex : ∃ ss : List S3, ss.length = k ∧ wr.ownsRow g 125 1 (.slice (some ⟨g, 0, none⟩) n n) n (fv slEl (ss ++ List.replicate (n - k) z3)) ∧ ∀ j (h : j < ss.length) (h' : j < kss.length), Owns4 (g + 1) wr ss[j].val kss[j]

theorem KRow.done {g : Nat} {wr : World} {n : Nat} {kss : List (List O4)} (h : KRow g wr n kss n) (hn : kss.length = n) : SeesKIn (fun b => g ≤ b ∧ b < wr.heap.size) wr (.slice (some ⟨g, 0, none⟩) n n) kss := by
  obtain ⟨ss, h1, h2, h3⟩ := h.ex
  rw [Nat.sub_self, List.replicate_zero, List.append_nil] at h2
  have h2' : Owns slEl 125 g wr (.slice (some ⟨g, 0, none⟩) n n) ss := by unfold Owns; rw [h1]; exact h2
  exact ⟨ss, h2'.within, by omega, fun j hj hj' => (h3 j hj hj').within.mono (fun b hb => ⟨by omega, hb.2⟩)⟩
theorem KRow.on {g : Nat} {wr w' : World} {n k : Nat} {kss : List (List O4)} (h : KRow g wr n kss k) (hb : Below wr.heap.size wr w') : KRow g w' n kss k := by
  obtain ⟨ss, h1, h2, h3⟩ := h.ex
  exact ⟨ss, h1, owns_on h2 hb (Nat.le_refl _), fun j hj hj' => (h3 j hj hj').on hb (Nat.le_refl _)⟩
theorem KRow.put {g : Nat} {wr : World} {n k : Nat} {kss : List (List O4)} (h : KRow g wr n kss k) (hk : k < n) (hn : kss.length = n) (s : S3) (hs : Owns4 (g + 1) wr (.slice s.a s.n s.cap) (kss[k]'(by omega))) :
    KRow g (wr.setCell ⟨g, k, none⟩ (.slice s.a s.n s.cap)) n kss (k + 1) := by
  obtain ⟨ss, h1, h2, h3⟩ := h.ex
  have hl : (ss ++ List.replicate (n - k) z3).length = n := by simp; omega
  have h2' := own_set (E := slEl) h2 k (by omega) 0 (by decide) (.slice s.a s.n s.cap) s (by
    have : ∀ y : S3, (slEl.cells y).set 0 (.slice s.a s.n s.cap) = slEl.cells s := fun y => rfl
    exact (this _).symm)
  have e1 : (ss ++ List.replicate (n - k) z3).set k s = (ss ++ [s]) ++ List.replicate (n - (k + 1)) z3 := by
    rw [show n - k = (n - (k + 1)) + 1 by omega, List.replicate_succ, List.set_append_right _ _ (by omega), h1, Nat.sub_self, List.set_cons_zero, List.append_assoc]
    rfl
  rw [e1] at h2'
  change (wr.setCell ⟨g, k * 1 + 0, none⟩ _).ownsRow _ _ _ _ _ _ at h2'
  rw [Nat.mul_one, Nat.add_zero] at h2'
  refine ⟨ss ++ [s], by simp [h1], h2', fun j hj hj' => ?_⟩
  by_cases hjk : j < ss.length
  · have e2 : (ss ++ [s])[j] = ss[j] := List.getElem_append_left hjk
    rw [e2]
    have := h3 j hjk hj'
    exact this.other (fun k hk => by have := this.at k hk; omega) _
  · have hjk' : j = k := by simp at hj; omega
    subst hjk'
    have e2 : (ss ++ [s])[j] = s := by rw [List.getElem_append_right (by omega)]; simp [h1]
    rw [e2]
    exact hs.other (fun k hk => by have := hs.at k hk; omega) _

set_option maxRecDepth 100000 in
set_option maxHeartbeats 1600000 in
theorem toKidsC (v : Value) (kss : List (List O4)) (B : Nat) (w : World) (hv : SeesK B w v kss) (hB : B ≤ w.heap.size) (hlen : kss.length ≤ 1048576) (hall : ∀ ks ∈ kss, ks.length ≤ 1048576) :
    Calls Try.prog 79 #[v] w fun e w' => ∃ v', e = .returned v' ∧ SeesKIn (fun b => w.heap.size ≤ b ∧ b < w'.heap.size) w' v' kss ∧ Below w.heap.size w w' := by
  obtain ⟨a, cap, rfl⟩ := hv.form
  obtain ⟨n, hn⟩ : ∃ n, kss.length = n := ⟨_, rfl⟩
  rw [hn] at hv hlen ⊢
  obtain ⟨w1, hB1, hs1, hmk, hO⟩ := make rowKid n (by omega) w w.heap.size (Nat.le_refl _)
  obtain ⟨g, hg⟩ : ∃ g, w.heap.size = g := ⟨_, rfl⟩
  rw [hg] at hmk hO hB1 hs1 hB ⊢
  have HV := (show Hid _ from hv)
  have HA := (show Hid _ from hall)
  clear hv hall
  go_enter Try.func79, Try.ntmps79
  go_wp2
  go_loopw [4] (fun i wr => ∃ k : Nat, k ≤ n ∧ i = .int .i64 k ∧ KRow g wr n kss k ∧ Below g w wr ∧ g < wr.heap.size) (fun i _ => n - (intOf i).toNat)
  case atStart => exact ⟨0, Nat.zero_le _, rfl, ⟨[], rfl, hO, fun j h => by simp at h⟩, hB1, hs1⟩
  case round =>
    obtain ⟨k, hk, rfl, hR, hb, hgw⟩ := hrel
    clear hmk hO hB1 hs1
    by_cases hlt : k < n
    · obtain ⟨b, off, rfl, hbB, hc⟩ := SeesK.open HV.out (by omega)
      obtain ⟨s, hs1, hs2⟩ := hc k (by omega)
      have c0 := (hb.cell (p := ⟨b, off + k, none⟩) (by show b < g; omega)).trans hs1
      have hs3 := hs2.on hb hB
      have hsl := HA.out _ (List.getElem_mem (show k < kss.length by omega))
      have cT := toKidC _ _ B wr hs3 (by have := hb.size; omega) hsl
      have hsz := hb.size
      clear hc hs1 hs2 hs3
      go_wp2_with fail
      refine cT.mono ?_
      rintro e w2 ⟨v2, rfl, O2, hb2⟩
      obtain ⟨a2, cap2, rfl⟩ := O2.form
      have hR2 := hR.on hb2
      obtain ⟨ss2, q1, q2, q3⟩ := hR2.ex
      have hl2 : (ss2 ++ List.replicate (n - k) z3).length = n := by simp; omega
      have d0 := at1 (own_at (E := slEl) q2 k (by omega))
      change w2.cell? ⟨g, k * 1, none⟩ = _ at d0
      rw [Nat.mul_one] at d0
      have hfz := fun j => q2.frozenAt j
      clear q3
      go_wp2
      have hR3 := hR2.put hlt hn ⟨a2, _, cap2⟩ (O2.mono (by omega))
      go_roundw
      case rel => exact ⟨k + 1, by omega, by go_num, hR3, (hb.trans (hb2.mono (by omega))).setCell (Nat.le_refl _) _, by have := hb2.size; rw [show (w2.setCell _ _).heap.size = w2.heap.size by simp [World.setCell]]; omega⟩
      case measure => simp [intOf]; omega
    · obtain rfl : k = n := by omega
      go_wp2
      go_ret
      exact ⟨_, rfl, hR.done hn, hb⟩
end Ops
end Go.Proofs.Ytppkohkcffnghaa
