/- Several texts of one proof, in build order: ProgRow, SerSt, SerWalk, ProgCmp, ShapeSpec, ShapeSpec2, SerExit. -/
import Derived.Deep.QuietTactic
import Derived.BigQuiet
import Derived.Test.YtppkohkcffnghaaKB1
import Derived.Test.YtppkohkcffnghaaKB2
import Derived.Test.YtppkohkcffnghaaKB3
import Derived.Test.YtppkohkcffnghaaKB5
/- Programs in memory: the laws' own copies, comparisons and sizes. -/
set_option linter.unusedVariables false
namespace Go.Proofs.Ytppkohkcffnghaa
open Go.RowKit
namespace Ops
open Bas Flat

/-- a slice as a cell -/
structure S3 where
  a : Option Addr
  n : Nat
  cap : Nat
def S3.val (s : S3) : Value := .slice s.a s.n s.cap
def slEl : El S3 where
  sz := 1
  cells s := [.slice s.a s.n s.cap]
  len _ := rfl
  one s v hv := by simp at hv; rw [hv]; rfl
  pos := by decide
def z3 : S3 := ⟨none, 0, 0⟩
theorem rowKid : Row Try.prog slEl 47 125 (.agg #[.slice none 0 0]) z3 24 := ⟨Try.underlying47, by kernel_rfl, rfl, by decide⟩
theorem at1 {w : World} {b o : Nat} {s : S3} (h : At slEl w b o s) : w.cell? ⟨b, o, none⟩ = some (.slice s.a s.n s.cap) := h 0 _ rfl

/-- kids, each with its code, in blocks of which S holds -/
def SeesKIn (S : Nat → Prop) (w : World) (v : Value) (kss : List (List O4)) : Prop :=
  ∃ ss : List S3, SeesIn slEl S w v ss ∧ ss.length = kss.length ∧ ∀ j (h : j < ss.length) (h' : j < kss.length), SeesIn opEl S w ss[j].val kss[j]
/-- .. below block B -/
def SeesK (B : Nat) (w : World) (v : Value) (kss : List (List O4)) : Prop := SeesKIn (fun b => b < B) w v kss
section
variable {B B' : Nat} {S S' : Nat → Prop} {w w' : World} {v : Value} {kss : List (List O4)}
theorem SeesKIn.keep (h : SeesKIn S w v kss) (hk : ∀ b, S b → w'.heap[b]? = w.heap[b]?) : SeesKIn S w' v kss := by
  obtain ⟨ss, h1, h2, h3⟩ := h
  exact ⟨ss, h1.keep hk, h2, fun j hj hj' => (h3 j hj hj').keep hk⟩
theorem SeesKIn.mono (h : SeesKIn S w v kss) (hs : ∀ b, S b → S' b) : SeesKIn S' w v kss := by
  obtain ⟨ss, h1, h2, h3⟩ := h
  exact ⟨ss, h1.mono hs, h2, fun j hj hj' => (h3 j hj hj').mono hs⟩
theorem SeesKIn.form (h : SeesKIn S w v kss) : ∃ a cap, v = .slice a kss.length cap := by
  obtain ⟨ss, ⟨a, cap, e, -⟩, h2, -⟩ := h
  exact ⟨a, cap, by rw [← h2]; exact e⟩
theorem SeesK.on (h : SeesK B w v kss) (hb : Below B' w w') (hB : B ≤ B') : SeesK B w' v kss := SeesKIn.keep h (fun b hs => hb.block b (by omega))
theorem SeesK.up (h : SeesK B w v kss) (hB : B ≤ B') : SeesK B' w v kss := SeesKIn.mono h (fun b hs => by omega)
theorem SeesK.form (h : SeesK B w v kss) : ∃ a cap, v = .slice a kss.length cap := SeesKIn.form h
theorem SeesK.room (h : SeesK B w v kss) : kss.length ≤ maxLen := by obtain ⟨ss, ⟨a, cap, -, k1, k2, -⟩, h2, -⟩ := h; omega
/-- where the kids lie, and each one's code -/
theorem SeesK.open {a : Option Addr} {n cap : Nat} (h : SeesK B w (.slice a n cap) kss) (hn : 0 < kss.length) :
    ∃ b off, a = some ⟨b, off, none⟩ ∧ b < B ∧ ∀ j (h : j < kss.length), ∃ s : S3, w.cell? ⟨b, off + j, none⟩ = some (.slice s.a s.n s.cap) ∧ Sees4 B w (.slice s.a s.n s.cap) kss[j] := by
  obtain ⟨ss, h1, h2, h3⟩ := h
  obtain ⟨b, off, rfl, hb, hc⟩ := Sees.open (E := slEl) (B := B) h1 (by omega)
  refine ⟨b, off, rfl, hb, fun j hj => ⟨ss[j], ?_, h3 j (by omega) hj⟩⟩
  have := at1 (hc j (by omega))
  change w.cell? ⟨b, off + j * 1, none⟩ = _ at this
  rw [Nat.mul_one] at this; exact this
end

set_option maxRecDepth 100000 in
set_option maxHeartbeats 800000 in
theorem toKidC (v : Value) (xs : List O4) (B : Nat) (w : World) (hv : Sees4 B w v xs) (hB : B ≤ w.heap.size) (hlen : xs.length ≤ 1048576) :
    Calls Try.prog 101 #[.agg #[v]] w fun e w' => ∃ v', e = .returned (.agg #[v']) ∧ Owns4 w.heap.size w' v' xs ∧ Below w.heap.size w w' := by
  obtain ⟨a, cap, rfl⟩ := hv.form
  obtain ⟨n, hn⟩ : ∃ n, xs.length = n := ⟨_, rfl⟩
  rw [hn] at hv ⊢
  have b0 := ((alloc_below w (.cells #[.slice a n cap] 129)).alloc (by simp) (.cells #[.slice none 0 0] 125)).alloc (by simp; omega) (.cells #[.slice none 0 0] 125)
  have hv0 := hv.on b0 hB
  go_enter Try.func101, Try.ntmps101
  go_wp2_with fail
  refine (toOpsC _ xs B _ hv0 (by simp; omega) (by omega)).mono ?_
  rintro e w1 ⟨v', rfl, hO, hb⟩
  obtain ⟨a', cap', rfl⟩ := hO.form
  rw [hn] at hO ⊢
  obtain ⟨hc, hf⟩ := bcell hb
  have hz : w.heap.size + 3 ≤ w1.heap.size := by have := hb.size; simp at this; omega
  have hlow := hO.at
  go_wp2_with fail
  refine bodyPost_ret (v := .agg #[.slice a' n cap']) (by simp [results, Try.results101, go_sem, hc]) rfl ⟨_, rfl, ?_, ?_⟩
  · exact ((hO.other (fun k hk => by have := hlow k hk; simp at this; omega) _).other (fun k hk => by have := hlow k hk; simp at this; omega) _).mono (by simp; omega)
  · exact ((b0.trans (hb.mono (by simp; omega))).setCell (by simp; omega) _).setCell (by simp) _

/-- the kids copied so far -/
structure KRow (g : Nat) (wr : World) (n : Nat) (kss : List (List O4)) (k : Nat) : Prop where
  ex : ∃ ss : List S3, ss.length = k ∧ wr.ownsRow g 125 1 (.slice (some ⟨g, 0, none⟩) n n) n (fv slEl (ss ++ List.replicate (n - k) z3)) ∧ ∀ j (h : j < ss.length) (h' : j < kss.length), Owns4 (g + 1) wr ss[j].val kss[j]

theorem KRow.done {g : Nat} {wr : World} {n : Nat} {kss : List (List O4)} (h : KRow g wr n kss n) (hn : kss.length = n) : SeesKIn (fun b => g ≤ b ∧ b < wr.heap.size) wr (.slice (some ⟨g, 0, none⟩) n n) kss := by
  obtain ⟨ss, h1, h2, h3⟩ := h.ex
  rw [Nat.sub_self, List.replicate_zero, List.append_nil] at h2
  have h2' : Owns slEl 125 g wr (.slice (some ⟨g, 0, none⟩) n n) ss := by unfold Owns; rw [h1]; exact h2
  exact ⟨ss, h2'.within, by omega, fun j hj hj' => (h3 j hj hj').within.mono (fun b hb => ⟨by omega, hb.2⟩)⟩
theorem KRow.on {g : Nat} {wr w' : World} {n k : Nat} {kss : List (List O4)} (h : KRow g wr n kss k) (hb : Below wr.heap.size wr w') : KRow g w' n kss k := by
  obtain ⟨ss, h1, h2, h3⟩ := h.ex
  exact ⟨ss, h1, owns_on h2 hb (Nat.le_refl _), fun j hj hj' => (h3 j hj hj').on hb (Nat.le_refl _)⟩
theorem KRow.put {g : Nat} {wr : World} {n k : Nat} {kss : List (List O4)} (h : KRow g wr n kss k) (hk : k < n) (hn : kss.length = n) (s : S3) (hs : Owns4 (g + 1) wr (.slice s.a s.n s.cap) (kss[k]'(by omega))) :
    KRow g (wr.setCell ⟨g, k, none⟩ (.slice s.a s.n s.cap)) n kss (k + 1) := by
  obtain ⟨ss, h1, h2, h3⟩ := h.ex
  have hl : (ss ++ List.replicate (n - k) z3).length = n := by simp; omega
  have h2' := own_set (E := slEl) h2 k (by omega) 0 (by decide) (.slice s.a s.n s.cap) s (by
    have : ∀ y : S3, (slEl.cells y).set 0 (.slice s.a s.n s.cap) = slEl.cells s := fun y => rfl
    exact (this _).symm)
  have e1 : (ss ++ List.replicate (n - k) z3).set k s = (ss ++ [s]) ++ List.replicate (n - (k + 1)) z3 := by
    rw [show n - k = (n - (k + 1)) + 1 by omega, List.replicate_succ, List.set_append_right _ _ (by omega), h1, Nat.sub_self, List.set_cons_zero, List.append_assoc]
    rfl
  rw [e1] at h2'
  change (wr.setCell ⟨g, k * 1 + 0, none⟩ _).ownsRow _ _ _ _ _ _ at h2'
  rw [Nat.mul_one, Nat.add_zero] at h2'
  refine ⟨ss ++ [s], by simp [h1], h2', fun j hj hj' => ?_⟩
  by_cases hjk : j < ss.length
  · have e2 : (ss ++ [s])[j] = ss[j] := List.getElem_append_left hjk
    rw [e2]
    have := h3 j hjk hj'
    exact this.other (fun k hk => by have := this.at k hk; omega) _
  · have hjk' : j = k := by simp at hj; omega
    subst hjk'
    have e2 : (ss ++ [s])[j] = s := by rw [List.getElem_append_right (by omega)]; simp [h1]
    rw [e2]
    exact hs.other (fun k hk => by have := hs.at k hk; omega) _

set_option maxRecDepth 100000 in
set_option maxHeartbeats 1600000 in
theorem toKidsC (v : Value) (kss : List (List O4)) (B : Nat) (w : World) (hv : SeesK B w v kss) (hB : B ≤ w.heap.size) (hlen : kss.length ≤ 1048576) (hall : ∀ ks ∈ kss, ks.length ≤ 1048576) :
    Calls Try.prog 79 #[v] w fun e w' => ∃ v', e = .returned v' ∧ SeesKIn (fun b => w.heap.size ≤ b ∧ b < w'.heap.size) w' v' kss ∧ Below w.heap.size w w' := by
  obtain ⟨a, cap, rfl⟩ := hv.form
  obtain ⟨n, hn⟩ : ∃ n, kss.length = n := ⟨_, rfl⟩
  rw [hn] at hv hlen ⊢
  obtain ⟨w1, hB1, hs1, hmk, hO⟩ := make rowKid n (by omega) w w.heap.size (Nat.le_refl _)
  obtain ⟨g, hg⟩ : ∃ g, w.heap.size = g := ⟨_, rfl⟩
  rw [hg] at hmk hO hB1 hs1 hB ⊢
  have HV := (show Hid _ from hv)
  have HA := (show Hid _ from hall)
  clear hv hall
  go_enter Try.func79, Try.ntmps79
  go_wp2
  go_loopw [4] (fun i wr => ∃ k : Nat, k ≤ n ∧ i = .int .i64 k ∧ KRow g wr n kss k ∧ Below g w wr ∧ g < wr.heap.size) (fun i _ => n - (intOf i).toNat)
  case atStart => exact ⟨0, Nat.zero_le _, rfl, ⟨[], rfl, hO, fun j h => by simp at h⟩, hB1, hs1⟩
  case round =>
    obtain ⟨k, hk, rfl, hR, hb, hgw⟩ := hrel
    clear hmk hO hB1 hs1
    by_cases hlt : k < n
    · obtain ⟨b, off, rfl, hbB, hc⟩ := SeesK.open HV.out (by omega)
      obtain ⟨s, hs1, hs2⟩ := hc k (by omega)
      have c0 := (hb.cell (p := ⟨b, off + k, none⟩) (by show b < g; omega)).trans hs1
      have hs3 := hs2.on hb hB
      have hsl := HA.out _ (List.getElem_mem (show k < kss.length by omega))
      have cT := toKidC _ _ B wr hs3 (by have := hb.size; omega) hsl
      have hsz := hb.size
      clear hc hs1 hs2 hs3
      go_wp2_with fail
      refine cT.mono ?_
      rintro e w2 ⟨v2, rfl, O2, hb2⟩
      obtain ⟨a2, cap2, rfl⟩ := O2.form
      have hR2 := hR.on hb2
      obtain ⟨ss2, q1, q2, q3⟩ := hR2.ex
      have hl2 : (ss2 ++ List.replicate (n - k) z3).length = n := by simp; omega
      have d0 := at1 (own_at (E := slEl) q2 k (by omega))
      change w2.cell? ⟨g, k * 1, none⟩ = _ at d0
      rw [Nat.mul_one] at d0
      have hfz := fun j => q2.frozenAt j
      clear q3
      go_wp2
      have hR3 := hR2.put hlt hn ⟨a2, _, cap2⟩ (O2.mono (by omega))
      go_roundw
      case rel => exact ⟨k + 1, by omega, by go_num, hR3, (hb.trans (hb2.mono (by omega))).setCell (Nat.le_refl _) _, by have := hb2.size; rw [show (w2.setCell _ _).heap.size = w2.heap.size by simp [World.setCell]]; omega⟩
      case measure => simp [intOf]; omega
    · obtain rfl : k = n := by omega
      go_wp2
      go_ret
      exact ⟨_, rfl, hR.done hn, hb⟩
end Ops
end Go.Proofs.Ytppkohkcffnghaa
/- Where the machine's registers, things and marks lie while the specification's l7Walk goes on. -/
set_option linter.unusedVariables false
set_option linter.unusedSimpArgs false
namespace Go.Proofs.Ytppkohkcffnghaa
open Go.RowKit
namespace Ops
open Bas Flat

/-- a mark in memory: five cells -/
structure M5 where
  pc : Int
  r : S3
  c : S3
  m : S3
  n : Int
def mkEl : El M5 where
  sz := 5
  cells x := [.int .i64 x.pc, x.r.val, x.c.val, x.m.val, .int .i64 x.n]
  len _ := rfl
  one x v hv := by simp [S3.val] at hv; rcases hv with rfl | rfl | rfl | rfl | rfl <;> rfl
  pos := by decide
def zM : M5 := ⟨0, z3, z3, z3, 0⟩
theorem rowMk : Row Try.prog mkEl 131 133 (.agg #[.int .i64 0, .slice none 0 0, .slice none 0 0, .slice none 0 0, .int .i64 0]) zM 88 := ⟨Try.underlying131, by kernel_rfl, rfl, by decide⟩
abbrev OwnsM (B : Nat) (W : World) (v : Value) (ms : List M5) : Prop := Owns mkEl 133 B W v ms
/-- the rows of a mark, and what they hold -/
def rowsOf (x : M5) (y : Mk) : List (Value × List Int) := [(x.r.val, y.r), (x.c.val, y.t.c), (x.m.val, y.t.m)]
/-- a mark in memory says what the mark is -/
def MkIs (x : M5) (y : Mk) : Prop := x.pc = (y.pc : Int) ∧ x.n = y.t.n
/-- rows that nobody writes into while the machine writes into its registers, cells and map -/
structure RowsIm (B : Nat) (W : World) (vr vc vm : Value) (l : List (Value × List Int)) : Prop where
  o : ∀ p ∈ l, Ints.Owns B W p.1 p.2
  d : ∀ p ∈ l, Dj vr p.1 ∧ Dj vc p.1 ∧ Dj vm p.1
/-- the rows of all marks, the outermost first -/
def marksIm : List M5 → List Mk → List (Value × List Int)
  | x :: ms, y :: ks => rowsOf x y ++ marksIm ms ks
  | _, _ => []
def MarksIs : List M5 → List Mk → Prop
  | [], [] => True
  | x :: ms, y :: ks => MkIs x y ∧ MarksIs ms ks
  | _, _ => False
theorem marksIm_snoc : ∀ (ms : List M5) (ks : List Mk) (x : M5) (y : Mk), ms.length = ks.length → marksIm (ms ++ [x]) (ks ++ [y]) = marksIm ms ks ++ rowsOf x y
  | [], [], x, y, _ => by simp [marksIm]
  | a :: ms, b :: ks, x, y, h => by
    have := marksIm_snoc ms ks x y (by simpa using h)
    simp [marksIm, this]
  | [], _ :: _, _, _, h => by simp at h
  | _ :: _, [], _, _, h => by simp at h
theorem marksIs_snoc : ∀ (ms : List M5) (ks : List Mk) (x : M5) (y : Mk), MarksIs (ms ++ [x]) (ks ++ [y]) ↔ MarksIs ms ks ∧ MkIs x y
  | [], [], x, y => by simp [MarksIs]
  | a :: ms, b :: ks, x, y => by
    have := marksIs_snoc ms ks x y
    simp only [List.cons_append, MarksIs, this, and_assoc]
  | [], b :: ks, x, y => by
    cases ks <;> simp [MarksIs]
  | a :: ms, [], x, y => by
    cases ms <;> simp [MarksIs]
theorem marksIs_len : ∀ (ms : List M5) (ks : List Mk), MarksIs ms ks → ms.length = ks.length
  | [], [], _ => rfl
  | _ :: ms, _ :: ks, h => by have := marksIs_len ms ks h.2; simp [this]
  | [], _ :: _, h => by simp [MarksIs] at h
  | _ :: _, [], h => by simp [MarksIs] at h
section
variable {B : Nat} {W W' : World} {vr vc vm v : Value} {l l' : List (Value × List Int)}
theorem RowsIm.keep (h : RowsIm B W vr vc vm l) (hk : ∀ k, vr.ownBlock ≠ some k → vc.ownBlock ≠ some k → vm.ownBlock ≠ some k → k < W.heap.size → B ≤ k → W'.heap[k]? = W.heap[k]?) : RowsIm B W' vr vc vm l :=
  { o := fun p hp => (h.o p hp).keep fun k e => hk k (fun e' => (h.d p hp).1 k e' e) (fun e' => (h.d p hp).2.1 k e' e) (fun e' => (h.d p hp).2.2 k e' e) ((h.o p hp).at k e).2 ((h.o p hp).at k e).1
    d := h.d }
theorem RowsIm.on (h : RowsIm B W vr vc vm l) (hb : Below W.heap.size W W') : RowsIm B W' vr vc vm l := h.keep fun k _ _ _ hk _ => hb.block k hk
/-- registers of another block, made later -/
theorem RowsIm.regs (h : RowsIm B W vr vc vm l) (hn : ∀ k, v.ownBlock = some k → W.heap.size ≤ k) : RowsIm B W v vc vm l :=
  { o := h.o, d := fun p hp => ⟨fun k e e' => by have := hn k e; have := ((h.o p hp).at k e').2; omega, (h.d p hp).2⟩ }
theorem RowsIm.app (h : RowsIm B W vr vc vm l) (h' : RowsIm B W vr vc vm l') : RowsIm B W vr vc vm (l ++ l') :=
  { o := fun p hp => (List.mem_append.1 hp).elim (h.o p) (h'.o p), d := fun p hp => (List.mem_append.1 hp).elim (h.d p) (h'.d p) }
theorem RowsIm.sub (h : RowsIm B W vr vc vm l) (hs : ∀ p ∈ l', p ∈ l) : RowsIm B W vr vc vm l' := { o := fun p hp => h.o p (hs p hp), d := fun p hp => h.d p (hs p hp) }
end

theorem own_blk {α : Type} {E : El α} {e : TypeId} {B : Nat} {W : World} {v : Value} {xs : List α} (h : Owns E e B W v xs) : ∀ k, v.ownBlock = some k → ∃ cur, W.heap[k]? = some (.cells cur e (0, 0)) := by
  intro k hk
  obtain ⟨h1, h2⟩ := h
  rcases h2 with ⟨rfl, h0⟩ | ⟨g, cap, cur, rfl, hg, hh, r⟩
  · cases hk
  · cases hk; exact ⟨cur, hh⟩
/-- where all lies -/
structure WSt (w W : World) (pR pS pT : Nat) (vr vc vm vk vc0 vm0 : Value) (ms : List M5) (s : Cf) (t0 : Th) : Prop where
  R : Blk W pR #[.int .i64 0, .slice none 0 0, .slice none 0 0, .slice none 0 0, .int .i64 0] 45
  S : Blk W pS #[vc, vm, .int .i64 s.t.n] 37
  T : Blk W pT #[vc0, vm0, .int .i64 t0.n] 37
  r : Ints.Owns w.heap.size W vr s.r
  c : Ints.Owns w.heap.size W vc s.t.c
  m : Ints.Owns w.heap.size W vm s.t.m
  d : Dj vr vc ∧ Dj vr vm ∧ Dj vc vm
  d0 : Dj vc0 vm0
  im : RowsIm w.heap.size W vr vc vm ((vc0, t0.c) :: (vm0, t0.m) :: marksIm ms s.k.reverse)
  k : OwnsM w.heap.size W vk ms
  is : MarksIs ms s.k.reverse
  b : Below w.heap.size w W
  p : w.heap.size ≤ pR ∧ w.heap.size ≤ pS ∧ w.heap.size ≤ pT ∧ pS ≠ pT
section
variable {w W W' : World} {pR pS pT : Nat} {vr vc vm vk vc0 vm0 : Value} {ms : List M5} {s : Cf} {t0 : Th}
theorem WSt.on (h : WSt w W pR pS pT vr vc vm vk vc0 vm0 ms s t0) (hb : Below W.heap.size W W') : WSt w W' pR pS pT vr vc vm vk vc0 vm0 ms s t0 :=
  { R := h.R.on hb h.R.lt, S := h.S.on hb h.S.lt, T := h.T.on hb h.T.lt, r := h.r.on hb (Nat.le_refl _), c := h.c.on hb (Nat.le_refl _), m := h.m.on hb (Nat.le_refl _), d := h.d, im := h.im.on hb, k := h.k.on hb (Nat.le_refl _), is := h.is, d0 := h.d0, b := h.b.trans (hb.mono h.b.size), p := h.p }
theorem WSt.pc (h : WSt w W pR pS pT vr vc vm vk vc0 vm0 ms s t0) (q : Nat) : WSt w W pR pS pT vr vc vm vk vc0 vm0 ms { s with pc := q } t0 :=
  { R := h.R, S := h.S, T := h.T, r := h.r, c := h.c, m := h.m, d := h.d, im := h.im, k := h.k, is := h.is, d0 := h.d0, b := h.b, p := h.p }
/-- a row of numbers does not lie in a block of another type -/
theorem int_off {B p : Nat} {v : Value} {zs : List Int} {cs : Array Value} {t : TypeId} (h : Ints.Owns B W v zs) (hb : Blk W p cs t) (hne : 3 ≠ t) : ∀ k, v.ownBlock = some k → k ≠ p := Owns.off (Ints.owns_iff.2 h) hb hne
theorem blk_set {p q i : Nat} {cs : Array Value} {t : TypeId} (h : Blk W p cs t) (hne : p ≠ q) (u : Value) : Blk (W.setCell ⟨q, i, none⟩ u) p cs t := h.other hne i u
/-- a store into the registers -/
theorem WSt.setR {g n cap : Nat} (h : WSt w W pR pS pT (.slice (some ⟨g, 0, none⟩) n cap) vc vm vk vc0 vm0 ms s t0) (i : Nat) (x : Int) : WSt w (W.setCell ⟨g, i, none⟩ (.int .i64 x)) pR pS pT (.slice (some ⟨g, 0, none⟩) n cap) vc vm vk vc0 vm0 ms { s with r := s.r.set i x } t0 := by
  have hg := h.r.at g rfl
  have oR := int_off h.r h.R (by decide) g rfl
  have oS := int_off h.r h.S (by decide) g rfl
  have oT := int_off h.r h.T (by decide) g rfl
  have hk : ∀ k, k ≠ g → (W.setCell ⟨g, i, none⟩ (.int .i64 x)).heap[k]? = W.heap[k]? := fun k hk => Below.heap_setCell W ⟨g, i, none⟩ _ k hk
  exact
  { R := h.R.other (by omega) i _, S := h.S.other (by omega) i _, T := h.T.other (by omega) i _
    r := by
      have := h.r
      unfold Ints.Owns at this ⊢
      have hl : s.r.length = n := by obtain ⟨a', c', e⟩ := h.r.form; injection e with _ e _; exact e.symm
      rw [hl] at this
      have h2 := Ints.owns_set this i x
      show World.ownsRow _ _ _ _ _ (s.r.set i x).length (Ints.iv (s.r.set i x))
      rw [List.length_set, hl]
      exact h2
    c := h.c.keep fun k e => hk k (fun e' => h.d.1 g rfl (by rw [← e']; exact e))
    m := h.m.keep fun k e => hk k (fun e' => h.d.2.1 g rfl (by rw [← e']; exact e))
    d := h.d
    im := h.im.keep fun k e _ _ _ _ => hk k (fun e' => e (by rw [e']; rfl))
    k := h.k.keep fun k e => hk k (fun e' => by
      obtain ⟨cur, hc⟩ := own_blk h.k k e
      obtain ⟨cur', hc'⟩ := own_blk (Ints.owns_iff.2 h.r) g rfl
      rw [e', hc'] at hc
      simp only [Option.some.injEq, Obj.cells.injEq] at hc
      exact absurd hc.2.1 (by decide))
    is := h.is
    d0 := h.d0
    b := h.b.setCell (by show w.heap.size ≤ g; omega) _
    p := h.p }
/-- a store into the cells -/
theorem WSt.setC {g n cap : Nat} (h : WSt w W pR pS pT vr (.slice (some ⟨g, 0, none⟩) n cap) vm vk vc0 vm0 ms s t0) (i : Nat) (x : Int) : WSt w (W.setCell ⟨g, i, none⟩ (.int .i64 x)) pR pS pT vr (.slice (some ⟨g, 0, none⟩) n cap) vm vk vc0 vm0 ms { s with t := { s.t with c := s.t.c.set i x } } t0 := by
  have hg := h.c.at g rfl
  have oR := int_off h.c h.R (by decide) g rfl
  have oS := int_off h.c h.S (by decide) g rfl
  have oT := int_off h.c h.T (by decide) g rfl
  have hk : ∀ k, k ≠ g → (W.setCell ⟨g, i, none⟩ (.int .i64 x)).heap[k]? = W.heap[k]? := fun k hk => Below.heap_setCell W ⟨g, i, none⟩ _ k hk
  exact
  { R := h.R.other (by omega) i _, S := h.S.other (by omega) i _, T := h.T.other (by omega) i _
    c := by
      have := h.c
      unfold Ints.Owns at this ⊢
      have hl : s.t.c.length = n := by obtain ⟨a', c', e⟩ := h.c.form; injection e with _ e _; exact e.symm
      rw [hl] at this
      have h2 := Ints.owns_set this i x
      show World.ownsRow _ _ _ _ _ (s.t.c.set i x).length (Ints.iv (s.t.c.set i x))
      rw [List.length_set, hl]
      exact h2
    r := h.r.keep fun k e => hk k (fun e' => h.d.1 k e (by rw [e']; rfl))
    m := h.m.keep fun k e => hk k (fun e' => h.d.2.2 g rfl (by rw [← e']; exact e))
    d := h.d
    im := h.im.keep fun k e1 e2 e3 _ _ => hk k (fun e' => e2 (by rw [e']; rfl))
    k := h.k.keep fun k e => hk k (fun e' => by
      obtain ⟨cur, hc⟩ := own_blk h.k k e
      obtain ⟨cur', hc'⟩ := own_blk (Ints.owns_iff.2 h.c) g rfl
      rw [e', hc'] at hc
      simp only [Option.some.injEq, Obj.cells.injEq] at hc
      exact absurd hc.2.1 (by decide))
    is := h.is
    d0 := h.d0
    b := h.b.setCell (by show w.heap.size ≤ g; omega) _
    p := h.p }
/-- a store into the map -/
theorem WSt.setM {g n cap : Nat} (h : WSt w W pR pS pT vr vc (.slice (some ⟨g, 0, none⟩) n cap) vk vc0 vm0 ms s t0) (i : Nat) (x : Int) : WSt w (W.setCell ⟨g, i, none⟩ (.int .i64 x)) pR pS pT vr vc (.slice (some ⟨g, 0, none⟩) n cap) vk vc0 vm0 ms { s with t := { s.t with m := s.t.m.set i x } } t0 := by
  have hg := h.m.at g rfl
  have oR := int_off h.m h.R (by decide) g rfl
  have oS := int_off h.m h.S (by decide) g rfl
  have oT := int_off h.m h.T (by decide) g rfl
  have hk : ∀ k, k ≠ g → (W.setCell ⟨g, i, none⟩ (.int .i64 x)).heap[k]? = W.heap[k]? := fun k hk => Below.heap_setCell W ⟨g, i, none⟩ _ k hk
  exact
  { R := h.R.other (by omega) i _, S := h.S.other (by omega) i _, T := h.T.other (by omega) i _
    m := by
      have := h.m
      unfold Ints.Owns at this ⊢
      have hl : s.t.m.length = n := by obtain ⟨a', c', e⟩ := h.m.form; injection e with _ e _; exact e.symm
      rw [hl] at this
      have h2 := Ints.owns_set this i x
      show World.ownsRow _ _ _ _ _ (s.t.m.set i x).length (Ints.iv (s.t.m.set i x))
      rw [List.length_set, hl]
      exact h2
    r := h.r.keep fun k e => hk k (fun e' => h.d.2.1 k e (by rw [e']; rfl))
    c := h.c.keep fun k e => hk k (fun e' => h.d.2.2 k e (by rw [e']; rfl))
    d := h.d
    im := h.im.keep fun k e1 e2 e3 _ _ => hk k (fun e' => e3 (by rw [e']; rfl))
    k := h.k.keep fun k e => hk k (fun e' => by
      obtain ⟨cur, hc⟩ := own_blk h.k k e
      obtain ⟨cur', hc'⟩ := own_blk (Ints.owns_iff.2 h.m) g rfl
      rw [e', hc'] at hc
      simp only [Option.some.injEq, Obj.cells.injEq] at hc
      exact absurd hc.2.1 (by decide))
    is := h.is
    d0 := h.d0
    b := h.b.setCell (by show w.heap.size ≤ g; omega) _
    p := h.p }
/-- other registers, made behind what lies there -/
theorem WSt.newR (h : WSt w W pR pS pT vr vc vm vk vc0 vm0 ms s t0) (hb : Below W.heap.size W W') {v : Value} {r' : List Int} (hv : Ints.Owns W.heap.size W' v r') : WSt w W' pR pS pT v vc vm vk vc0 vm0 ms { s with r := r' } t0 := by
  have h' := h.on hb
  have hn := fun k e => (hv.at k e).1
  exact
  { R := h'.R, S := h'.S, T := h'.T, r := hv.mono h.b.size, c := h'.c, m := h'.m
    d := ⟨fun k e e' => by have := hn k e; have := (h.c.at k e').2; omega, fun k e e' => by have := hn k e; have := (h.m.at k e').2; omega, h.d.2.2⟩
    im := { o := h'.im.o, d := fun q hq => ⟨fun k e e' => by have := hn k e; have := ((h.im.o q hq).at k e').2; omega, (h.im.d q hq).2⟩ }
    k := h'.k, is := h.is, d0 := h.d0, b := h'.b, p := h.p }
/-- the counter -/
theorem WSt.setN (h : WSt w W pR pS pT vr vc vm vk vc0 vm0 ms s t0) (x : Int) : WSt w (W.setCell ⟨pS, 2, none⟩ (.int .i64 x)) pR pS pT vr vc vm vk vc0 vm0 ms { s with t := { s.t with n := x } } t0 := by
  have hk : ∀ k, k ≠ pS → (W.setCell ⟨pS, 2, none⟩ (.int .i64 x)).heap[k]? = W.heap[k]? := fun k hk => Below.heap_setCell W ⟨pS, 2, none⟩ _ k hk
  have hp := h.p
  have hRS : pR ≠ pS := by
    intro e
    have a := h.R
    have b := h.S
    unfold Blk at a b
    rw [e, b] at a
    simp only [Option.some.injEq, Obj.cells.injEq] at a
    exact absurd a.2.1 (by decide)
  exact
  { R := h.R.other hRS 2 _, S := h.S.set 2 _, T := h.T.other (by omega) 2 _
    r := h.r.keep fun k e => hk k (int_off h.r h.S (by decide) k e)
    c := h.c.keep fun k e => hk k (int_off h.c h.S (by decide) k e)
    m := h.m.keep fun k e => hk k (int_off h.m h.S (by decide) k e)
    d := h.d
    im := { o := fun q hq => (h.im.o q hq).keep fun k e => hk k (int_off (h.im.o q hq) h.S (by decide) k e), d := h.im.d }
    k := h.k.keep fun k e => hk k (h.k.off h.S (by decide) k e)
    is := h.is
    d0 := h.d0
    b := h.b.setCell (by show w.heap.size ≤ pS; omega) _
    p := h.p }
/-- other things, made behind what lies there, and stored -/
theorem WSt.newT (h : WSt w W pR pS pT vr vc vm vk vc0 vm0 ms s t0) (hb : Below W.heap.size W W') {vc' vm' : Value} {t' : Th} (ho : OwnT W.heap.size W' vc' vm' t') :
    WSt w (((W'.setCell ⟨pS, 0, none⟩ vc').setCell ⟨pS, 1, none⟩ vm').setCell ⟨pS, 2, none⟩ (.int .i64 t'.n)) pR pS pT vr vc' vm' vk vc0 vm0 ms { s with t := t' } t0 := by
  have h' := h.on hb
  have hc := fun k e => (ho.c.at k e).1
  have hm := fun k e => (ho.m.at k e).1
  have hp := h.p
  have hlt := h.S.lt
  have hRS : pR ≠ pS := by
    intro e
    have a := h.R
    have b := h.S
    unfold Blk at a b
    rw [e, b] at a
    simp only [Option.some.injEq, Obj.cells.injEq] at a
    exact absurd a.2.1 (by decide)
  have hk : ∀ k, k ≠ pS → (((W'.setCell ⟨pS, 0, none⟩ vc').setCell ⟨pS, 1, none⟩ vm').setCell ⟨pS, 2, none⟩ (.int .i64 t'.n)).heap[k]? = W'.heap[k]? := fun k hk => by
    rw [Below.heap_setCell _ ⟨pS, 2, none⟩ _ k hk, Below.heap_setCell _ ⟨pS, 1, none⟩ _ k hk, Below.heap_setCell _ ⟨pS, 0, none⟩ _ k hk]
  exact
  { R := ((h'.R.other hRS 0 _).other hRS 1 _).other hRS 2 _
    S := ((h'.S.set 0 _).set 1 _).set 2 _
    T := ((h'.T.other (by omega) 0 _).other (by omega) 1 _).other (by omega) 2 _
    r := h'.r.keep fun k e => hk k (int_off h'.r h'.S (by decide) k e)
    c := (ho.c.keep fun k e => hk k (by have := hc k e; omega)).mono h.b.size
    m := (ho.m.keep fun k e => hk k (by have := hm k e; omega)).mono h.b.size
    d := ⟨fun k e e' => by have := (h.r.at k e).2; have := hc k e'; omega, fun k e e' => by have := (h.r.at k e).2; have := hm k e'; omega, ho.d⟩
    im := { o := fun q hq => (h'.im.o q hq).keep fun k e => hk k (int_off (h'.im.o q hq) h'.S (by decide) k e)
            d := fun q hq => ⟨(h.im.d q hq).1, fun k e e' => by have := hc k e; have := ((h.im.o q hq).at k e').2; omega, fun k e e' => by have := hm k e; have := ((h.im.o q hq).at k e').2; omega⟩ }
    k := h'.k.keep fun k e => hk k (h'.k.off h'.S (by decide) k e)
    is := h.is
    d0 := h.d0
    b := ((h'.b.setCell (p := ⟨pS, 0, none⟩) (by show w.heap.size ≤ pS; omega) _).setCell (p := ⟨pS, 1, none⟩) (by show w.heap.size ≤ pS; omega) _).setCell (p := ⟨pS, 2, none⟩) (by show w.heap.size ≤ pS; omega) _
    p := h.p }
/-- the innermost mark is taken away -/
theorem popM {B g n cap : Nat} {W : World} {xs : List M5} {x : M5} (h : OwnsM B W (.slice (some ⟨g, 0, none⟩) (n + 1) cap) (xs ++ [x])) (hn : xs.length = n) : OwnsM B W (.slice (some ⟨g, 0, none⟩) n cap) xs := by
  obtain ⟨h1, h2⟩ := h
  rcases h2 with ⟨e, -⟩ | ⟨g', cap', cur, e, hg, hh, r1, r2, r3, r4⟩
  · cases e
  · injection e with e1 e2 e3
    injection e1 with e1
    injection e1 with e1 _ _
    subst e1
    subst e3
    refine ⟨by rw [fv_length], .inr ⟨g, cap, cur, by rw [hn], hg, hh, by rw [hn]; omega, r2, r3, ?_⟩⟩
    have h5 : cur.toList.take (xs.length * mkEl.sz) = (cur.toList.take ((xs ++ [x]).length * mkEl.sz)).take (xs.length * mkEl.sz) := by
      rw [List.take_take, Nat.min_eq_left (Nat.mul_le_mul_right _ (by simp))]
    rw [h5, r4, fv_append, List.take_left' (fv_length xs)]
theorem WSt.pop {g n cap : Nat} {x : M5} {y : Mk} {ks : List Mk} (h : WSt w W pR pS pT vr vc vm (.slice (some ⟨g, 0, none⟩) (n + 1) cap) vc0 vm0 (ms ++ [x]) s t0) (hn : ms.length = n) (hk : s.k = y :: ks) :
    WSt w W pR pS pT vr vc vm (.slice (some ⟨g, 0, none⟩) n cap) vc0 vm0 ms { s with k := ks } t0 ∧ MkIs x y ∧ RowsIm w.heap.size W vr vc vm (rowsOf x y) := by
  have hrev : s.k.reverse = ks.reverse ++ [y] := by rw [hk]; simp
  have his := h.is
  rw [hrev, marksIs_snoc] at his
  have hl := marksIs_len _ _ his.1
  have him := h.im
  rw [hrev, marksIm_snoc _ _ _ _ hl] at him
  refine ⟨{ R := h.R, S := h.S, T := h.T, r := h.r, c := h.c, m := h.m, d := h.d, im := him.sub (fun q hq => ?_), k := popM h.k hn, is := his.1, d0 := h.d0, b := h.b, p := h.p }, his.2, him.sub (fun q hq => ?_)⟩
  · simp only [List.mem_cons, List.mem_append] at hq ⊢
    rcases hq with hq | hq | hq
    · exact .inl hq
    · exact .inr (.inl hq)
    · exact .inr (.inr (.inl hq))
  · simp only [List.mem_cons, List.mem_append]
    exact .inr (.inr (.inr hq))
theorem seesOneM (W : World) (x : M5) (t : TypeId) : Sees mkEl (W.heap.size + 1) (W.alloc (.cells #[.int .i64 x.pc, x.r.val, x.c.val, x.m.val, .int .i64 x.n] t)) (.slice (some ⟨W.heap.size, 0, none⟩) 1 1) [x] :=
  ⟨_, 1, rfl, by simp, by unfold maxLen; omega, fun _ => ⟨W.heap.size, 0, rfl, by omega, fun j hj => by
    have hj0 : j = 0 := by simpa using hj
    subst hj0
    intro i u hu
    have hb : Blk (W.alloc (.cells #[.int .i64 x.pc, x.r.val, x.c.val, x.m.val, .int .i64 x.n] t)) W.heap.size #[.int .i64 x.pc, x.r.val, x.c.val, x.m.val, .int .i64 x.n] t := Blk.new W _ _
    simp only [Nat.zero_mul, Nat.zero_add]
    rw [hb.cell]
    change [Value.int .i64 x.pc, x.r.val, x.c.val, x.m.val, .int .i64 x.n][i]? = some u at hu
    simpa using hu⟩⟩
/-- append(marks, mark): the copies were made behind what lay there -/
theorem WSt.push (h : WSt w W pR pS pT vr vc vm vk vc0 vm0 ms s t0) (hb : Below W.heap.size W W') (hlen : ms.length ≤ 1000) (x : M5) (hx : x.pc = (s.pc : Int) ∧ x.n = s.t.n) (h1 : Ints.Owns W.heap.size W' x.r.val s.r) (h2 : Ints.Owns W.heap.size W' x.c.val s.t.c) (h3 : Ints.Owns W.heap.size W' x.m.val s.t.m) :
    ∃ v' W'', (Builtin.append_ #[131, 131] 131 #[vk, .slice (some ⟨W'.heap.size, 0, none⟩) 1 1]).run Try.prog (W'.alloc (.cells #[.int .i64 x.pc, x.r.val, x.c.val, x.m.val, .int .i64 x.n] 133)) = .ok v' W'' ∧ WSt w W'' pR pS pT vr vc vm v' vc0 vm0 (ms ++ [x]) { s with k := ⟨s.pc, s.r, s.t⟩ :: s.k } t0 := by
  have h' := h.on hb
  have bA := alloc_below W' (.cells #[.int .i64 x.pc, x.r.val, x.c.val, x.m.val, .int .i64 x.n] 133)
  have hA := h'.on bA
  have hs : w.heap.size ≤ (W'.alloc (.cells #[.int .i64 x.pc, x.r.val, x.c.val, x.m.val, .int .i64 x.n] 133)).heap.size := by have := hA.b.size; exact this
  obtain ⟨v', W'', hr, hO, hG, -⟩ := app rowMk vk _ 131 ms [x] _ w.heap.size _ hA.k hs (seesOneM W' x _) (by simp; omega)
  refine ⟨v', W'', hr, ?_⟩
  have hk : ∀ k, vk.ownBlock ≠ some k → k < (W'.alloc (.cells #[.int .i64 x.pc, x.r.val, x.c.val, x.m.val, .int .i64 x.n] 133)).heap.size → W''.heap[k]? = (W'.alloc (.cells #[.int .i64 x.pc, x.r.val, x.c.val, x.m.val, .int .i64 x.n] 133)).heap[k]? := fun k hne hlt => hG.block k hlt (fun e => hne e.symm)
  have ne : ∀ {v : Value} {zs : List Int} {B : Nat}, Ints.Owns B (W'.alloc (.cells #[.int .i64 x.pc, x.r.val, x.c.val, x.m.val, .int .i64 x.n] 133)) v zs → ∀ k, v.ownBlock = some k → vk.ownBlock ≠ some k := fun ho k e e' => by
    obtain ⟨cur, hc⟩ := own_blk hA.k k e'
    obtain ⟨cur', hc'⟩ := own_blk (Ints.owns_iff.2 ho) k e
    rw [hc'] at hc
    simp only [Option.some.injEq, Obj.cells.injEq] at hc
    exact absurd hc.2.1 (by decide)
  have own : ∀ {v : Value} {zs : List Int} {B : Nat}, Ints.Owns B (W'.alloc (.cells #[.int .i64 x.pc, x.r.val, x.c.val, x.m.val, .int .i64 x.n] 133)) v zs → Ints.Owns B W'' v zs := fun ho => ho.keep fun k e => hk k (ne ho k e) (ho.at k e).2
  have blk : ∀ {p : Nat} {cs : Array Value} {t : TypeId}, Blk (W'.alloc (.cells #[.int .i64 x.pc, x.r.val, x.c.val, x.m.val, .int .i64 x.n] 133)) p cs t → 133 ≠ t → Blk W'' p cs t := fun hB ht => hB.grown hG (fun e => hA.k.off hB ht _ e.symm rfl)
  have h1' := own (h1.on bA (Nat.le_refl _))
  have h2' := own (h2.on bA (Nat.le_refl _))
  have h3' := own (h3.on bA (Nat.le_refl _))
  have dj : ∀ {v u : Value} {zs ys : List Int}, Ints.Owns w.heap.size W v zs → Ints.Owns W.heap.size W'' u ys → Dj v u := fun a b k e e' => by
    have := (a.at k e).2
    have := (b.at k e').1
    omega
  have hrev : ({ s with k := ⟨s.pc, s.r, s.t⟩ :: s.k } : Cf).k.reverse = s.k.reverse ++ [⟨s.pc, s.r, s.t⟩] := by simp
  have hl := marksIs_len _ _ h.is
  exact
  { R := blk hA.R (by decide), S := blk hA.S (by decide), T := blk hA.T (by decide), r := own hA.r, c := own hA.c, m := own hA.m, d := h.d
    im := by
      rw [hrev, marksIm_snoc _ _ _ _ hl]
      have e : (vc0, t0.c) :: (vm0, t0.m) :: (marksIm ms s.k.reverse ++ rowsOf x ⟨s.pc, s.r, s.t⟩) = ((vc0, t0.c) :: (vm0, t0.m) :: marksIm ms s.k.reverse) ++ rowsOf x ⟨s.pc, s.r, s.t⟩ := rfl
      rw [e]
      refine RowsIm.app { o := fun q hq => own (hA.im.o q hq), d := h.im.d } { o := fun q hq => ?_, d := fun q hq => ?_ }
      · simp only [rowsOf, List.mem_cons, List.not_mem_nil, or_false] at hq
        rcases hq with rfl | rfl | rfl
        · exact h1'.mono h.b.size
        · exact h2'.mono h.b.size
        · exact h3'.mono h.b.size
      · simp only [rowsOf, List.mem_cons, List.not_mem_nil, or_false] at hq
        rcases hq with rfl | rfl | rfl
        · exact ⟨dj h.r h1', dj h.c h1', dj h.m h1'⟩
        · exact ⟨dj h.r h2', dj h.c h2', dj h.m h2'⟩
        · exact ⟨dj h.r h3', dj h.c h3', dj h.m h3'⟩
    k := hO
    is := by rw [hrev, marksIs_snoc]; exact ⟨h.is, hx⟩
    d0 := h.d0
    b := hA.b.grown hG hs (fun k hk => (hA.k.at k hk).1)
    p := h.p }
/-- where all lies at first: the copies of the registers and of the things, the latter stored -/
theorem WSt.start {pc : Nat} {r : List Int} {t : Th} {u0 u1 u2 : Value} (hR : Blk W pR #[.int .i64 0, .slice none 0 0, .slice none 0 0, .slice none 0 0, .int .i64 0] 45) (hS : Blk W pS #[u0, u1, u2] 37) (hT : Blk W pT #[vc0, vm0, .int .i64 t.n] 37)
    (hr : Ints.Owns w.heap.size W vr r) (h0 : OwnT w.heap.size W vc0 vm0 t) (h1 : OwnT w.heap.size W vc vm t) (hd : Dj vr vc ∧ Dj vr vm) (hd0 : Dj vr vc0 ∧ Dj vr vm0 ∧ Dj vc vc0 ∧ Dj vc vm0 ∧ Dj vm vc0 ∧ Dj vm vm0) (hb : Below w.heap.size w W) (hp : w.heap.size ≤ pR ∧ w.heap.size ≤ pS ∧ w.heap.size ≤ pT ∧ pS ≠ pT) :
    WSt w (((W.setCell ⟨pS, 0, none⟩ vc).setCell ⟨pS, 1, none⟩ vm).setCell ⟨pS, 2, none⟩ (.int .i64 t.n)) pR pS pT vr vc vm (.slice none 0 0) vc0 vm0 [] ⟨pc, r, t, []⟩ t := by
  have hRS : pR ≠ pS := by
    intro e
    have a := hR
    have b := hS
    unfold Blk at a b
    rw [e, b] at a
    simp only [Option.some.injEq, Obj.cells.injEq] at a
    exact absurd a.2.1 (by decide)
  have hk : ∀ k, k ≠ pS → (((W.setCell ⟨pS, 0, none⟩ vc).setCell ⟨pS, 1, none⟩ vm).setCell ⟨pS, 2, none⟩ (.int .i64 t.n)).heap[k]? = W.heap[k]? := fun k hk => by
    rw [Below.heap_setCell _ ⟨pS, 2, none⟩ _ k hk, Below.heap_setCell _ ⟨pS, 1, none⟩ _ k hk, Below.heap_setCell _ ⟨pS, 0, none⟩ _ k hk]
  have own : ∀ {v : Value} {zs : List Int} {B : Nat}, Ints.Owns B W v zs → Ints.Owns B (((W.setCell ⟨pS, 0, none⟩ vc).setCell ⟨pS, 1, none⟩ vm).setCell ⟨pS, 2, none⟩ (.int .i64 t.n)) v zs := fun ho => ho.keep fun k e => hk k (int_off ho hS (by decide) k e)
  exact
  { R := ((hR.other hRS 0 _).other hRS 1 _).other hRS 2 _
    S := ((hS.set 0 _).set 1 _).set 2 _
    T := ((hT.other (by omega) 0 _).other (by omega) 1 _).other (by omega) 2 _
    r := own hr, c := own h1.c, m := own h1.m, d := ⟨hd.1, hd.2, h1.d⟩
    im := { o := fun q hq => by
              simp only [marksIm, List.reverse_nil, List.mem_cons, List.not_mem_nil, or_false] at hq
              rcases hq with rfl | rfl
              · exact own h0.c
              · exact own h0.m
            d := fun q hq => by
              simp only [marksIm, List.reverse_nil, List.mem_cons, List.not_mem_nil, or_false] at hq
              rcases hq with rfl | rfl
              · exact ⟨hd0.1, hd0.2.2.1, hd0.2.2.2.2.1⟩
              · exact ⟨hd0.2.1, hd0.2.2.2.1, hd0.2.2.2.2.2⟩ }
    k := Owns.nil _ _ _ _
    is := trivial
    d0 := h0.d
    b := ((hb.setCell (p := ⟨pS, 0, none⟩) (by show w.heap.size ≤ pS; omega) _).setCell (p := ⟨pS, 1, none⟩) (by show w.heap.size ≤ pS; omega) _).setCell (p := ⟨pS, 2, none⟩) (by show w.heap.size ≤ pS; omega) _
    p := hp }
theorem WSt.marks0 (h : WSt w W pR pS pT vr vc vm vk vc0 vm0 [] s t0) : WSt w (W.alloc (.cells #[] 133)) pR pS pT vr vc vm (.slice (some ⟨W.heap.size, 0, none⟩) 0 0) vc0 vm0 [] s t0 :=
  { h.on (alloc_below W _) with k := World.ownsRow_lit W #[] 0 h.b.size (by simp [maxLen]) rfl }
/-- a number of a row that is owned: its cell, which may be written -/
theorem int_cell {B g n cap : Nat} {zs : List Int} (h : Ints.Owns B W (.slice (some ⟨g, 0, none⟩) n cap) zs) (j : Nat) (hj : j < zs.length) : W.cell? ⟨g, j, none⟩ = some (.int .i64 (rd zs (j : Int))) ∧ W.frozen? ⟨g, j, none⟩ = false := by
  have hl : zs.length = n := by obtain ⟨a', c', e⟩ := h.form; injection e with _ e _; exact e.symm
  have h' : W.ownsRow B 3 1 (.slice (some ⟨g, 0, none⟩) n cap) n (Ints.iv zs) := by unfold Ints.Owns at h; rw [hl] at h; exact h
  have e : rd zs (j : Int) = zs[j] := by unfold rd; rw [Int.toNat_natCast, List.getD_eq_getElem?_getD, List.getElem?_eq_getElem hj]; rfl
  rw [e]
  exact ⟨Ints.owns_at h' j hj, h'.frozenAt j⟩
theorem WSt.drew (h : WSt w W pR pS pT vr vc vm vk vc0 vm0 ms s t0) : WSt w W.drew pR pS pT vr vc vm vk vc0 vm0 ms s t0 := h.on ⟨rfl, rfl, rfl, Nat.le_refl _, fun _ _ => rfl⟩
/-- the innermost mark -/
theorem marks_last {ms : List M5} {y : Mk} {ks : List Mk} (h : MarksIs ms (y :: ks).reverse) : ∃ ms' x, ms = ms' ++ [x] ∧ ms'.length = ks.length := by
  have hl := marksIs_len _ _ h
  rcases List.eq_nil_or_concat ms with rfl | ⟨ms', x, rfl⟩
  · simp at hl
  · exact ⟨ms', x, by rw [List.concat_eq_append], by simp at hl; exact hl⟩
theorem mark_cells {B g n cap : Nat} {xs : List M5} {x : M5} (h : OwnsM B W (.slice (some ⟨g, 0, none⟩) (n + 1) cap) (xs ++ [x])) (hn : xs.length = n) :
    (W.cell? ⟨g, n * 5, none⟩ = some (.int .i64 x.pc) ∧ W.cell? ⟨g, n * 5 + 1, none⟩ = some x.r.val ∧ W.cell? ⟨g, n * 5 + 2, none⟩ = some x.c.val ∧ W.cell? ⟨g, n * 5 + 3, none⟩ = some x.m.val ∧ W.cell? ⟨g, n * 5 + 4, none⟩ = some (.int .i64 x.n)) ∧ n + 1 ≤ cap := by
  have h' : W.ownsRow B 133 mkEl.sz (.slice (some ⟨g, 0, none⟩) (n + 1) cap) (n + 1) (fv mkEl (xs ++ [x])) := by
    have : (xs ++ [x]).length = n + 1 := by simp [hn]
    have h2 : W.ownsRow B 133 mkEl.sz (.slice (some ⟨g, 0, none⟩) (n + 1) cap) (xs ++ [x]).length (fv mkEl (xs ++ [x])) := h
    rw [this] at h2; exact h2
  have ha := own_at h' n (by simp [hn])
  have e : (xs ++ [x])[n]'(by simp [hn]) = x := by
    subst hn
    rw [List.getElem_append_right (Nat.le_refl _)]; simp
  rw [e] at ha
  refine ⟨⟨ha 0 _ rfl, ha 1 _ rfl, ha 2 _ rfl, ha 3 _ rfl, ha 4 _ rfl⟩, ?_⟩
  rcases h'.2 with ⟨e, -⟩ | ⟨g', cap', cur, e, -, -, r1, -⟩
  · cases e
  · injection e with _ _ e; rw [e]; exact r1
end
end Ops
end Go.Proofs.Ytppkohkcffnghaa
/- The loop of the specification's l7Walk: its body, what holds at each round, what falls. -/
set_option linter.unusedVariables false
set_option linter.unusedSimpArgs false
namespace Go.Proofs.Ytppkohkcffnghaa
open Go.RowKit
namespace Ops
open Bas Flat

def firstLoop : Code → Option Code
  | .loop c => some c
  | .seq a b => match firstLoop a with
    | some c => some c
    | none => firstLoop b
  | .block _ c => firstLoop c
  | .scope c => firstLoop c
  | .cond _ a b => match firstLoop a with
    | some c => some c
    | none => firstLoop b
  | _ => none
def bodyOf (o : Option Code) : Code := (o.bind firstLoop).getD .skip
/-- what holds at each round -/
structure RelW (xs : List O4) (n : Nat) (F : List Int → Th → List Int × Th) (r : List Int) (t : Th) (w : World) (pR pS pT : Nat) (v0 v1 : Value) (rv kv pv : Value) (wr : World) (s : Cf) (ms : List M5) (gr cr gc cc gm cm : Nat) (ak : Option Addr) (mk ck : Nat) : Prop where
  rg : rv = .slice (some ⟨gr, 0, none⟩) 4 cr
  kg : kv = .slice ak mk ck
  p : pv = .int .i64 s.pc
  l : ms.length = mk
  ok : CfOk xs s
  led : Leads xs t F ⟨0, r, t, []⟩ s
  st : WSt w wr pR pS pT (.slice (some ⟨gr, 0, none⟩) 4 cr) (.slice (some ⟨gc, 0, none⟩) 8 cc) (.slice (some ⟨gm, 0, none⟩) 8 cm) (.slice ak mk ck) v0 v1 ms s t
def RelE (xs : List O4) (n : Nat) (F : List Int → Th → List Int × Th) (r : List Int) (t : Th) (w : World) (pR pS pT : Nat) (v0 v1 : Value) (rv kv pv : Value) (wr : World) : Prop := ∃ s ms gr cr gc cc gm cm ak mk ck, RelW xs n F r t w pR pS pT v0 v1 rv kv pv wr s ms gr cr gc cc gm cm ak mk ck
set_option maxRecDepth 1000000 in
def WI (xs : List O4) (n : Nat) (F : List Int → Th → List Int × Th) (r : List Int) (t : Th) (w : World) (pR pS pT : Nat) (v0 v1 : Value) (cx c1 c2 c4 c5 c6 c7 c8 c26 c27 c28 c29 c30 c31 c32 c33 c289 c290 c291 : Value) (a : Act) (w' : World) : Prop :=
  ∃ u3 u12 u13 u14 u15 u16 u17 u18 u19 u20 u21 u22 u23 u24 u25 u34 u35 u36 u37 u38 u39 u40 u41 u42 u43 u44 u45 u46 u47 u48 u49 u50 u51 u52 u53 u54 u55 u56 u57 u58 u59 u60 u61 u62 u63 u64 u65 u66 u67 u68 u69 u70 u71 u72 u73 u74 u75 u76 u77 u78 u79 u80 u81 u82 u83 u84 u85 u86 u87 u88 u89 u90 u91 u92 u93 u94 u95 u96 u97 u98 u99 u100 u101 u102 u103 u104 u105 u106 u107 u108 u109 u110 u111 u112 u113 u114 u115 u116 u117 u118 u119 u120 u121 u122 u123 u124 u125 u126 u127 u128 u129 u130 u131 u132 u133 u134 u135 u136 u137 u138 u139 u140 u141 u142 u143 u144 u145 u146 u147 u148 u149 u150 u151 u152 u153 u154 u155 u156 u157 u158 u159 u160 u161 u162 u163 u164 u165 u166 u167 u168 u169 u170 u171 u172 u173 u174 u175 u176 u177 u178 u179 u180 u181 u182 u183 u184 u185 u186 u187 u188 u189 u190 u191 u192 u193 u194 u195 u196 u197 u198 u199 u200 u201 u202 u203 u204 u205 u206 u207 u208 u209 u210 u211 u212 u213 u214 u215 u216 u217 u218 u219 u220 u221 u222 u223 u224 u225 u226 u227 u228 u229 u230 u231 u232 u233 u234 u235 u236 u237 u238 u239 u240 u241 u242 u243 u244 u245 u246 u247 u248 u249 u250 u251 u252 u253 u254 u255 u256 u257 u258 u259 u260 u261 u262 u263 u264 u265 u266 u267 u268 u269 u270 u271 u272 u273 u274 u275 u276 u277 u278 u279 u280 u281 u282 u283 u284 u285 u286 u287 u288 : Value, RelE xs n F r t w pR pS pT v0 v1 u3 u12 u13 w' ∧ a = ⟨#[cx, c1, c2, u3, c4, c5, c6, c7, c8, .pointer (some ⟨pS, 0, none⟩), .pointer (some ⟨pR, 0, none⟩), .pointer (some ⟨pT, 0, none⟩), u12, u13, u14, u15, u16, u17, u18, u19, u20, u21, u22, u23, u24, u25, c26, c27, c28, c29, c30, c31, c32, c33, u34, u35, u36, u37, u38, u39, u40, u41, u42, u43, u44, u45, u46, u47, u48, u49, u50, u51, u52, u53, u54, u55, u56, u57, u58, u59, u60, u61, u62, u63, u64, u65, u66, u67, u68, u69, u70, u71, u72, u73, u74, u75, u76, u77, u78, u79, u80, u81, u82, u83, u84, u85, u86, u87, u88, u89, u90, u91, u92, u93, u94, u95, u96, u97, u98, u99, u100, u101, u102, u103, u104, u105, u106, u107, u108, u109, u110, u111, u112, u113, u114, u115, u116, u117, u118, u119, u120, u121, u122, u123, u124, u125, u126, u127, u128, u129, u130, u131, u132, u133, u134, u135, u136, u137, u138, u139, u140, u141, u142, u143, u144, u145, u146, u147, u148, u149, u150, u151, u152, u153, u154, u155, u156, u157, u158, u159, u160, u161, u162, u163, u164, u165, u166, u167, u168, u169, u170, u171, u172, u173, u174, u175, u176, u177, u178, u179, u180, u181, u182, u183, u184, u185, u186, u187, u188, u189, u190, u191, u192, u193, u194, u195, u196, u197, u198, u199, u200, u201, u202, u203, u204, u205, u206, u207, u208, u209, u210, u211, u212, u213, u214, u215, u216, u217, u218, u219, u220, u221, u222, u223, u224, u225, u226, u227, u228, u229, u230, u231, u232, u233, u234, u235, u236, u237, u238, u239, u240, u241, u242, u243, u244, u245, u246, u247, u248, u249, u250, u251, u252, u253, u254, u255, u256, u257, u258, u259, u260, u261, u262, u263, u264, u265, u266, u267, u268, u269, u270, u271, u272, u273, u274, u275, u276, u277, u278, u279, u280, u281, u282, u283, u284, u285, u286, u287, u288, c289, c290, c291], []⟩
/-- how the walk returns: the result's place holds how it ended -/
def RetW (xs : List O4) (F : List Int → Th → List Int × Th) (r : List Int) (t : Th) (w : World) (pR : Nat) (a : Act) (w' : World) : Prop :=
  a.tmps.getD 10 undef = .pointer (some ⟨pR, 0, none⟩) ∧ a.defers = [] ∧ ∃ v' vc' vm' q, Blk w' pR #[.int .i64 q.out, v', vc', vm', .int .i64 q.t.n] 45 ∧ Ends xs t F ⟨0, r, t, []⟩ q ∧ Ints.Owns w.heap.size w' v' q.r ∧ OwnT w.heap.size w' vc' vm' q.t ∧ Dj v' vc' ∧ Dj v' vm' ∧ (q.out = 1 ∨ q.out = 2) ∧ regsOk q.r = true ∧ thOk q.t = true ∧ Below w.heap.size w w'
def WMu (n : Nat) (a : Act) (w : World) : Nat := n - (intOf (a.tmps.getD 13 undef)).toNat
end Ops
end Go.Proofs.Ytppkohkcffnghaa
/- Whole programs: the laws' own copies, comparisons and sizes. -/
set_option linter.unusedVariables false
namespace Go.Proofs.Ytppkohkcffnghaa
open Go.RowKit
namespace Ops
open Bas Flat

/-- a program: its code, its kids' codes -/
structure SeesP (B : Nat) (w : World) (vc vk : Value) (xs : List O4) (kss : List (List O4)) : Prop where
  c : Sees4 B w vc xs
  k : SeesK B w vk kss
section
variable {B B' : Nat} {w w' : World} {vc vk : Value} {xs : List O4} {kss : List (List O4)}
theorem SeesP.on (h : SeesP B w vc vk xs kss) (hb : Below B' w w') (hB : B ≤ B') : SeesP B w' vc vk xs kss := ⟨h.c.on hb hB, h.k.on hb hB⟩
theorem SeesP.up (h : SeesP B w vc vk xs kss) (hB : B ≤ B') : SeesP B' w vc vk xs kss := ⟨h.c.up hB, h.k.up hB⟩
end
/-- .. in blocks of which S holds -/
structure SeesPIn (S : Nat → Prop) (w : World) (vc vk : Value) (xs : List O4) (kss : List (List O4)) : Prop where
  c : SeesIn opEl S w vc xs
  k : SeesKIn S w vk kss
theorem SeesPIn.sees {S : Nat → Prop} {B : Nat} {w : World} {vc vk : Value} {xs : List O4} {kss : List (List O4)} (h : SeesPIn S w vc vk xs kss) (hs : ∀ b, S b → b < B) : SeesP B w vc vk xs kss := ⟨h.c.mono hs, h.k.mono hs⟩
/-- lengths that a law lets by -/
def Fits (xs : List O4) (kss : List (List O4)) : Prop := xs.length ≤ 1048576 ∧ kss.length ≤ 1048576 ∧ ∀ ks ∈ kss, ks.length ≤ 1048576

set_option maxRecDepth 100000 in
set_option maxHeartbeats 1600000 in
theorem toProgC (vc vk : Value) (xs : List O4) (kss : List (List O4)) (B : Nat) (w : World) (hv : SeesP B w vc vk xs kss) (hB : B ≤ w.heap.size) (hf : Fits xs kss) :
    Calls Try.prog 27 #[.agg #[vc, vk]] w fun e w' => ∃ vc' vk', e = .returned (.agg #[vc', vk']) ∧ SeesPIn (fun b => w.heap.size ≤ b ∧ b < w'.heap.size) w' vc' vk' xs kss ∧ Below w.heap.size w w' := by
  obtain ⟨a, cap, rfl⟩ := hv.c.form
  obtain ⟨ak, capk, rfl⟩ := hv.k.form
  obtain ⟨n, hn⟩ : ∃ n, xs.length = n := ⟨_, rfl⟩
  obtain ⟨m, hm⟩ : ∃ m, kss.length = m := ⟨_, rfl⟩
  rw [hn, hm] at hv ⊢
  have b1 := alloc_below w (.cells #[.slice a n cap, .slice ak m capk] 61)
  have b0 := (b1.alloc (by simp) (.cells #[.slice none 0 0, .slice none 0 0] 49)).alloc (by simp; omega) (.cells #[.slice none 0 0, .slice none 0 0] 49)
  have hv0 := hv.on b0 hB
  have O1 : Blk (((w.alloc (.cells #[.slice a n cap, .slice ak m capk] 61)).alloc (.cells #[.slice none 0 0, .slice none 0 0] 49)).alloc (.cells #[.slice none 0 0, .slice none 0 0] 49)) w.heap.size #[.slice a n cap, .slice ak m capk] 61 :=
    ((Blk.new w _ _).on (alloc_below _ _) (by simp)).on (alloc_below _ _) (by simp; omega)
  have O2 : Blk (((w.alloc (.cells #[.slice a n cap, .slice ak m capk] 61)).alloc (.cells #[.slice none 0 0, .slice none 0 0] 49)).alloc (.cells #[.slice none 0 0, .slice none 0 0] 49)) (w.heap.size + 1) #[.slice none 0 0, .slice none 0 0] 49 := by
    have := (Blk.new (w.alloc (.cells #[.slice a n cap, .slice ak m capk] 61)) #[.slice none 0 0, .slice none 0 0] 49).on (alloc_below _ (.cells #[.slice none 0 0, .slice none 0 0] 49)) (by simp)
    simpa using this
  have O3 : Blk (((w.alloc (.cells #[.slice a n cap, .slice ak m capk] 61)).alloc (.cells #[.slice none 0 0, .slice none 0 0] 49)).alloc (.cells #[.slice none 0 0, .slice none 0 0] 49)) (w.heap.size + 2) #[.slice none 0 0, .slice none 0 0] 49 := by
    have := Blk.new ((w.alloc (.cells #[.slice a n cap, .slice ak m capk] 61)).alloc (.cells #[.slice none 0 0, .slice none 0 0] 49)) #[.slice none 0 0, .slice none 0 0] 49
    simpa using this
  obtain ⟨W0, hW0⟩ : ∃ W0, ((w.alloc (.cells #[.slice a n cap, .slice ak m capk] 61)).alloc (.cells #[.slice none 0 0, .slice none 0 0] 49)).alloc (.cells #[.slice none 0 0, .slice none 0 0] 49) = W0 := ⟨_, rfl⟩
  rw [hW0] at b0 hv0 O1 O2 O3
  have k0 := O1.cell 0; have k1 := O1.cell 1
  have hs := O3.lt
  clear b1
  go_enter Try.func27, Try.ntmps27
  go_wp2_with fail
  clear hW0 k0 k1
  refine (toOpsC _ xs B _ hv0.c (by omega) hf.1).mono ?_
  rintro e w1 ⟨v', rfl, P1, b1⟩
  obtain ⟨a', cap', rfl⟩ := P1.form
  rw [hn] at P1 ⊢
  have X1 := O1.on b1 (by omega); have X2 := O2.on b1 (by omega); have X3 := O3.on b1 (by omega)
  have hs1 : w.heap.size + 2 < w1.heap.size := by have := b1.size; omega
  have P2 : Owns4 W0.heap.size (w1.setCell ⟨w.heap.size + 2, 0, none⟩ (.slice a' n cap')) (.slice a' n cap') xs := P1.other (fun k hk => by have := P1.at k hk; omega) _
  have bb1 := b0.trans (b1.mono b0.size)
  have b2 := bb1.setCell (p := ⟨w.heap.size + 2, 0, none⟩) (show w.heap.size ≤ w.heap.size + 2 by omega) (.slice a' n cap')
  have Y1 := X1.other (show w.heap.size ≠ w.heap.size + 2 by omega) 0 (.slice a' n cap'); have Y2 := X2.other (show w.heap.size + 1 ≠ w.heap.size + 2 by omega) 0 (.slice a' n cap'); have Y3 := X3.set 0 (.slice a' n cap')
  have hvk := hv.k.on b2 hB
  have k1 := X1.cell 1; have j0 := X3.cell 0; have f0 := X3.froz 0
  clear O1 O2 O3
  have hne : w.heap.size + 2 ≠ w.heap.size := by omega
  go_wp2_with fail
  clear k1 j0 f0
  obtain ⟨W1, hW1⟩ : ∃ W1, w1.setCell ⟨w.heap.size + 2, 0, none⟩ (.slice a' n cap') = W1 := ⟨_, rfl⟩
  have hsz : W1.heap.size = w1.heap.size := by rw [← hW1]; simp [World.setCell]
  rw [hW1] at P2 b2 Y1 Y2 Y3 hvk ⊢
  clear hW1
  refine (toKidsC _ kss B W1 hvk (by have := b2.size; omega) hf.2.1 hf.2.2).mono ?_
  rintro e w2 ⟨v'', rfl, P3, b3⟩
  obtain ⟨a'', cap'', rfl⟩ := P3.form
  rw [hm] at P3 ⊢
  have Z2 := Y2.on b3 (by omega); have Z3 := Y3.on b3 (by omega)
  have c0 := Z3.cell 0; have c1 := Z3.cell 1; have f1 := Z3.froz 1
  have r0 := Z2.cell 0; have r1 := Z2.cell 1; have g0 := Z2.froz 0; have g1 := Z2.froz 1
  have P4 := (P2.on b3 (Nat.le_refl _)).within
  have b4 := b2.trans (b3.mono b2.size)
  have hs2 : w.heap.size + 2 < w2.heap.size := by have := b3.size; omega
  have hne1 : w.heap.size + 2 ≠ w.heap.size + 1 := by omega
  have hne2 : w.heap.size + 1 ≠ w.heap.size + 2 := by omega
  go_wp2
  have hk : ∀ b, W0.heap.size ≤ b → (((w2.setCell ⟨w.heap.size + 1 + 1, 1, none⟩ (.slice a'' m cap'')).setCell ⟨w.heap.size + 1, 0, none⟩ (.slice a' n cap')).setCell ⟨w.heap.size + 1, 1, none⟩ (.slice a'' m cap'')).heap[b]? = w2.heap[b]? := fun b hb => by
    rw [Below.heap_setCell _ _ _ _ (by show b ≠ w.heap.size + 1; omega), Below.heap_setCell _ _ _ _ (by show b ≠ w.heap.size + 1; omega), Below.heap_setCell _ _ _ _ (by show b ≠ w.heap.size + 1 + 1; omega)]
  have hz : (((w2.setCell ⟨w.heap.size + 1 + 1, 1, none⟩ (.slice a'' m cap'')).setCell ⟨w.heap.size + 1, 0, none⟩ (.slice a' n cap')).setCell ⟨w.heap.size + 1, 1, none⟩ (.slice a'' m cap'')).heap.size = w2.heap.size := by simp [World.setCell]
  have hw1 : W0.heap.size ≤ W1.heap.size := by have := b1.size; omega
  refine bodyPost_ret (v := .agg #[.slice a' n cap', .slice a'' m cap'']) (by simp [results, Try.results27, go_sem, r0, r1]) rfl ⟨_, _, rfl, ⟨?_, ?_⟩, ?_⟩
  · rw [hz]
    exact (P4.keep (fun b hb => hk b hb.1)).mono (fun b hb => ⟨by omega, hb.2⟩)
  · rw [hz]
    exact (P3.keep (fun b hb => hk b (by omega))).mono (fun b hb => ⟨by omega, hb.2⟩)
  · exact ((b4.setCell (by simp; omega) _).setCell (by simp) _).setCell (by simp) _

set_option maxRecDepth 100000 in
set_option maxHeartbeats 800000 in
theorem eqKidE (v v' : Value) (xs : List O4) (B : Nat) (w : World) (hv : Sees4 B w v xs) (hv' : Sees4 B w v' xs) (hB : B ≤ w.heap.size) :
    Calls Try.prog 102 #[.agg #[v], .agg #[v']] w fun e w' => e = .returned (.bool true) ∧ Below w.heap.size w w' := by
  obtain ⟨a, cap, rfl⟩ := hv.form
  obtain ⟨a', cap', rfl⟩ := hv'.form
  obtain ⟨n, hn⟩ : ∃ n, xs.length = n := ⟨_, rfl⟩
  rw [hn] at hv hv' ⊢
  have hb0 := (alloc_below w (.cells #[.slice a n cap] 125)).alloc (by simp) (.cells #[.slice a' n cap'] 125)
  have c0 := eqOpsC _ _ xs B _ (hv.on hb0 hB) (hv'.on hb0 hB) (by simp; omega)
  go_enter Try.func102, Try.ntmps102
  go_wp2_with fail
  refine c0.mono ?_
  rintro e w1 ⟨rfl, hb⟩
  go_wp2
  go_ret
  exact ⟨rfl, hb0.trans (hb.mono (by simp; omega))⟩

set_option maxRecDepth 100000 in
set_option maxHeartbeats 1600000 in
theorem eqKidsC (v v' : Value) (kss : List (List O4)) (B : Nat) (w : World) (hv : SeesK B w v kss) (hv' : SeesK B w v' kss) (hB : B ≤ w.heap.size) :
    Calls Try.prog 80 #[v, v'] w fun e w' => e = .returned (.bool true) ∧ Below w.heap.size w w' := by
  have hroom := hv.room
  obtain ⟨a, cap, rfl⟩ := hv.form
  obtain ⟨a', cap', rfl⟩ := hv'.form
  obtain ⟨n, hn⟩ : ∃ n, kss.length = n := ⟨_, rfl⟩
  rw [hn] at hv hv' hroom ⊢
  have hm : (n : Int) ≤ 9223372036854775807 := by unfold maxLen at hroom; omega
  have HV := (show Hid _ from hv)
  have HV' := (show Hid _ from hv')
  clear hv hv' hroom
  obtain ⟨g, hg⟩ : ∃ g, w.heap.size = g := ⟨_, rfl⟩
  rw [hg] at hB ⊢
  go_enter Try.func80, Try.ntmps80
  go_wp2
  go_loopw [5] (fun i wr => ∃ k : Nat, k ≤ n ∧ i = .int .i64 k ∧ Below g w wr) (fun i _ => n - (intOf i).toNat)
  case atStart => exact ⟨0, Nat.zero_le _, rfl, Below.refl _ _⟩
  case round =>
    obtain ⟨k, hk, rfl, hb⟩ := hrel
    by_cases hlt : k < n
    · obtain ⟨b, off, rfl, hbB, hc⟩ := SeesK.open HV.out (by omega)
      obtain ⟨b', off', rfl, hbB', hc'⟩ := SeesK.open HV'.out (by omega)
      obtain ⟨s, p1, p2⟩ := hc k (by omega)
      obtain ⟨s', p1', p2'⟩ := hc' k (by omega)
      have a0 := (hb.cell (p := ⟨b, off + k, none⟩) (by show b < g; omega)).trans p1
      have a1 := (hb.cell (p := ⟨b', off' + k, none⟩) (by show b' < g; omega)).trans p1'
      have hsz := hb.size
      have cT := fun W (h : Below g w W) => eqKidE _ _ _ B W (p2.on h hB) (p2'.on h hB) (by have := h.size; omega)
      have HT := (show Hid _ from cT)
      have HB := (show Hid _ from hb)
      clear hc hc' p1 p1' p2 p2' cT
      go_wp2_with fail
      go_region_with (go_at_call 102; refine (HT.out _ ?_).mono ?_; (first | exact HB.out | exact HB.out.drew | exact HB.out.drew.drew); rintro e w2 ⟨rfl, hb2⟩)
      all_goals
        go_wp2
        go_roundw
        case rel =>
          have hle : g ≤ wr.heap.size := by omega
          refine ⟨k + 1, by omega, by go_num, ?_⟩
          first | exact hb.trans (hb2.mono hle) | exact hb.drew.trans (hb2.mono hle) | exact hb.drew.drew.trans (hb2.mono hle)
        case measure => simp [intOf]; omega
    · obtain rfl : k = n := by omega
      go_wp2
      go_ret
      exact ⟨rfl, hb⟩

set_option maxRecDepth 100000 in
set_option maxHeartbeats 800000 in
theorem eqProgC (vc vk vc' vk' : Value) (xs : List O4) (kss : List (List O4)) (B : Nat) (w : World) (hv : SeesP B w vc vk xs kss) (hv' : SeesP B w vc' vk' xs kss) (hB : B ≤ w.heap.size) :
    Calls Try.prog 30 #[.agg #[vc, vk], .agg #[vc', vk']] w fun e w' => e = .returned (.bool true) ∧ Below w.heap.size w w' := by
  obtain ⟨a, cap, rfl⟩ := hv.c.form
  obtain ⟨a', cap', rfl⟩ := hv'.c.form
  obtain ⟨ak, capk, rfl⟩ := hv.k.form
  obtain ⟨ak', capk', rfl⟩ := hv'.k.form
  obtain ⟨n, hn⟩ : ∃ n, xs.length = n := ⟨_, rfl⟩
  obtain ⟨m, hm⟩ : ∃ m, kss.length = m := ⟨_, rfl⟩
  rw [hn, hm] at hv hv' ⊢
  have hb0 := (alloc_below w (.cells #[.slice a n cap, .slice ak m capk] 49)).alloc (by simp) (.cells #[.slice a' n cap', .slice ak' m capk'] 49)
  have X0 : Blk ((w.alloc (.cells #[.slice a n cap, .slice ak m capk] 49)).alloc (.cells #[.slice a' n cap', .slice ak' m capk'] 49)) w.heap.size #[.slice a n cap, .slice ak m capk] 49 := (Blk.new w _ _).on (alloc_below _ _) (by simp)
  have Y0 : Blk ((w.alloc (.cells #[.slice a n cap, .slice ak m capk] 49)).alloc (.cells #[.slice a' n cap', .slice ak' m capk'] 49)) (w.heap.size + 1) #[.slice a' n cap', .slice ak' m capk'] 49 := by
    have := Blk.new (w.alloc (.cells #[.slice a n cap, .slice ak m capk] 49)) #[.slice a' n cap', .slice ak' m capk'] 49
    simpa using this
  obtain ⟨W0, hW0⟩ : ∃ W0, (w.alloc (.cells #[.slice a n cap, .slice ak m capk] 49)).alloc (.cells #[.slice a' n cap', .slice ak' m capk'] 49) = W0 := ⟨_, rfl⟩
  rw [hW0] at hb0 X0 Y0
  have hs := Y0.lt
  have x0 := X0.cell 0; have y0 := Y0.cell 0
  have c0 := eqOpsC _ _ xs B _ (hv.c.on hb0 hB) (hv'.c.on hb0 hB) (by omega)
  go_enter Try.func30, Try.ntmps30
  go_wp2_with fail
  clear hW0 x0 y0
  refine c0.mono ?_
  rintro e w1 ⟨rfl, b1⟩
  have X1 := X0.on b1 (by omega); have Y1 := Y0.on b1 (by omega)
  have x1 := X1.cell 1; have y1 := Y1.cell 1
  have bb := hb0.trans (b1.mono hb0.size)
  have c1 := eqKidsC _ _ kss B _ (hv.k.on bb hB) (hv'.k.on bb hB) (by have := b1.size; omega)
  go_wp2_with fail
  clear x1 y1
  refine c1.mono ?_
  rintro e w2 ⟨rfl, b2⟩
  go_wp2
  go_ret
  exact ⟨rfl, bb.trans (b2.mono bb.size)⟩

set_option maxRecDepth 100000 in
set_option maxHeartbeats 800000 in
theorem szKidC (a : Option Addr) (n cap : Nat) (left : Int) (w : World) (h0 : 0 ≤ left) (h1 : left ≤ 1048576) (hm : n ≤ maxLen) :
    Calls Try.prog 98 #[.agg #[.slice a n cap], .int .i64 left] w fun e w' => e = .returned (.int .i64 (if (n : Int) ≤ left then left - n else -1)) ∧ Below w.heap.size w w' := by
  have c0 := szOpsC a n cap left (w.alloc (.cells #[.slice a n cap] 129)) h0 h1 hm
  by_cases h : (n : Int) ≤ left
  · rw [if_pos h] at c0 ⊢
    go_enter Try.func98, Try.ntmps98
    go_wp2_with fail
    refine c0.mono ?_
    rintro e w1 ⟨rfl, rfl⟩
    go_wp2
    go_ret
    exact ⟨rfl, alloc_below _ _⟩
  · rw [if_neg h] at c0 ⊢
    go_enter Try.func98, Try.ntmps98
    go_wp2_with fail
    refine c0.mono ?_
    rintro e w1 ⟨rfl, rfl⟩
    go_wp2
    go_ret
    exact ⟨rfl, alloc_below _ _⟩

/-- what a size says: too great, or all lengths are within what was left -/
def Left (left r : Int) (P : Prop) : Prop := r < 0 ∨ (0 ≤ r ∧ r ≤ left ∧ P)
set_option maxRecDepth 100000 in
set_option maxHeartbeats 1600000 in
theorem szKidsC (v : Value) (kss : List (List O4)) (left : Int) (B : Nat) (w : World) (hv : SeesK B w v kss) (hB : B ≤ w.heap.size) (h0 : 0 ≤ left) (h1 : left ≤ 1048576) :
    Calls Try.prog 75 #[v, .int .i64 left] w fun e w' => ∃ r, e = .returned (.int .i64 r) ∧ Left left r ((kss.length : Int) ≤ left ∧ ∀ ks ∈ kss, (ks.length : Int) ≤ left) ∧ Below w.heap.size w w' := by
  have hroom := hv.room
  obtain ⟨a, cap, rfl⟩ := hv.form
  obtain ⟨n, hn⟩ : ∃ n, kss.length = n := ⟨_, rfl⟩
  rw [hn] at hv hroom ⊢
  have hm : (n : Int) ≤ 9223372036854775807 := by unfold maxLen at hroom; omega
  have HV := (show Hid _ from hv)
  clear hv hroom
  obtain ⟨g, hg⟩ : ∃ g, w.heap.size = g := ⟨_, rfl⟩
  rw [hg] at hB ⊢
  by_cases hnl : (n : Int) ≤ left
  · go_enter Try.func75, Try.ntmps75
    go_wp2
    go_loopw [1, 5] (fun l i wr => ∃ (k : Nat) (r : Int), k ≤ n ∧ i = .int .i64 k ∧ l = .int .i64 r ∧ 0 ≤ r ∧ r ≤ left ∧ (∀ j (h : j < kss.length), j < k → (kss[j].length : Int) ≤ left) ∧ Below g w wr) (fun _ i _ => n - (intOf i).toNat)
    case atStart => exact ⟨0, left - n, Nat.zero_le _, rfl, rfl, by omega, by omega, fun j _ h => by omega, Below.refl _ _⟩
    case round =>
      obtain ⟨k, r, hk, rfl, rfl, hr0, hr1, hall, hb⟩ := hrel
      have HA := (show Hid _ from hall)
      clear hall
      by_cases hlt : k < n
      · obtain ⟨b, off, rfl, hbB, hc⟩ := SeesK.open HV.out (by omega)
        obtain ⟨s, p1, p2⟩ := hc k (by omega)
        have a0 := (hb.cell (p := ⟨b, off + k, none⟩) (by show b < g; omega)).trans p1
        have hsz := hb.size
        obtain ⟨sa, scap, hsv⟩ := p2.form
        have hrm := p2.room
        have HK : Hid (kss[k].length = s.n) := by show kss[k].length = s.n; simp only [Value.slice.injEq] at hsv; exact hsv.2.1.symm
        have cT := szKidC s.a s.n s.cap r wr hr0 (by omega) (by rw [← HK.out]; exact hrm)
        clear hc p1 p2 hsv hrm
        by_cases hle : (s.n : Int) ≤ r
        · rw [if_pos hle] at cT
          go_wp2_with fail
          refine cT.mono ?_
          rintro e w2 ⟨rfl, hb2⟩
          go_wp2
          go_roundw
          case rel => exact ⟨k + 1, r - s.n, by omega, by go_num, rfl, by omega, by omega, fun j hj hjk => by
            rcases Nat.lt_succ_iff_lt_or_eq.1 hjk with h | h
            · exact HA.out j hj h
            · subst h; rw [HK.out]; omega, hb.trans (hb2.mono (by omega))⟩
          case measure => simp [intOf]; omega
        · rw [if_neg hle] at cT
          go_wp2_with fail
          refine cT.mono ?_
          rintro e w2 ⟨rfl, hb2⟩
          go_wp2
          go_ret
          exact ⟨_, rfl, .inl (by omega), hb.trans (hb2.mono (by omega))⟩
      · obtain rfl : k = n := by omega
        go_wp2
        go_ret
        exact ⟨_, rfl, .inr ⟨hr0, hr1, hnl, fun ks hks => by
          obtain ⟨j, hj, rfl⟩ := List.mem_iff_getElem.1 hks
          exact HA.out j hj (by omega)⟩, hb⟩
  · have hnl' : left < (n : Int) := by omega
    go_enter Try.func75, Try.ntmps75
    go_wp2
    go_ret
    exact ⟨_, rfl, .inl (by omega), by rw [← hg]; exact Below.refl _ _⟩

set_option maxRecDepth 100000 in
set_option maxHeartbeats 1600000 in
theorem szProgC (vc vk : Value) (xs : List O4) (kss : List (List O4)) (left : Int) (B : Nat) (w : World) (hv : SeesP B w vc vk xs kss) (hB : B ≤ w.heap.size) (h0 : 0 ≤ left) (h1 : left ≤ 1048576) :
    Calls Try.prog 25 #[.agg #[vc, vk], .int .i64 left] w fun e w' => ∃ r, e = .returned (.int .i64 r) ∧ Left left r (Fits xs kss) ∧ Below w.heap.size w w' := by
  have hroom := hv.c.room
  obtain ⟨a, cap, rfl⟩ := hv.c.form
  obtain ⟨ak, capk, rfl⟩ := hv.k.form
  obtain ⟨n, hn⟩ : ∃ n, xs.length = n := ⟨_, rfl⟩
  obtain ⟨m, hm⟩ : ∃ m, kss.length = m := ⟨_, rfl⟩
  rw [hn] at hroom
  rw [hn, hm] at hv ⊢
  have hb0 := alloc_below w (.cells #[.slice a n cap, .slice ak m capk] 61)
  have X0 := Blk.new w #[.slice a n cap, .slice ak m capk] 61
  obtain ⟨W0, hW0⟩ : ∃ W0, w.alloc (.cells #[.slice a n cap, .slice ak m capk] 61) = W0 := ⟨_, rfl⟩
  rw [hW0] at hb0 X0
  have x0 := X0.cell 0; have x1 := X0.cell 1
  have hs := X0.lt
  have c0 := szOpsC a n cap left W0 h0 h1 hroom
  by_cases hle : (n : Int) ≤ left
  · rw [if_pos hle] at c0
    have c1 := szKidsC _ kss (left - n) B W0 (hv.k.on hb0 hB) (by omega) (by omega) (by omega)
    rw [hm] at c1
    go_enter Try.func25, Try.ntmps25
    go_wp2_with fail
    refine c0.mono ?_
    rintro e w1 ⟨rfl, rfl⟩
    go_wp2_with fail
    clear hW0 x0 x1
    refine c1.mono ?_
    rintro e w2 ⟨r, rfl, hr, b2⟩
    by_cases hr0 : r < 0
    · go_wp2
      go_ret
      exact ⟨_, rfl, .inl (by omega), hb0.trans (b2.mono hb0.size)⟩
    · have HF : Hid (Left left r (Fits xs kss)) := by
        rcases hr with hr | ⟨r1, r2, r3, r4⟩
        · exact absurd hr hr0
        · refine .inr ⟨r1, by omega, by omega, by omega, fun ks hks => ?_⟩
          have := r4 ks hks; omega
      clear hr
      go_wp2
      go_ret
      exact ⟨_, rfl, HF.out, hb0.trans (b2.mono hb0.size)⟩
  · rw [if_neg hle] at c0
    go_enter Try.func25, Try.ntmps25
    go_wp2_with fail
    clear hW0 x0 x1
    refine c0.mono ?_
    rintro e w1 ⟨rfl, rfl⟩
    go_wp2
    go_ret
    exact ⟨_, rfl, .inl (by omega), hb0⟩
end Ops
end Go.Proofs.Ytppkohkcffnghaa
/- What the specification's functions of chapter 5 answer. -/
set_option linter.unusedVariables false
namespace Go.Proofs.Ytppkohkcffnghaa
open Go.RowKit
namespace Ops
open Bas Flat

theorem ret_i {a b : Int} (h : a = b) : Ending.returned (.int .i64 a) = .returned (.int .i64 b) := by rw [h]
theorem ret_b {a b : Bool} (h : a = b) : Ending.returned (.bool a) = .returned (.bool b) := by rw [h]
/-- an op of a code, by its kind: it begins a block, ends one, or neither -/
theorem kind3 (x : O4) : (x.k = 8 ∧ delta x = 1) ∨ (x.k = 9 ∧ delta x = -1) ∨ ((x.k == 8) = false ∧ (x.k == 9) = false ∧ delta x = 0) := by
  unfold delta
  by_cases h8 : x.k = 8
  · exact .inl ⟨h8, if_pos h8⟩
  · by_cases h9 : x.k = 9
    · exact .inr (.inl ⟨h9, by rw [if_neg h8, if_pos h9]⟩)
    · exact .inr (.inr ⟨by simp [h8], by simp [h9], by rw [if_neg h8, if_neg h9]⟩)
/-- the cells of the op at place k -/
theorem see4 {B : Nat} {w : World} {b off : Nat} {xs : List O4} (hc : ∀ j (h : j < xs.length), At opEl w b (off + j * opEl.sz) xs[j]) (k : Nat) (hk : k < xs.length) :
    w.cell? ⟨b, off + k * 4, none⟩ = some (.int .i64 xs[k].k) ∧ w.cell? ⟨b, off + k * 4 + 1, none⟩ = some (.int .i64 xs[k].a) ∧ w.cell? ⟨b, off + k * 4 + 2, none⟩ = some (.int .i64 xs[k].b) ∧ w.cell? ⟨b, off + k * 4 + 3, none⟩ = some (.int .i64 xs[k].c) := at4 (hc k hk)

set_option maxRecDepth 100000 in
set_option maxHeartbeats 1600000 in
theorem forkSpec (v : Value) (xs : List O4) (B : Nat) (w : World) (hv : Sees4 B w v xs) (hlen : xs.length ≤ 1048576) :
    Calls Try.prog 51 #[v] w fun e w' => e = .returned (.bool (hasFork xs)) ∧ w = w' := by
  obtain ⟨a, cap, rfl⟩ := hv.form
  obtain ⟨n, hn⟩ : ∃ n, xs.length = n := ⟨_, rfl⟩
  rw [hn] at hv hlen ⊢
  go_enter Try.func51, Try.ntmps51
  go_wp2
  go_loop [3] (fun i' => ∃ k : Nat, k ≤ n ∧ i' = .int .i64 k ∧ ∀ j (h : j < xs.length), j < k → ¬ xs[j].k = 11) (fun i' => n - (intOf i').toNat)
  case atStart => exact ⟨0, Nat.zero_le _, rfl, fun j _ h => by omega⟩
  case round =>
    obtain ⟨k, hk, rfl, hall⟩ := hrel
    by_cases hlt : k < n
    · obtain ⟨b, off, rfl, hb, hc⟩ := hv.open (by omega)
      obtain ⟨a0, -, -, -⟩ := see4 (B := B) hc k (by omega)
      by_cases h11 : xs[k].k = 11
      · have HF : Hid (true = hasFork xs) := (hasFork_yes (by omega) h11).symm
        rw [h11] at a0
        clear hc hall h11
        go_wp2
        go_ret
        exact ⟨ret_b HF.out, rfl⟩
      · have HA : Hid (∀ j (h : j < xs.length), j < k + 1 → ¬ xs[j].k = 11) := fun j hj hjk => by
          rcases Nat.lt_succ_iff_lt_or_eq.1 hjk with h | h
          · exact hall j hj h
          · subst h; exact h11
        have d11 : (xs[k].k == 11) = false := by simp [h11]
        obtain ⟨q, hq⟩ : ∃ q, xs[k].k = q := ⟨_, rfl⟩
        rw [hq] at a0 d11
        clear hc hall h11 hq
        go_wp2
        go_round
        case rel => exact ⟨k + 1, by omega, by go_num, HA.out⟩
        case measure => simp [intOf]; omega
    · have HF : Hid (false = hasFork xs) := (hasFork_no fun j hj => hall j hj (by omega)).symm
      clear hall
      go_wp2
      go_ret
      exact ⟨ret_b HF.out, rfl⟩
end Ops
end Go.Proofs.Ytppkohkcffnghaa
/- What the specification's EndOf, l5Skip and CodeOk answer. -/
set_option linter.unusedVariables false
namespace Go.Proofs.Ytppkohkcffnghaa
open Go.RowKit
namespace Ops
open Bas Flat

theorem getD_at4 {xs : List O4} {j : Nat} (hj : j < xs.length) : xs.getD j z4 = xs[j] := by simp [List.getD, hj]
theorem end_no {xs : List O4} {i : Int} (h : ¬ (0 ≤ i ∧ i < xs.length ∧ (xs.getD i.toNat z4).k = 8)) : endOf xs i = -1 := by unfold endOf; rw [if_neg h]

set_option maxRecDepth 100000 in
set_option maxHeartbeats 3200000 in
theorem endSpec (v : Value) (xs : List O4) (i : Int) (B : Nat) (w : World) (hv : Sees4 B w v xs) (hlen : xs.length ≤ 1048576) :
    Calls Try.prog 99 #[v, .int .i64 i] w fun e w' => e = .returned (.int .i64 (endOf xs i)) ∧ w = w' := by
  obtain ⟨a, cap, rfl⟩ := hv.form
  obtain ⟨n, hn⟩ : ∃ n, xs.length = n := ⟨_, rfl⟩
  rw [hn] at hv hlen ⊢
  by_cases h0 : 0 ≤ i
  · obtain ⟨s, rfl⟩ := Int.eq_ofNat_of_zero_le h0
    by_cases h1 : s < n
    · obtain ⟨b, off, rfl, hb, hc⟩ := hv.open (by omega)
      obtain ⟨a0, -, -, -⟩ := see4 (B := B) hc s (by omega)
      have hg := getD_at4 (xs := xs) (j := s) (by omega)
      have i2 : (s : Int) < n := by omega
      by_cases h8 : xs[s].k = 8
      · have HE : Hid (endOf xs s = endGo (xs.drop s) 0 s) := by
          show _ = _
          unfold endOf
          rw [Int.toNat_natCast, if_pos ⟨by omega, by omega, by rw [hg]; exact h8⟩]
        rw [h8] at a0
        clear hg h8
        go_enter Try.func99, Try.ntmps99
        go_wp2
        go_loop [5, 6] (fun d i' => ∃ (k : Nat) (q : Int), s ≤ k ∧ k ≤ n ∧ i' = .int .i64 k ∧ d = .int .i64 q ∧ -(k : Int) ≤ q ∧ q ≤ k ∧ endOf xs s = endGo (xs.drop k) q k) (fun _ i' => n - (intOf i').toNat)
        case atStart => exact ⟨s, 0, Nat.le_refl _, by omega, rfl, rfl, by omega, by omega, HE.out⟩
        case round =>
          obtain ⟨k, q, hsk, hk, rfl, rfl, hq1, hq2, he⟩ := hrel
          clear a0
          by_cases hlt : k < n
          · obtain ⟨a0, -, -, -⟩ := see4 (B := B) hc k (by omega)
            rw [endGo_step (by omega)] at he
            obtain ⟨x, hx⟩ : ∃ x, xs[k] = x := ⟨_, rfl⟩
            rw [hx] at a0 he
            have i1 : (k : Int) < n := by omega
            have HK := kind3 x
            clear hx HE
            rcases HK with ⟨h8, hD⟩ | ⟨h9, hD⟩ | ⟨h8, h9, hD⟩
            · rw [h8] at a0
              rw [hD] at he
              clear h8 hD
              by_cases hz : q + 1 = 0
              · rw [if_pos hz] at he
                have HF : Hid ((k : Int) = endOf xs s) := he.symm
                have d0 : (q + 1 == 0) = true := by simp [hz]
                clear he
                obtain rfl : q = -1 := by omega
                clear hz
                go_wp2
                go_ret
                exact ⟨ret_i HF.out, rfl⟩
              · rw [if_neg hz] at he
                have HF := (show Hid _ from he)
                have d0 : (q + 1 == 0) = false := by simp [hz]
                clear he hz
                go_wp2
                go_round
                case rel => exact ⟨k + 1, q + 1, by omega, by omega, by go_num, rfl, by omega, by omega, HF.out⟩
                case measure => simp [intOf]; omega
            · rw [h9] at a0
              rw [hD] at he
              clear h9 hD
              by_cases hz : q + -1 = 0
              · rw [if_pos hz] at he
                have HF : Hid ((k : Int) = endOf xs s) := he.symm
                clear he
                obtain rfl : q = 1 := by omega
                clear hz
                go_wp2
                go_ret
                exact ⟨ret_i HF.out, rfl⟩
              · rw [if_neg hz] at he
                have HF := (show Hid _ from he)
                have d0 : (q - 1 == 0) = false := by simp; omega
                clear he hz
                go_wp2
                go_round
                case rel => exact ⟨k + 1, q + -1, by omega, by omega, by go_num, by go_num, by omega, by omega, HF.out⟩
                case measure => simp [intOf]; omega
            · rw [hD] at he
              clear hD
              by_cases hz : q + 0 = 0
              · rw [if_pos hz] at he
                have HF : Hid ((k : Int) = endOf xs s) := he.symm
                clear he
                obtain rfl : q = 0 := by omega
                clear hz
                go_wp2
                go_ret
                exact ⟨ret_i HF.out, rfl⟩
              · rw [if_neg hz, Int.add_zero] at he
                have HF := (show Hid _ from he)
                have d0 : (q == 0) = false := by simp; omega
                clear he hz
                go_wp2
                go_round
                case rel => exact ⟨k + 1, q, by omega, by omega, by go_num, rfl, by omega, by omega, HF.out⟩
                case measure => simp [intOf]; omega
          · obtain rfl : k = n := by omega
            have HF : Hid (-1 = endOf xs s) := by
              show _ = _
              rw [he, List.drop_of_length_le (by omega)]; rfl
            clear he hc
            go_wp2
            go_ret
            exact ⟨ret_i HF.out, rfl⟩
      · have HF : Hid (-1 = endOf xs s) := (end_no (fun h => h8 (by have := h.2.2; rw [Int.toNat_natCast, hg] at this; exact this))).symm
        have d8 : (xs[s].k != 8) = true := by simp [h8]
        obtain ⟨q, hq⟩ : ∃ q, xs[s].k = q := ⟨_, rfl⟩
        rw [hq] at a0 d8
        clear hc h8 hq hg
        go_enter Try.func99, Try.ntmps99
        go_wp2
        go_ret
        exact ⟨ret_i HF.out, rfl⟩
    · have HF : Hid (-1 = endOf xs s) := (end_no (fun h => h1 (by have := h.2.1; omega))).symm
      have i2 : (n : Int) ≤ s := by omega
      go_enter Try.func99, Try.ntmps99
      go_wp2
      go_ret
      exact ⟨ret_i HF.out, rfl⟩
  · have HF : Hid (-1 = endOf xs i) := (end_no (fun h => h0 h.1)).symm
    have i2 : i < 0 := by omega
    go_enter Try.func99, Try.ntmps99
    go_wp2
    go_ret
    exact ⟨ret_i HF.out, rfl⟩

theorem skip_no {xs : List O4} {i : Nat} (h : ¬ (i : Int) + 1 + (xs.getD i z4).b ≤ xs.length) : skipOk xs i = false := by unfold skipOk; rw [decide_eq_false h]; rfl
theorem skip_yes {xs : List O4} {i : Nat} (h : (i : Int) + 1 + (xs.getD i z4).b ≤ xs.length) : skipOk xs i = skipGo (xs.drop (i + 1)) (xs.getD i z4).b.toNat 0 := by unfold skipOk; rw [decide_eq_true h, Bool.true_and]

set_option maxRecDepth 100000 in
set_option maxHeartbeats 3200000 in
theorem skipSpec (v : Value) (xs : List O4) (s : Nat) (B : Nat) (w : World) (hv : Sees4 B w v xs) (hlen : xs.length ≤ 1048576) (hs : s < xs.length) (hb0 : 0 ≤ (xs.getD s z4).b) (hb1 : (xs.getD s z4).b ≤ 100) :
    Calls Try.prog 91 #[v, .int .i64 s] w fun e w' => e = .returned (.bool (skipOk xs s)) ∧ w = w' := by
  obtain ⟨a, cap, rfl⟩ := hv.form
  obtain ⟨n, hn⟩ : ∃ n, xs.length = n := ⟨_, rfl⟩
  rw [hn] at hv hlen hs ⊢
  obtain ⟨b, off, rfl, hb, hc⟩ := hv.open (by omega)
  obtain ⟨-, -, a2, -⟩ := see4 (B := B) hc s (by omega)
  have hg := getD_at4 (xs := xs) (j := s) (by omega)
  rw [hg] at hb0 hb1
  obtain ⟨t, ht⟩ := Int.eq_ofNat_of_zero_le hb0
  have i2 : (s : Int) < n := by omega
  have i1 : (0 : Int) ≤ s := by omega
  rw [ht] at a2 hb1
  by_cases hto : (s : Int) + 1 + t ≤ n
  · have HE : Hid (skipOk xs s = skipGo (xs.drop (s + 1)) t 0) := by
      show _ = _
      rw [skip_yes (by rw [hg, ht]; omega), hg, ht, Int.toNat_natCast]
    have hto' : ¬ (n : Int) < (s : Int) + 1 + t := by omega
    clear hg ht
    go_enter Try.func91, Try.ntmps91
    go_wp2
    go_loop [6, 7] (fun d i' => ∃ (k r : Nat) (q : Int), s + 1 ≤ k ∧ k + r = s + 1 + t ∧ i' = .int .i64 k ∧ d = .int .i64 q ∧ 0 ≤ q ∧ q ≤ k ∧ skipOk xs s = skipGo (xs.drop k) r q) (fun _ i' => n - (intOf i').toNat)
    case atStart => exact ⟨s + 1, t, 0, Nat.le_refl _, by omega, by go_num, rfl, by omega, by omega, HE.out⟩
    case round =>
      obtain ⟨k, r, q, hsk, hkr, rfl, rfl, hq1, hq2, he⟩ := hrel
      clear a2 HE
      cases r with
      | succ r =>
        obtain ⟨a0, -, -, -⟩ := see4 (B := B) hc k (by omega)
        rw [skipGo_step (by omega)] at he
        obtain ⟨x, hx⟩ : ∃ x, xs[k] = x := ⟨_, rfl⟩
        rw [hx] at a0 he
        have i3 : (k : Int) < n := by omega
        have i4 : (k : Int) < (s : Int) + 1 + t := by omega
        have HK := kind3 x
        clear hx
        rcases HK with ⟨h8, hD⟩ | ⟨h9, hD⟩ | ⟨h8, h9, hD⟩
        · rw [h8] at a0
          rw [hD, decide_eq_true (show 0 ≤ q + 1 by omega), Bool.true_and] at he
          have HF := (show Hid _ from he)
          clear h8 hD he
          go_wp2
          go_round
          case rel => exact ⟨k + 1, r, q + 1, by omega, by omega, by go_num, rfl, by omega, by omega, HF.out⟩
          case measure => simp [intOf]; omega
        · rw [h9] at a0
          rw [hD] at he
          clear h9 hD
          by_cases hz : 0 ≤ q + -1
          · rw [decide_eq_true hz, Bool.true_and] at he
            have HF := (show Hid _ from he)
            have d0 : decide (q - 1 < 0) = false := decide_eq_false (by omega)
            have hz' : ¬ q - 1 < 0 := by omega
            clear he hz
            go_wp2
            go_round
            case rel => exact ⟨k + 1, r, q + -1, by omega, by omega, by go_num, by go_num, by omega, by omega, HF.out⟩
            case measure => simp [intOf]; omega
          · rw [decide_eq_false hz, Bool.false_and] at he
            have HF : Hid (false = skipOk xs s) := he.symm
            obtain rfl : q = 0 := by omega
            clear he hz
            go_wp2
            go_ret
            exact ⟨ret_b HF.out, rfl⟩
        · rw [hD, decide_eq_true (show 0 ≤ q + 0 by omega), Bool.true_and, Int.add_zero] at he
          have HF := (show Hid _ from he)
          have d0 : ¬ q < 0 := by omega
          clear hD he
          go_wp2
          go_round
          case rel => exact ⟨k + 1, r, q, by omega, by omega, by go_num, rfl, by omega, by omega, HF.out⟩
          case measure => simp [intOf]; omega
      | zero =>
        have HF : Hid ((q == 0) = skipOk xs s) := by
          show _ = _
          rw [he]
          cases xs.drop k <;> rfl
        have i4 : ¬ (k : Int) < (s : Int) + 1 + t := by omega
        clear he hc
        go_wp2
        go_ret
        exact ⟨ret_b HF.out, rfl⟩
  · have HF : Hid (false = skipOk xs s) := (skip_no (by rw [hg, ht]; omega)).symm
    have hto' : (n : Int) < (s : Int) + 1 + t := by omega
    clear hg ht hc
    go_enter Try.func91, Try.ntmps91
    go_wp2
    go_ret
    exact ⟨ret_b HF.out, rfl⟩
end Ops
end Go.Proofs.Ytppkohkcffnghaa
/- A round of l7Walk: an op at its end. -/
set_option linter.unusedVariables false
set_option linter.unusedSimpArgs false
namespace Go.Proofs.Ytppkohkcffnghaa
open Go.RowKit
namespace Ops
open Bas Flat
theorem ok_rangesX {a b c : Int} (h : okOp ⟨8, a, b, c⟩ = true) : (spans 8).elim False (fun p => (p.1.1 ≤ a ∧ a ≤ p.1.2) ∧ (p.2.1.1 ≤ b ∧ b ≤ p.2.1.2) ∧ (p.2.2.1 ≤ c ∧ c ≤ p.2.2.2)) := by
  unfold okOp opOk at h
  simp only [spans, Int.reduceEq, if_true, if_false, reduceIte, or_self, or_false, false_or, Bool.and_eq_true, inn, decide_eq_true_eq] at h ⊢
  simp only [Option.elim]
  omega
set_option maxRecDepth 1000000 in
set_option maxHeartbeats 16000000 in
theorem caseX {xs : List O4} {n : Nat} {F : List Int → Th → List Int × Th} {r : List Int} {t : Th} {w : World} {pR pS pT : Nat} {v0 v1 : Value} {wr : World} {s : Cf} {ms : List M5} {gr cr gc cc gm cm : Nat} {ak : Option Addr} {mk ck : Nat} (Q0 : Exit → Act → World → Prop) (Bc : Nat) (ax : Option Addr) (cxp : Nat)
    (c1 c2 c4 c5 c6 c7 c8 c26 c27 c28 c29 c30 c31 c32 c33 c289 c290 c291 u14 u15 u16 u17 u18 u19 u20 u21 u22 u23 u24 u25 u34 u35 u36 u37 u38 u39 u40 u41 u42 u43 u44 u45 u46 u47 u48 u49 u50 u51 u52 u53 u54 u55 u56 u57 u58 u59 u60 u61 u62 u63 u64 u65 u66 u67 u68 u69 u70 u71 u72 u73 u74 u75 u76 u77 u78 u79 u80 u81 u82 u83 u84 u85 u86 u87 u88 u89 u90 u91 u92 u93 u94 u95 u96 u97 u98 u99 u100 u101 u102 u103 u104 u105 u106 u107 u108 u109 u110 u111 u112 u113 u114 u115 u116 u117 u118 u119 u120 u121 u122 u123 u124 u125 u126 u127 u128 u129 u130 u131 u132 u133 u134 u135 u136 u137 u138 u139 u140 u141 u142 u143 u144 u145 u146 u147 u148 u149 u150 u151 u152 u153 u154 u155 u156 u157 u158 u159 u160 u161 u162 u163 u164 u165 u166 u167 u168 u169 u170 u171 u172 u173 u174 u175 u176 u177 u178 u179 u180 u181 u182 u183 u184 u185 u186 u187 u188 u189 u190 u191 u192 u193 u194 u195 u196 u197 u198 u199 u200 u201 u202 u203 u204 u205 u206 u207 u208 u209 u210 u211 u212 u213 u214 u215 u216 u217 u218 u219 u220 u221 u222 u223 u224 u225 u226 u227 u228 u229 u230 u231 u232 u233 u234 u235 u236 u237 u238 u239 u240 u241 u242 u243 u244 u245 u246 u247 u248 u249 u250 u251 u252 u253 u254 u255 u256 u257 u258 u259 u260 u261 u262 u263 u264 u265 u266 u267 u268 u269 u270 u271 u272 u273 u274 u275 u276 u277 u278 u279 u280 u281 u282 u283 u284 u285 u286 u287 u288 : Value) (hv : Sees4 Bc wr (.slice ax n cxp) xs) (hn : xs.length = n) (hn24 : n ≤ 24) (hc : codeOk xs = true) (hlt : ¬ s.pc < xs.length) (hBc : Bc ≤ wr.heap.size)
    (H : RelW xs n F r t w pR pS pT v0 v1 (.slice (some ⟨gr, 0, none⟩) 4 cr) (.slice ak mk ck) (.int .i64 s.pc) wr s ms gr cr gc cc gm cm ak mk ck) (hex : ∀ a' w'', WI xs n F r t w pR pS pT v0 v1 (.slice ax n cxp) c1 c2 c4 c5 c6 c7 c8 c26 c27 c28 c29 c30 c31 c32 c33 c289 c290 c291 a' w'' → ¬ (intOf (a'.tmps.getD 13 undef)).toNat < n → Q0 (.exit 0) a' w'') :
    Code.wp Try.prog (bodyOf Try.f78.body) (Exit.then (fun a' w'' => WI xs n F r t w pR pS pT v0 v1 (.slice ax n cxp) c1 c2 c4 c5 c6 c7 c8 c26 c27 c28 c29 c30 c31 c32 c33 c289 c290 c291 a' w'' ∧ WMu n a' w'' < WMu n ⟨#[.slice ax n cxp, c1, c2, .slice (some ⟨gr, 0, none⟩) 4 cr, c4, c5, c6, c7, c8, .pointer (some ⟨pS, 0, none⟩), .pointer (some ⟨pR, 0, none⟩), .pointer (some ⟨pT, 0, none⟩), .slice ak mk ck, .int .i64 s.pc, u14, u15, u16, u17, u18, u19, u20, u21, u22, u23, u24, u25, c26, c27, c28, c29, c30, c31, c32, c33, u34, u35, u36, u37, u38, u39, u40, u41, u42, u43, u44, u45, u46, u47, u48, u49, u50, u51, u52, u53, u54, u55, u56, u57, u58, u59, u60, u61, u62, u63, u64, u65, u66, u67, u68, u69, u70, u71, u72, u73, u74, u75, u76, u77, u78, u79, u80, u81, u82, u83, u84, u85, u86, u87, u88, u89, u90, u91, u92, u93, u94, u95, u96, u97, u98, u99, u100, u101, u102, u103, u104, u105, u106, u107, u108, u109, u110, u111, u112, u113, u114, u115, u116, u117, u118, u119, u120, u121, u122, u123, u124, u125, u126, u127, u128, u129, u130, u131, u132, u133, u134, u135, u136, u137, u138, u139, u140, u141, u142, u143, u144, u145, u146, u147, u148, u149, u150, u151, u152, u153, u154, u155, u156, u157, u158, u159, u160, u161, u162, u163, u164, u165, u166, u167, u168, u169, u170, u171, u172, u173, u174, u175, u176, u177, u178, u179, u180, u181, u182, u183, u184, u185, u186, u187, u188, u189, u190, u191, u192, u193, u194, u195, u196, u197, u198, u199, u200, u201, u202, u203, u204, u205, u206, u207, u208, u209, u210, u211, u212, u213, u214, u215, u216, u217, u218, u219, u220, u221, u222, u223, u224, u225, u226, u227, u228, u229, u230, u231, u232, u233, u234, u235, u236, u237, u238, u239, u240, u241, u242, u243, u244, u245, u246, u247, u248, u249, u250, u251, u252, u253, u254, u255, u256, u257, u258, u259, u260, u261, u262, u263, u264, u265, u266, u267, u268, u269, u270, u271, u272, u273, u274, u275, u276, u277, u278, u279, u280, u281, u282, u283, u284, u285, u286, u287, u288, c289, c290, c291], []⟩ wr) Q0) ⟨#[.slice ax n cxp, c1, c2, .slice (some ⟨gr, 0, none⟩) 4 cr, c4, c5, c6, c7, c8, .pointer (some ⟨pS, 0, none⟩), .pointer (some ⟨pR, 0, none⟩), .pointer (some ⟨pT, 0, none⟩), .slice ak mk ck, .int .i64 s.pc, u14, u15, u16, u17, u18, u19, u20, u21, u22, u23, u24, u25, c26, c27, c28, c29, c30, c31, c32, c33, u34, u35, u36, u37, u38, u39, u40, u41, u42, u43, u44, u45, u46, u47, u48, u49, u50, u51, u52, u53, u54, u55, u56, u57, u58, u59, u60, u61, u62, u63, u64, u65, u66, u67, u68, u69, u70, u71, u72, u73, u74, u75, u76, u77, u78, u79, u80, u81, u82, u83, u84, u85, u86, u87, u88, u89, u90, u91, u92, u93, u94, u95, u96, u97, u98, u99, u100, u101, u102, u103, u104, u105, u106, u107, u108, u109, u110, u111, u112, u113, u114, u115, u116, u117, u118, u119, u120, u121, u122, u123, u124, u125, u126, u127, u128, u129, u130, u131, u132, u133, u134, u135, u136, u137, u138, u139, u140, u141, u142, u143, u144, u145, u146, u147, u148, u149, u150, u151, u152, u153, u154, u155, u156, u157, u158, u159, u160, u161, u162, u163, u164, u165, u166, u167, u168, u169, u170, u171, u172, u173, u174, u175, u176, u177, u178, u179, u180, u181, u182, u183, u184, u185, u186, u187, u188, u189, u190, u191, u192, u193, u194, u195, u196, u197, u198, u199, u200, u201, u202, u203, u204, u205, u206, u207, u208, u209, u210, u211, u212, u213, u214, u215, u216, u217, u218, u219, u220, u221, u222, u223, u224, u225, u226, u227, u228, u229, u230, u231, u232, u233, u234, u235, u236, u237, u238, u239, u240, u241, u242, u243, u244, u245, u246, u247, u248, u249, u250, u251, u252, u253, u254, u255, u256, u257, u258, u259, u260, u261, u262, u263, u264, u265, u266, u267, u268, u269, u270, u271, u272, u273, u274, u275, u276, u277, u278, u279, u280, u281, u282, u283, u284, u285, u286, u287, u288, c289, c290, c291], []⟩ wr := by
  conv => arg 2; whnf
  have hi : ¬ (s.pc : Int) < n := by omega
  have HEX := (show Hid _ from hex)
  clear hex
  go_wp2_with fail
  refine HEX.out _ _ ?_ (by simp [intOf]; omega)
  unfold WI
  refine ⟨_, _, _, _, _, _, _, _, _, _, _, _, _, _, _, _, _, _, _, _, _, _, _, _, _, _, _, _, _, _, _, _, _, _, _, _, _, _, _, _, _, _, _, _, _, _, _, _, _, _, _, _, _, _, _, _, _, _, _, _, _, _, _, _, _, _, _, _, _, _, _, _, _, _, _, _, _, _, _, _, _, _, _, _, _, _, _, _, _, _, _, _, _, _, _, _, _, _, _, _, _, _, _, _, _, _, _, _, _, _, _, _, _, _, _, _, _, _, _, _, _, _, _, _, _, _, _, _, _, _, _, _, _, _, _, _, _, _, _, _, _, _, _, _, _, _, _, _, _, _, _, _, _, _, _, _, _, _, _, _, _, _, _, _, _, _, _, _, _, _, _, _, _, _, _, _, _, _, _, _, _, _, _, _, _, _, _, _, _, _, _, _, _, _, _, _, _, _, _, _, _, _, _, _, _, _, _, _, _, _, _, _, _, _, _, _, _, _, _, _, _, _, _, _, _, _, _, _, _, _, _, _, _, _, _, _, _, _, _, _, _, _, _, _, _, _, _, _, _, _, _, _, _, _, _, _, _, _, _, _, _, _, _, _, _, _, _, _, _, _, ?_, rfl⟩
  exact ⟨s, ms, gr, cr, gc, cc, gm, cm, ak, mk, ck, H⟩
end Ops
end Go.Proofs.Ytppkohkcffnghaa
