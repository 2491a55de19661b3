/- Rows of bytes in memory: what they read as, texts made of them, bytes put behind them. -/
import Derived.Test.YtppikpdphcfomaaProg
import Derived.WalkKit
import Derived.WalkLawsBesides
import Derived.WalkSpells
import Derived.Laws.CopyOwn
import Derived.Laws.IdiomStrings
import Derived.Deep.OwnRows
import Derived.Deep.AppendLies
namespace Go.Proofs.Ytppikpdphcfomaa
open Go.RowKit

theorem Try.infoByte : (Try.prog.info? 5).map (fun i => (i.zero, i.size, i.bytes)) = some (some (.int .u8 0), 1, 1) := by kernel_rfl

namespace Bytes

def bv (l : List UInt8) : List Value := l.map fun b => Value.int .u8 (b.toNat : Int)
theorem bv_length (l : List UInt8) : (bv l).length = l.length := by simp [bv]
theorem bv_get (l : List UInt8) (j : Nat) (v : Value) (h : (bv l)[j]? = some v) : ∃ b, l[j]? = some b ∧ v = .int .u8 (b.toNat : Int) := by
  unfold bv at h; rw [List.getElem?_map] at h
  cases hb : l[j]? with
  | none => rw [hb] at h; simp at h
  | some b => rw [hb] at h; simp at h; exact ⟨b, rfl, h.symm⟩
theorem bv_one (l : List UInt8) : ∀ v ∈ bv l, v.oneCell' = true := by
  intro v hv; unfold bv at hv; obtain ⟨b, _, rfl⟩ := List.mem_map.1 hv; rfl
theorem bv_splice (l cs : List UInt8) (k : Nat) : bv (splice l k cs) = splice (bv l) k (bv cs) := by simp [bv, splice]

/-- block g holds just these bytes -/
def Row (w : World) (g : Nat) (l : List UInt8) : Prop := w.heap[g]? = some (.cells (bv l).toArray 5 (0, 0))

theorem Row.lt {w : World} {g : Nat} {l : List UInt8} (h : Row w g l) : g < w.heap.size := by
  unfold Row at h
  rcases Nat.lt_or_ge g w.heap.size with h1 | h1
  · exact h1
  · rw [Array.getElem?_eq_none h1] at h; cases h
theorem Row.alloc {w : World} {g : Nat} {l : List UInt8} (h : Row w g l) (o : Obj) : Row (w.alloc o) g l := by
  have := h.lt; unfold Row at *; rw [Below.heap_alloc _ _ _ this]; exact h
theorem Row.below {w w' : World} {g B : Nat} {l : List UInt8} (h : Row w g l) (hb : Below B w w') (hg : g < B) : Row w' g l := by
  unfold Row at *; rw [hb.block g hg]; exact h
theorem Row.cell {w : World} {g : Nat} {l : List UInt8} (h : Row w g l) (j : Nat) (hj : j < l.length) : w.cell? ⟨g, j, none⟩ = some (.int .u8 (l[j].toNat : Int)) := by
  unfold Row at h; simp [World.cell?, h, bv, hj]
theorem Row.made (w : World) (n : Nat) : Row (w.alloc (.cells (madeCells #[.int .u8 0] n) 5)) w.heap.size (List.replicate n 0) := by
  have e : (madeCells #[Value.int .u8 0] n) = (bv (List.replicate n 0)).toArray := by
    apply Array.ext
    · simp [size_madeCells, bv]
    · intro i h1 h2; simp [madeCells, bv, Nat.mod_one]
  unfold Row
  rw [e]
  show (w.heap.push _)[w.heap.size]? = _
  simp

/-- a row that is filled so far, noughts behind -/
def pad (n : Nat) (A : List UInt8) : List UInt8 := A ++ List.replicate (n - A.length) 0
theorem pad_length (n : Nat) (A : List UInt8) (h : A.length ≤ n) : (pad n A).length = n := by simp [pad]; omega
theorem pad_nil (n : Nat) : pad n [] = List.replicate n 0 := by simp [pad]
theorem pad_full (A : List UInt8) : pad A.length A = A := by simp [pad]
theorem pad_take (n : Nat) (A : List UInt8) : (pad n A).take A.length = A := by simp [pad]
theorem splice_pad (n : Nat) (A cs : List UInt8) (h : A.length + cs.length ≤ n) : splice (pad n A) A.length cs = pad n (A ++ cs) := by
  unfold splice pad
  rw [List.take_left, List.drop_append, List.drop_of_length_le (by omega), List.nil_append, List.drop_replicate, List.append_assoc, List.length_append]
  congr 3
  omega

/-- the text of a row's beginning -/
theorem Row.str {w : World} {g : Nat} {l : List UInt8} (h : Row w g l) (k c : Nat) (hk : k ≤ l.length) :
    (convert 22 9 (.slice (some ⟨g, 0, none⟩) k c)).run Try.prog w = .ok (.string ⟨(l.take k).toArray⟩) w := by
  have hl : (l.take k).length = k := by simp; omega
  have := run_convert_bytes_back (P := Try.prog) w 22 9 5 ⟨g, 0, none⟩ c (l.take k) Try.underlying22 Try.underlying5 Try.underlying9
    (fun j hj => by
      have h1 := h.cell j (by omega)
      have h2 : (⟨g, 0, none⟩ : Addr).add j = ⟨g, j, none⟩ := by unfold Addr.add; split <;> simp_all
      rw [h2, h1]; simp)
  rw [hl] at this
  exact this

/-- the cells of a new block of one byte, or of two -/
theorem new1 (w : World) (v : Int) (b : UInt8) (h : v = (b.toNat : Int)) : ∀ j c, [b][j]? = some c → (w.alloc (.cells #[.int .u8 v] 5)).cell? ((⟨w.heap.size, 0, none⟩ : Addr).add j) = some (.int .u8 (c.toNat : Int)) := by
  intro j c hj
  match j, hj with
  | 0, hj => simp at hj; subst hj; subst h; simp [Addr.add, World.cell?_alloc_at]
  | j + 1, hj => simp at hj
theorem new2 (w : World) (v u : Int) (b d : UInt8) (h : v = (b.toNat : Int)) (h' : u = (d.toNat : Int)) : ∀ j c, [b, d][j]? = some c → (w.alloc (.cells #[.int .u8 v, .int .u8 u] 5)).cell? ((⟨w.heap.size, 0, none⟩ : Addr).add j) = some (.int .u8 (c.toNat : Int)) := by
  intro j c hj
  match j, hj with
  | 0, hj => simp at hj; subst hj; subst h; simp [Addr.add, World.cell?_alloc_at]
  | 1, hj => simp at hj; subst hj; subst h'; simp [Addr.add, World.cell?_alloc_at]
  | j + 2, hj => simp at hj

/-- the text of one byte -/
theorem str1 (v : Int) (b : UInt8) (h : v = (b.toNat : Int)) (w : World) : (convert 22 9 (.slice (some ⟨w.heap.size, 0, none⟩) 1 1)).run Try.prog (w.alloc (.cells #[.int .u8 v] 5)) = .ok (.string ⟨#[b]⟩) (w.alloc (.cells #[.int .u8 v] 5)) := by
  have := run_convert_bytes_back (P := Try.prog) (w.alloc (.cells #[.int .u8 v] 5)) 22 9 5 ⟨w.heap.size, 0, none⟩ 1 [b] Try.underlying22 Try.underlying5 Try.underlying9
    (fun j hj => new1 w v b h j _ (List.getElem?_eq_getElem hj))
  exact this

theorem makeRow (n : Nat) (h : n ≤ 140737488355328) (w : World) :
    (Instr.makeSlice 22 (.int .i64 (n : Int)) (.int .i64 (n : Int))).run Try.prog w = .ok (.slice (some ⟨w.heap.size, 0, none⟩) n n) (w.alloc (.cells (madeCells #[.int .u8 0] n) 5)) :=
  run_make_row' (P := Try.prog) 22 5 (.int .u8 0) 1 Try.underlying22 Try.infoByte rfl .i64 .i64 n (by omega) (by omega) w

/-- the text of what the call owns -/
theorem own_str {w : World} {B : Nat} {v : Value} {n : Nat} {A : List UInt8} (h : w.ownsRow B 5 1 v n (bv A)) :
    (convert 22 9 v).run Try.prog w = .ok (.string ⟨A.toArray⟩) w := by
  obtain ⟨h1, h2⟩ := h
  rw [bv_length] at h1
  rcases h2 with ⟨rfl, rfl⟩ | ⟨g, cap, cur, rfl, _, hg, hnc, _, hsz, htk⟩
  · obtain rfl : A = [] := List.eq_nil_of_length_eq_zero (by omega)
    rw [run_convert_bytes_string w 22 9 5 none 0 0 Try.underlying22 Try.underlying5 Try.underlying9]
    rfl
  · have hl : A.length = n := by omega
    have := run_convert_bytes_back (P := Try.prog) w 22 9 5 ⟨g, 0, none⟩ cap A Try.underlying22 Try.underlying5 Try.underlying9
      (fun j hj => by
        have h2 : (⟨g, 0, none⟩ : Addr).add j = ⟨g, j, none⟩ := by unfold Addr.add; split <;> simp_all
        have h3 : cur[j]? = some (.int .u8 (A[j].toNat : Int)) := by
          have h4 : (cur.toList.take (n * 1))[j]? = (bv A)[j]? := by rw [htk]
          rw [List.getElem?_take, if_pos (by omega)] at h4
          rw [← Array.getElem?_toList, h4]
          simp [bv, hj]
        rw [h2]
        simp [World.cell?, hg, h3])
    rw [hl] at this
    exact this
/-- an empty literal owns nothing -/
theorem own_lit (w : World) (B : Nat) (hB : B ≤ w.heap.size) : (w.alloc (.cells #[] 5)).ownsRow B 5 1 (.slice (some ⟨w.heap.size, 0, none⟩) 0 0) 0 (bv []) :=
  World.ownsRow_made w #[] 0 hB (by simp [maxLen]) rfl

/-- bytes put behind what the call owns, as one step of a region that draws its order -/
theorem step_app {ops : Array Oper} {o : Oper} {a : Act} {K : Act → World → Prop} {Q : Exit → Act → World → Prop} {E : Prop} (w w0 : World) (hgd : o.guard = none) (s x : Operand)
    (ho : o.op = .call { callee := .builtin .append, args := #[s, x], argTypes := #[22, 22] }) (B n m c : Nat) (A C : List UInt8) (v : Value) (ad : Addr)
    (hs : a.eval s = v) (hx : a.eval x = .slice (some ad) m c) (hown : w.ownsRow B 5 1 v n (bv A)) (hl : C.length = m)
    (hnews : ∀ j b, C[j]? = some b → w.cell? (ad.add j) = some (.int .u8 (b.toNat : Int))) (hm : 0 < m) (hbig : n + m ≤ 140737488355328) (hB : Below B w0 w) (hbase : B ≤ w.heap.size)
    (h : ∀ g cap w', Hid (w'.ownsRow B 5 1 (.slice (some ⟨g, 0, none⟩) (n + m) cap) (n + m) (bv (A ++ C))) → Hid (Below B w0 w') → K (a.put o.dst (.slice (some ⟨g, 0, none⟩) (n + m) cap)) w') :
    if Region.wanted o (yielded ops a.tmps) = true then Oper.wp Try.prog o a w K Q else E := by
  obtain ⟨i0, hi, hz0, hz1, hz2⟩ := info_parts Try.infoByte
  refine step_append_lies w hgd s x 22 ho B 5 i0 (.int .u8 0) 1 1 Try.underlying22 hi hz0 hz1 hz2 rfl (by decide) v n (bv A) hs hown ad m c (bv C) hx (by rw [bv_length, hl]; omega)
    (fun j u hj => by obtain ⟨b, hb, rfl⟩ := bv_get _ _ _ hj; exact hnews j b hb) (bv_one C) hm (by unfold maxLen; omega) (by omega) hbase w.heap.size rfl ?_
  intro g cap w' hown' hgr _ _
  refine h g cap w' ?_ (hB.grown hgr hbase (fun g hg => (hown.lt g hg).1))
  have e : bv (A ++ C) = bv A ++ bv C := by simp [bv]
  show World.ownsRow _ _ _ _ _ _ _
  rw [e]; exact hown'
end Bytes
end Go.Proofs.Ytppikpdphcfomaa
