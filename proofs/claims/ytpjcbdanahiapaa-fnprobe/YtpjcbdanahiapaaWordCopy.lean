/- Both copies of a memory: its words in new memory. -/
import Derived.Test.YtpjcbdanahiapaaWordRow
import Derived.Deep.RegionHeld3
namespace Go.Proofs.Ytpjcbdanahiapaa
open Go.RowKit
namespace Words

/-- words put behind what the call owns, as one step of a region that draws its order -/
theorem step_appW {ops : Array Oper} {o : Oper} {a : Act} {K : Act → World → Prop} {Q : Exit → Act → World → Prop} {E : Prop} (w w0 : World) (hgd : o.guard = none) (s x : Operand)
    (ho : o.op = .call { callee := .builtin .append, args := #[s, x], argTypes := #[24, 24] }) (B n m c : Nat) (A C : List W3) (v : Value) (ad : Addr)
    (hs : a.eval s = v) (hx : a.eval x = .slice (some ad) m c) (hown : w.ownsRow B 37 3 v n (wv A)) (hl : C.length = m)
    (hnews : ∀ j u, (wv C)[j]? = some u → w.cell? (ad.add j) = some u) (hm : 0 < m) (hbig : n + m ≤ 4194304) (hB : Below B w0 w) (hbase : B ≤ w.heap.size)
    (h : ∀ g cap w', Hid (w'.ownsRow B 37 3 (.slice (some ⟨g, 0, none⟩) (n + m) cap) (n + m) (wv (A ++ C))) → Hid (Below B w0 w') → K (a.put o.dst (.slice (some ⟨g, 0, none⟩) (n + m) cap)) w') :
    if Region.wanted o (yielded ops a.tmps) = true then Oper.wp Try.prog o a w K Q else E := by
  obtain ⟨i0, hi, hz0, hz1, hz2⟩ := info_parts Try.infoWord
  refine step_append_lies w hgd s x 24 ho B 37 i0 _ 3 24 Try.underlying24 hi hz0 hz1 hz2 rfl (by decide) v n (wv A) hs hown ad m c (wv C) hx (by rw [wv_length, hl])
    hnews (wv_one C) hm (by unfold maxLen; omega) (by omega) hbase w.heap.size rfl ?_
  intro g cap w' hown' hgr _ _
  refine h g cap w' ?_ (hB.grown hgr hbase (fun g hg => (hown.lt g hg).1))
  show World.ownsRow _ _ _ _ _ _ _
  rw [wv_append]; exact hown'

/-- the cells of words that are seen -/
theorem news_of {w : World} {b off : Nat} {ws : List W3} (hc : ∀ j (h : j < ws.length), At w b (off + j * 3) ws[j]) : ∀ j u, (wv ws)[j]? = some u → w.cell? ((⟨b, off, none⟩ : Addr).add j) = some u := by
  intro j u hu
  have hj : j < ws.length * 3 := by rw [← wv_length]; exact (List.getElem?_eq_some_iff.1 hu).1
  obtain ⟨c0, c1, c2⟩ := hc (j / 3) (by omega)
  obtain ⟨g0, g1, g2⟩ := wv_get ws (j / 3) (by omega)
  have ha : ∀ i, (⟨b, off, none⟩ : Addr).add i = ⟨b, off + i, none⟩ := fun i => by unfold Addr.add; split <;> simp_all
  rw [ha, ← hu]
  rcases (show j % 3 = 0 ∨ j % 3 = 1 ∨ j % 3 = 2 by omega) with h | h | h
  · rw [show j = j / 3 * 3 by omega, g0]; exact c0
  · rw [show j = j / 3 * 3 + 1 by omega, g1, ← Nat.add_assoc]; exact c1
  · rw [show j = j / 3 * 3 + 2 by omega, g2, ← Nat.add_assoc]; exact c2
theorem owns_nil (B : Nat) (w : World) : w.ownsRow B 37 3 (.slice none 0 0) 0 (wv []) := ⟨rfl, .inl ⟨rfl, rfl⟩⟩

end Words
end Go.Proofs.Ytpjcbdanahiapaa
