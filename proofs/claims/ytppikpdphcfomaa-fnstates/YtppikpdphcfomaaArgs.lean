/- What the frames tell of a slice of integers that came in, and what a code of bytes is by it. -/
import Derived.Test.YtppikpdphcfomaaDrawWalks
namespace Go.Proofs.Ytppikpdphcfomaa
open Go.RowKit
namespace Args
/-- a slice of integers that came in: nil, or a row of 'cap' cells that hold the numbers -/
def IsRow (k : IntKind) (w : World) (a : Option Addr) (len cap : Nat) (zs : List Int) : Prop :=
  (a = none ∧ len = 0 ∧ cap = 0 ∧ zs = []) ∨
  ∃ x, a = some x ∧ len ≤ cap ∧ cap ≤ maxLen ∧ zs.length = cap ∧ (∀ i, i < zs.length → w.cell? (x.add i) = some (.int k (zs.getD i 0))) ∧ ∀ n ∈ zs, (Lit.int k n).wf = true

theorem code {w : World} {a : Option Addr} {len cap : Nat} {zs : List Int} (h : IsRow .u8 w a len cap zs) : ∃ l : List UInt8, l.length = len ∧ Draw.Code w.heap.size w (.slice a len cap) l := by
  rcases h with ⟨rfl, rfl, rfl, rfl⟩ | ⟨x, rfl, hl, hm, hz, hcell, hwf⟩
  · exact ⟨[], rfl, none, 0, rfl, Nat.zero_le _, fun h => absurd rfl h⟩
  · refine ⟨(zs.take len).map fun n => UInt8.ofNat n.toNat, by simp; omega, some x, cap, by simp; omega, by simp; omega, fun hne => ?_⟩
    have hpos : 0 < len := by
      rcases Nat.eq_zero_or_pos len with h0 | h0
      · subst h0; simp at hne
      · exact h0
    obtain ⟨b, off, spot⟩ := x
    have h0 := hcell 0 (by omega)
    have hspot : spot = none := by simpa [Addr.add] using World.cell?_spot h0
    subst hspot
    have hb : b < w.heap.size := by
      rcases Nat.lt_or_ge b w.heap.size with h1 | h1
      · exact h1
      · exfalso
        simp [Addr.add, World.cell?, Array.getElem?_eq_none h1] at h0
    refine ⟨b, off, rfl, hb, fun j hj => ?_⟩
    have hj2 : j < min len zs.length := by simpa using hj
    have hj' : j < len := by omega
    have hc := hcell j (by omega)
    have ha : (⟨b, off, none⟩ : Addr).add j = ⟨b, off + j, none⟩ := by unfold Addr.add; split <;> simp_all
    rw [ha] at hc
    have hjz : j < zs.length := by omega
    have hg : zs.getD j 0 = zs[j] := by simp [List.getD, hjz]
    rw [hg] at hc
    have hw := hwf zs[j] (List.getElem_mem hjz)
    have hbd := bounds_u8 hw
    rw [hc]
    congr 2
    simp
    omega
end Args
end Go.Proofs.Ytppikpdphcfomaa
