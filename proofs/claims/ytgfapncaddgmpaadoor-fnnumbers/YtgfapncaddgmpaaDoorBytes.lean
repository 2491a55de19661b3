/- What putBytes does to a row of bytes: it lays bytes over it from a place on and tells the place behind them. -/
import Derived.Test.YtgfapncaddgmpaaDoorByt
namespace Go.Proofs.YtgfapncaddgmpaaDoor
open Go.RowKit
namespace Bytes
set_option maxHeartbeats 400000 in
theorem put (w w0 : World) (B g n k m c : Nat) (l cs : List UInt8) (ad : Addr) (hR : Row w g l) (hn : l.length = n) (hmx : n ≤ maxLen) (hm : cs.length = m) (hpos : 0 < m) (hfit : k + m ≤ n)
    (hc : ∀ j b, cs[j]? = some b → w.cell? (ad.add j) = some (.int .u8 (b.toNat : Int))) (hb : Below B w0 w) (hBg : B ≤ g) :
    Calls Tryd.prog 23 #[.slice (some ⟨g, 0, none⟩) n n, .int .i64 k, .slice (some ad) m c] w
      fun e w' => e = .returned (.int .i64 ((k : Int) + m)) ∧ Row w' g (splice l k cs) ∧ Below B w0 w' := by
  unfold maxLen at hmx
  have hkn : (k : Int) < n := by omega
  have hu := Tryd.underlying22
  obtain ⟨i0, hi, hz0, hz1, hz2⟩ := info_parts Tryd.infoByte
  have hsz : (Tryd.prog.info? 5).map (·.size) = some 1 := by rw [hi]; simp [hz1]
  have hlc : k + (bv cs).length ≤ (bv l).toArray.size := by simp [bv_length]; omega
  have hcp := run_copy_row (P := Tryd.prog) w 22 22 3 5 g k (n - k) (n - k) ad m c (bv l).toArray 5 (bv cs) hu hsz hR (by rw [bv_length, hm]; exact (Nat.min_eq_left (by omega)).symm)
    (fun j v hj => by obtain ⟨b, hb1, rfl⟩ := bv_get _ _ _ hj; exact hc j b hb1) hlc (bv_one cs)
  obtain ⟨w2, hcp2, HG2, hB2⟩ : ∃ w2, (Builtin.copy_ #[22, 22] 3 #[.slice (some ⟨g, k, none⟩) (n - k) (n - k), .slice (some ad) m c]).run Tryd.prog w = .ok (.int .i64 (m : Int)) w2 ∧ Row w2 g (splice l k cs) ∧ Below B w0 w2 := by
    refine ⟨_, hcp.trans (by rw [bv_length, hm]; rfl), ?_, below_setRow hb hBg _⟩
    unfold Row
    rw [setRow_heap w g _ _ 5 _ hR, bv_splice]
    simp [splice, bv_length, hm]
  have HB2 : Hid (Below B w0 w2) := hB2
  clear hcp hR hc hm hn hi hz0 hz1 hz2 hlc hb hsz hu hB2
  go_enter Tryd.func23, Tryd.ntmps23
  go_wp2
  go_ret
  exact ⟨rfl, HG2, HB2.out⟩

/-- the same, the place being told as an integer -/
theorem putI (w w0 : World) (B g n k m c : Nat) (kI : Int) (hkI : kI = (k : Int)) (l cs : List UInt8) (ad : Addr) (hR : Row w g l) (hn : l.length = n) (hmx : n ≤ maxLen) (hm : cs.length = m) (hpos : 0 < m) (hfit : k + m ≤ n)
    (hc : ∀ j b, cs[j]? = some b → w.cell? (ad.add j) = some (.int .u8 (b.toNat : Int))) (hb : Below B w0 w) (hBg : B ≤ g) :
    Calls Tryd.prog 23 #[.slice (some ⟨g, 0, none⟩) n n, .int .i64 kI, .slice (some ad) m c] w
      fun e w' => e = .returned (.int .i64 (kI + m)) ∧ Row w' g (splice l k cs) ∧ Below B w0 w' := by
  subst hkI
  exact put w w0 B g n k m c l cs ad hR hn hmx hm hpos hfit hc hb hBg

end Bytes
end Go.Proofs.YtgfapncaddgmpaaDoor
