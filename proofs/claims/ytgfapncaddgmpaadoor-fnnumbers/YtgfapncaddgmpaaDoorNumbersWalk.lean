/- What is made of a number is read as it, whatever stands behind; no other text is read: FnNumbers answers true at every code. -/
import Derived.Test.YtgfapncaddgmpaaDoorNumbersA
import Derived.Test.YtgfapncaddgmpaaDoorNumbersB
import Derived.Test.YtgfapncaddgmpaaDoorNumbersC
namespace Go.Proofs.YtgfapncaddgmpaaDoor
open Go.RowKit
namespace Numbers
open Num Bytes Draw

theorem law_big (a : Option Addr) (len cap : Nat) (w : World) (hb : 1048576 < len) :
    Calls Tryd.prog 3 #[.slice a len cap] w fun e w' => e = .returned (.bool true) ∧ Below w.heap.size w w' := by
  have hbg : decide ((1048576 : Int) < (len : Int)) = true := by simp; omega
  go_enter Tryd.func3, Tryd.ntmps3
  go_wp2_with fail
  refine (bigC a len cap w).mono ?_
  rw [hbg]
  rintro e w0 ⟨rfl, rfl⟩
  go_wp2
  go_ret
  exact ⟨rfl, Below.refl _ _⟩

theorem walk (a : Option Addr) (len cap : Nat) (zs : List Int) (w : World) (hrow : Args.IsRow .u8 w a len cap zs) (ht : Dec.Tab w) (he : ReadDec.Errs w) :
    Calls Tryd.prog 3 #[.slice a len cap] w fun e w' => e = .returned (.bool true) ∧ Below w.heap.size w w' := by
  by_cases hb : 1048576 < len
  · exact law_big a len cap w hb
  · obtain ⟨l, hl, hC⟩ := Args.code hrow
    subst hl
    have hnr := num_range l (st0 l)
    have htl := text_length l (st0 l) 40
    have hps := rvText_size l
    obtain ⟨n, hn⟩ : ∃ n, num l (st0 l) = n := ⟨_, rfl⟩
    rw [hn] at hnr
    obtain ⟨hr1, hr2⟩ := hnr
    have hl' : l.length ≤ 1048576 := by omega
    by_cases h1 : n ≤ -1000000000
    · exact law_A2 l a cap n _ _ _ _ w hC hl' ht he hn rfl htl rfl hps hr1 hr2 h1 rfl rfl
    · by_cases h2 : n ≤ -1
      · exact law_A1 l a cap n _ _ _ _ w hC hl' ht he hn rfl htl rfl hps hr1 hr2 h2 (by omega) rfl rfl
      · by_cases h3 : n ≤ 999999999
        · exact law_B1 l a cap n _ _ _ _ w hC hl' ht he hn rfl htl rfl hps hr1 hr2 (by omega) h3 rfl rfl
        · by_cases h4 : n ≤ 562949953421311
          · exact law_B2 l a cap n _ _ _ _ w hC hl' ht he hn rfl htl rfl hps hr1 hr2 (by omega) h4 rfl rfl
          · by_cases h5 : n ≤ 72057594037927935
            · exact law_C l a cap n _ _ _ _ w hC hl' ht he hn rfl htl rfl hps hr1 hr2 (by omega) h5 rfl rfl
            · exact law_D l a cap n _ _ _ _ w hC hl' ht he hn rfl htl rfl hps hr1 hr2 (by omega) rfl rfl
end Numbers
end Go.Proofs.YtgfapncaddgmpaaDoor
