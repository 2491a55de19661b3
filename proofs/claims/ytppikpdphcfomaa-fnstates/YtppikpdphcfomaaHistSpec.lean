/- HistOk, Stamps and LastWriter, as specified. -/
import Derived.Test.YtppikpdphcfomaaHistRow
import Derived.Test.YtppikpdphcfomaaLogSpec
set_option linter.unusedVariables false
set_option linter.unusedSimpArgs false
namespace Go.Proofs.Ytppikpdphcfomaa
open Go.RowKit
namespace Hist
open Bas Flat Logs

theorem ret_hist {ls : List Wr} {b : Bool} (h : histOk ls = b) : Ending.returned (.bool b) = .returned (.bool (histOk ls)) := by rw [h]
theorem histOk_mk {ls : List Wr} (hl : ls.length ≤ 200) (h1 : ∀ j (h : j < ls.length), entOk ls[j] = true) (h2 : ∀ j k (hj : j < ls.length) (hk : k < ls.length), j < k → ls[j].s ≠ ls[k].s) : histOk ls = true :=
  histOk_iff.2 ⟨hl, fun e he => by obtain ⟨j, hj, rfl⟩ := List.mem_iff_getElem.1 he; exact h1 j hj, List.nodup_iff_pairwise_ne.2 (List.pairwise_map.2 (List.pairwise_iff_getElem.2 fun i j hi hj hij => h2 i j hi hj hij))⟩

set_option maxRecDepth 100000 in
set_option maxHeartbeats 6400000 in
theorem specHist (v : Value) (ls : List Wr) (B : Nat) (w : World) (hv : SeesW B w v ls) (hB : B ≤ w.heap.size) :
    Calls Try.prog 12 #[v] w fun e w' => e = .returned (.bool (histOk ls)) ∧ Below w.heap.size w w' := by
  have hroom := hv.room
  obtain ⟨a, cap, rfl⟩ := hv.form
  obtain ⟨n, hn⟩ : ∃ n, ls.length = n := ⟨_, rfl⟩
  have hm : (n : Int) ≤ 9223372036854775807 := by unfold maxLen at hroom; omega
  obtain ⟨g, hg⟩ : ∃ g, w.heap.size = g := ⟨_, rfl⟩
  rw [hg] at hB ⊢
  by_cases h8 : n ≤ 200
  · have HL : Hid (ls.length ≤ 200) := by show _ ≤ _; omega
    have HN := (show Hid _ from hn)
    rw [hn] at hv ⊢
    have h8' : (n : Int) ≤ 200 := by omega
    have HV := (show Hid _ from hv)
    have b0 : Below g w w := Below.refl _ _
    clear hroom hn hv
    go_enter Try.func12, Try.ntmps12
    go_wp2
    go_loopw [3] (fun iv wr => ∃ i : Nat, i ≤ n ∧ iv = .int .i64 i ∧ Hid (∀ j (h : j < ls.length), j < i → entOk ls[j] = true) ∧ Hid (∀ j k (hj : j < ls.length) (hk : k < ls.length), j < k → k < i → ls[j].s ≠ ls[k].s) ∧ Below g w wr) (fun iv _ => n - (intOf iv).toNat)
    case atStart => exact ⟨0, by omega, rfl, fun j _ h => by omega, fun j k _ _ _ h => by omega, b0⟩
    case round =>
      obtain ⟨i, hi, rfl, HE, HD, hb⟩ := hrel
      clear b0
      have hsz : g ≤ wr.heap.size := by have := hb.size; omega
      by_cases hlt : i < n
      · have hil : i < ls.length := by have := HN.out; omega
        obtain ⟨b, off, rfl, hbB, hc⟩ := SeesW.open (SeesW.on HV.out hb hB) (Nat.lt_of_le_of_lt (Nat.zero_le i) hil)
        obtain ⟨p, c, e0, e1, e2, p2⟩ := hc i hil
        have hcc := (show Hid _ from hc)
        obtain ⟨x, hx⟩ : ∃ x, ls[i] = x := ⟨_, rfl⟩
        have HX := (show Hid (ls[i] = x) from hx)
        rw [hx] at e0 e1 e2 p2
        have i1 : (i : Int) < n := by omega
        have c1 := fun W => Ops.innC x.s 1 1000000 W
        have c2 := fun W => Ops.innC x.who 1 99 W
        have c3 := Logs.specOk _ x.ps B wr p2
        obtain ⟨r1, h1⟩ : ∃ r, Ops.inn 1 1000000 x.s = r := ⟨_, rfl⟩
        obtain ⟨r2, h2⟩ : ∃ r, Ops.inn 1 99 x.who = r := ⟨_, rfl⟩
        obtain ⟨r3, h3⟩ : ∃ r, rowsOk x.ps = r := ⟨_, rfl⟩
        rw [h1] at c1; rw [h2] at c2; rw [h3] at c3
        have H1 := (show Hid _ from h1); have H2 := (show Hid _ from h2); have H3 := (show Hid _ from h3)
        have hmem : ls[i] ∈ ls := List.getElem_mem hil
        obtain ⟨m, hm'⟩ : ∃ m, x.ps.length = m := ⟨_, rfl⟩
        rw [hm'] at e2 c3
        clear hc h1 h2 h3 hx p2 hm'
        cases r1
        · have HF : Hid (histOk ls = false) := histOk_ent hmem (by rw [HX.out]; exact entOk_s H1.out)
          clear c2 c3 H2 H3 hmem
          go_wp2_with (go_at_call 45; refine (c1 _).mono ?_; rintro e w1 ⟨rfl, rfl⟩)
          go_ret
          exact ⟨ret_hist HF.out, hb⟩
        cases r2
        · have HF : Hid (histOk ls = false) := histOk_ent hmem (by rw [HX.out]; exact entOk_who H2.out)
          clear c3 H3 hmem
          go_wp2_with (first | (go_at_call_of 45 (Value.int .i64 1000000); refine (c1 _).mono ?_; rintro e w1 ⟨rfl, rfl⟩) | (go_at_call 45; refine (c2 _).mono ?_; rintro e w1 ⟨rfl, rfl⟩))
          go_ret
          exact ⟨ret_hist HF.out, hb⟩
        cases r3
        · have HF : Hid (histOk ls = false) := histOk_ent hmem (by rw [HX.out]; exact entOk_ps H3.out)
          clear hmem
          go_wp2_with (first | (go_at_call_of 45 (Value.int .i64 1000000); refine (c1 _).mono ?_; rintro e w1 ⟨rfl, rfl⟩) | (go_at_call 45; refine (c2 _).mono ?_; rintro e w1 ⟨rfl, rfl⟩) | (go_at_call 46; refine c3.mono ?_; rintro e w1 ⟨rfl, rfl⟩))
          go_ret
          exact ⟨ret_hist HF.out, hb⟩
        have HXE : Hid (entOk ls[i] = true) := by show _ = _; rw [HX.out]; exact entOk_mk H1.out H2.out H3.out
        clear hmem
        go_wp2_with (first | (go_at_call_of 45 (Value.int .i64 1000000); refine (c1 _).mono ?_; rintro e w1 ⟨rfl, rfl⟩) | (go_at_call 45; refine (c2 _).mono ?_; rintro e w1 ⟨rfl, rfl⟩) | (go_at_call 46; refine c3.mono ?_; rintro e w1 ⟨rfl, rfl⟩))
        clear c1 c2 c3 H1 H2 H3 e0 e1 e2
        go_loopw [4] (fun kv ws => ∃ k : Nat, k ≤ i ∧ kv = .int .i64 k ∧ Hid (∀ j (h : j < ls.length), j < k → ls[j].s ≠ ls[i].s) ∧ Below g w ws) (fun kv _ => i - (intOf kv).toNat)
        case atStart => exact ⟨0, Nat.zero_le _, rfl, fun j _ h => by omega, hb⟩
        case round =>
          obtain ⟨k, hk, rfl, HK, hbk⟩ := hrel
          have hszk : g ≤ wr.heap.size := by have := hbk.size; omega
          by_cases hki : k < i
          · have hkl : k < ls.length := by omega
            obtain ⟨b', off', eb, hbB', hc'⟩ := SeesW.open (SeesW.on HV.out hbk hB) (Nat.lt_of_le_of_lt (Nat.zero_le i) hil)
            simp only [Option.some.injEq, Addr.mk.injEq, and_true] at eb
            obtain ⟨rfl, rfl⟩ := eb
            obtain ⟨p1, c1, f0, -, -, -⟩ := hc' i hil
            obtain ⟨p2, c2, f1, -, -, -⟩ := hc' k hkl
            obtain ⟨xi, hxi⟩ : ∃ x, ls[i].s = x := ⟨_, rfl⟩
            obtain ⟨xk, hxk⟩ : ∃ x, ls[k].s = x := ⟨_, rfl⟩
            rw [hxi] at f0
            rw [hxk] at f1
            have HXI := (show Hid (ls[i].s = xi) from hxi); have HXK := (show Hid (ls[k].s = xk) from hxk)
            have k1 : (k : Int) < i := by omega
            have k2 : (k : Int) < n := by omega
            have k3 : (i : Int) < n := by omega
            clear hc' hxi hxk
            by_cases he : xk = xi
            · have HF : Hid (histOk ls = false) := histOk_two hkl hil hki (by rw [HXI.out, HXK.out]; exact he)
              have he' : (xk == xi) = true := by simpa using he
              clear he
              go_wp2_with fail
              go_region
              all_goals
                go_wp2
                go_ret
                exact ⟨ret_hist HF.out, by first | exact hbk.drew | exact hbk.drew.drew | exact hbk⟩
            · have he' : (xk == xi) = false := by simpa using he
              have HNE := (show Hid (¬ xk = xi) from he)
              clear he
              go_wp2_with fail
              go_region
              all_goals
                go_wp2
                go_roundw
                case rel => exact ⟨k + 1, by omega, by go_num, fun j hj hjk => by
                  rcases Nat.lt_succ_iff_lt_or_eq.1 hjk with h | h
                  · exact HK.out j hj h
                  · subst h; rw [HXK.out, HXI.out]; exact HNE.out, by first | exact hbk.drew | exact hbk.drew.drew | exact hbk⟩
                case measure => simp [intOf]; omega
          · obtain rfl : k = i := by omega
            have i2 : ¬ (k : Int) < k := by omega
            go_wp2
            go_roundw
            case rel => exact ⟨k + 1, by omega, by go_num, fun j hj hjk => by
              rcases Nat.lt_succ_iff_lt_or_eq.1 hjk with h | h
              · exact HE.out j hj h
              · subst h; exact HXE.out, fun j k' hj hk' hjk hkk => by
              rcases Nat.lt_succ_iff_lt_or_eq.1 hkk with h | h
              · exact HD.out j k' hj hk' hjk h
              · subst h; exact HK.out j hj hjk, hbk⟩
            case measure => simp [intOf]; omega
      · obtain rfl : i = n := by omega
        have HT : Hid (histOk ls = true) := histOk_mk HL.out (fun j hj => HE.out j hj (by have := HN.out; omega)) (fun j k hj hk hjk => HD.out j k hj hk hjk (by have := HN.out; omega))
        have i1 : ¬ (i : Int) < i := by omega
        go_wp2
        go_ret
        exact ⟨ret_hist HT.out, hb⟩
  · have HF : Hid (histOk ls = false) := histOk_len (by omega)
    rw [hn]
    have h8' : (200 : Int) < n := by omega
    clear hn hroom hv
    go_enter Try.func12, Try.ntmps12
    go_wp2
    go_ret
    exact ⟨ret_hist HF.out, Below.refl _ _⟩
end Hist
end Go.Proofs.Ytppikpdphcfomaa
