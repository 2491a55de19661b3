/- What FnMemory asks of locked, stored and unlocked words: plain mathematics. -/
import Derived.Test.YtbkhghndlcmfiaaDoorWordImplLock
import Derived.Test.YtbkhghndlcmfiaaDoorWordTick
import Derived.Test.YtbkhghndlcmfiaaDoorWordVals
namespace Go.Proofs.YtbkhghndlcmfiaaDoor
open Go.RowKit
namespace Words

theorem put_ok {c : Int} {ws : List W3} {i : Int} {x : W3} (h : memOk c ws = true) (hx : wOk c x = true) : memOk c (put ws i x) = true := by
  obtain ⟨h1, h2, h3, h4⟩ := memOk_out h
  refine memOk_mk ⟨by rw [put_length]; exact h1, h2, h3⟩ fun j hj => ?_
  have hj' : j < ws.length := by rw [put_length] at hj; exact hj
  have e : (put ws i x)[j] = if i.toNat = j then x else ws[j] := by simp only [put, List.getElem_set]
  rw [e]
  split
  · exact hx
  · exact h4 j hj'
theorem put_can {c : Int} {ws : List W3} {i : Int} {x : W3} (h : canAt c ws i = true) (hx : wOk c x = true) : canAt c (put ws i x) i = true := by
  obtain ⟨h1, h2, h3⟩ := canAt_out h
  unfold canAt
  rw [put_ok h1 hx]
  simp [h2, h3]
theorem put_at {c : Int} {ws : List W3} {i : Int} {x : W3} (h : canAt c ws i = true) : wAt (put ws i x) i = x := by
  obtain ⟨h1, h2, h3⟩ := canAt_out h
  have hl := (memOk_out h1).1
  have hi : i.toNat < ws.length := by omega
  simp [wAt, put, List.getD, hi]
theorem wOk_parts {c : Int} {x : W3} (h : wOk c x = true) : 0 ≤ x.val ∧ x.val ≤ 65535 ∧ 0 ≤ x.ver ∧ x.ver ≤ c ∧ 0 ≤ x.own ∧ x.own ≤ 99 := of_decide_eq_true h
theorem can_ok {c : Int} {ws : List W3} {i : Int} (h : canAt c ws i = true) : memOk c ws = true := (canAt_out h).1

/-- all that the law asks behind a lock -/
theorem locked {c : Int} {ws : List W3} {i who : Int} (h : lockMay c ws i who = true) :
    memOk c (lockTo c ws i who) = true ∧ lockMay c (lockTo c ws i who) i who = false ∧ storeMay c (lockTo c ws i who) i who 77 = true ∧ storeMay c (lockTo c ws i who) i (who % 99 + 1) 5 = false ∧
    unlockMay c (storeTo c (lockTo c ws i who) i who 77) i who c = true ∧
    memOk c (unlockTo c (storeTo c (lockTo c ws i who) i who 77) i who c) = true ∧
    valAt c (unlockTo c (storeTo c (lockTo c ws i who) i who 77) i who c) i = 77 ∧ verAt c (unlockTo c (storeTo c (lockTo c ws i who) i who 77) i who c) i = c ∧ ownAt c (unlockTo c (storeTo c (lockTo c ws i who) i who 77) i who c) i = 0 := by
  obtain ⟨hc, h1, h2, h3⟩ := lock_yes h
  obtain ⟨a0, a1, a2, a3, a4, a5⟩ := wOk_parts (wAt_wf hc)
  obtain ⟨-, hc0, -, -⟩ := memOk_out (can_ok hc)
  have eL : lockTo c ws i who = put ws i ⟨(wAt ws i).val, (wAt ws i).ver, who⟩ := by unfold lockTo; rw [if_pos h]
  have kL : wOk c ⟨(wAt ws i).val, (wAt ws i).ver, who⟩ = true := decide_eq_true ⟨a0, a1, a2, a3, by show 0 ≤ who; omega, by show who ≤ 99; omega⟩
  have cL := put_can hc kL
  have wL := put_at (x := ⟨(wAt ws i).val, (wAt ws i).ver, who⟩) hc
  rw [← eL] at cL wL
  obtain ⟨w1, hw1⟩ : ∃ w1, lockTo c ws i who = w1 := ⟨_, rfl⟩
  rw [hw1] at cL wL ⊢
  have mS : storeMay c w1 i who 77 = true := by unfold storeMay mine isWho; rw [cL, wL]; simp [h1, h2]
  have eS : storeTo c w1 i who 77 = put w1 i ⟨77, (wAt w1 i).ver, (wAt w1 i).own⟩ := by unfold storeTo; rw [if_pos mS]
  rw [wL] at eS
  have kS : wOk c ⟨77, (wAt ws i).ver, who⟩ = true := decide_eq_true ⟨by show (0 : Int) ≤ 77; omega, by show (77 : Int) ≤ 65535; omega, a2, a3, by show 0 ≤ who; omega, by show who ≤ 99; omega⟩
  have cS := put_can cL kS
  have wS := put_at (x := ⟨77, (wAt ws i).ver, who⟩) cL
  rw [← eS] at cS wS
  obtain ⟨w2, hw2⟩ : ∃ w2, storeTo c w1 i who 77 = w2 := ⟨_, rfl⟩
  rw [hw2] at cS wS ⊢
  have mU : unlockMay c w2 i who c = true := by unfold unlockMay mine isWho; rw [cS, wS]; simp [h1, h2, a3]
  have eU : unlockTo c w2 i who c = put w2 i ⟨(wAt w2 i).val, c, 0⟩ := by unfold unlockTo; rw [if_pos mU]
  rw [wS] at eU
  have kU : wOk c ⟨77, c, 0⟩ = true := decide_eq_true ⟨by show (0 : Int) ≤ 77; omega, by show (77 : Int) ≤ 65535; omega, hc0, by show c ≤ c; omega, by show (0 : Int) ≤ 0; omega, by show (0 : Int) ≤ 99; omega⟩
  have cU := put_can cS kU
  have wU := put_at (x := ⟨77, c, 0⟩) cS
  rw [← eU] at cU wU
  obtain ⟨w3, hw3⟩ : ∃ w3, unlockTo c w2 i who c = w3 := ⟨_, rfl⟩
  rw [hw3] at cU wU ⊢
  refine ⟨can_ok cL, ?_, mS, ?_, mU, can_ok cU, ?_, ?_, ?_⟩
  · unfold lockMay; rw [wL]; simp; intro _ _; omega
  · have hne : ¬ who = who % 99 + 1 := by omega
    unfold storeMay mine; rw [wL]; simp [hne]
  · unfold valAt; rw [if_pos cU, wU]
  · unfold verAt; rw [if_pos cU, wU]
  · unfold ownAt; rw [if_pos cU, wU]

theorem tick_ok {c : Int} {ws : List W3} (h : memOk c ws = true) (hc : c < 1000000) : memOk (c + 1) ws = true := by
  obtain ⟨h1, h2, h3, h4⟩ := memOk_out h
  refine memOk_mk ⟨h1, by omega, by omega⟩ fun j hj => ?_
  obtain ⟨a0, a1, a2, a3, a4, a5⟩ := wOk_parts (h4 j hj)
  exact decide_eq_true ⟨a0, a1, a2, by omega, a4, a5⟩
theorem tick_values {c : Int} {ws : List W3} (h : memOk c ws = true) (hc : c < 1000000) : values (c + 1) ws = values c ws := by
  unfold values; rw [if_pos h, if_pos (tick_ok h hc)]
end Words
end Go.Proofs.YtbkhghndlcmfiaaDoor
