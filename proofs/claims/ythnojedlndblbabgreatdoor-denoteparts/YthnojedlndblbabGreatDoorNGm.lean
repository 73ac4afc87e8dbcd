/- texts put together: NPure NPure2 -/
import Derived.Test.YthnojedlndblbabGreatDoorNGj
namespace Go.Proofs.YthnojedlndblbabGreatDoor
open Go Go.RowKit

theorem num_in {n : Int} : numP n = true ↔ inM n := by unfold numP inM; simp
theorem rl_good {c : Co} : ∀ {l : List (Int × Int)} {last : Int}, l.Pairwise (fun x y => x.1 < y.1) → (∀ x ∈ l, last < x.1 ∧ x.1 < szC c ∧ opAt c x.1 = true ∧ inM x.2) → rlF c last l = true
  | [], _, _, _ => rfl
  | x :: r, last, hp, h => by
    rw [List.pairwise_cons] at hp
    obtain ⟨h1, h2, h3, h4⟩ := h x (by simp)
    rw [rlF, decide_eq_false (by omega), decide_eq_false (by omega), h3, num_in.2 h4, rl_good hp.2 fun y hy => ⟨hp.1 y hy, (h y (by simp [hy])).2⟩]
    rfl
theorem gd_rl {c : Co} {l : List (Int × Int)} (h : Gd c l) (hf : ∀ x ∈ l, inM x.2) : rlP c l = true := by
  obtain ⟨h1, h2⟩ := h.rise
  refine rl_good h1 fun x hx => ?_
  obtain ⟨t, ht, hw⟩ := h.each x hx
  have h3 := (term_in c _ t ht).2.1
  have h4 := szC_pos t
  refine ⟨by have := h2 x hx; omega, by omega, ?_, hf x hx⟩
  unfold opAt
  rw [ht]
  exact hw
theorem inM_one : inM 1000000 := by unfold inM; omega
theorem beg_cases (fs : Fs) (day : Int) (c : Co) : (begR fs day c = (acq fs day c 0 1000000, 0) ∧ (chkP c == 0 && (dayP day && rfP fs)) = true) ∨ (begR fs day c = (r0, 150) ∧ (chkP c == 0 && (dayP day && rfP fs)) = false) := by
  unfold begR
  cases (chkP c == 0 && (dayP day && rfP fs)) with
  | true => exact .inl ⟨rfl, rfl⟩
  | false => exact .inr ⟨rfl, rfl⟩
end Go.Proofs.YthnojedlndblbabGreatDoor
namespace Go.Proofs.YthnojedlndblbabGreatDoor
open Go Go.RowKit

theorem chk_iff {c : Co} : chkP c = 0 ↔ (isOfP 4 c = true ∧ ahC c = false) := by
  cases h : isOfP 4 c with
  | false => rw [chk_no h]; simp
  | true =>
    rw [chk_yes h]
    cases ahC c <;> simp
def giveC (a : Co) : Co := .mk 25 0 [] [a]
theorem chk_give {a : Co} (h : chkP (giveC a) = 0) : chkP a = 0 := by
  obtain ⟨h1, h2⟩ := chk_iff.1 h
  have h3 := (isOfP_eq 4 (giveC a)).1 h1
  have hp := szC_pos a
  unfold giveC at h3
  rw [okT, szC] at h3
  have hk : kOf 25 4 = some [4] := rfl
  have ho : ownC 25 0 [] = true := rfl
  rw [hk, ho] at h3
  simp only [okTs, szL, List.length_cons, List.length_nil, Bool.and_true, Bool.and_eq_true, beq_self_eq_true, decide_eq_true_eq, true_and] at h3
  refine chk_iff.2 ⟨(isOfP_eq 4 a).2 ⟨okT_up 4 1 a h3.1.2, by omega⟩, ?_⟩
  unfold giveC at h2
  rw [ahC, ahL, ahL] at h2
  simp only [Bool.or_eq_false_iff] at h2
  exact h2.2.1
theorem chk_both {a b : Co} (h : chkP (bothC a b) = 0) : chkP a = 0 ∧ chkP b = 0 := by
  obtain ⟨h1, h2⟩ := chk_iff.1 h
  rw [both_ah, Bool.or_eq_false_iff] at h2
  obtain ⟨h3, h4⟩ := both_parts h1
  exact ⟨chk_iff.2 ⟨h3, h2.1⟩, chk_iff.2 ⟨h4, h2.2⟩⟩
def numC (n : Int) : Co := .mk 1 n [] []
def timC (n : Int) (c : Co) : Co := .mk 26 0 [] [numC n, c]
theorem tim_is (n : Int) (c : Co) : isOfP 4 (timC n c) = true ↔ (inM n ∧ okT 4 2 c = true ∧ 2 + szC c ≤ 2000) := by
  rw [isOfP_eq]
  show okT 4 1 (.mk 26 0 [] [.mk 1 n [] [], c]) = true ∧ szC (.mk 26 0 [] [.mk 1 n [] [], c]) ≤ 2000 ↔ _
  rw [okT, szC]
  have hk : kOf 26 4 = some [0, 4] := rfl
  have hk1 : kOf 1 0 = some [] := rfl
  have ho : ownC 26 0 [] = true := rfl
  have ho1 : ownC 1 n [] = inW n (-1000000000000000) 1000000000000000 := by unfold ownC; show (inW n (-1000000000000000) 1000000000000000 && true) = _; rw [Bool.and_true]
  rw [hk, ho]
  simp only [okT, hk1, ho1, okTs, szL, szC, List.length_cons, List.length_nil, Bool.and_true, Bool.and_eq_true, beq_self_eq_true, decide_eq_true_eq, true_and, inW, inM]
  constructor
  · rintro ⟨h1, h2⟩; refine ⟨?_, ?_, ?_⟩ <;> first | omega | simp_all
  · rintro ⟨h1, h2, h3⟩; refine ⟨⟨?_, ?_⟩, ?_⟩ <;> first | omega | exact ⟨by omega, h2⟩ | skip
theorem chk_tim {n : Int} {c : Co} (h : chkP (timC n c) = 0) : chkP c = 0 := by
  obtain ⟨h1, h2⟩ := chk_iff.1 h
  obtain ⟨-, h3, h4⟩ := (tim_is n c).1 h1
  refine chk_iff.2 ⟨(isOfP_eq 4 c).2 ⟨okT_up 4 1 c h3, by omega⟩, ?_⟩
  unfold timC at h2
  rw [ahC, ahL, ahL, ahL] at h2
  simp only [Bool.or_eq_false_iff] at h2
  exact h2.2.2.1
theorem beg_once {fs : Fs} {day : Int} {c : Co} {r : R2} (h : begR fs day (timC 1000000 c) = (r, 0)) : ∃ r', begR fs day c = (r', 0) ∧ r = shR 2 r' := by
  rcases beg_cases fs day (timC 1000000 c) with ⟨h1, h2⟩ | ⟨h1, -⟩
  · rw [h1] at h
    simp only [Prod.mk.injEq, and_true] at h
    subst h
    simp only [Bool.and_eq_true, beq_iff_eq] at h2
    refine ⟨acq fs day c 0 1000000, ?_, acq_once fs day c⟩
    unfold begR
    rw [chk_tim h2.1, h2.2.1, h2.2.2]
    rfl
  · rw [h1] at h; cases h
theorem beg_give {fs : Fs} {day : Int} {a : Co} {r : R2} (h : begR fs day (giveC a) = (r, 0)) : ∃ r', begR fs day a = (r', 0) ∧ r = shR 1 (ngR r') := by
  rcases beg_cases fs day (giveC a) with ⟨h1, h2⟩ | ⟨h1, -⟩
  · rw [h1] at h
    simp only [Prod.mk.injEq, and_true] at h
    subst h
    simp only [Bool.and_eq_true, beq_iff_eq] at h2
    refine ⟨acq fs day a 0 1000000, ?_, acq_give fs day a inM_one⟩
    unfold begR
    rw [chk_give h2.1, h2.2.1, h2.2.2]
    rfl
  · rw [h1] at h; cases h
theorem beg_both {fs : Fs} {day : Int} {a b : Co} {r : R2} (h : begR fs day (bothC a b) = (r, 0)) : ∃ r' r'', begR fs day a = (r', 0) ∧ begR fs day b = (r'', 0) ∧ r = R2.cat (shR 1 r') (shR (1 + szC a) r'') := by
  rcases beg_cases fs day (bothC a b) with ⟨h1, h2⟩ | ⟨h1, -⟩
  · rw [h1] at h
    simp only [Prod.mk.injEq, and_true] at h
    subst h
    simp only [Bool.and_eq_true, beq_iff_eq] at h2
    obtain ⟨ha, hb⟩ := chk_both h2.1
    refine ⟨acq fs day a 0 1000000, acq fs day b 0 1000000, ?_, ?_, acq_both fs day a b 1000000⟩
    · unfold begR
      rw [ha, h2.2.1, h2.2.2]
      rfl
    · unfold begR
      rw [hb, h2.2.1, h2.2.2]
      rfl
  · rw [h1] at h; cases h
end Go.Proofs.YthnojedlndblbabGreatDoor
