/- the text SApartN -/
import Derived.Test.YtmdpccjhjhkpgaaGreatDoorSApartMC
namespace Go.Proofs.YtmdpccjhjhkpgaaGreatDoor
open Go Go.RowKit

theorem between (f : Nat → Nat) (h0 : f 0 = 0) (n : Nat) : ∀ N, n < f N → ∃ i, i < N ∧ f i ≤ n ∧ n < f (i + 1)
  | 0, h => by omega
  | N + 1, h => by
    by_cases h1 : n < f N
    · obtain ⟨i, a, b⟩ := between f h0 n N h1
      exact ⟨i, by omega, b⟩
    · exact ⟨N, by omega, by omega, h⟩
theorem dn_ex {n : Nat} (h : n ≤ 73048) : ∃ y m d, Dt y m d ∧ dn y m d = n := by
  obtain ⟨y, hy, h1, h2⟩ := between yd rfl n 200 (by rw [yd_all]; omega)
  rw [yd_step] at h2
  obtain ⟨m, hm, h3, h4⟩ := between (md (1900 + y)) rfl (n - yd y) 12 (by rw [md_twelve]; omega)
  rw [md_step] at h4
  refine ⟨y, m, n - yd y - md (1900 + y) m + 1, ⟨hy, hm, by omega, by omega⟩, ?_⟩
  unfold dn
  omega
theorem shL_inj {y m d y' m' d' : Nat} (h : Dt y m d) (h' : Dt y' m' d') (e : shL y m d = shL y' m' d') : y = y' ∧ m = m' ∧ d = d' := by
  unfold shL at e
  have hd := h.dle
  have hd' := h'.dle
  obtain ⟨h1, h2, -⟩ := h
  obtain ⟨h1', h2', -⟩ := h'
  have e1 := List.append_inj' e (by rw [dg_len, dg_len])
  have e2 := List.append_inj' e1.1 rfl
  have e3 := List.append_inj' e2.1 (by rw [dg_len, dg_len])
  have e4 := List.append_inj' e3.1 rfl
  have q1 := dg_inj 4 _ _ (by omega) (by omega) e4.1
  have q2 := dg_inj 2 _ _ (by omega) (by omega) e3.2
  have q3 := dg_inj 2 _ _ (by omega) (by omega) e1.2
  omega
theorem showL_pos {n : Int} (h0 : 0 ≤ n) (h1 : n ≤ 1000000000000000) : showL n = showPos ((n.toNat : Nat) : Int) := by
  unfold showL
  rw [clampI_in (by omega) h1, if_neg (by omega), Int.toNat_of_nonneg h0]
theorem showL_inj {n m : Int} (h0 : 0 ≤ n) (h1 : n ≤ 1000000000000000) (h2 : 0 ≤ m) (h3 : m ≤ 1000000000000000) (e : showL n = showL m) : n = m := by
  rw [showL_pos h0 h1, showL_pos h2 h3] at e
  have p1 := Nm.parse_pos (c := n.toNat) (by omega)
  have p2 := Nm.parse_pos (c := m.toNat) (by omega)
  rw [e, p2] at p1
  have := congrArg Prod.fst p1
  simp only at this
  omega
theorem showL_form {n : Int} (h0 : 0 ≤ n) (h1 : n ≤ 1000000000000000) : ∃ x y, x.all Nm.isD = true ∧ x ≠ [] ∧ y.all Nm.isD = true ∧ (showL n = x ∨ showL n = x ++ 46 :: y) := by
  rw [showL_pos h0 h1]
  unfold showPos
  rw [itoa_nonneg (by omega)]
  refine ⟨Lib.decDigits (((n.toNat : Nat) : Int) / 1000000).toNat, if n.toNat % 1000000 = 0 then [] else fracDigits ((n.toNat % 1000000 : Nat) : Int), Nm.dec_all _, Nm.dec_ne _, ?_, ?_⟩
  · split
    · rfl
    · rename_i h
      have := (Nm.frac_facts (r := n.toNat % 1000000) (by omega) h).1
      unfold Nm.isDigL at this
      simp only [Bool.and_eq_true] at this
      exact this.2
  · by_cases h : n.toNat % 1000000 = 0
    · left
      rw [if_pos (by omega), List.append_nil]
    · right
      rw [if_neg (by omega), if_neg h]
      rfl
/-- Which kind a word is of. -/
def clw (l : List UInt8) : Int := bif btw 48 57 ((l.headD 0).toNat : Nat) then (bif l.contains 45 then 6 else 5) else bif btw 65 90 ((l.headD 0).toNat : Nat) then 7 else bif decide (l ∈ kws) then 8 else 10
theorem isD_btw {c : UInt8} (h : Nm.isD c = true) : btw 48 57 (c.toNat : Nat) = true := by
  unfold Nm.isD at h
  simp only [Bool.and_eq_true, decide_eq_true_eq] at h
  exact btw_iff.2 (by omega)
theorem isD_no45 {l : List UInt8} (h : l.all Nm.isD = true) : l.contains 45 = false := by
  rw [Bool.eq_false_iff]
  intro hc
  have := List.all_eq_true.1 h 45 (by simpa using hc)
  exact absurd this (by decide)
theorem all_isD_wc {l : List UInt8} (h : l.all Nm.isD = true) : l.all wc = true := by
  rw [List.all_eq_true] at h ⊢
  exact fun x hx => isD_wc (h x hx)
/-- What is written of a word's node. -/
def wt (k : Int) (tx : List UInt8) (n : Int) : List UInt8 := bif k == 5 then showL n else bif k == 6 then dsh n.toNat else bif k == 8 then tru n else tx
def isW (k : Int) : Bool := k == 5 || k == 6 || k == 7 || k == 8 || k == 10
theorem wt_facts {k : Int} {tx : List UInt8} {n : Int} (hw : isW k = true) (ho : own k tx n = true) : (wt k tx n).all wc = true ∧ clw (wt k tx n) = k ∧ wt k tx n ≠ [] := by
  unfold isW at hw
  simp only [Bool.or_eq_true, beq_iff_eq] at hw
  rcases hw with (((rfl | rfl) | rfl) | rfl) | rfl
  · have ho' : (decide (tx = []) && btw 0 1000000000000000 n) = true := ho
    simp only [Bool.and_eq_true] at ho'
    have hn := btw_iff.1 ho'.2
    show (showL n).all wc = true ∧ clw (showL n) = 5 ∧ showL n ≠ []
    obtain ⟨x, y, h1, h2, h3, h4⟩ := showL_form hn.1 hn.2
    obtain ⟨c, q, rfl⟩ := List.exists_cons_of_ne_nil h2
    have hc : btw 48 57 (c.toNat : Nat) = true := isD_btw (by simp only [List.all_cons, Bool.and_eq_true] at h1; exact h1.1)
    have hx := isD_no45 h1
    have hy := isD_no45 h3
    rcases h4 with h4 | h4
    · rw [h4]
      refine ⟨all_isD_wc h1, ?_, by simp⟩
      unfold clw
      rw [List.headD_cons, hc, hx]
      rfl
    · rw [h4]
      refine ⟨by rw [List.all_append, all_isD_wc h1, List.all_cons, all_isD_wc h3]; rfl, ?_, by simp⟩
      have h45 : (c :: q ++ 46 :: y).contains 45 = false := by
        rw [Bool.eq_false_iff] at hx hy ⊢
        intro hh
        have : (45 : UInt8) ∈ c :: q ++ 46 :: y := by simpa using hh
        rcases List.mem_append.1 this with h | h
        · exact hx (by simpa using h)
        · rcases List.mem_cons.1 h with h | h
          · exact absurd h (by decide)
          · exact hy (by simpa using h)
      unfold clw
      rw [h45, List.cons_append, List.headD_cons, hc]
      rfl
  · have ho' : (decide (tx = []) && btw 0 73048 n) = true := ho
    simp only [Bool.and_eq_true] at ho'
    have hn := btw_iff.1 ho'.2
    show (dsh n.toNat).all wc = true ∧ clw (dsh n.toNat) = 6 ∧ dsh n.toNat ≠ []
    obtain ⟨y, m, d, h1, h2⟩ := dn_ex (n := n.toNat) (by omega)
    rw [← h2, dsh_eq h1]
    have hh : shL y m d = dg 4 (1900 + y) ++ 45 :: (dg 2 (m + 1) ++ 45 :: dg 2 d) := by simp [shL]
    obtain ⟨c, q, hq⟩ := List.exists_cons_of_ne_nil (l := dg 4 (1900 + y)) (fun h => by have := dg_len 4 (1900 + y); rw [h] at this; simp at this)
    have hall := dg_isD 4 (1900 + y)
    have hc : btw 48 57 (c.toNat : Nat) = true := isD_btw (by rw [hq] at hall; simp only [List.all_cons, Bool.and_eq_true] at hall; exact hall.1)
    rw [hh]
    refine ⟨by rw [List.all_append, List.all_cons, List.all_append, List.all_cons, all_isD_wc hall, all_isD_wc (dg_isD 2 _), all_isD_wc (dg_isD 2 _)]; rfl, ?_, by rw [hq]; simp⟩
    unfold clw
    rw [show (dg 4 (1900 + y) ++ 45 :: (dg 2 (m + 1) ++ 45 :: dg 2 d)).contains 45 = true by simp, hq, List.cons_append, List.headD_cons, hc]
    rfl
  · have ho' : (n == 0 && cur tx) = true := ho
    simp only [Bool.and_eq_true] at ho'
    have h := ho'.2
    unfold cur at h
    simp only [Bool.and_eq_true, decide_eq_true_eq] at h
    show tx.all wc = true ∧ clw tx = 7 ∧ tx ≠ []
    cases tx with
    | nil => simp at h
    | cons c q =>
      have hc : btw 65 90 (c.toNat : Nat) = true := by have := h.2; simp only [List.all_cons, Bool.and_eq_true] at this; exact this.1
      have hb := btw_iff.1 hc
      refine ⟨?_, ?_, by simp⟩
      · rw [List.all_eq_true]
        intro x hx
        have hx2 : btw 65 90 (x.toNat : Nat) = true := List.all_eq_true.1 h.2 x hx
        simp [wc, hx2]
      · unfold clw
        rw [List.headD_cons, hc, show btw 48 57 (c.toNat : Nat) = false by rw [Bool.eq_false_iff]; intro hx; have := btw_iff.1 hx; omega]
        rfl
  · show (tru n).all wc = true ∧ clw (tru n) = 8 ∧ tru n ≠ []
    unfold tru
    cases n == 0
    · exact ⟨by decide, by decide, by decide⟩
    · exact ⟨by decide, by decide, by decide⟩
  · have ho' : (n == 0 && nof tx) = true := ho
    simp only [Bool.and_eq_true] at ho'
    show tx.all wc = true ∧ clw tx = 10 ∧ tx ≠ []
    obtain ⟨c, q, rfl, hc⟩ := nof_head ho'.2
    refine ⟨nof_wc ho'.2, ?_, by simp⟩
    unfold clw
    rw [List.headD_cons, show btw 48 57 (c.toNat : Nat) = false by rw [Bool.eq_false_iff]; intro hx; have := btw_iff.1 hx; omega, show btw 65 90 (c.toNat : Nat) = false by rw [Bool.eq_false_iff]; intro hx; have := btw_iff.1 hx; omega, decide_eq_false (nof_kw ho'.2)]
    rfl
theorem wt_inj {k k' : Int} {tx tx' : List UInt8} {n n' : Int} (hw : isW k = true) (hw' : isW k' = true) (ho : own k tx n = true) (ho' : own k' tx' n' = true) (e : wt k tx n = wt k' tx' n') : k = k' ∧ tx = tx' ∧ n = n' := by
  have hk : k = k' := by rw [← (wt_facts hw ho).2.1, e, (wt_facts hw' ho').2.1]
  subst hk
  refine ⟨rfl, ?_⟩
  unfold isW at hw
  simp only [Bool.or_eq_true, beq_iff_eq] at hw
  rcases hw with (((rfl | rfl) | rfl) | rfl) | rfl
  · have a : (decide (tx = []) && btw 0 1000000000000000 n) = true := ho
    have b : (decide (tx' = []) && btw 0 1000000000000000 n') = true := ho'
    simp only [Bool.and_eq_true, decide_eq_true_eq, btw_iff] at a b
    exact ⟨by rw [a.1, b.1], showL_inj a.2.1 a.2.2 b.2.1 b.2.2 e⟩
  · have a : (decide (tx = []) && btw 0 73048 n) = true := ho
    have b : (decide (tx' = []) && btw 0 73048 n') = true := ho'
    simp only [Bool.and_eq_true, decide_eq_true_eq, btw_iff] at a b
    refine ⟨by rw [a.1, b.1], ?_⟩
    have e' : dsh n.toNat = dsh n'.toNat := e
    obtain ⟨y, m, d, h1, h2⟩ := dn_ex (n := n.toNat) (by omega)
    obtain ⟨y', m', d', h1', h2'⟩ := dn_ex (n := n'.toNat) (by omega)
    rw [← h2, ← h2', dsh_eq h1, dsh_eq h1'] at e'
    obtain ⟨rfl, rfl, rfl⟩ := shL_inj h1 h1' e'
    omega
  · have a : (n == 0 && cur tx) = true := ho
    have b : (n' == 0 && cur tx') = true := ho'
    simp only [Bool.and_eq_true, beq_iff_eq] at a b
    exact ⟨e, by rw [a.1, b.1]⟩
  · have a : (decide (tx = []) && btw 0 1 n) = true := ho
    have b : (decide (tx' = []) && btw 0 1 n') = true := ho'
    simp only [Bool.and_eq_true, decide_eq_true_eq, btw_iff] at a b
    refine ⟨by rw [a.1, b.1], ?_⟩
    have e' : tru n = tru n' := e
    have c1 : n = 0 ∨ n = 1 := by omega
    have c2 : n' = 0 ∨ n' = 1 := by omega
    rcases c1 with rfl | rfl <;> rcases c2 with rfl | rfl
    · rfl
    · exact absurd e' (by decide)
    · exact absurd e' (by decide)
    · rfl
  · have a : (n == 0 && nof tx) = true := ho
    have b : (n' == 0 && nof tx') = true := ho'
    simp only [Bool.and_eq_true, beq_iff_eq] at a b
    exact ⟨e, by rw [a.1, b.1]⟩
end Go.Proofs.YtmdpccjhjhkpgaaGreatDoor
