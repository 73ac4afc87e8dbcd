/- causal: the document's types are the program's: plainly. -/
import Derived.Test.YtfblnjidghijaaaCRefL
import Derived.Test.YtfblnjidghijaaaCRefT
namespace Go.Proofs.Ytfblnjidghijaaa
open Go Go.RowKit

theorem rk_small : ∀ n : Fin 32, ∀ t ∈ [(0 : Int), 1, 2, 4], ((n : Nat) : Int) ≠ 22 → kOf ((n : Nat) : Int) t = (match rkP ((n : Nat) : Int) with | some (ks, t') => bif t' == t then some ks else none | none => none) := by decide
theorem rk_ty : ∀ n : Fin 32, ((rkP ((n : Nat) : Int)).map fun q => q.2 == 0 || q.2 == 1 || q.2 == 2 || q.2 == 4).getD true = true := by decide
theorem rk_out {op : Int} (h : op < 0 ∨ 31 < op) : rkP op = none ∧ (op == 22) = false ∧ ∀ t, kOf op t = none := by
  have hc : ∀ c : Int, 0 ≤ c → c ≤ 31 → (op == c) = false := fun c h0 h1 => by rw [beq_eq_false_iff_ne]; omega
  have h22 := hc 22 (by omega) (by omega)
  refine ⟨?_, h22, fun t => ?_⟩
  · unfold rkP
    simp [hc]
  · unfold kOf kContract kNumber kTruth kDay
    simp [hc]
theorem rk_op {op t : Int} (ht : tyOk t) (h22 : (op == 22) = false) : kOf op t = (match rkP op with | some (ks, t') => bif t' == t then some ks else none | none => none) := by
  by_cases h : op < 0 ∨ 31 < op
  · obtain ⟨h1, -, h3⟩ := rk_out h
    rw [h1, h3]
  · have hn : ((op.toNat : Nat) : Int) = op := by omega
    have := rk_small ⟨op.toNat, by omega⟩ t (by rcases ht with h | h | h | h <;> simp [h]) (by simp only [hn]; simpa using h22)
    simp only [hn] at this
    exact this
theorem rk_tyOk {op t : Int} {ks : List Int} (h : rkP op = some (ks, t)) : tyOk t := by
  by_cases ho : op < 0 ∨ 31 < op
  · rw [(rk_out ho).1] at h; cases h
  · have hn : ((op.toNat : Nat) : Int) = op := by omega
    have := rk_ty ⟨op.toNat, by omega⟩
    simp only [hn, h, Option.map_some, Option.getD_some, Bool.or_eq_true, beq_iff_eq] at this
    unfold tyOk
    omega
theorem k22 {t : Int} : kOf 22 t = bif t == 4 then none else some [1, t, t] := by
  unfold kOf
  cases h : (t == 4) with
  | true => rfl
  | false => rfl
def TP (c : Co) : Prop := ∀ d : Int, (∀ z, tyOk z → (okT z d c = true ↔ typF d c = (z, true))) ∧ ((typF d c).2 = true → tyOk (typF d c).1)
theorem tys_ok : ∀ (kids : List Co), (∀ c ∈ kids, TP c) → ∀ (d : Int) (l : List Int), (tysF d kids = some l ↔ l.length = kids.length ∧ (∀ z ∈ l, tyOk z) ∧ okTs d l kids = true)
  | [], _, d, l => by
    rw [tysF]
    unfold okTs
    constructor
    · rintro ⟨⟩; simp
    · rintro ⟨h, -⟩; rw [List.eq_nil_of_length_eq_zero h]
  | c :: r, ih, d, l => by
    obtain ⟨h1, h2⟩ := ih c (by simp) d
    have h3 := tys_ok r (fun c hc => ih c (by simp [hc])) d
    rw [tysF]
    cases hc : typF d c with
    | mk z b =>
    rw [hc] at h2
    cases b with
    | false =>
      simp only [cond_false]
      constructor
      · intro h; cases h
      · rintro ⟨e, ht, ho⟩
        cases l with
        | nil => cases e
        | cons x xs =>
          unfold okTs at ho
          simp only [Bool.and_eq_true] at ho
          have := (h1 x (ht x (by simp))).1 ho.1
          rw [hc] at this
          cases this
    | true =>
      simp only [cond_true]
      have hz := h2 rfl
      cases hr : tysF d r with
      | none =>
        constructor
        · intro h; cases h
        · rintro ⟨e, ht, ho⟩
          cases l with
          | nil => cases e
          | cons x xs =>
            unfold okTs at ho
            simp only [Bool.and_eq_true] at ho
            have := (h3 xs).2 ⟨by simpa using e, fun z hz => ht z (by simp [hz]), ho.2⟩
            rw [hr] at this
            cases this
      | some q =>
        have hq := (h3 q).1 hr
        constructor
        · intro h
          simp only [Option.map_some, Option.some.injEq] at h
          subst h
          refine ⟨by simp [hq.1], fun y hy => ?_, ?_⟩
          · rcases List.mem_cons.1 hy with e | e
            · rw [e]; exact hz
            · exact hq.2.1 y e
          · unfold okTs
            show (okT z d c && okTs d q r) = true
            rw [(h1 z hz).2 hc, hq.2.2]
            rfl
        · rintro ⟨e, ht, ho⟩
          cases l with
          | nil => cases e
          | cons x xs =>
            unfold okTs at ho
            simp only [Bool.and_eq_true] at ho
            have e1 := (h1 x (ht x (by simp))).1 ho.1
            rw [hc] at e1
            cases e1
            have e2 := (h3 xs).2 ⟨by simpa using e, fun z hz => ht z (by simp [hz]), ho.2⟩
            rw [hr] at e2
            cases e2
            rfl
theorem lastZ_mem : ∀ {l : List Int}, l ≠ [] → lastZ l ∈ l
  | [x], _ => by simp [lastZ]
  | x :: y :: r, _ => by
    have := lastZ_mem (l := y :: r) (by simp)
    rw [lastZ]
    · exact List.mem_cons_of_mem _ this
    · intro h; cases h
theorem if_shape {l : List Int} (h : ifF l = true) : ∃ y, l = [1, y, y] ∧ y ≠ 4 := by
  unfold ifF at h
  split at h
  · simp only [Bool.and_eq_true, beq_iff_eq, bne_iff_ne] at h
    obtain ⟨⟨rfl, rfl⟩, h3⟩ := h
    exact ⟨_, rfl, h3⟩
  · cases h
/-- How a term is right. -/
theorem typ_parts {d op k : Int} {t : List UInt8} {kids : List Co} {z : Int} : typF d (.mk op k t kids) = (z, true) ↔ (ownC op k t = true ∧ d ≤ 200 ∧ kids.length ≤ 3 ∧ ∃ l, tysF (d + 1) kids = some l ∧ endF op l = (z, true)) := by
  rw [typF, fld_own]
  cases h : (!ownC op k t || decide (d > 200) || decide ((kids.length : Int) > 3)) with
  | true =>
    simp only [cond_true]
    constructor
    · intro h; cases h
    · rintro ⟨h1, h2, h3, -⟩
      simp only [h1, Bool.not_true, Bool.false_or, Bool.or_eq_true, decide_eq_true_eq] at h
      omega
  | false =>
    simp only [Bool.or_eq_false_iff, Bool.not_eq_false', decide_eq_false_iff_not] at h
    obtain ⟨⟨h1, h2⟩, h3⟩ := h
    simp only [cond_false]
    cases hl : tysF (d + 1) kids with
    | none =>
      constructor
      · intro h; cases h
      · rintro ⟨-, -, -, l, h, -⟩; cases h
    | some l =>
      constructor
      · intro h; exact ⟨h1, by omega, by omega, l, rfl, h⟩
      · rintro ⟨-, -, -, l', h, h'⟩; cases h; exact h'
theorem tp_all (c : Co) : TP c := by
  induction c using Co.ind with
  | h op k t kids ih =>
    intro d
    have hk := tys_ok kids ih (d + 1)
    refine ⟨fun z hz => ?_, fun h => ?_⟩
    · rw [typ_parts]
      constructor
      · intro ho
        unfold okT at ho
        cases hko : kOf op z with
        | none => rw [hko] at ho; cases ho
        | some ks =>
          rw [hko] at ho
          simp only [Bool.and_eq_true, beq_iff_eq, decide_eq_true_eq] at ho
          obtain ⟨⟨⟨h1, h2⟩, h3⟩, h4⟩ := ho
          have hl3 := kOf_len op z ks hko
          refine ⟨h2, h3, by omega, ks, (hk ks).2 ⟨by omega, kOf_ty hz ks hko, h4⟩, ?_⟩
          unfold endF
          cases h22 : (op == 22) with
          | true =>
            have e := eq_of_beq h22
            subst e
            rw [k22] at hko
            cases hz4 : (z == 4) with
            | true => rw [hz4] at hko; cases hko
            | false =>
              rw [hz4] at hko
              cases hko
              have : (z != 4) = true := by simp only [bne, hz4, Bool.not_false]
              simp only [cond_true, lastZ, ifF, beq_self_eq_true, Bool.true_and, this]
          | false =>
            rw [rk_op hz h22] at hko
            cases hr : rkP op with
            | none => rw [hr] at hko; cases hko
            | some q =>
              obtain ⟨ks', t'⟩ := q
              rw [hr] at hko
              simp only at hko
              cases ht' : (t' == z) with
              | false => rw [ht'] at hko; cases hko
              | true =>
                rw [ht'] at hko
                cases hko
                have := eq_of_beq ht'
                subst this
                simp
      · rintro ⟨h1, h2, h3, l, hl, he⟩
        obtain ⟨e1, e2, e3⟩ := (hk l).1 hl
        have fin : kOf op z = some l → okT z d (.mk op k t kids) = true := by
          intro hko
          unfold okT
          rw [hko]
          simp only [h1, e3, Bool.and_true, Bool.and_eq_true, beq_iff_eq, decide_eq_true_eq]
          exact ⟨by omega, h2⟩
        unfold endF at he
        cases h22 : (op == 22) with
        | true =>
          rw [h22, cond_true] at he
          simp only [Prod.mk.injEq] at he
          obtain ⟨y, rfl, hy⟩ := if_shape he.2
          have hyz : y = z := he.1
          subst hyz
          have e := eq_of_beq h22
          subst e
          refine fin ?_
          rw [k22]
          have : (y == 4) = false := by simpa using hy
          rw [this]
          rfl
        | false =>
          rw [h22, cond_false] at he
          refine fin ?_
          rw [rk_op hz h22]
          cases hr : rkP op with
          | none => rw [hr] at he; cases he
          | some q =>
            obtain ⟨ks', t'⟩ := q
            rw [hr] at he
            simp only at he
            cases hlen : ((ks'.length : Int) != (l.length : Int)) with
            | true => rw [hlen] at he; cases he
            | false =>
              rw [hlen, cond_false] at he
              cases hq : (ks' == l) with
              | false => rw [hq] at he; cases he
              | true =>
                rw [hq] at he
                cases he
                have := eq_of_beq hq
                subst this
                simp
    · cases hc : typF d (.mk op k t kids) with
      | mk z b =>
      rw [hc] at h
      have hb : b = true := h
      subst hb
      obtain ⟨-, -, -, l, hl, he⟩ := typ_parts.1 hc
      obtain ⟨e1, e2, e3⟩ := (hk l).1 hl
      unfold endF at he
      cases h22 : (op == 22) with
      | true =>
        rw [h22, cond_true] at he
        simp only [Prod.mk.injEq] at he
        obtain ⟨y, rfl, hy⟩ := if_shape he.2
        have hyz : y = z := he.1
        subst hyz
        exact e2 y (by simp)
      | false =>
        rw [h22, cond_false] at he
        cases hr : rkP op with
        | none => rw [hr] at he; cases he
        | some q =>
          obtain ⟨ks', t'⟩ := q
          rw [hr] at he
          simp only at he
          cases hlen : ((ks'.length : Int) != (l.length : Int)) with
          | true => rw [hlen] at he; cases he
          | false =>
            rw [hlen, cond_false] at he
            cases hq : (ks' == l) with
            | false => rw [hq] at he; cases he
            | true =>
              rw [hq] at he
              cases he
              exact rk_tyOk hr
theorem tys_mem : ∀ {kids : List Co} {d : Int} {l : List Int}, tysF d kids = some l → ∀ c ∈ kids, (typF d c).2 = true
  | [], _, _, _ => by simp
  | c :: r, d, l, h => by
    rw [tysF] at h
    cases hc : (typF d c).2 with
    | false => rw [hc] at h; cases h
    | true =>
      rw [hc] at h
      cases hr : tysF d r with
      | none => rw [hr] at h; cases h
      | some q =>
        intro x hx
        rcases List.mem_cons.1 hx with e | e
        · rw [e]; exact hc
        · exact tys_mem hr x e
theorem typ_kids {d op k : Int} {t : List UInt8} {kids : List Co} (h : (typF d (.mk op k t kids)).2 = true) : ownC op k t = true ∧ d ≤ 200 ∧ ∀ c ∈ kids, (typF (d + 1) c).2 = true := by
  cases hc : typF d (.mk op k t kids) with
  | mk z b =>
  rw [hc] at h
  have hb : b = true := h
  subst hb
  obtain ⟨h1, h2, -, l, hl, -⟩ := typ_parts.1 hc
  exact ⟨h1, h2, tys_mem hl⟩
def LP (c : Co) : Prop := ∀ (d m : Int), (typF d c).2 = true → 0 ≤ m → (szC c ≤ m → lefF m d c = m - szC c) ∧ (m < szC c → lefF m d c < 0)
theorem lef_row : ∀ (l : List Co), (∀ c ∈ l, LP c) → ∀ (d m : Int), (∀ c ∈ l, (typF d c).2 = true) → -1 ≤ m → (szL l ≤ m → lefL m d l = m - szL l) ∧ (m < szL l → lefL m d l < 0)
  | [], _, d, m, _, hm => by rw [lefL, szL]; omega
  | c :: r, ih, d, m, hk, hm => by
    have hp := szC_pos c
    have hq := szL_pos r
    rw [lefL, szL]
    cases hd : decide (m ≥ 0) with
    | false =>
      have := of_decide_eq_false hd
      simp only [cond_false]
      omega
    | true =>
      have hm0 := of_decide_eq_true hd
      obtain ⟨h1, h2⟩ := ih c (by simp) d m (hk c (by simp)) hm0
      have hlow := lef_low c m d hm0
      have h3 := lef_row r (fun c hc => ih c (by simp [hc])) d (lefF m d c) (fun c hc => hk c (by simp [hc])) hlow.1
      have h4 := lef_lowL r (lefF m d c) d hlow.1
      simp only [cond_true]
      by_cases hs : szC c ≤ m
      · rw [h1 hs] at h3 ⊢
        omega
      · have := h2 (by omega)
        omega
theorem lef_all (c : Co) : LP c := by
  induction c using Co.ind with
  | h op k t kids ih =>
    intro d m ht hm
    obtain ⟨-, hd, hk⟩ := typ_kids ht
    have h := lef_row kids ih (d + 1) (m - 1) hk (by omega)
    rw [lefF, szC, decide_eq_false (by omega), cond_false]
    omega
def rtyP (c : Co) : Int × Bool := bif smaP c then (bif (typF 1 c).2 then ((typF 1 c).1, true) else (0, false)) else (0, false)
theorem rty_eq (c : Co) : rtyP c = typP c := by
  obtain ⟨h1, h2⟩ := tp_all c 1
  have no : (∀ z, tyOk z → isOfP z c = false) → typP c = (0, false) := by
    intro h
    unfold typP
    rw [h 0 (.inl rfl), h 1 (.inr (.inl rfl)), h 2 (.inr (.inr (.inl rfl))), h 4 (.inr (.inr (.inr rfl)))]
    rfl
  cases hc : typF 1 c with
  | mk z b =>
  rw [hc] at h1 h2
  cases b with
  | false =>
    have : typP c = (0, false) := no fun x hx => by
      cases hi : isOfP x c with
      | false => rfl
      | true =>
        have := (h1 x hx).1 ((isOfP_eq x c).1 hi).1
        cases this
    rw [this]
    unfold rtyP
    rw [hc]
    cases smaP c <;> rfl
  | true =>
    have hz := h2 rfl
    have hl := lef_all c 1 2000 (by rw [hc]) (by omega)
    have hs : smaP c = decide (szC c ≤ 2000) := by
      unfold smaP
      by_cases h : szC c ≤ 2000
      · rw [hl.1 h, decide_eq_true h, decide_eq_true (by omega)]
      · rw [decide_eq_false h, decide_eq_false (by have := hl.2 (by omega); omega)]
    unfold rtyP
    rw [hs, hc]
    by_cases h : szC c ≤ 2000
    · have hi : ∀ x, tyOk x → isOfP x c = (x == z) := by
        intro x hx
        rw [Bool.eq_iff_iff, isOfP_eq, h1 x hx, beq_iff_eq]
        simp only [Prod.mk.injEq, and_true]
        exact ⟨fun h => h.1.symm, fun e => ⟨e.symm, h⟩⟩
      rw [decide_eq_true h]
      unfold typP
      rw [hi 0 (.inl rfl), hi 1 (.inr (.inl rfl)), hi 2 (.inr (.inr (.inl rfl))), hi 4 (.inr (.inr (.inr rfl)))]
      rcases hz with e | e | e | e <;> (have e' : z = _ := e; subst e'; rfl)
    · rw [decide_eq_false h]
      exact (no fun x hx => by
        cases hi : isOfP x c with
        | false => rfl
        | true => exact absurd ((isOfP_eq x c).1 hi).2 h).symm
theorem typ_right {c : Co} (h : (typP c).2 = true) : (typF 1 c).2 = true ∧ szC c ≤ 2000 := by
  obtain ⟨want, -, hi⟩ := typ_ex h
  refine ⟨?_, ((isOfP_eq want c).1 hi).2⟩
  rw [← rty_eq] at h
  unfold rtyP at h
  cases hs : smaP c with
  | false => rw [hs] at h; cases h
  | true =>
    rw [hs, cond_true] at h
    cases hc : (typF 1 c).2 with
    | true => rfl
    | false => rw [hc] at h; cases h
/-- What is checked is the same. -/
theorem chk_eq (c : Co) : chkP c = bif !(typP c).2 || (typP c).1 != 4 then 140 else bif ahC c then 141 else 0 := by
  cases h4 : isOfP 4 c with
  | true =>
    rw [chk_yes h4]
    obtain ⟨h1, h2⟩ := tp_all c 1
    have h5 := (h1 4 (.inr (.inr (.inr rfl)))).1 ((isOfP_eq 4 c).1 h4).1
    have h6 := typ4 h4
    have h7 : typP c = (4, true) := by
      rw [← rty_eq] at h6 ⊢
      unfold rtyP at h6 ⊢
      rw [h5] at h6 ⊢
      cases hs : smaP c with
      | false => rw [hs] at h6; cases h6
      | true => rfl
    rw [h7]
    rfl
  | false =>
    rw [chk_no h4]
    unfold typP
    cases isOfP 0 c with
    | true => rfl
    | false =>
      cases isOfP 1 c with
      | true => rfl
      | false =>
        cases isOfP 2 c with
        | true => rfl
        | false => rw [h4]; rfl
theorem max_eq (a b : Int) : (if a > b then a else b) = max b a := by
  rw [Int.max_def]
  split <;> split <;> omega
theorem hr_row : ∀ (l : List Co), (∀ c ∈ l, hrF c = hzC c) → ∀ n : Int, 0 ≤ n → hrL n l = max n (hzL l)
  | [], _, n, hn => by rw [hrL, hzL]; omega
  | c :: r, h, n, hn => by
    rw [hrL, hzL, max_eq, hr_row r (fun c hc => h c (by simp [hc])) _ (by omega), h c (by simp)]
    omega
theorem hr_all (c : Co) : ∀ d, (typF d c).2 = true → hrF c = hzC c := by
  induction c using Co.ind with
  | h op k t kids ih =>
    intro d ht
    obtain ⟨ho, hd, hk⟩ := typ_kids ht
    rw [hrF, hzC]
    refine hr_row kids (fun c hc => ih c hc (d + 1) (hk c hc)) _ ?_
    cases hdt : dateP op with
    | false => simp
    | true =>
      simp only [cond_true]
      unfold ownC ownN at ho
      have h1 : (op == 1) = false := by
        rw [beq_eq_false_iff_ne]; rintro rfl; revert hdt; decide
      have h2 : (op == 2) = false := by
        rw [beq_eq_false_iff_ne]; rintro rfl; revert hdt; decide
      rw [h1, h2, hdt, Bool.or_true] at ho
      simp only [cond_false, cond_true, Bool.and_eq_true, inW, decide_eq_true_eq] at ho
      omega
end Go.Proofs.Ytfblnjidghijaaa
