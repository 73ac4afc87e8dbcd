/- causal: two contracts together, plainly. -/
import Derived.Test.YtfblnjidghijaaaCKidsM
namespace Go.Proofs.Ytfblnjidghijaaa
open Go

mutual
def dpC : Co → Int
  | .mk _ _ _ kids => 1 + dpL kids
def dpL : List Co → Int
  | [] => 0
  | c :: r => max (dpC c) (dpL r)
end
theorem dpL_pos : ∀ l : List Co, 0 ≤ dpL l
  | [] => by unfold dpL; omega
  | c :: r => by unfold dpL; have := dpL_pos r; omega
mutual
theorem okT_dp (want d : Int) : ∀ c : Co, okT want (d + 1) c = true ↔ (okT want d c = true ∧ d + dpC c ≤ 200)
  | .mk op k t kids => by
    unfold okT dpC
    have hp := dpL_pos kids
    cases kOf op want with
    | none => simp
    | some ks =>
      simp only [Bool.and_eq_true, decide_eq_true_eq]
      constructor
      · rintro ⟨⟨h1, h2⟩, h3⟩
        have := (okTs_dp (d + 1) ks kids (by omega)).1 h3
        exact ⟨⟨⟨h1, by omega⟩, this.1⟩, by omega⟩
      · rintro ⟨⟨⟨h1, h2⟩, h3⟩, h4⟩
        exact ⟨⟨h1, by omega⟩, (okTs_dp (d + 1) ks kids (by omega)).2 ⟨h3, by omega⟩⟩
theorem okTs_dp (d : Int) (ks : List Int) : ∀ l : List Co, d ≤ 200 → (okTs (d + 1) ks l = true ↔ (okTs d ks l = true ∧ d + dpL l ≤ 200))
  | [], h => by unfold okTs dpL; simp; omega
  | c :: r, h => by
    unfold okTs dpL
    cases ks with
    | nil => simp
    | cons x xs =>
      simp only [Bool.and_eq_true]
      rw [okT_dp x d c, okTs_dp d xs r h]
      constructor
      · rintro ⟨⟨h1, h2⟩, h3, h4⟩; exact ⟨⟨h1, h3⟩, by omega⟩
      · rintro ⟨⟨h1, h2⟩, h3⟩; exact ⟨⟨h1, by omega⟩, h2, by omega⟩
end
mutual
/-- Is a term at least so deep? -/
def deepP (n : Int) : Co → Bool
  | .mk _ _ _ kids => decide (n ≤ 1) || deepL (n - 1) kids
def deepL (n : Int) : List Co → Bool
  | [] => false
  | c :: r => deepP n c || deepL n r
end
mutual
theorem deep_eq (n : Int) : ∀ c : Co, deepP n c = true ↔ n ≤ dpC c
  | .mk op k t kids => by
    unfold deepP dpC
    have hp := dpL_pos kids
    simp only [Bool.or_eq_true, decide_eq_true_eq]
    by_cases hn : n ≤ 1
    · constructor <;> intro _ <;> omega
    · rw [deepL_eq (n - 1) kids (by omega)]
      omega
theorem deepL_eq (n : Int) : ∀ l : List Co, 1 ≤ n → (deepL n l = true ↔ n ≤ dpL l)
  | [], h => by unfold deepL dpL; simp; omega
  | c :: r, h => by
    unfold deepL dpL
    simp only [Bool.or_eq_true]
    rw [deep_eq n c, deepL_eq n r h]
    omega
end
mutual
/-- Does it look ahead? -/
def ahC : Co → Bool
  | .mk op k _ kids => (lookP op && decide (k < 0)) || ahL kids
def ahL : List Co → Bool
  | [] => false
  | c :: r => ahC c || ahL r
end
mutual
theorem ck_walk (d x : Int) : ∀ c : Co, walkP (askF ckF) x d c = (bif ahC c then 141 else x, true)
  | .mk op k t kids => by
    unfold ahC
    unfold walkP askF ckF
    cases h1 : lookP op with
    | true =>
      cases h2 : decide (k < 0) with
      | true =>
        have := ck_walkK (IntKind.i64.wrap (d + 1)) 141 kids
        unfold askF ckF at this
        simp only [h1, h2, cond_true, this, Bool.true_and, Bool.true_or]
        cases ahL kids <;> rfl
      | false =>
        have := ck_walkK (IntKind.i64.wrap (d + 1)) x kids
        unfold askF ckF at this
        simp only [h1, h2, cond_true, cond_false, this, Bool.true_and, Bool.false_or]
    | false =>
      have := ck_walkK (IntKind.i64.wrap (d + 1)) x kids
      unfold askF ckF at this
      simp only [h1, cond_false, this, Bool.false_and, Bool.false_or]
theorem ck_walkK (d x : Int) : ∀ l : List Co, walkK (askF ckF) x d l = (bif ahL l then 141 else x, true)
  | [] => by unfold walkK ahL; rfl
  | c :: r => by
    unfold ahL
    unfold walkK
    rw [ck_walk d x c]
    simp only
    rw [ck_walkK d _ r]
    cases ahC c <;> cases ahL r <;> rfl
end
theorem typ4 {c : Co} (h : isOfP 4 c = true) : (typP c).2 = true := typ_of (.inr (.inr (.inr rfl))) h
theorem chk_no {c : Co} (h : isOfP 4 c = false) : chkP c = 140 := by unfold chkP; rw [h]; rfl
theorem chk_yes {c : Co} (h : isOfP 4 c = true) : chkP c = bif ahC c then 141 else 0 := by
  unfold chkP askP
  rw [h, typ4 h, ck_walk 1 0 c]
  rfl
def bothC (a b : Co) : Co := .mk 27 0 [] [a, b]
theorem both_is (a b : Co) : isOfP 4 (bothC a b) = true ↔ (okT 4 2 a = true ∧ okT 4 2 b = true ∧ 1 + szC a + szC b ≤ 2000) := by
  rw [isOfP_eq]
  show okT 4 1 (.mk 27 0 [] [a, b]) = true ∧ szC (.mk 27 0 [] [a, b]) ≤ 2000 ↔ _
  rw [okT, szC]
  have hk : kOf 27 4 = some [4, 4] := rfl
  have ho : ownC 27 0 [] = true := rfl
  rw [hk, ho]
  simp only [okTs, szL, List.length_cons, List.length_nil, Bool.and_true, Bool.and_eq_true, beq_self_eq_true, decide_eq_true_eq, true_and]
  constructor
  · rintro ⟨⟨-, h1, h2⟩, h3⟩; exact ⟨h1, h2, by omega⟩
  · rintro ⟨h1, h2, h3⟩; exact ⟨⟨by omega, h1, h2⟩, by omega⟩
theorem both_parts {a b : Co} (h : isOfP 4 (bothC a b) = true) : isOfP 4 a = true ∧ isOfP 4 b = true := by
  obtain ⟨h1, h2, h3⟩ := (both_is a b).1 h
  have := szC_pos a
  have := szC_pos b
  exact ⟨(isOfP_eq 4 a).2 ⟨okT_up 4 1 a h1, by omega⟩, (isOfP_eq 4 b).2 ⟨okT_up 4 1 b h2, by omega⟩⟩
theorem both_great {a b : Co} (ha : isOfP 4 a = true) (hb : isOfP 4 b = true) (h : isOfP 4 (bothC a b) = false) : szC a + szC b + 1 > 2000 ∨ deepP 200 a = true ∨ deepP 200 b = true := by
  have h1 := ((isOfP_eq 4 a).1 ha).1
  have h2 := ((isOfP_eq 4 b).1 hb).1
  have hn : ¬(okT 4 2 a = true ∧ okT 4 2 b = true ∧ 1 + szC a + szC b ≤ 2000) := fun e => by rw [(both_is a b).2 e] at h; cases h
  rw [deep_eq, deep_eq]
  have e1 := okT_dp 4 1 a
  have e2 := okT_dp 4 1 b
  by_cases g1 : 1 + dpC a ≤ 200
  · by_cases g2 : 1 + dpC b ≤ 200
    · refine .inl ?_
      have : ¬(1 + szC a + szC b ≤ 2000) := fun e => hn ⟨e1.2 ⟨h1, g1⟩, e2.2 ⟨h2, g2⟩, e⟩
      omega
    · exact .inr (.inr (by omega))
  · exact .inr (.inl (by omega))
theorem both_sz {a b : Co} (h : isOfP 4 (bothC a b) = true) : askP szF 0 (bothC a b) = 1 + askP szF 0 a + askP szF 0 b := by
  obtain ⟨ha, hb⟩ := both_parts h
  rw [sz_eq (typ4 h), sz_eq (typ4 ha), sz_eq (typ4 hb)]
  simp only [bothC, szC, szL]
  omega
theorem both_hz {a b : Co} (h : isOfP 4 (bothC a b) = true) : askP hzF 0 (bothC a b) = max (askP hzF 0 a) (askP hzF 0 b) := by
  obtain ⟨ha, hb⟩ := both_parts h
  rw [hz_eq (typ4 h), hz_eq (typ4 ha), hz_eq (typ4 hb)]
  simp only [bothC, hzC, hzL]
  have : dateP 27 = false := rfl
  rw [this]
  simp only [cond_false]
  omega
theorem both_ah (a b : Co) : ahC (bothC a b) = (ahC a || ahC b) := by
  simp only [bothC, ahC, ahL]
  have : lookP 27 = false := rfl
  rw [this]
  simp
end Go.Proofs.Ytfblnjidghijaaa
