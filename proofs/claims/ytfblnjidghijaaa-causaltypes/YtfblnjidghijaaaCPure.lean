/- causal: what a right core term is, plainly. -/
import Derived.Test.YtfblnjidghijaaaCFit
namespace Go.Proofs.Ytfblnjidghijaaa
open Go

mutual
def szC : Co → Int
  | .mk _ _ _ kids => 1 + szL kids
def szL : List Co → Int
  | [] => 0
  | c :: r => szC c + szL r
end
mutual
/-- A term of a type, as deep as it stands. -/
def okT (want d : Int) : Co → Bool
  | .mk op k t kids =>
    match kOf op want with
    | none => false
    | some ks => ((kids.length : Int) == (ks.length : Int)) && ownC op k t && decide (d ≤ 200) && okTs (d + 1) ks kids
def okTs (d : Int) (ks : List Int) : List Co → Bool
  | [] => true
  | c :: r =>
    match ks with
    | [] => false
    | x :: xs => okT x d c && okTs d xs r
end
mutual
theorem szC_pos : ∀ c : Co, 1 ≤ szC c
  | .mk _ _ _ kids => by unfold szC; have := szL_pos kids; omega
theorem szL_pos : ∀ l : List Co, 0 ≤ szL l
  | [] => by unfold szL; omega
  | c :: r => by unfold szL; have := szC_pos c; have := szL_pos r; omega
end
theorem len_cond {b : Bool} {x y : Option (List Int)} (hx : ∀ l, x = some l → l.length ≤ 3) (hy : ∀ l, y = some l → l.length ≤ 3) : ∀ l, (bif b then x else y) = some l → l.length ≤ 3 := by
  cases b <;> assumption
theorem len_some {l0 : List Int} (h : l0.length ≤ 3) : ∀ l, some l0 = some l → l.length ≤ 3 := by rintro l ⟨⟩; exact h
theorem len_none : ∀ l : List Int, none = some l → l.length ≤ 3 := by intro l h; cases h
theorem kOf_len (op want : Int) : ∀ l, kOf op want = some l → l.length ≤ 3 := by
  unfold kOf kContract kNumber kTruth kDay
  repeat' first | exact len_none | exact len_some (by simp) | refine len_cond ?_ ?_
def Spec (c : Co) : Prop := ∀ (want : Int) (rest : List Int) (sz d : Int), 0 ≤ sz → sz ≤ 2000 → 1 ≤ d → d ≤ 201 → (rest.length : Int) ≤ 2 * sz →
  safeP fitF fitOk (sz, want :: rest) d c ∧ ((walkP fitF (sz, want :: rest) d c).2 = true ↔ (okT want d c = true ∧ sz + szC c ≤ 2000)) ∧ ((walkP fitF (sz, want :: rest) d c).2 = true → (walkP fitF (sz, want :: rest) d c).1 = (sz + szC c, rest))
theorem specK (l : List Co) (ih : ∀ c ∈ l, Spec c) : ∀ (ks rest : List Int) (sz d : Int), ks.length = l.length → 0 ≤ sz → sz ≤ 2000 → 1 ≤ d → d ≤ 201 → ((ks ++ rest).length : Int) ≤ 1 + 2 * sz →
  safeK fitF fitOk (sz, ks ++ rest) d l ∧ ((walkK fitF (sz, ks ++ rest) d l).2 = true ↔ (okTs d ks l = true ∧ sz + szL l ≤ 2000)) ∧ ((walkK fitF (sz, ks ++ rest) d l).2 = true → (walkK fitF (sz, ks ++ rest) d l).1 = (sz + szL l, rest)) := by
  induction l with
  | nil =>
    intro ks rest sz d hl h0 h1 _ _ _
    have hk : ks = [] := List.eq_nil_of_length_eq_zero hl
    subst hk
    unfold safeK walkK okTs szL
    refine ⟨trivial, ?_, ?_⟩ <;> simp <;> omega
  | cons c r ihr =>
    intro ks rest sz d hl h0 h1 hd1 hd2 hlen
    match ks, hl with
    | x :: xs, hl =>
    have hlen' : ((xs ++ rest).length : Int) ≤ 2 * sz := by simp only [List.cons_append, List.length_cons] at hlen; omega
    obtain ⟨s1, s2, s3⟩ := ih c (by simp) x (xs ++ rest) sz d h0 h1 hd1 hd2 hlen'
    have hpos := szC_pos c
    have hposr := szL_pos r
    rw [List.cons_append]
    cases hw : walkP fitF (sz, x :: (xs ++ rest)) d c with
    | mk st b =>
    rw [hw] at s2 s3
    unfold safeK walkK okTs szL
    rw [hw]
    cases b with
    | false =>
      refine ⟨⟨s1, trivial⟩, ?_, by simp⟩
      simp only [Bool.false_eq_true, false_iff, Bool.and_eq_true, not_and] at s2 ⊢
      intro h h'
      exact s2 h.1 (by omega)
    | true =>
      have e := s3 rfl
      simp only at e
      subst e
      have hc := s2.1 rfl
      obtain ⟨t1, t2, t3⟩ := ihr (fun c hc => ih c (by simp [hc])) xs rest (sz + szC c) d (by simpa using hl) (by omega) hc.2 hd1 hd2 (by omega)
      refine ⟨⟨s1, t1⟩, ?_, fun h => ?_⟩
      · simp only
        rw [t2, Bool.and_eq_true, hc.1]
        constructor
        · rintro ⟨h, h'⟩; exact ⟨⟨rfl, h⟩, by omega⟩
        · rintro ⟨⟨_, h⟩, h'⟩; exact ⟨h, by omega⟩
      · simp only at h ⊢
        rw [t3 h, Int.add_assoc]
theorem spec (c : Co) : Spec c := by
  induction c using Co.ind with
  | h op k t kids ih =>
    intro want rest sz d h0 h1 hd1 hd2 hlen
    have hw1 : IntKind.i64.wrap (sz + 1) = sz + 1 := IntWalk.i64_in _ ⟨by omega, by omega⟩
    have hw2 : IntKind.i64.wrap (d + 1) = d + 1 := IntWalk.i64_in _ ⟨by omega, by omega⟩
    have hpos := szL_pos kids
    have hok : fitOk (sz, want :: rest) := ⟨by simp, h0, h1, by simp only [List.length_cons]; omega⟩
    unfold safeP walkP okT szC
    cases hk : kOf op want with
    | none =>
      have hf : fitF (sz, want :: rest) d (.mk op k t kids) = ((sz + 1, want :: rest), false) := by simp only [fitF, hk, hw1]
      rw [hf]
      exact ⟨⟨hok, trivial⟩, by simp, by simp⟩
    | some ks =>
      have hl3 := kOf_len op want ks hk
      cases hb : (((kids.length : Int) != (ks.length : Int)) || !ownC op k t || decide (sz + 1 > 2000) || decide (d > 200)) with
      | true =>
        have hf : fitF (sz, want :: rest) d (.mk op k t kids) = ((sz + 1, want :: rest), false) := by simp only [fitF, hk, hw1, hb, cond_true]
        rw [hf]
        refine ⟨⟨hok, trivial⟩, ?_, by simp⟩
        simp only [Bool.false_eq_true, false_iff, not_and, Bool.and_eq_true, decide_eq_true_eq, beq_iff_eq]
        rintro ⟨⟨⟨e1, e2⟩, e3⟩, e4⟩ e5
        simp only [e1, e2, bne_self_eq_false, Bool.not_true, Bool.or_false, Bool.false_or, Bool.or_eq_true, decide_eq_true_eq] at hb
        omega
      | false =>
        have hf : fitF (sz, want :: rest) d (.mk op k t kids) = ((sz + 1, ks ++ rest), true) := by simp only [fitF, hk, hw1, hb, cond_false]
        rw [hf]
        simp only [Bool.or_eq_false_iff, bne_eq_false_iff_eq, Bool.not_eq_false', decide_eq_false_iff_not] at hb
        obtain ⟨⟨⟨e1, e2⟩, e3⟩, e4⟩ := hb
        rw [hw2]
        obtain ⟨t1, t2, t3⟩ := specK kids ih ks rest (sz + 1) (d + 1) (by omega) (by omega) (by omega) (by omega) (by omega) (by rw [List.length_append]; omega)
        refine ⟨⟨hok, t1⟩, ?_, fun h => ?_⟩
        · simp only
          rw [t2]
          simp only [e1, e2, beq_self_eq_true, Bool.true_and, Bool.and_eq_true, decide_eq_true_eq]
          constructor
          · rintro ⟨h, h'⟩; exact ⟨⟨by omega, h⟩, by omega⟩
          · rintro ⟨⟨_, h⟩, h'⟩; exact ⟨h, by omega⟩
        · simp only at h ⊢
          rw [t3 h, Int.add_assoc]
theorem safe_fit (want : Int) (c : Co) : safeP fitF fitOk (0, [want]) 1 c := (spec c want [] 0 1 (by omega) (by omega) (by omega) (by omega) (by simp)).1
end Go.Proofs.Ytfblnjidghijaaa
