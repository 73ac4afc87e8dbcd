/- the text OTwM -/
import Derived.Test.YtekgfdbeinacjaaDoorAG15
namespace Go.Proofs.YtekgfdbeinacjaaDoor
open Go

mutual
/-- No rule fits it, nor what stands within. -/
def nfP (rs : List Rl) : Co → Prop
  | .mk op k s kids => findP rs (.mk op k s kids) = none ∧ nfL rs kids
def nfL (rs : List Rl) : List Co → Prop
  | [] => True
  | c :: r => nfP rs c ∧ nfL rs r
end
theorem nf_mem {rs : List Rl} : ∀ {l : List Co}, nfL rs l → ∀ c ∈ l, nfP rs c
  | [], _, c, h => by cases h
  | x :: r, h, c, hc => by
    rw [nfL] at h
    rcases List.mem_cons.1 hc with e | e
    · rw [e]; exact h.1
    · exact nf_mem h.2 c e
theorem nf_kids {rs : List Rl} {c : Co} (h : nfP rs c) : nfL rs c.kids := by
  obtain ⟨op, k, s, kids⟩ := c
  rw [nfP] at h
  exact h.2
theorem nf_part {rs : List Rl} : ∀ (ps : List Nat) (c : Co), ps ≠ [] → pathOk ps c → nfL rs c.kids → nfP rs (partP ps c)
  | [], _, h, _, _ => absurd rfl h
  | p :: r, c, _, hp, h => by
    obtain ⟨h1, h2⟩ := hp
    have hm : kidC c p ∈ c.kids := by
      unfold kidC
      rw [List.getD_eq_getElem?_getD, List.getElem?_eq_getElem h1]
      exact List.getElem_mem h1
    have hk := nf_mem h _ hm
    show nfP rs (partP r (kidC c p))
    cases r with
    | nil => exact hk
    | cons q r => exact nf_part (q :: r) _ (by simp) h2 (nf_kids hk)
theorem cz_none {rs : List Rl} (hrs : ∀ r ∈ rs, r ∈ rulesP) : findP rs czC = none := by
  unfold findP
  rw [List.find?_eq_none]
  intro r hr
  have hall : ∀ r ∈ rulesP, r.fits czC = false := by
    intro r hr
    simp only [rulesP, List.mem_cons, List.not_mem_nil, or_false] at hr
    rcases hr with rfl | rfl | rfl | rfl | rfl | rfl | rfl | rfl | rfl | rfl | rfl | rfl | rfl | rfl | rfl | rfl | rfl | rfl | rfl | rfl | rfl | rfl | rfl | rfl | rfl | rfl | rfl <;> rfl
  rw [hall r (hrs r hr)]
  simp
theorem rule_nf {rs : List Rl} (hrs : ∀ r ∈ rs, r ∈ rulesP) {r : Rl} (hr : r ∈ rulesP) {c : Co} (hD : Dom c) (hf : r.fits c = true) (h : nfL rs c.kids) : nfL rs (r.becomes c).kids := by
  simp only [rulesP, List.mem_cons, List.not_mem_nil, or_false] at hr
  rcases hr with rfl | rfl | rfl | rfl | rfl | rfl | rfl | rfl | rfl | rfl | rfl | rfl | rfl | rfl | rfl | rfl | rfl | rfl | rfl | rfl | rfl | rfl | rfl | rfl | rfl | rfl | rfl
  · show nfL rs []
    rw [nfL]
    trivial
  · exact nf_kids (nf_part [0, 0] c (by simp) (path2 (by decide) (by decide) c hD hf) h)
  · exact nf_kids (nf_part [0, 0] c (by simp) (path2 (by decide) (by decide) c hD hf) h)
  · exact nf_kids (nf_part [0] c (by simp) (path1 (by decide) c hD hf) h)
  · exact nf_kids (nf_part [1] c (by simp) (path1 (by decide) c hD hf) h)
  · exact nf_kids (nf_part [0] c (by simp) (path1 (by decide) c hD hf) h)
  · exact nf_kids (nf_part [0] c (by simp) (path1 (by decide) c hD hf) h)
  · exact nf_kids (nf_part [1] c (by simp) (path1 (by decide) c hD hf) h)
  · exact nf_kids (nf_part [0] c (by simp) (path1 (by decide) c hD hf) h)
  · exact nf_kids (nf_part [1] c (by simp) (path1 (by decide) c hD hf) h)
  · exact nf_kids (nf_part [0] c (by simp) (path1 (by decide) c hD hf) h)
  · exact nf_kids (nf_part [1] c (by simp) (path1 (by decide) c hD hf) h)
  · exact nf_kids (nf_part [0] c (by simp) (path1 (by decide) c hD hf) h)
  · exact nf_kids (nf_part [0] c (by simp) (path1 (by decide) c hD hf) h)
  · exact nf_kids (nf_part [0] c (by simp) (path1 (by decide) c hD hf) h)
  · exact nf_kids (nf_part [0, 0] c (by simp) (path2 (by decide) (by decide) c hD hf) h)
  · exact nf_kids (nf_part [0] c (by simp) (path1 (by decide) c hD hf) h)
  · exact nf_kids (nf_part [1] c (by simp) (path1 (by decide) c hD hf) h)
  · exact nf_kids (nf_part [0] c (by simp) (path1 (by decide) c hD hf) h)
  · exact nf_kids (nf_part [1] c (by simp) (path1 (by decide) c hD hf) h)
  · exact nf_kids (nf_part [1] c (by simp) (path1 (by decide) c hD hf) h)
  · show nfL rs (kidC c 0).kids
    exact nf_kids (nf_part [0] c (by simp) (path1 (by decide) c hD hf) h)
  · exact nf_kids (nf_part [1] c (by simp) (path1 (by decide) c hD hf) h)
  · exact nf_kids (nf_part [1] c (by simp) (path1 (by decide) c hD hf) h)
  · exact nf_kids (nf_part [2] c (by simp) (path1 (by decide) c hD hf) h)
  · exact nf_kids (nf_part [2] c (by simp) (path1 (by decide) c hD hf) h)
  · show nfL rs [kidC c 0, czC]
    rw [nfL, nfL, nfL]
    refine ⟨nf_part [0] c (by simp) (path1 (by decide) c hD hf) h, ?_, trivial⟩
    unfold czC
    rw [nfP]
    exact ⟨cz_none hrs, by rw [nfL]; trivial⟩
theorem fix_nf {rs : List Rl} (hrs : ∀ r ∈ rs, r ∈ rulesP) {z d : Int} (hz : tyOk z) : ∀ (n : Nat) (c : Co), okT z d c = true → (mu c).toNat < n → nfL rs c.kids → nfP rs (fixF rs n c)
  | 0, _, _, h, _ => by omega
  | n + 1, c, h, hn, hk => by
    rw [fixF]
    cases hf : findP rs c with
    | none =>
      obtain ⟨op, k, s, kids⟩ := c
      simp only
      rw [nfP]
      exact ⟨hf, hk⟩
    | some r =>
      obtain ⟨h1, h2⟩ := found_in hf
      obtain ⟨g1, g3, -⟩ := rule_good (hrs r h1) hz h h2
      have := mu_pos (r.becomes c)
      exact fix_nf hrs hz n _ g1.ok (by omega) (rule_nf hrs (hrs r h1) ⟨z, d, hz, h⟩ h2 hk)
theorem rw_nf {rs : List Rl} (hrs : ∀ r ∈ rs, r ∈ rulesP) (c : Co) : ∀ z d, tyOk z → okT z d c = true → nfP rs (rwP rs c) := by
  induction c using Co.ind with
  | h op k s kids ih =>
    intro z d hz h
    have hk := (rw_kids (rs := rs) hz (fun c _ => rw_good hrs c) h).1.ok
    have hl : nfL rs (rwL rs kids) := by
      have row : ∀ l : List Co, (∀ c ∈ l, nfP rs (rwP rs c)) → nfL rs (rwL rs l) := by
        intro l
        induction l with
        | nil => intro _; rw [rwL, nfL]; trivial
        | cons c r ihr => intro hh; rw [rwL, nfL]; exact ⟨hh c (by simp), ihr fun x hx => hh x (by simp [hx])⟩
      refine row kids fun c hc => ?_
      obtain ⟨i, hi⟩ := List.getElem?_of_mem hc
      obtain ⟨zx, h1, h2⟩ := ok_kid hz h hi
      exact ih c hc zx (d + 1) h1 h2
    rw [rwP]
    unfold fixP
    exact fix_nf hrs hz _ _ hk (by omega) hl
/-- What passes make of a contract is one. -/
theorem do_some {c t : Co} {n : Int} (h : doP c n = some t) : badP n = false ∧ (chkP c == 0) = true ∧ t = rwP (rulesN n) c := by
  unfold doP at h
  cases hb : badP n with
  | true => rw [hb] at h; cases h
  | false =>
    rw [hb] at h
    cases hc : (chkP c == 0) with
    | false => rw [hc] at h; cases h
    | true => rw [hc] at h; cases h; exact ⟨rfl, rfl, rfl⟩
end Go.Proofs.YtekgfdbeinacjaaDoor
