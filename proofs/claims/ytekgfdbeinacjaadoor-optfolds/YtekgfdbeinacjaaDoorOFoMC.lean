/- the text OFoM -/
import Derived.Test.YtekgfdbeinacjaaDoorOTwMC
namespace Go.Proofs.YtekgfdbeinacjaaDoor
open Go

mutual
def conC : Co → Bool
  | .mk op _ _ kids => !(op == 4 || op == 5) && conL kids
def conL : List Co → Bool
  | [] => true
  | c :: r => conC c && conL r
end
mutual
def setC : Co → Bool
  | .mk op _ _ kids => !(decide (6 ≤ op) && decide (op < 23)) && setL kids
def setL : List Co → Bool
  | [] => true
  | c :: r => setC c && setL r
end
theorem conL_mem : ∀ {l : List Co}, conL l = true → ∀ c ∈ l, conC c = true
  | [], _, c, h => by cases h
  | x :: r, h, c, hc => by
    rw [conL, Bool.and_eq_true] at h
    rcases List.mem_cons.1 hc with e | e
    · rw [e]; exact h.1
    · exact conL_mem h.2 c e
theorem setL_of : ∀ {l : List Co}, (∀ c ∈ l, setC c = true) → setL l = true
  | [], _ => by rw [setL]
  | x :: r, h => by rw [setL, Bool.and_eq_true]; exact ⟨h x (by simp), setL_of fun c hc => h c (by simp [hc])⟩
theorem con_kids {c : Co} (h : conC c = true) : conL c.kids = true := by
  obtain ⟨op, k, s, kids⟩ := c
  rw [conC, Bool.and_eq_true] at h
  exact h.2
theorem con_part : ∀ (ps : List Nat) (c : Co), ps ≠ [] → pathOk ps c → conL c.kids = true → conC (partP ps c) = true
  | [], _, h, _, _ => absurd rfl h
  | p :: r, c, _, hp, h => by
    obtain ⟨h1, h2⟩ := hp
    have hm : kidC c p ∈ c.kids := by
      unfold kidC
      rw [List.getD_eq_getElem?_getD, List.getElem?_eq_getElem h1]
      exact List.getElem_mem h1
    have hk := conL_mem h _ hm
    show conC (partP r (kidC c p)) = true
    cases r with
    | nil => exact hk
    | cons q r => exact con_part (q :: r) _ (by simp) h2 (con_kids hk)
theorem rule_con {r : Rl} (hr : r ∈ rulesP) {z d : Int} {c : Co} (hz : tyOk z) (hok : okT z d c = true) (hf : r.fits c = true) (h : conC c = true) : conC (r.becomes c) = true := by
  have hk := con_kids h
  have hD : Dom c := ⟨z, d, hz, hok⟩
  have hgood := (rule_good hr hz hok hf).1.ok
  simp only [rulesP, List.mem_cons, List.not_mem_nil, or_false] at hr
  rcases hr with rfl | rfl | rfl | rfl | rfl | rfl | rfl | rfl | rfl | rfl | rfl | rfl | rfl | rfl | rfl | rfl | rfl | rfl | rfl | rfl | rfl | rfl | rfl | rfl | rfl | rfl | rfl
  · change rkdP c = true at hf
    unfold rkdP at hf
    rw [Bool.and_eq_true] at hf
    have hx : ∃ n v, reckP c = .mk n v [] [] ∧ (n = 1 ∨ n = 2 ∨ n = 3) := by
      refine ⟨_, _, rfl, ?_⟩
      rcases asks_op hf.1 with e | e | ⟨h7, h21, h14, -, -⟩
      · rw [e]; exact .inl (by decide)
      · rw [e]; exact .inr (.inl (by decide))
      · obtain ⟨x, y, t, h1, h2⟩ := rk_bin h7 h21 h14
        rw [h1]
        simp only
        omega
    obtain ⟨n, v, e, hn⟩ := hx
    show conC (reckP c) = true
    rw [e, conC, conL]
    rcases hn with e | e | e <;> rw [e] <;> rfl
  · exact con_part [0, 0] c (by simp) (path2 (by decide) (by decide) c hD hf) hk
  · exact con_part [0, 0] c (by simp) (path2 (by decide) (by decide) c hD hf) hk
  · exact con_part [0] c (by simp) (path1 (by decide) c hD hf) hk
  · exact con_part [1] c (by simp) (path1 (by decide) c hD hf) hk
  · exact con_part [0] c (by simp) (path1 (by decide) c hD hf) hk
  · exact con_part [0] c (by simp) (path1 (by decide) c hD hf) hk
  · exact con_part [1] c (by simp) (path1 (by decide) c hD hf) hk
  · exact con_part [0] c (by simp) (path1 (by decide) c hD hf) hk
  · exact con_part [1] c (by simp) (path1 (by decide) c hD hf) hk
  · exact con_part [0] c (by simp) (path1 (by decide) c hD hf) hk
  · exact con_part [1] c (by simp) (path1 (by decide) c hD hf) hk
  · exact con_part [0] c (by simp) (path1 (by decide) c hD hf) hk
  · exact con_part [0] c (by simp) (path1 (by decide) c hD hf) hk
  · exact con_part [0] c (by simp) (path1 (by decide) c hD hf) hk
  · exact con_part [0, 0] c (by simp) (path2 (by decide) (by decide) c hD hf) hk
  · exact con_part [0] c (by simp) (path1 (by decide) c hD hf) hk
  · exact con_part [1] c (by simp) (path1 (by decide) c hD hf) hk
  · exact con_part [0] c (by simp) (path1 (by decide) c hD hf) hk
  · exact con_part [1] c (by simp) (path1 (by decide) c hD hf) hk
  · exact con_part [1] c (by simp) (path1 (by decide) c hD hf) hk
  · show conC (.mk 29 _ [] (kidC c 0).kids) = true
    rw [conC]
    have := con_kids (con_part [0] c (by simp) (path1 (by decide) c hD hf) hk)
    show (_ && conL (partP [0] c).kids) = true
    rw [this]
    rfl
  · exact con_part [1] c (by simp) (path1 (by decide) c hD hf) hk
  · exact con_part [1] c (by simp) (path1 (by decide) c hD hf) hk
  · exact con_part [2] c (by simp) (path1 (by decide) c hD hf) hk
  · exact con_part [2] c (by simp) (path1 (by decide) c hD hf) hk
  · show conC (.mk 30 _ [] [kidC c 0, czC]) = true
    have := con_part [0] c (by simp) (path1 (by decide) c hD hf) hk
    rw [conC, conL, conL, conL]
    show (_ && (conC (partP [0] c) && _)) = true
    rw [this]
    rfl
section
variable {rs : List Rl} (hrs : ∀ r ∈ rs, r ∈ rulesP)
include hrs
theorem fix_con {z d : Int} (hz : tyOk z) : ∀ (n : Nat) (c : Co), okT z d c = true → conC c = true → conC (fixF rs n c) = true
  | 0, _, _, h => h
  | n + 1, c, h, hc => by
    rw [fixF]
    cases hf : findP rs c with
    | none => exact hc
    | some r =>
      obtain ⟨h1, h2⟩ := found_in hf
      exact fix_con hz n _ (rule_good (hrs r h1) hz h h2).1.ok (rule_con (hrs r h1) hz h h2 hc)
theorem rw_con (c : Co) : ∀ z d, tyOk z → okT z d c = true → conC c = true → conC (rwP rs c) = true := by
  induction c using Co.ind with
  | h op k s kids ih =>
    intro z d hz h hc
    have hk := (rw_kids (rs := rs) hz (fun c _ => rw_good hrs c) h).1.ok
    rw [conC, Bool.and_eq_true] at hc
    have row : ∀ l : List Co, (∀ c ∈ l, conC (rwP rs c) = true) → conL (rwL rs l) = true := by
      intro l
      induction l with
      | nil => intro _; rw [rwL, conL]
      | cons c r ihr => intro hh; rw [rwL, conL, Bool.and_eq_true]; exact ⟨hh c (by simp), ihr fun x hx => hh x (by simp [hx])⟩
    have hl := row kids fun c hcm => by
      obtain ⟨i, hi⟩ := List.getElem?_of_mem hcm
      obtain ⟨zx, h1, h2⟩ := ok_kid hz h hi
      exact ih c hcm zx (d + 1) h1 h2 (conL_mem hc.2 c hcm)
    rw [rwP]
    unfold fixP
    refine fix_con hrs hz _ _ hk ?_
    rw [conC, hc.1, hl]
    rfl
end
theorem no_rule {c : Co} (h : findP rulesP c = none) {r : Rl} (hr : r ∈ rulesP) : r.fits c = false := by
  unfold findP at h
  rw [List.find?_eq_none] at h
  simpa using h r hr
theorem ob_ops {op z : Int} {ks : List Int} (h : rkP op = some (ks, z)) (hz : z ≠ 4) : op ≤ 21 ∧ ∀ x ∈ ks, x ≠ 4 := by
  obtain ⟨o0, o1⟩ := op_small h
  have key : ∀ n : Fin 32, (match rkP ((n : Nat) : Int) with | some (l, z) => z == 4 || (decide (n.1 ≤ 21) && l.all fun x => x != 4) | none => true) = true := by decide
  have := key ⟨op.toNat, by omega⟩
  rw [show ((op.toNat : Nat) : Int) = op by omega, h] at this
  simp only [Bool.or_eq_true, Bool.and_eq_true, beq_iff_eq, decide_eq_true_eq, List.all_eq_true, bne_iff_ne] at this
  rcases this with h4 | ⟨h1, h2⟩
  · exact absurd h4 hz
  · exact ⟨by omega, h2⟩
theorem co_ops {op : Int} {ks : List Int} (h : rkP op = some (ks, 4)) : 23 ≤ op := by
  obtain ⟨o0, o1⟩ := op_small h
  have key : ∀ n : Fin 32, (match rkP ((n : Nat) : Int) with | some (_, z) => z != 4 || decide (23 ≤ n.1) | none => true) = true := by decide
  have := key ⟨op.toNat, by omega⟩
  rw [show ((op.toNat : Nat) : Int) = op by omega, h] at this
  simp at this
  omega
/-- An observable that no rule fits, and that hangs on nothing, is a constant. -/
theorem nf_const (c : Co) : ∀ z d, tyOk z → okT z d c = true → z ≠ 4 → nfP rulesP c → conC c = true → constP c = true := by
  induction c using Co.ind with
  | h op k s kids ih =>
    intro z d hz h hz4 hn hc
    rw [nfP] at hn
    rw [conC, Bool.and_eq_true] at hc
    obtain ⟨ks, hl, ho, hd, hk, hr⟩ := ok_inv hz h
    have hks : ∀ x ∈ ks, tyOk x ∧ x ≠ 4 := by
      rcases hr with ⟨-, -, rfl⟩ | hr
      · intro x hx
        simp only [List.mem_cons, List.not_mem_nil, or_false] at hx
        rcases hx with e | e | e
        · rw [e]; exact ⟨t1, by omega⟩
        · rw [e]; exact ⟨hz, hz4⟩
        · rw [e]; exact ⟨hz, hz4⟩
      · exact fun x hx => ⟨(rk_tys hr).2 x hx, (ob_ops hr hz4).2 x hx⟩
    have hkc : ∀ x ∈ kids, constP x = true := fun x hx => by
      obtain ⟨i, hi⟩ := List.getElem?_of_mem hx
      obtain ⟨zx, h1, h2⟩ := okTs_at hk hi
      have hm := List.mem_of_getElem? h1
      exact ih x hx zx (d + 1) (hks zx hm).1 h2 (hks zx hm).2 (nf_mem hn.2 x hx) (conL_mem hc.2 x hx)
    have tru : ∀ {a : Co}, okT 1 (d + 1) a = true → constP a = true → a = truC 0 ∨ a = truC 1 := fun {a} ha hca => by
      have hv := tru_val RF_nil ha (val_const t1 ha hca [] 0).1
      have h2 : a.op = 2 := by
        obtain ⟨o, k, s, l⟩ := a
        unfold constP at hca
        simp only [Bool.or_eq_true, beq_iff_eq] at hca
        change (o = 1 ∨ o = 2) ∨ o = 3 at hca
        show o = 2
        rcases hca with (e | e) | e
        · subst e
          obtain ⟨-, -, e⟩ := leaf_is t1 ha rk_leaf.1 (by omega) (by omega) (by omega) (by omega)
          omega
        · exact e
        · subst e
          obtain ⟨-, -, e⟩ := leaf_is t1 ha rk_leaf.2.2.1 (by omega) (by omega) (by omega) (by omega)
          omega
      rcases hv with e | e
      · exact .inl (tru_is t1 ha (by unfold truIs; rw [h2, e]; rfl)).1
      · exact .inr (tru_is t1 ha (by unfold truIs; rw [h2, e]; rfl)).1
    have fold : rkdP (.mk op k s kids) = false := no_rule hn.1 (r := ⟨1, rkdP, reckP⟩) (by simp [rulesP])
    rcases hr with ⟨rfl, -, rfl⟩ | hr
    · exfalso
      obtain ⟨a, b, g, rfl, ha, hb, hg⟩ := ok3 hk (by simpa using hl)
      rcases tru ha (hkc a (by simp)) with e | e
      · have := no_rule hn.1 (r := ⟨4, isP 22 [truIs 0], partP [2]⟩) (by simp [rulesP])
        rw [e] at this
        cases this
      · have := no_rule hn.1 (r := ⟨4, isP 22 [truIs 1], partP [1]⟩) (by simp [rulesP])
        rw [e] at this
        cases this
    · have h21 := (ob_ops hr hz4).1
      obtain ⟨o0, -⟩ := op_small hr
      by_cases h3 : op = 1 ∨ op = 2 ∨ op = 3
      · unfold constP
        show (op == 1 || op == 2 || op == 3) = true
        rcases h3 with e | e | e <;> subst e <;> rfl
      · exfalso
        have h45 : op ≠ 4 ∧ op ≠ 5 := by
          have := hc.1
          simp at this
          exact this
        have h0 : op ≠ 0 := by intro e; rw [e] at hr; cases hr
        by_cases h15 : op = 15
        · subst h15
          have e : ks = [1, 1] := by rw [rk_leaf.2.2.2.2.2.2.2.1] at hr; cases hr; rfl
          subst e
          obtain ⟨a, b, rfl, ha, hb⟩ := ok2 hk (by simpa using hl)
          rcases tru ha (hkc a (by simp)) with e | e
          · have := no_rule hn.1 (r := ⟨2, isP 15 [truIs 0], partP [0]⟩) (by simp [rulesP])
            rw [e] at this
            cases this
          · have := no_rule hn.1 (r := ⟨2, isP 15 [truIs 1], partP [1]⟩) (by simp [rulesP])
            rw [e] at this
            cases this
        by_cases h16 : op = 16
        · subst h16
          have e : ks = [1, 1] := by rw [rk_leaf.2.2.2.2.2.2.2.2] at hr; cases hr; rfl
          subst e
          obtain ⟨a, b, rfl, ha, hb⟩ := ok2 hk (by simpa using hl)
          rcases tru ha (hkc a (by simp)) with e | e
          · have := no_rule hn.1 (r := ⟨2, isP 16 [truIs 0], partP [1]⟩) (by simp [rulesP])
            rw [e] at this
            cases this
          · have := no_rule hn.1 (r := ⟨2, isP 16 [truIs 1], partP [0]⟩) (by simp [rulesP])
            rw [e] at this
            cases this
        have hasks : asksP op = true := by
          unfold asksP
          simp only [Bool.or_eq_true, Bool.and_eq_true, beq_iff_eq, decide_eq_true_eq]
          omega
        have : rkdP (.mk op k s kids) = true := by
          show (asksP op && kids.all constP) = true
          rw [hasks, List.all_eq_true.2 hkc]
          rfl
        rw [fold] at this
        cases this
theorem nf_set (c : Co) : ∀ z d, tyOk z → okT z d c = true → nfP rulesP c → conC c = true → setC c = true := by
  induction c using Co.ind with
  | h op k s kids ih =>
    intro z d hz h hn hc
    by_cases hz4 : z = 4
    · subst hz4
      obtain ⟨ks, hl, ho, hd, hk, hr⟩ := ok_inv hz h
      have h23 : 23 ≤ op := by
        rcases hr with ⟨-, e, -⟩ | hr
        · exact absurd rfl e
        · exact co_ops hr
      rw [nfP] at hn
      rw [conC, Bool.and_eq_true] at hc
      rw [setC, Bool.and_eq_true]
      refine ⟨by simp; omega, setL_of fun x hx => ?_⟩
      obtain ⟨i, hi⟩ := List.getElem?_of_mem hx
      obtain ⟨zx, h1, h2⟩ := ok_kid hz h hi
      exact ih x hx zx (d + 1) h1 h2 (nf_mem hn.2 x hx) (conL_mem hc.2 x hx)
    · have hcc := nf_const _ z d hz h hz4 hn hc
      have hk := (val_const hz h hcc [] 0).2.2
      change kids = [] at hk
      subst hk
      unfold constP at hcc
      change (op == 1 || op == 2 || op == 3) = true at hcc
      rw [setC, setL, Bool.and_true]
      simp at hcc ⊢
      omega
theorem rules_all : rulesN 7 = rulesP := by
  unfold rulesN
  rw [List.filter_eq_self]
  intro r hr
  have hall : ∀ r ∈ rulesP, delP r.pass 7 = false := by
    intro r hr
    simp only [rulesP, List.mem_cons, List.not_mem_nil, or_false] at hr
    rcases hr with rfl | rfl | rfl | rfl | rfl | rfl | rfl | rfl | rfl | rfl | rfl | rfl | rfl | rfl | rfl | rfl | rfl | rfl | rfl | rfl | rfl | rfl | rfl | rfl | rfl | rfl | rfl <;> decide +kernel
  rw [hall r hr]
  rfl
theorem do_folds {c t : Co} (h : doP c 7 = some t) (hc : conC c = true) : setC t = true := by
  obtain ⟨-, hk, rfl⟩ := do_some h
  obtain ⟨h1, -⟩ := chk_ok hk
  rw [rules_all]
  exact nf_set _ 4 1 t4 (rw_good (fun _ h => h) c 4 1 t4 h1).1.ok (rw_nf (fun _ h => h) c 4 1 t4 h1) (rw_con (fun _ h => h) c 4 1 t4 h1 hc)
end Go.Proofs.YtekgfdbeinacjaaDoor
