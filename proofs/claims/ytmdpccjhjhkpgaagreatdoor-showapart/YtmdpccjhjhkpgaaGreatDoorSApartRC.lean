/- the text SApartR -/
import Derived.Test.YtmdpccjhjhkpgaaGreatDoorSApartQC
namespace Go.Proofs.YtmdpccjhjhkpgaaGreatDoor
open Go Go.RowKit

theorem sgn_gd' {tx x r : List UInt8} (h : tx ∈ sgns) : GdO (32 :: (tx ++ x) ++ r) := by
  have := sgn_gd (x := x ++ r) h
  simpa using this
theorem sam1 {k : Int} {tx : List UInt8} {n : Int} {a a' : Tr} {at_ at' : Int} (h : sam a a' = true) : sam (.mk k tx n [a] at_) (.mk k tx n [a'] at') = true := sam_mk rfl (by rw [sams, h, sams]; rfl)
theorem sam2 {k : Int} {tx : List UInt8} {n : Int} {a a' b b' : Tr} {at_ at' : Int} (h : sam a a' = true) (h2 : sam b b' = true) : sam (.mk k tx n [a, b] at_) (.mk k tx n [a', b'] at') = true := sam_mk rfl (by rw [sams, h, sams, h2, sams]; rfl)
theorem sam3 {k : Int} {tx : List UInt8} {n : Int} {a a' b b' c c' : Tr} {at_ at' : Int} (h : sam a a' = true) (h2 : sam b b' = true) (h3 : sam c c' = true) : sam (.mk k tx n [a, b, c] at_) (.mk k tx n [a', b', c'] at') = true := sam_mk rfl (by rw [sams, h, sams, h2, sams, h3, sams]; rfl)
theorem head_ne {a b : UInt8} {x y : List UInt8} (h : a ≠ b) : a :: x ≠ b :: y := fun e => by injection e with e _; exact h e
theorem pp_non {k : Int} {tx : List UInt8} {n : Int} {ks : List Tr} {at_ : Int} (ih : ∀ t ∈ ks, Pp t ∧ Qq t) (hk : isOpK k = false) : Pp (.mk k tx n ks at_) := by
  intro d d' t' r r' h h' hr hr' e
  obtain ⟨k', tx', n', ks', at'⟩ := t'
  cases hk' : isOpK k' with
  | false => exact q_non (fun t ht => (ih t ht).1) h h' hk hk' hr.p hr'.p e
  | true =>
    obtain ⟨e2, -, v⟩ := op_view h' hk'
    have e0 := e
    rw [← opd_non h hk] at e
    rcases v with ⟨-, a, -, ra, ⟨-, hf⟩ | ⟨-, hf⟩⟩ | ⟨-, hs, a, b, -, ra, rb, hf⟩ | ⟨-, -, a, b, c, -, ra, rb, rc, hf⟩
    · rw [hf] at e; exact ((opd_no h hr.p _).1 e).elim
    · rw [hf, List.append_assoc] at e; exact ((opd_no h hr.p _).2.1 e).elim
    · obtain ⟨ka, xa, na, sa, aa⟩ := a
      have e' : fw (wrOf (.mk k tx n ks at_)) ++ r = opd (.mk ka xa na sa aa) ++ 32 :: (tx' ++ (32 :: (opd b ++ r'))) := by rw [e0, hf]; simp
      cases hka : isOpK ka with
      | true => rw [opd_op hka] at e'; exact (non_no40 h hk _ _ e').elim
      | false =>
        rw [opd_non ra hka] at e'
        exact (sgn_no hs hr (q_non (fun t ht => (ih t ht).1) h ra hk hka hr.p (sgn_gd hs) e').2).elim
    · rw [hf, List.append_assoc] at e; exact ((opd_no h hr.p _).2.2 e).elim
theorem pp_op {k : Int} {tx : List UInt8} {n : Int} {ks : List Tr} {at_ : Int} (ih : ∀ t ∈ ks, Pp t ∧ Qq t) (hk : isOpK k = true) : Pp (.mk k tx n ks at_) := by
  intro d d' t' r r' h h' hr hr' e
  obtain ⟨k', tx', n', ks', at'⟩ := t'
  obtain ⟨e1, hn, v⟩ := op_view h hk
  subst hn
  cases hk' : isOpK k' with
  | false =>
    rw [← opd_non h' hk'] at e
    rcases v with ⟨-, a, -, ra, ⟨-, hf⟩ | ⟨-, hf⟩⟩ | ⟨-, hs, a, b, rfl, ra, rb, hf⟩ | ⟨-, -, a, b, c, -, ra, rb, rc, hf⟩
    · rw [hf] at e; exact ((opd_no h' hr'.p _).1 e.symm).elim
    · rw [hf, List.append_assoc] at e; exact ((opd_no h' hr'.p _).2.1 e.symm).elim
    · have e' : opd a ++ 32 :: (tx ++ (32 :: (opd b ++ r))) = opd (.mk k' tx' n' ks' at') ++ r' := by rw [← e, hf]; simp
      exact (sgn_no hs hr' ((ih a (by simp)).2 e1 d' _ _ _ ra h' (sgn_gd hs) hr'.p e').2.symm).elim
    · rw [hf, List.append_assoc] at e; exact ((opd_no h' hr'.p _).2.2 e.symm).elim
  | true =>
    obtain ⟨e2, hn', v'⟩ := op_view h' hk'
    subst hn'
    rcases v with ⟨hq, a, rfl, ra, ⟨ht, hf⟩ | ⟨ht, hf⟩⟩ | ⟨hq, hs, a, b, rfl, ra, rb, hf⟩ | ⟨hq, ht, a, b, c, rfl, ra, rb, rc, hf⟩ <;>
    rcases v' with ⟨hq', a', rfl, ra', ⟨ht', hf'⟩ | ⟨ht', hf'⟩⟩ | ⟨hq', hs', a', b', rfl, ra', rb', hf'⟩ | ⟨hq', ht', a', b', c', rfl, ra', rb', rc', hf'⟩ <;>
    rw [hf, hf'] at e
    · injection e with _ e
      obtain ⟨s1, s2⟩ := (ih a (by simp)).2 e1 e2 a' _ _ ra ra' hr.p hr'.p e
      subst hq hq' ht ht'
      exact ⟨sam1 s1, s2⟩
    · exact (head_ne (by decide) e).elim
    · rw [List.append_assoc] at e; exact ((opd_no ra' (sgn_gd' hs') _).1 e.symm).elim
    · exact (head_ne (by decide) e).elim
    · exact (head_ne (by decide) e).elim
    · have e' : opd a ++ r = opd a' ++ r' := by simpa using e
      obtain ⟨s1, s2⟩ := (ih a (by simp)).2 e1 e2 a' _ _ ra ra' hr.p hr'.p e'
      subst hq hq' ht ht'
      exact ⟨sam1 s1, s2⟩
    · rw [List.append_assoc, List.append_assoc] at e; exact ((opd_no ra' (sgn_gd' hs') _).2.1 e.symm).elim
    · exact (head_ne (by decide) e).elim
    · rw [List.append_assoc] at e; exact ((opd_no ra (sgn_gd' hs) _).1 e).elim
    · rw [List.append_assoc, List.append_assoc] at e; exact ((opd_no ra (sgn_gd' hs) _).2.1 e).elim
    · have e' : opd a ++ 32 :: (tx ++ (32 :: (opd b ++ r))) = opd a' ++ 32 :: (tx' ++ (32 :: (opd b' ++ r'))) := by simpa using e
      obtain ⟨s1, s2⟩ := (ih a (by simp)).2 e1 e2 a' _ _ ra ra' (sgn_gd hs) (sgn_gd hs') e'
      injection s2 with _ s2
      obtain ⟨s3, s4⟩ := word_eq (sgn_32 hs) (sgn_32 hs') n32 n32 s2
      injection s4 with _ s4
      obtain ⟨s5, s6⟩ := (ih b (by simp)).2 e1 e2 b' _ _ rb rb' hr.p hr'.p s4
      subst hq hq' s3
      exact ⟨sam2 s1 s5, s6⟩
    · rw [List.append_assoc, List.append_assoc] at e; exact ((opd_no ra (sgn_gd' hs) _).2.2 e).elim
    · exact (head_ne (by decide) e).elim
    · exact (head_ne (by decide) e).elim
    · rw [List.append_assoc, List.append_assoc] at e; exact ((opd_no ra' (sgn_gd' hs') _).2.2 e.symm).elim
    · have e' : fw (wrOf a) ++ 32 :: 116 :: ([104, 101, 110, 32] ++ (fw (wrOf b) ++ 32 :: 101 :: ([108, 115, 101, 32] ++ (fw (wrOf c) ++ r)))) = fw (wrOf a') ++ 32 :: 116 :: ([104, 101, 110, 32] ++ (fw (wrOf b') ++ 32 :: 101 :: ([108, 115, 101, 32] ++ (fw (wrOf c') ++ r')))) := by simpa using e
      obtain ⟨s1, s2⟩ := (ih a (by simp)).1 e1 e2 a' _ _ ra ra' (gd_then _) (gd_then _) e'
      have e'' : fw (wrOf b) ++ 32 :: 101 :: ([108, 115, 101, 32] ++ (fw (wrOf c) ++ r)) = fw (wrOf b') ++ 32 :: 101 :: ([108, 115, 101, 32] ++ (fw (wrOf c') ++ r')) := by simpa using s2
      obtain ⟨s3, s4⟩ := (ih b (by simp)).1 e1 e2 b' _ _ rb rb' (gd_else _) (gd_else _) e''
      have e3 : fw (wrOf c) ++ r = fw (wrOf c') ++ r' := by simpa using s4
      obtain ⟨s5, s6⟩ := (ih c (by simp)).1 e1 e2 c' _ _ rc rc' hr hr' e3
      subst hq hq' ht ht'
      exact ⟨sam3 s1 s3 s5, s6⟩
theorem pq (t : Tr) : Pp t ∧ Qq t := by
  refine Tr.ind (P := fun t => Pp t ∧ Qq t) ?_ t
  intro k tx n ks at_ ih
  cases hk : isOpK k with
  | false =>
    refine ⟨pp_non ih hk, ?_⟩
    intro d d' t' r r' h h' hr hr' e
    obtain ⟨k', tx', n', ks', at'⟩ := t'
    rw [opd_non h hk] at e
    cases hk' : isOpK k' with
    | false => rw [opd_non h' hk'] at e; exact q_non (fun t ht => (ih t ht).1) h h' hk hk' hr hr' e
    | true => rw [opd_op hk'] at e; exact (non_no40 h hk _ _ e).elim
  | true =>
    have hp := pp_op (tx := tx) (n := n) (at_ := at_) ih hk
    refine ⟨hp, ?_⟩
    intro d d' t' r r' h h' hr hr' e
    obtain ⟨k', tx', n', ks', at'⟩ := t'
    rw [opd_op hk] at e
    cases hk' : isOpK k' with
    | false => rw [opd_non h' hk'] at e; exact (non_no40 h' hk' _ _ e.symm).elim
    | true =>
      rw [opd_op hk'] at e
      have e' : fw (wrOf (.mk k tx n ks at_)) ++ 41 :: r = fw (wrOf (.mk k' tx' n' ks' at')) ++ 41 :: r' := by simpa using e
      obtain ⟨s1, s2⟩ := hp d d' _ _ _ h h' (good41 r) (good41 r') e'
      injection s2 with _ s2
      exact ⟨s1, s2⟩
/-- ONE TEXT, ONE TREE. -/
theorem fw_apart {t t' : Tr} {d d' : Nat} (h : rt d t = true) (h' : rt d' t' = true) (e : fw (wrOf t) = fw (wrOf t')) : sam t t' = true :=
  ((pq t).1 d d' t' [] [] h h' (fun c q e => by cases e) (fun c q e => by cases e) (by rw [e])).1
theorem wrs_same : ∀ (ks ks' : List Tr), (∀ t ∈ ks, ∀ t', sam t t' = true → wrOf t = wrOf t') → ks.length = ks'.length → sams ks ks' = true → wrsOf ks = wrsOf ks'
  | [], [], _, _, _ => rfl
  | [], _ :: _, _, h, _ => by simp at h
  | _ :: _, [], _, h, _ => by simp at h
  | t :: q, t' :: q', ih, hl, hs => by
    rw [sams] at hs
    simp only [Bool.and_eq_true] at hs
    rw [wrsOf, wrsOf, ih t (by simp) t' hs.1, wrs_same q q' (fun s hm => ih s (by simp [hm])) (by simpa using hl) hs.2]
theorem wr_same (t : Tr) : ∀ t', sam t t' = true → wrOf t = wrOf t' := by
  refine Tr.ind (P := fun t => ∀ t', sam t t' = true → wrOf t = wrOf t') ?_ t
  intro k tx n ks at_ ih t' h
  obtain ⟨k', tx', n', ks', at'⟩ := t'
  rw [sam] at h
  simp only [Bool.and_eq_true, beq_iff_eq, decide_eq_true_eq] at h
  obtain ⟨⟨⟨⟨rfl, rfl⟩, rfl⟩, h1⟩, h2⟩ := h
  rw [wrOf, wrOf, wrs_same ks ks' ih h1 h2]
theorem apart_iff {t t' : Tr} (h : (rt 100 t && decide (0 ≤ lft t 8192)) = true) (h' : (rt 100 t' && decide (0 ≤ lft t' 8192)) = true) : decide (fw (wrOf t) = fw (wrOf t')) = samL t t' 8192 := by
  simp only [Bool.and_eq_true] at h h'
  unfold samL
  rw [h.2, Bool.and_true]
  cases hs : sam t t' with
  | true => exact decide_eq_true (by rw [wr_same t t' hs])
  | false =>
    refine decide_eq_false fun e => ?_
    rw [fw_apart h.1 h'.1 e] at hs
    cases hs
end Go.Proofs.YtmdpccjhjhkpgaaGreatDoor
