/- the text SApartQ -/
import Derived.Test.YtmdpccjhjhkpgaaGreatDoorSApartPC
namespace Go.Proofs.YtmdpccjhjhkpgaaGreatDoor
open Go Go.RowKit

def Pp (t : Tr) : Prop := ∀ (d d' : Nat) (t' : Tr) (r r' : List UInt8), rt d t = true → rt d' t' = true → GdE r → GdE r' → fw (wrOf t) ++ r = fw (wrOf t') ++ r' → sam t t' = true ∧ r = r'
def Qq (t : Tr) : Prop := ∀ (d d' : Nat) (t' : Tr) (r r' : List UInt8), rt d t = true → rt d' t' = true → GdO r → GdO r' → opd t ++ r = opd t' ++ r' → sam t t' = true ∧ r = r'
theorem sam_mk {k : Int} {tx : List UInt8} {n : Int} {ks ks' : List Tr} {at_ at' : Int} (hl : ks.length = ks'.length) (hs : sams ks ks' = true) : sam (.mk k tx n ks at_) (.mk k tx n ks' at') = true := by
  rw [sam, hs]
  simp [hl]
theorem rt_open {d : Nat} {k : Int} {tx : List UInt8} {n : Int} {ks : List Tr} {at_ : Int} (h : rt d (.mk k tx n ks at_) = true) : ∃ e, own k tx n = true ∧ kidsOk k ks.length = true ∧ ks.all (rt e) = true := by
  cases d with
  | zero => rw [rt] at h; cases h
  | succ e =>
    rw [rt] at h
    simp only [Bool.and_eq_true] at h
    exact ⟨e, h.1.1, h.1.2, h.2⟩
theorem gd_tail (ks : List Tr) (r : List UInt8) : GdE (fwl false (wrsOf ks) ++ 41 :: r) := by
  cases ks with
  | nil => rw [wrsOf, fwl]; exact good41 r
  | cons t q => rw [wrsOf, fwl]; exact good44 _
theorem fwl_inj (ks : List Tr) (ih : ∀ t ∈ ks, Pp t) : ∀ (ks' : List Tr) (d d' : Nat) (r r' : List UInt8), ks.all (rt d) = true → ks'.all (rt d') = true → fwl false (wrsOf ks) ++ 41 :: r = fwl false (wrsOf ks') ++ 41 :: r' → ks.length = ks'.length ∧ sams ks ks' = true ∧ r = r' := by
  induction ks with
  | nil =>
    intro ks' d d' r r' _ _ h
    cases ks' with
    | nil => rw [wrsOf, fwl] at h; injection h with _ h; exact ⟨rfl, by rw [sams], h⟩
    | cons t' q' => rw [wrsOf, wrsOf, fwl, fwl] at h; injection h with h _; exact absurd h (by decide)
  | cons t q ihq =>
    intro ks' d d' r r' ha ha' h
    cases ks' with
    | nil => rw [wrsOf, wrsOf, fwl, fwl] at h; injection h with h _; exact absurd h (by decide)
    | cons t' q' =>
      simp only [List.all_cons, Bool.and_eq_true] at ha ha'
      rw [wrsOf, wrsOf, fwl, fwl] at h
      have h1 : fw (wrOf t) ++ (fwl false (wrsOf q) ++ 41 :: r) = fw (wrOf t') ++ (fwl false (wrsOf q') ++ 41 :: r') := by simpa using h
      obtain ⟨s1, e1⟩ := ih t (by simp) d d' t' _ _ ha.1 ha'.1 (gd_tail q r) (gd_tail q' r') h1
      obtain ⟨l2, s2, e2⟩ := ihq (fun s hs => ih s (by simp [hs])) q' d d' r r' ha.2 ha'.2 e1
      exact ⟨by simp [l2], by rw [sams, s1, s2]; rfl, e2⟩
theorem fwt_inj (ks : List Tr) (ih : ∀ t ∈ ks, Pp t) (ks' : List Tr) {d d' : Nat} {r r' : List UInt8} (ha : ks.all (rt d) = true) (ha' : ks'.all (rt d') = true) (h0 : ks ≠ []) (h0' : ks' ≠ []) (h : fwl true (wrsOf ks) ++ 41 :: r = fwl true (wrsOf ks') ++ 41 :: r') : ks.length = ks'.length ∧ sams ks ks' = true ∧ r = r' := by
  cases ks with
  | nil => exact absurd rfl h0
  | cons t q =>
    cases ks' with
    | nil => exact absurd rfl h0'
    | cons t' q' =>
      simp only [List.all_cons, Bool.and_eq_true] at ha ha'
      rw [wrsOf, wrsOf, fwl, fwl] at h
      have h1 : fw (wrOf t) ++ (fwl false (wrsOf q) ++ 41 :: r) = fw (wrOf t') ++ (fwl false (wrsOf q') ++ 41 :: r') := by simpa using h
      obtain ⟨s1, e1⟩ := ih t (by simp) d d' t' _ _ ha.1 ha'.1 (gd_tail q r) (gd_tail q' r') h1
      obtain ⟨l2, s2, e2⟩ := fwl_inj q (fun s hs => ih s (by simp [hs])) q' d d' r r' ha.2 ha'.2 e1
      exact ⟨by simp [l2], by rw [sams, s1, s2]; rfl, e2⟩
theorem n34 {x : List UInt8} : ∀ c q, 34 :: x = c :: q → inr8 c = false := fun c q e => by cases e; decide
/-- Two nodes that are no operations. -/
theorem q_non {k : Int} {tx : List UInt8} {n : Int} {ks : List Tr} {at_ : Int} (ih : ∀ t ∈ ks, Pp t) {k' : Int} {tx' : List UInt8} {n' : Int} {ks' : List Tr} {at' : Int} {d d' : Nat} {r r' : List UInt8} (h : rt d (.mk k tx n ks at_) = true) (h' : rt d' (.mk k' tx' n' ks' at') = true) (hk : isOpK k = false) (hk' : isOpK k' = false) (hr : GdO r) (hr' : GdO r')
    (e : fw (wrOf (.mk k tx n ks at_)) ++ r = fw (wrOf (.mk k' tx' n' ks' at')) ++ r') : sam (.mk k tx n ks at_) (.mk k' tx' n' ks' at') = true ∧ r = r' := by
  obtain ⟨d1, -, -, ha⟩ := rt_open h
  obtain ⟨d2, -, -, ha'⟩ := rt_open h'
  rcases (non_view h hk).2 with ⟨a1, a2, a3, a4⟩ | ⟨a1, a2, a3, a4, a5⟩ | ⟨a1, a2, a3, a4, a5⟩ | ⟨a1, a2, a3, a4, a5⟩ <;>
  rcases (non_view h' hk').2 with ⟨b1, b2, b3, b4⟩ | ⟨b1, b2, b3, b4, b5⟩ | ⟨b1, b2, b3, b4, b5⟩ | ⟨b1, b2, b3, b4, b5⟩
  · rw [a4, b4] at e
    obtain ⟨q1, q2⟩ := word_eq (wt_facts a1 a2).1 (wt_facts b1 b2).1 hr.wc hr'.wc e
    obtain ⟨rfl, rfl, rfl⟩ := wt_inj a1 b1 a2 b2 q1
    subst a3 b3
    exact ⟨sam_mk rfl (by rw [sams]), q2⟩
  · rw [a4, b5, List.append_assoc] at e
    exact (no40 hr (word_eq (wt_facts a1 a2).1 (nof_wc b3) hr.wc (nw (by decide)) e).2).elim
  · rw [a4, b5, List.append_assoc] at e
    exact (no34 hr (word_eq (wt_facts a1 a2).1 (by decide) hr.wc (nw (by decide)) e).2).elim
  · rw [a4, b5, List.append_assoc] at e
    exact (no34 hr (word_eq (wt_facts a1 a2).1 (by decide) hr.wc (nw (by decide)) e).2).elim
  · rw [a5, b4, List.append_assoc] at e
    exact (no40 hr' (word_eq (nof_wc a3) (wt_facts b1 b2).1 (nw (by decide)) hr'.wc e).2.symm).elim
  · rw [a5, b5, List.append_assoc, List.append_assoc] at e
    obtain ⟨q1, q2⟩ := word_eq (nof_wc a3) (nof_wc b3) (nw (by decide)) (nw (by decide)) e
    injection q2 with _ q2
    obtain ⟨l1, l2, l3⟩ := fwt_inj ks ih ks' ha ha' a4 b4 (by simpa using q2)
    subst a1 b1 a2 b2 q1
    exact ⟨sam_mk l1 l2, l3⟩
  · rw [a5, b5, List.append_assoc, List.append_assoc] at e
    have q2 := (word_eq (nof_wc a3) (by decide) (nw (by decide)) (nw (by decide)) e).2
    injection q2 with q2 _
    exact absurd q2 (by decide)
  · rw [a5, b5, List.append_assoc, List.append_assoc] at e
    have q2 := (word_eq (nof_wc a3) (by decide) (nw (by decide)) (nw (by decide)) e).2
    injection q2 with q2 _
    exact absurd q2 (by decide)
  · rw [a5, b4, List.append_assoc] at e
    exact (no34 hr' (word_eq (by decide) (wt_facts b1 b2).1 (nw (by decide)) hr'.wc e).2.symm).elim
  · rw [a5, b5, List.append_assoc, List.append_assoc] at e
    have q2 := (word_eq (by decide) (nof_wc b3) (nw (by decide)) (nw (by decide)) e).2
    injection q2 with q2 _
    exact absurd q2 (by decide)
  · rw [a5, b5, List.append_assoc, List.append_assoc] at e
    have q2 : tx ++ 34 :: r = tx' ++ 34 :: r' := by simpa using e
    obtain ⟨q3, q4⟩ := word_eq (nam_all a3) (nam_all b3) n34 n34 q2
    injection q4 with _ q4
    subst a1 b1 a2 b2 q3 a4 b4
    exact ⟨sam_mk rfl (by rw [sams]), q4⟩
  · rw [a5, b5, List.append_assoc, List.append_assoc] at e
    exact absurd (word_eq (by decide) (by decide) (nw (by decide)) (nw (by decide)) e).1 (by decide)
  · rw [a5, b4, List.append_assoc] at e
    exact (no34 hr' (word_eq (by decide) (wt_facts b1 b2).1 (nw (by decide)) hr'.wc e).2.symm).elim
  · rw [a5, b5, List.append_assoc, List.append_assoc] at e
    have q2 := (word_eq (by decide) (nof_wc b3) (nw (by decide)) (nw (by decide)) e).2
    injection q2 with q2 _
    exact absurd q2 (by decide)
  · rw [a5, b5, List.append_assoc, List.append_assoc] at e
    exact absurd (word_eq (by decide) (by decide) (nw (by decide)) (nw (by decide)) e).1 (by decide)
  · rw [a5, b5, List.append_assoc, List.append_assoc] at e
    have q2 : tx ++ 34 :: 40 :: (fwl true (wrsOf ks) ++ 41 :: r) = tx' ++ 34 :: 40 :: (fwl true (wrsOf ks') ++ 41 :: r') := by simpa using e
    obtain ⟨q3, q4⟩ := word_eq (nam_all a3) (nam_all b3) n34 n34 q2
    injection q4 with _ q4
    injection q4 with _ q4
    obtain ⟨l1, l2, l3⟩ := fwt_inj ks ih ks' ha ha' a4 b4 q4
    subst a1 b1 a2 b2 q3
    exact ⟨sam_mk l1 l2, l3⟩
/-- What an operation is written as. -/
theorem op_view {k : Int} {tx : List UInt8} {n : Int} {ks : List Tr} {at_ : Int} {d : Nat} (h : rt d (.mk k tx n ks at_) = true) (hk : isOpK k = true) : ∃ e, n = 0 ∧
    ((k = 12 ∧ ∃ a, ks = [a] ∧ rt e a = true ∧ ((tx = [45] ∧ fw (wrOf (.mk k tx n ks at_)) = 45 :: opd a) ∨ (tx = [110, 111, 116] ∧ fw (wrOf (.mk k tx n ks at_)) = [110, 111, 116] ++ 32 :: opd a))) ∨
     (k = 13 ∧ tx ∈ sgns ∧ ∃ a b, ks = [a, b] ∧ rt e a = true ∧ rt e b = true ∧ fw (wrOf (.mk k tx n ks at_)) = opd a ++ 32 :: (tx ++ 32 :: opd b)) ∨
     (k = 14 ∧ tx = [] ∧ ∃ a b c, ks = [a, b, c] ∧ rt e a = true ∧ rt e b = true ∧ rt e c = true ∧ fw (wrOf (.mk k tx n ks at_)) = [105, 102] ++ 32 :: (fw (wrOf a) ++ 32 :: 116 :: ([104, 101, 110, 32] ++ (fw (wrOf b) ++ 32 :: 101 :: ([108, 115, 101, 32] ++ fw (wrOf c))))))) := by
  obtain ⟨e, ho, hq, ha⟩ := rt_open h
  refine ⟨e, ?_⟩
  unfold isOpK at hk
  simp only [Bool.or_eq_true, beq_iff_eq] at hk
  rcases hk with (rfl | rfl) | rfl
  · have ho' : (n == 0 && decide (tx ∈ uns)) = true := ho
    simp only [Bool.and_eq_true, beq_iff_eq, decide_eq_true_eq] at ho'
    obtain ⟨a, rfl⟩ : ∃ a, ks = [a] := by
      match ks, hq with
      | [a], _ => exact ⟨a, rfl⟩
      | [], h => exact absurd h (by decide)
      | _ :: _ :: r, h => simp [kidsOk, kidsOf] at h; omega
    simp only [List.all_cons, List.all_nil, Bool.and_true] at ha
    refine ⟨ho'.1, .inl ⟨rfl, a, rfl, ha, ?_⟩⟩
    have hw : wrOf (.mk 12 tx n [a] at_) = .unary (ahd tx) (wrOf a) := by rw [wrOf, wrsOf_map]; rfl
    have hu := ho'.2
    unfold uns at hu
    simp only [List.mem_cons, List.not_mem_nil, or_false] at hu
    rw [hw, fw]
    rcases hu with rfl | rfl
    · exact .inl ⟨rfl, rfl⟩
    · exact .inr ⟨rfl, rfl⟩
  · have ho' : (n == 0 && decide (tx ∈ sgns)) = true := ho
    simp only [Bool.and_eq_true, beq_iff_eq, decide_eq_true_eq] at ho'
    obtain ⟨a, b, rfl⟩ : ∃ a b, ks = [a, b] := by
      match ks, hq with
      | [a, b], _ => exact ⟨a, b, rfl⟩
      | [], h => exact absurd h (by decide)
      | [_], h => exact absurd h (by simp [kidsOk, kidsOf])
      | _ :: _ :: _ :: r, h => simp [kidsOk, kidsOf] at h; omega
    simp only [List.all_cons, List.all_nil, Bool.and_true, Bool.and_eq_true] at ha
    refine ⟨ho'.1, .inr (.inl ⟨rfl, ho'.2, a, b, rfl, ha.1, ha.2, ?_⟩)⟩
    have hw : wrOf (.mk 13 tx n [a, b] at_) = .binary tx (wrOf a) (wrOf b) := by rw [wrOf, wrsOf_map]; rfl
    rw [hw, fw]
    simp [opd]
  · have ho' : (n == 0 && decide (tx = [])) = true := ho
    simp only [Bool.and_eq_true, beq_iff_eq, decide_eq_true_eq] at ho'
    obtain ⟨a, b, c, rfl⟩ : ∃ a b c, ks = [a, b, c] := by
      match ks, hq with
      | [a, b, c], _ => exact ⟨a, b, c, rfl⟩
      | [], h => exact absurd h (by decide)
      | [_], h => exact absurd h (by simp [kidsOk, kidsOf])
      | [_, _], h => exact absurd h (by simp [kidsOk, kidsOf])
      | _ :: _ :: _ :: _ :: r, h => simp [kidsOk, kidsOf] at h; omega
    simp only [List.all_cons, List.all_nil, Bool.and_true, Bool.and_eq_true] at ha
    refine ⟨ho'.1, .inr (.inr ⟨rfl, ho'.2, a, b, c, rfl, ha.1, ha.2.1, ha.2.2, ?_⟩)⟩
    rw [wr_if]
    simp
theorem sgn_gd {tx x : List UInt8} (h : tx ∈ sgns) : GdO (32 :: (tx ++ x)) := by
  unfold sgns at h
  simp only [List.mem_cons, List.not_mem_nil, or_false] at h
  intro c q e
  injection e with e1 e2
  refine .inr (.inr ⟨e1.symm, ?_⟩)
  rcases h with rfl | rfl | rfl | rfl | rfl | rfl | rfl | rfl | rfl <;> exact ⟨_, _, e2.symm, by decide⟩
theorem sgn_no {tx x r : List UInt8} (h : tx ∈ sgns) (hr : GdE r) (e : r = 32 :: (tx ++ x)) : False := by
  unfold sgns at h
  simp only [List.mem_cons, List.not_mem_nil, or_false] at h
  rcases hr _ _ e with h1 | h1 | ⟨-, c, q, e1, e2⟩
  · exact absurd h1 (by decide)
  · exact absurd h1 (by decide)
  · rcases h with rfl | rfl | rfl | rfl | rfl | rfl | rfl | rfl | rfl <;> (injection e1 with e1 _; subst e1; exact absurd e2 (by decide))
theorem sgn_32 {tx : List UInt8} (h : tx ∈ sgns) : tx.all (fun c => c != 32) = true := by
  unfold sgns at h
  simp only [List.mem_cons, List.not_mem_nil, or_false] at h
  rcases h with rfl | rfl | rfl | rfl | rfl | rfl | rfl | rfl | rfl <;> decide
theorem n32 {x : List UInt8} : ∀ c q, 32 :: x = c :: q → (c != 32) = false := fun c q e => by cases e; decide
theorem gd_then (x : List UInt8) : GdE (32 :: 116 :: x) := fun c q e => by cases e; exact .inr (.inr ⟨rfl, _, _, rfl, .inl rfl⟩)
theorem gd_else (x : List UInt8) : GdE (32 :: 101 :: x) := fun c q e => by cases e; exact .inr (.inr ⟨rfl, _, _, rfl, .inr rfl⟩)
end Go.Proofs.YtmdpccjhjhkpgaaGreatDoor
