/- the text SApartP -/
import Derived.Test.YtmdpccjhjhkpgaaGreatDoorSApartNC
namespace Go.Proofs.YtmdpccjhjhkpgaaGreatDoor
open Go Go.RowKit

def isOpK (k : Int) : Bool := k == 12 || k == 13 || k == 14
/-- An operand's text. -/
def opd (t : Tr) : List UInt8 := prn (wrOf t).isOp (fw (wrOf t))
/-- What may stand behind an expression. -/
def GdE (r : List UInt8) : Prop := ∀ c q, r = c :: q → c = 41 ∨ c = 44 ∨ (c = 32 ∧ ∃ e q', q = e :: q' ∧ (e = 116 ∨ e = 101))
/-- What may stand behind an operand. -/
def GdO (r : List UInt8) : Prop := ∀ c q, r = c :: q → c = 41 ∨ c = 44 ∨ (c = 32 ∧ ∃ e q', q = e :: q' ∧ e ≠ 34)
theorem GdE.p {r : List UInt8} (h : GdE r) : GdO r := fun c q e => by
  rcases h c q e with h | h | ⟨h, x, q', e1, e2⟩
  · exact .inl h
  · exact .inr (.inl h)
  · exact .inr (.inr ⟨h, x, q', e1, by rcases e2 with rfl | rfl <;> decide⟩)
theorem GdO.wc {r : List UInt8} (h : GdO r) (c : UInt8) (q : List UInt8) (e : r = c :: q) : wc c = false := by
  rcases h c q e with rfl | rfl | ⟨rfl, -⟩ <;> decide
theorem good41 (r : List UInt8) : GdE (41 :: r) := fun c q e => by cases e; exact .inl rfl
theorem good44 (r : List UInt8) : GdE (44 :: r) := fun c q e => by cases e; exact .inr (.inl rfl)
theorem nw {b : UInt8} {x : List UInt8} (hb : wc b = false) : ∀ c q, b :: x = c :: q → wc c = false := fun c q e => by cases e; exact hb
theorem no40 {r x : List UInt8} (h : GdO r) (e : r = 40 :: x) : False := by
  rcases h 40 x e with h | h | ⟨h, -⟩ <;> exact absurd h (by decide)
theorem no34 {r x : List UInt8} (h : GdO r) (e : r = 32 :: 34 :: x) : False := by
  rcases h 32 _ e with h | h | ⟨-, d, q', e1, e2⟩
  · exact absurd h (by decide)
  · exact absurd h (by decide)
  · cases e1; exact e2 rfl
/-- What a right node that is no operation is written as. -/
theorem non_view {k : Int} {tx : List UInt8} {n : Int} {ks : List Tr} {at_ : Int} {d : Nat} (h : rt d (.mk k tx n ks at_) = true) (hk : isOpK k = false) :
    (wrOf (.mk k tx n ks at_)).isOp = false ∧
    ((isW k = true ∧ own k tx n = true ∧ ks = [] ∧ fw (wrOf (.mk k tx n ks at_)) = wt k tx n) ∨
     (k = 11 ∧ n = 0 ∧ nof tx = true ∧ ks ≠ [] ∧ fw (wrOf (.mk k tx n ks at_)) = tx ++ 40 :: (fwl true (wrsOf ks) ++ [41])) ∨
     (k = 9 ∧ n = 0 ∧ nam tx = true ∧ ks = [] ∧ fw (wrOf (.mk k tx n ks at_)) = [102, 101, 101, 100] ++ 32 :: 34 :: (tx ++ [34])) ∨
     (k = 15 ∧ n = 0 ∧ nam tx = true ∧ ks ≠ [] ∧ fw (wrOf (.mk k tx n ks at_)) = [112, 105, 99, 107] ++ 32 :: 34 :: (tx ++ 34 :: 40 :: (fwl true (wrsOf ks) ++ [41])))) := by
  cases d with
  | zero => rw [rt] at h; cases h
  | succ d =>
  rw [rt] at h
  simp only [Bool.and_eq_true] at h
  obtain ⟨⟨ho, hq⟩, -⟩ := h
  have hno : (kidsOf k).2 = 0 → ks = [] := fun e => by
    unfold kidsOk at hq
    simp only [Bool.and_eq_true, decide_eq_true_eq] at hq
    exact List.eq_nil_of_length_eq_zero (by omega)
  have hsome : 1 ≤ (kidsOf k).1 → ks ≠ [] := fun e e1 => by
    subst e1
    unfold kidsOk at hq
    simp only [Bool.and_eq_true, decide_eq_true_eq, List.length_nil] at hq
    omega
  rw [wrOf]
  by_cases e : k = 5
  · subst e; exact ⟨rfl, .inl ⟨rfl, ho, hno (by decide), by show fw (.word _) = _; rw [fw]; rfl⟩⟩
  by_cases e : k = 6
  · subst e; exact ⟨rfl, .inl ⟨rfl, ho, hno (by decide), by show fw (.word _) = _; rw [fw]; rfl⟩⟩
  by_cases e : k = 7
  · subst e; exact ⟨rfl, .inl ⟨rfl, ho, hno (by decide), by show fw (.word _) = _; rw [fw]; rfl⟩⟩
  by_cases e : k = 8
  · subst e; exact ⟨rfl, .inl ⟨rfl, ho, hno (by decide), by show fw (.word _) = _; rw [fw]; rfl⟩⟩
  by_cases e : k = 10
  · subst e; exact ⟨rfl, .inl ⟨rfl, ho, hno (by decide), by show fw (.word _) = _; rw [fw]; rfl⟩⟩
  by_cases e : k = 11
  · subst e
    have ho' : (n == 0 && nof tx) = true := ho
    simp only [Bool.and_eq_true, beq_iff_eq] at ho'
    exact ⟨rfl, .inr (.inl ⟨rfl, ho'.1, ho'.2, hsome (by decide), by show fw (.list _ _) = _; rw [fw]; simp⟩)⟩
  by_cases e : k = 9
  · subst e
    have ho' : (n == 0 && nam tx) = true := ho
    simp only [Bool.and_eq_true, beq_iff_eq] at ho'
    exact ⟨rfl, .inr (.inr (.inl ⟨rfl, ho'.1, ho'.2, hno (by decide), by show fw (.word _) = _; rw [fw]; simp [quo]⟩))⟩
  by_cases e : k = 15
  · subst e
    have ho' : (n == 0 && nam tx) = true := ho
    simp only [Bool.and_eq_true, beq_iff_eq] at ho'
    exact ⟨rfl, .inr (.inr (.inr ⟨rfl, ho'.1, ho'.2, hsome (by decide), by show fw (.list _ _) = _; rw [fw]; simp [quo]⟩))⟩
  exfalso
  unfold isOpK at hk
  simp only [Bool.or_eq_false_iff, beq_eq_false_iff_ne] at hk
  have ho' : (n == 0 && ownT k tx) = true := by
    unfold own at ho
    rw [beq_false_of_ne ‹k ≠ 5›, beq_false_of_ne ‹k ≠ 6›, beq_false_of_ne ‹k ≠ 8›] at ho
    exact ho
  unfold ownT at ho'
  rw [beq_false_of_ne ‹k ≠ 7›, beq_false_of_ne ‹k ≠ 9›, beq_false_of_ne ‹k ≠ 15›, beq_false_of_ne ‹k ≠ 10›, beq_false_of_ne ‹k ≠ 11›, beq_false_of_ne hk.1.1, beq_false_of_ne hk.1.2, beq_false_of_ne hk.2] at ho'
  simp at ho'
theorem wt_head {k : Int} {tx : List UInt8} {n : Int} (hw : isW k = true) (ho : own k tx n = true) : (wt k tx n).headD 0 ≠ 45 := fun e => by
  have h := (wt_facts hw ho).2.1
  have hh : clw (wt k tx n) = 8 ∨ clw (wt k tx n) = 10 := by
    unfold clw
    rw [e]
    cases decide (wt k tx n ∈ kws)
    · exact .inr rfl
    · exact .inl rfl
  rw [h] at hh
  rcases hh with rfl | rfl
  · have e' : (tru n).headD 0 = 45 := e
    unfold tru at e'
    cases hb : n == 0 <;> rw [hb] at e' <;> exact absurd e' (by decide)
  · have ho' : (n == 0 && nof tx) = true := ho
    simp only [Bool.and_eq_true] at ho'
    obtain ⟨c, q, rfl, hc⟩ := nof_head ho'.2
    have e' : c = 45 := e
    subst e'
    exact absurd hc (by decide)
theorem wt_kw {k : Int} {tx : List UInt8} {n : Int} (hw : isW k = true) (ho : own k tx n = true) : wt k tx n ≠ [110, 111, 116] ∧ wt k tx n ≠ [105, 102] := by
  have h := (wt_facts hw ho).2.1
  constructor
  · intro e
    rw [e] at h
    have hk : k = 8 := h.symm
    subst hk
    have e' : tru n = [110, 111, 116] := e
    unfold tru at e'
    cases hb : n == 0 <;> rw [hb] at e' <;> exact absurd e' (by decide)
  · intro e
    rw [e] at h
    have hk : k = 8 := h.symm
    subst hk
    have e' : tru n = [105, 102] := e
    unfold tru at e'
    cases hb : n == 0 <;> rw [hb] at e' <;> exact absurd e' (by decide)
/-- A node that is no operation opens with a word. -/
theorem non_run {k : Int} {tx : List UInt8} {n : Int} {ks : List Tr} {at_ : Int} {d : Nat} (h : rt d (.mk k tx n ks at_) = true) (hk : isOpK k = false) :
    ∃ w z, fw (wrOf (.mk k tx n ks at_)) = w ++ z ∧ w.all wc = true ∧ w ≠ [] ∧ w.headD 0 ≠ 45 ∧ w ≠ [110, 111, 116] ∧ w ≠ [105, 102] ∧ ∀ r, GdO r → ∀ c q, z ++ r = c :: q → wc c = false := by
  have kw : ∀ {l : List UInt8}, nof l = true → l ≠ [110, 111, 116] ∧ l ≠ [105, 102] := fun hl => ⟨fun e => nof_kw hl (by rw [e]; decide), fun e => nof_kw hl (by rw [e]; decide)⟩
  rcases (non_view h hk).2 with ⟨h1, h2, -, h4⟩ | ⟨-, -, h3, -, h5⟩ | ⟨-, -, -, -, h5⟩ | ⟨-, -, -, -, h5⟩
  · exact ⟨_, [], by rw [h4, List.append_nil], (wt_facts h1 h2).1, (wt_facts h1 h2).2.2, wt_head h1 h2, (wt_kw h1 h2).1, (wt_kw h1 h2).2, fun r hr c q e => hr.wc c q e⟩
  · obtain ⟨c, q, hc, hb⟩ := nof_head h3
    refine ⟨tx, _, h5, nof_wc h3, by rw [hc]; simp, ?_, (kw h3).1, (kw h3).2, fun r _ => nw (by decide)⟩
    rw [hc, List.headD_cons]
    intro e
    subst e
    exact absurd hb (by decide)
  · exact ⟨_, _, h5, by decide, by decide, by decide, by decide, by decide, fun r _ => nw (by decide)⟩
  · exact ⟨_, _, h5, by decide, by decide, by decide, by decide, by decide, fun r _ => nw (by decide)⟩
theorem opd_non {k : Int} {tx : List UInt8} {n : Int} {ks : List Tr} {at_ : Int} {d : Nat} (h : rt d (.mk k tx n ks at_) = true) (hk : isOpK k = false) : opd (.mk k tx n ks at_) = fw (wrOf (.mk k tx n ks at_)) := by
  unfold opd
  rw [(non_view h hk).1]
  rfl
theorem op_isOp {k : Int} {tx : List UInt8} {n : Int} {ks : List Tr} {at_ : Int} (hk : isOpK k = true) : (wrOf (.mk k tx n ks at_)).isOp = true := by
  unfold isOpK at hk
  simp only [Bool.or_eq_true, beq_iff_eq] at hk
  rw [wrOf]
  rcases hk with (rfl | rfl) | rfl <;> rfl
theorem opd_op {k : Int} {tx : List UInt8} {n : Int} {ks : List Tr} {at_ : Int} (hk : isOpK k = true) : opd (.mk k tx n ks at_) = 40 :: (fw (wrOf (.mk k tx n ks at_)) ++ [41]) := by
  unfold opd
  rw [op_isOp hk]
  rfl
/-- An operand does not open as a sign or a choice does. -/
theorem opd_no {t : Tr} {d : Nat} (h : rt d t = true) {x : List UInt8} (hx : GdO x) (y : List UInt8) : opd t ++ x ≠ 45 :: y ∧ opd t ++ x ≠ [110, 111, 116] ++ 32 :: y ∧ opd t ++ x ≠ [105, 102] ++ 32 :: y := by
  obtain ⟨k, tx, n, ks, at_⟩ := t
  cases hk : isOpK k with
  | true =>
    rw [opd_op hk]
    refine ⟨fun e => ?_, fun e => ?_, fun e => ?_⟩ <;> (injection e with e _; exact absurd e (by decide))
  | false =>
    rw [opd_non h hk]
    obtain ⟨w, z, e1, h1, h2, h3, h4, h5, h6⟩ := non_run h hk
    rw [e1, List.append_assoc]
    refine ⟨fun e => ?_, fun e => h4 (word_eq h1 (by decide) (h6 x hx) (nw (by decide)) e).1, fun e => h5 (word_eq h1 (by decide) (h6 x hx) (nw (by decide)) e).1⟩
    cases w with
    | nil => exact h2 rfl
    | cons c q => injection e with e _; exact h3 e
theorem non_no40 {k : Int} {tx : List UInt8} {n : Int} {ks : List Tr} {at_ : Int} {d : Nat} (h : rt d (.mk k tx n ks at_) = true) (hk : isOpK k = false) (r y : List UInt8) : fw (wrOf (.mk k tx n ks at_)) ++ r ≠ 40 :: y := by
  obtain ⟨w, z, e1, h1, h2, -⟩ := non_run h hk
  rw [e1]
  cases w with
  | nil => exact absurd rfl h2
  | cons c q =>
    intro e
    injection e with e _
    subst e
    simp only [List.all_cons, Bool.and_eq_true] at h1
    exact absurd h1.1 (by decide)
end Go.Proofs.YtmdpccjhjhkpgaaGreatDoor
