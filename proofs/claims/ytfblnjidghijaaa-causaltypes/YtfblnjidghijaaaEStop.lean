/- The engine: runs that stop ahead of an operation. -/
import Derived.Test.YtfblnjidghijaaaEAny2
namespace Go.Proofs.Ytfblnjidghijaaa
open Go Go.RowKit

section
variable {P : Program} {F : Exit → Act → World → Prop} {Inv : World → Prop} {s : St} {fn : Func} {R : Ending → World → Prop}
/-- Is it the operation whose answer is kept in the slot d? -/
def stopAt (d : Nat) (x : X) : Bool :=
  match nextOp x.st with
  | some (_, o, _, _, _) => o.dst == some d
  | none => false
def exS (P : Program) (d : Nat) : Nat → X → List Nat → X
  | 0, x, _ => x
  | n + 1, x, gs =>
    bif stopAt d x then x else
    match mkG P x gs with
    | some (y, gs') => exS P d n y gs'
    | none =>
      match step P x with
      | some y => exS P d n y gs
      | none => x
variable {d : Nat}
theorem exS_goes (hF : ∀ c T T' ds w, F (.panic c) ⟨T, ds⟩ w → F (.panic c) ⟨T', ds⟩ w) : ∀ (n m : Nat) {x : X}, (∀ gs : List Nat, gs.length = m → Ok (exS P d n x gs) ∧ Goes P F Inv (exS P d n x gs).st) → Ok x ∧ Goes P F Inv x.st
  | 0, m, x, h => h (List.replicate m 0) (by simp)
  | n + 1, m, x, h => by
    cases hst0 : stopAt d x with
    | true =>
      have h1 := h (List.replicate m 0) (by simp)
      unfold exS at h1
      rw [hst0] at h1
      exact h1
    | false =>
    have e : ∀ gs, exS P d (n + 1) x gs = match mkG P x gs with | some (y, gs') => exS P d n y gs' | none => (match step P x with | some y => exS P d n y gs | none => x) := by
      intro gs
      conv => lhs; unfold exS; rw [hst0]
      rfl
    simp only [e] at h
    have plain : (∀ gs : List Nat, gs.length = m → mkG P x gs = none) → Ok x ∧ Goes P F Inv x.st := by
      intro hno
      cases hs : step P x with
      | none => have := h (List.replicate m 0) (by simp); rw [hno _ (by simp), hs] at this; exact this
      | some y =>
        have h1 : Ok y ∧ Goes P F Inv y.st := exS_goes hF n m (fun gs hl => by have := h gs hl; rw [hno gs hl, hs] at this; exact this)
        exact step_goes hF hs h1.1 h1.2
    cases m with
    | zero => exact plain (fun gs hl => by cases gs with | nil => rfl | cons => cases hl)
    | succ m =>
      cases hno : nextOp x.st with
      | none => exact plain (fun gs hl => by cases gs with | nil => rfl | cons => unfold mkG; rw [hno])
      | some q =>
        obtain ⟨ops, o, rest, res, k⟩ := q
        cases hc : (cls o.op == 2 && wants x.st) with
        | false => exact plain (fun gs hl => by cases gs with | nil => rfl | cons => unfold mkG; rw [hno]; simp only [hc])
        | true =>
          have hc' := hc
          rw [Bool.and_eq_true] at hc'
          have hst := step_two (P := P) hno (eq_of_beq hc'.1) hc'.2
          have key : ∀ g, (doOp P o 0 (some g) x (.reg ops rest res :: k) = none → Ok x ∧ Goes P F Inv x.st) ∧ ∀ y, doOp P o 0 (some g) x (.reg ops rest res :: k) = some y → Ok y ∧ Goes P F Inv y.st := by
            intro g
            refine ⟨fun hd => ?_, fun y hd => ?_⟩
            · have := h (g :: List.replicate m 0) (by simp)
              rw [show mkG P x (g :: List.replicate m 0) = none by unfold mkG; rw [hno]; simp only [hc, hd], hst] at this
              exact this
            · refine exS_goes hF n m (fun gs hl => ?_)
              have := h (g :: gs) (by simp [hl])
              rw [show mkG P x (g :: gs) = some (y, gs) by unfold mkG; rw [hno]; simp only [hc, hd]] at this
              exact this
          refine ⟨?_, fun w hm hn hI => ?_⟩
          · cases hd : doOp P o 0 (some 0) x (.reg ops rest res :: k) with
            | none => exact ((key 0).1 hd).1
            | some y =>
              have h1 := doOp_on hd
              have h2 := ((key 0).2 y hd).1
              exact ⟨h1.2.2 h2.1, h1.2.1 ▸ h2.2⟩
          · cases hd : doOp P o 0 (some w.heap.size) x (.reg ops rest res :: k) with
            | none => exact ((key _).1 hd).2 w hm hn hI
            | some y =>
              have h2 := (key _).2 y hd
              exact doOp_goes (nextOp_todo hno) hd (wants_ok hno hc'.2) h2.1 h2.2 hm hn hI (by simp)
def rnS (P : Program) (d : Nat) (hs gs : List Nat) (s : St) : X := exS P d 2000 ⟨s, hs, [], []⟩ gs
theorem rnS_goes {hs : List Nat} {m : Nat} (h : ∀ gs : List Nat, gs.length = m → Ok (rnS P d hs gs s) ∧ Goes P (bodyPost P fn R) Inv (rnS P d hs gs s).st) : Goes P (bodyPost P fn R) Inv s := (exS_goes bp_panic 2000 m h).2
/-- A run up to the operation whose answer is kept in the slot d. -/
theorem Goes.upto (d : Nat) (hs : List Nat) (E : List (Bool × Bool)) (hB : AllB E) (h : Goes P (bodyPost P fn R) Inv (rnS P d hs [] s).st) (hE : (rnS P d hs [] s).ob = E := by kernel_rfl) (hN : (rnS P d hs [] s).on.map (·.1) = (rnS P d hs [] s).on.map (·.2) := by kernel_rfl) : Goes P (bodyPost P fn R) Inv s :=
  rnS_goes (m := 0) fun gs hl => by
    obtain rfl : gs = [] := List.eq_nil_of_length_eq_zero hl
    exact ⟨⟨all_of_map hN, hE ▸ hB.all⟩, h⟩
theorem Goes.upto1 (d : Nat) (hs : List Nat) (E : List (Bool × Bool)) (hB : AllB E) (h : ∀ g, Goes P (bodyPost P fn R) Inv (rnS P d hs [g] s).st) (hE : ∀ g, (rnS P d hs [g] s).ob = E := by intros; kernel_rfl) (hN : ∀ g, (rnS P d hs [g] s).on.map (·.1) = (rnS P d hs [g] s).on.map (·.2) := by intros; kernel_rfl) : Goes P (bodyPost P fn R) Inv s :=
  rnS_goes (m := 1) fun gs hl => by
    obtain ⟨g, rfl⟩ := List.length_eq_one_iff.1 hl
    exact ⟨⟨all_of_map (hN g), hE g ▸ hB.all⟩, h g⟩
/-- Several ways that lead to one place: what is left from there on is shown once. K: what is to be done there. -/
theorem Goes.withJoin {α : Type} (K : List TI) (n : Nat) (S : α → List (Nat × Value)) (M : α → Mem) (I : World → Prop) (Pr : α → Prop)
    (hj : ∀ a J, Pr a → Goes P F I ⟨K, fr n (S a) J, M a⟩)
    (h : (∀ a s', Pr a → s'.todo = K → s'.tmps = fr n (S a) (jk s') → s'.mem = M a → Goes P F I s') → Goes P F Inv s) : Goes P F Inv s :=
  h fun a s' hp h1 h2 h3 => by
    have := hj a (jk s') hp
    rw [← h1, ← h2, ← h3] at this
    exact this
end
end Go.Proofs.Ytfblnjidghijaaa
