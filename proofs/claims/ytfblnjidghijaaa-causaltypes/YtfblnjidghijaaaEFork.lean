/- The engine: a fork whose two ways meet again. -/
import Derived.Test.YtfblnjidghijaaaEStop
namespace Go.Proofs.Ytfblnjidghijaaa
open Go Go.RowKit

section
variable {P : Program} {Inv : World → Prop} {s : St} {fn : Func} {R : Ending → World → Prop}
/-- Two ways, by a truth b, up to the operation with the slot d: what is known there is told by S. -/
theorem Goes.fork (b : Bool) (d n : Nat) (S S1 S0 : List (Nat × Value)) (hs1 hs0 : List Nat) (E1 E0 : List (Bool × Bool)) (q1 : b = true → S1 = S ∧ AllB E1) (q0 : b = false → S0 = S ∧ AllB E0)
    (h : ∀ J, Goes P (bodyPost P fn R) Inv ⟨(rnS P d hs1 [] s).st.todo, fr n S J, s.mem⟩)
    (o1 : (rnS P d hs1 [] s).ob = E1 := by kernel_rfl) (n1 : (rnS P d hs1 [] s).on.map (·.1) = (rnS P d hs1 [] s).on.map (·.2) := by kernel_rfl) (t1 : (rnS P d hs1 [] s).st.tmps = fr n S1 (jk (rnS P d hs1 [] s).st) := by kernel_rfl) (m1 : (rnS P d hs1 [] s).st.mem = s.mem := by kernel_rfl)
    (o0 : (rnS P d hs0 [] s).ob = E0 := by kernel_rfl) (n0 : (rnS P d hs0 [] s).on.map (·.1) = (rnS P d hs0 [] s).on.map (·.2) := by kernel_rfl) (t0 : (rnS P d hs0 [] s).st.tmps = fr n S0 (jk (rnS P d hs0 [] s).st) := by kernel_rfl) (m0 : (rnS P d hs0 [] s).st.mem = s.mem := by kernel_rfl) (e0 : (rnS P d hs0 [] s).st.todo = (rnS P d hs1 [] s).st.todo := by kernel_rfl) : Goes P (bodyPost P fn R) Inv s := by
  cases b with
  | true =>
    obtain ⟨eS, hB⟩ := q1 rfl
    refine Goes.upto d hs1 E1 hB ?_ o1 n1
    have := h (jk (rnS P d hs1 [] s).st)
    rw [← eS, ← t1, ← m1] at this
    exact this
  | false =>
    obtain ⟨eS, hB⟩ := q0 rfl
    refine Goes.upto d hs0 E0 hB ?_ o0 n0
    have := h (jk (rnS P d hs0 [] s).st)
    rw [← eS, ← t0, ← m0, ← e0] at this
    exact this
/-- Several ways that meet at the operation with the slot d: what is left from there on. -/
theorem Goes.meet (d n : Nat) (S : List (Nat × Value)) (hs0 : List Nat) (h : (∀ J, Goes P (bodyPost P fn R) Inv ⟨(rnS P d hs0 [] s).st.todo, fr n S J, s.mem⟩) → Goes P (bodyPost P fn R) Inv s) (H : ∀ J, Goes P (bodyPost P fn R) Inv ⟨(rnS P d hs0 [] s).st.todo, fr n S J, s.mem⟩) : Goes P (bodyPost P fn R) Inv s := h H
/-- One of them. -/
theorem Goes.way {d n : Nat} {S : List (Nat × Value)} {hs0 : List Nat} (H : ∀ J, Goes P (bodyPost P fn R) Inv ⟨(rnS P d hs0 [] s).st.todo, fr n S J, s.mem⟩) (hs1 : List Nat) (S1 : List (Nat × Value)) (E1 : List (Bool × Bool)) (hS : S1 = S) (hB : AllB E1)
    (o1 : (rnS P d hs1 [] s).ob = E1 := by kernel_rfl) (n1 : (rnS P d hs1 [] s).on.map (·.1) = (rnS P d hs1 [] s).on.map (·.2) := by kernel_rfl) (t1 : (rnS P d hs1 [] s).st.tmps = fr n S1 (jk (rnS P d hs1 [] s).st) := by kernel_rfl) (m1 : (rnS P d hs1 [] s).st.mem = s.mem := by kernel_rfl) (e1 : (rnS P d hs1 [] s).st.todo = (rnS P d hs0 [] s).st.todo := by kernel_rfl) : Goes P (bodyPost P fn R) Inv s := by
  refine Goes.upto d hs1 E1 hB ?_ o1 n1
  have := H (jk (rnS P d hs1 [] s).st)
  rw [← hS, ← t1, ← m1, ← e1] at this
  exact this
end
end Go.Proofs.Ytfblnjidghijaaa
