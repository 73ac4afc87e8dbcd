/- the text YPureW -/
import Derived.Test.YtommhgmlblecnaaGreatDoorYGf
import Derived.Test.YtommhgmlblecnaaGreatDoorYGa
namespace Go.Proofs.YtommhgmlblecnaaGreatDoor
open Go Go.RowKit

/-- What an answer without a fault says. -/
theorem whP_ok {row : List Tk → RS → Tr × RS} {l : List UInt8} (h : (whP row l).2.2 = 0) : (prt l).2.1 = 0 ∧ (rKind (prt l).1 0 (row (prt l).1 ⟨0, 0, 0⟩).2).wh = 0 ∧ whP row l = ((row (prt l).1 ⟨0, 0, 0⟩).1, 0, 0) := by
  unfold whP at h ⊢
  cases h0 : ((prt l).2.1 != 0) with
  | true =>
    rw [h0] at h
    have : (prt l).2.1 = 0 := h
    rw [this] at h0
    cases h0
  | false =>
    have e0 : (prt l).2.1 = 0 := by simpa using h0
    rw [h0] at h
    simp only [cond_false] at h ⊢
    unfold whR at h ⊢
    cases h1 : ((rKind (prt l).1 0 (row (prt l).1 ⟨0, 0, 0⟩).2).wh != 0) with
    | true =>
      rw [h1] at h
      have : (rKind (prt l).1 0 (row (prt l).1 ⟨0, 0, 0⟩).2).wh = 0 := h
      rw [this] at h1
      cases h1
    | false => exact ⟨e0, by simpa using h1, rfl⟩
/-- Where the end is wanted and comes. -/
theorem kind_end {ts : List Tk} {s : RS} (hz : (rKind ts 0 s).wh = 0) : s.wh = 0 ∧ (tkAt ts s).k = 0 := by
  refine ⟨(kp_kind ts 0 s).zero hz, ?_⟩
  unfold rKind at hz
  cases h : (tkAt ts s).k != 0 with
  | true => rw [h] at hz; exact absurd hz (fail_wh ts (by decide))
  | false => simpa using h
theorem end_last {body : List Tk} {n : Nat} (hb : ∀ t ∈ body, t.k ≠ 0) {s : RS} (hi : s.i < (body ++ [endK n]).length) (hk : (tkAt (body ++ [endK n]) s).k = 0) : s.i = body.length := by
  rcases Nat.lt_or_ge s.i body.length with h | h
  · exfalso
    unfold tkAt at hk
    rw [show (body ++ [endK n]).getD s.i tk0 = body[s.i] by simp [List.getD, List.getElem?_append_left h, h]] at hk
    exact hb _ (List.getElem_mem h) hk
  · simp at hi
    omega
theorem getD_mid {A B : List Tk} {i : Nat} (h : i < B.length) {C : List Tk} : (A ++ B ++ C).getD (i + A.length) tk0 = B.getD i tk0 := by
  rw [List.append_assoc]
  simp [List.getD, List.getElem?_append_right, List.getElem?_append_left h]
theorem snoc_inj {A B : List Tk} {a b : Tk} (h : A ++ [a] = B ++ [b]) : A = B := (List.append_inj' h rfl).1
end Go.Proofs.YtommhgmlblecnaaGreatDoor
