/- the text NStepsW -/
import Derived.Test.YthnojedlndblbaaGreatDoorNGo
namespace Go.Proofs.YthnojedlndblbaaGreatDoor
open Go Go.RowKit

theorem ste_len {fs : Fs} {day : Int} {lab : List UInt8} {which : Int} {c : Co} {l : List (Int × Int)} : (steR fs day lab which c l).1.1.length ≤ 1000000000 ∧ (steR fs day lab which c l).1.2.length ≤ 1000000000 := by
  rcases ste_cases fs day lab which c l with ⟨h1, h2, h3⟩ | ⟨h1, -⟩
  · have hc := (chk_typ (c := c) (by simp only [Bool.and_eq_true] at h2; exact h2.1)).2.1
    obtain ⟨hll, -⟩ := rl_facts (by omega) h3
    have := step_len (fs := fs) (day := day) (lab := lab) (which := which) (c := c) l
    have h4 : szC c * ((l.length : Nat) : Int) ≤ 2000 * 2000 := Int.mul_le_mul hc (by omega) (by omega) (by omega)
    rw [h1]
    constructor <;> (simp only; omega)
  · rw [h1]; simp [r0]
end Go.Proofs.YthnojedlndblbaaGreatDoor
