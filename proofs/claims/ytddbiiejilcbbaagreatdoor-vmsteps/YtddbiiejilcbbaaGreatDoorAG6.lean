/- texts put together: DMath -/
import Derived.WalkKit
namespace Go.Proofs.YtddbiiejilcbbaaGreatDoor
open Go

def lpN (y : Nat) : Nat := if y % 4 = 0 ∧ (y % 100 ≠ 0 ∨ y % 400 = 0) then 1 else 0
theorem lpN_le (y : Nat) : lpN y ≤ 1 := by unfold lpN; split <;> omega
/-- How many days a year has. -/
def yl (y : Nat) : Nat := 365 + lpN y
def mt (m : Nat) : Nat := [31, 28, 31, 30, 31, 30, 31, 31, 30, 31, 30, 31].getD m 0
/-- How many days a month has. -/
def ml (y m : Nat) : Nat := if m = 1 then 28 + lpN y else mt m
/-- The days ahead of the year 1900 + n. -/
def yd : Nat → Nat
  | 0 => 0
  | n + 1 => yd n + yl (1900 + n)
/-- The days ahead of a month. -/
def md (y : Nat) : Nat → Nat
  | 0 => 0
  | m + 1 => md y m + ml y m
theorem yl_ge (y : Nat) : 365 ≤ yl y := by unfold yl; omega
theorem yl_le (y : Nat) : yl y ≤ 366 := by have := lpN_le y; unfold yl; omega
theorem mt_bounds {m : Nat} (h : m < 12) : 28 ≤ mt m ∧ mt m ≤ 31 := by
  match m, h with
  | 0, _ | 1, _ | 2, _ | 3, _ | 4, _ | 5, _ | 6, _ | 7, _ | 8, _ | 9, _ | 10, _ | 11, _ => exact ⟨by decide, by decide⟩
theorem ml_ge (y : Nat) {m : Nat} (h : m < 12) : 28 ≤ ml y m := by have := mt_bounds h; unfold ml; split <;> omega
theorem ml_le (y : Nat) {m : Nat} (h : m < 12) : ml y m ≤ 31 := by have := mt_bounds h; have := lpN_le y; unfold ml; split <;> omega
theorem md_twelve (y : Nat) : md y 12 = yl y := by
  have e : ∀ m, md y (m + 1) = md y m + ml y m := fun _ => rfl
  simp only [e]
  have e0 : md y 0 = 0 := rfl
  rw [e0]
  simp [ml, mt, yl]; omega
theorem yd_step (n : Nat) : yd (n + 1) = yd n + yl (1900 + n) := rfl
theorem md_step (y m : Nat) : md y (m + 1) = md y m + ml y m := rfl
theorem yd_mono {a b : Nat} (h : a ≤ b) : yd a ≤ yd b := by
  induction h with
  | refl => exact Nat.le_refl _
  | step _ ih => rw [yd_step]; omega
theorem md_mono (y : Nat) {a b : Nat} (h : a ≤ b) : md y a ≤ md y b := by
  induction h with
  | refl => exact Nat.le_refl _
  | step _ ih => rw [md_step]; omega
theorem yd_all : yd 200 = 73049 := by decide +kernel
theorem yd_le {n : Nat} (h : n ≤ 200) : yd n ≤ 73049 := by have := yd_mono h; rw [yd_all] at this; exact this
theorem md_le (y : Nat) {m : Nat} (h : m ≤ 12) : md y m ≤ yl y := by have := md_mono y h; rw [md_twelve] at this; exact this

/-- A date of the calendar: the year from 1900 on, the month from 0 on, the day from 1 on. -/
def Dt (y m d : Nat) : Prop := y < 200 ∧ m < 12 ∧ 1 ≤ d ∧ d ≤ ml (1900 + y) m
instance (y m d : Nat) : Decidable (Dt y m d) := by unfold Dt; infer_instance
/-- Its day. -/
def dn (y m d : Nat) : Nat := yd y + md (1900 + y) m + d - 1
theorem Dt.dle {y m d : Nat} (h : Dt y m d) : d ≤ 31 := Nat.le_trans h.2.2.2 (ml_le _ h.2.1)
theorem dn_year {y m d : Nat} (h : Dt y m d) : yd y ≤ dn y m d ∧ dn y m d < yd (y + 1) := by
  obtain ⟨_, h2, h3, h4⟩ := h
  have h5 := md_le (1900 + y) (m := m + 1) (by omega)
  rw [md_step] at h5
  rw [yd_step]; unfold dn; omega
theorem dn_lt {y m d y' m' d' : Nat} (h : Dt y m d) (h' : Dt y' m' d') (hl : y < y' ∨ y = y' ∧ (m < m' ∨ m = m' ∧ d < d')) : dn y m d < dn y' m' d' := by
  rcases hl with hl | ⟨rfl, hl | ⟨rfl, hl⟩⟩
  · have h1 := (dn_year h).2
    have h2 := (dn_year h').1
    have h3 := yd_mono (a := y + 1) (b := y') hl
    omega
  · have h3 := md_mono (1900 + y) (a := m + 1) (b := m') hl
    rw [md_step] at h3
    obtain ⟨_, _, h4, h5⟩ := h
    obtain ⟨_, _, h6, _⟩ := h'
    unfold dn; omega
  · obtain ⟨_, _, h4, h5⟩ := h
    unfold dn; omega
theorem dn_inj {y m d y' m' d' : Nat} (h : Dt y m d) (h' : Dt y' m' d') (he : dn y m d = dn y' m' d') : y = y' ∧ m = m' ∧ d = d' := by
  by_cases hc : y = y' ∧ m = m' ∧ d = d'
  · exact hc
  · exfalso
    rcases Nat.lt_trichotomy y y' with h1 | h1 | h1
    · have := dn_lt h h' (.inl h1); omega
    · subst h1
      rcases Nat.lt_trichotomy m m' with h2 | h2 | h2
      · have := dn_lt h h' (.inr ⟨rfl, .inl h2⟩); omega
      · subst h2
        rcases Nat.lt_trichotomy d d' with h3 | h3 | h3
        · have := dn_lt h h' (.inr ⟨rfl, .inr ⟨rfl, h3⟩⟩); omega
        · exact hc ⟨rfl, rfl, h3⟩
        · have := dn_lt h' h (.inr ⟨rfl, .inr ⟨rfl, h3⟩⟩); omega
      · have := dn_lt h' h (.inr ⟨rfl, .inl h2⟩); omega
    · have := dn_lt h' h (.inl h1); omega
def clampD (n : Int) : Nat := if n < 0 then 0 else if 73048 < n then 73048 else n.toNat
theorem clampD_le (n : Int) : clampD n ≤ 73048 := by unfold clampD; split <;> (try split) <;> omega
end Go.Proofs.YtddbiiejilcbbaaGreatDoor
