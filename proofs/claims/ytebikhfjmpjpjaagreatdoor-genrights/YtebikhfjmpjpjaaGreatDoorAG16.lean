/- texts put together: GFit -/
import Derived.Test.YtebikhfjmpjpjaaGreatDoorAG15
import Derived.Test.DevTool
namespace Go.Proofs.YtebikhfjmpjpjaaGreatDoor
open Go Go.RowKit

theorem nam_len {l : List UInt8} (h : namP l = true) : l.length ≤ 24 := by
  unfold namP at h
  simp only [Bool.and_eq_true, decide_eq_true_eq] at h
  omega
theorem cur_len {l : List UInt8} (h : curP l = true) : l.length ≤ 24 := by
  unfold curP at h
  simp only [Bool.and_eq_true, beq_iff_eq] at h
  omega
theorem reg_fit {n regs : Int} {u : Bool} (h : regR n u regs = true) (hr : regs ≤ 256) : 0 ≤ n ∧ n ≤ 256 := by
  unfold regR at h
  cases u with
  | true => simp only [cond_true, Bool.and_eq_true, decide_eq_true_eq] at h; omega
  | false => simp only [cond_false, beq_iff_eq] at h; omega
theorem pla_fit {k : Kd} {n : Int} (h : plaR k n = true) (hr : k.ins.length ≤ 16384) : I64 n := by
  unfold plaR at h
  simp only [Bool.and_eq_true, decide_eq_true_eq] at h
  exact ⟨by omega, by omega⟩
theorem i64_of {n : Int} (h1 : -1000000000000000 ≤ n) (h2 : n ≤ 1000000000000000) : I64 n := ⟨by omega, by omega⟩
theorem num_fit {k : Kd} {at' : Int} {x : Ik} (h : numR k at' x = true) (hw : k.waits.length ≤ 250) : I64 x.n := by
  unfold numR at h
  cases h1 : (x.op == 1) with
  | true => rw [h1] at h; simp only [cond_true, Bool.and_eq_true, decide_eq_true_eq] at h; exact i64_of (by omega) (by omega)
  | false =>
  rw [h1] at h
  cases h2 : (x.op == 2 || x.op == 3) with
  | true => rw [h2] at h; simp only [cond_true, cond_false, Bool.and_eq_true, decide_eq_true_eq] at h; exact i64_of (by omega) (by omega)
  | false =>
  rw [h2] at h
  cases h3 : (x.op == 21 || x.op == 22) with
  | true => rw [h3] at h; simp only [cond_true, cond_false, Bool.and_eq_true, decide_eq_true_eq] at h; exact i64_of (by omega) (by omega)
  | false =>
  rw [h3] at h
  cases h4 : (x.op == 28) with
  | true => rw [h4] at h; simp only [cond_true, cond_false, Bool.and_eq_true, decide_eq_true_eq] at h; exact i64_of (by omega) (by omega)
  | false =>
  rw [h4] at h
  cases h5 : (x.op == 29) with
  | true => rw [h5] at h; simp only [cond_true, cond_false, Bool.and_eq_true, decide_eq_true_eq] at h; exact i64_of (by omega) (by omega)
  | false =>
  rw [h5] at h
  simp only [cond_false, beq_iff_eq] at h
  exact i64_of (by omega) (by omega)
theorem txt_fit {x : Ik} (h : txtR x = true) : x.s.length ≤ 24 := by
  unfold txtR at h
  cases h1 : (x.op == 2) with
  | true => rw [h1] at h; exact nam_len h
  | false =>
  rw [h1] at h
  cases h2 : (x.op == 27) with
  | true => rw [h2] at h; exact cur_len h
  | false =>
  rw [h2] at h
  simp only [cond_false, decide_eq_true_eq] at h
  rw [h]
  simp
theorem to_fit {k : Kd} {at' : Int} {x : Ik} (h : toR k at' x = true) (ha : 0 ≤ at') (hr : k.ins.length ≤ 16384) : I64 x.to := by
  unfold toR at h
  cases h1 : hasR (usesR x.op).1 84 with
  | true => rw [h1] at h; simp only [cond_true, Bool.and_eq_true, decide_eq_true_eq] at h; exact i64_of (by omega) (by omega)
  | false => rw [h1] at h; simp only [cond_false, beq_iff_eq] at h; exact i64_of (by omega) (by omega)
theorem op_fit {op : Int} (h : (usesR op).2 = true) : I64 op := by
  by_cases hb : 1 ≤ op ∧ op ≤ 30
  · exact i64_of (by omega) (by omega)
  · exfalso
    have n1 : (op == 1) = false := by simpa using (by omega : op ≠ 1)
    have n2 : (op == 2) = false := by simpa using (by omega : op ≠ 2)
    have n3 : (op == 3) = false := by simpa using (by omega : op ≠ 3)
    have n4 : (op == 4) = false := by simpa using (by omega : op ≠ 4)
    have n5 : (op == 5) = false := by simpa using (by omega : op ≠ 5)
    have n6 : (op == 6) = false := by simpa using (by omega : op ≠ 6)
    have n7 : (op == 7) = false := by simpa using (by omega : op ≠ 7)
    have n8 : (op == 8) = false := by simpa using (by omega : op ≠ 8)
    have n9 : (op == 9) = false := by simpa using (by omega : op ≠ 9)
    have n10 : (op == 10) = false := by simpa using (by omega : op ≠ 10)
    have n11 : (op == 11) = false := by simpa using (by omega : op ≠ 11)
    have n12 : (op == 12) = false := by simpa using (by omega : op ≠ 12)
    have n13 : (op == 13) = false := by simpa using (by omega : op ≠ 13)
    have n14 : (op == 14) = false := by simpa using (by omega : op ≠ 14)
    have n15 : (op == 15) = false := by simpa using (by omega : op ≠ 15)
    have n16 : (op == 16) = false := by simpa using (by omega : op ≠ 16)
    have n17 : (op == 17) = false := by simpa using (by omega : op ≠ 17)
    have n18 : (op == 18) = false := by simpa using (by omega : op ≠ 18)
    have n19 : (op == 19) = false := by simpa using (by omega : op ≠ 19)
    have n20 : (op == 20) = false := by simpa using (by omega : op ≠ 20)
    have n21 : (op == 21) = false := by simpa using (by omega : op ≠ 21)
    have n22 : (op == 22) = false := by simpa using (by omega : op ≠ 22)
    have n23 : (op == 23) = false := by simpa using (by omega : op ≠ 23)
    have n24 : (op == 24) = false := by simpa using (by omega : op ≠ 24)
    have n25 : (op == 25) = false := by simpa using (by omega : op ≠ 25)
    have n26 : (op == 26) = false := by simpa using (by omega : op ≠ 26)
    have n27 : (op == 27) = false := by simpa using (by omega : op ≠ 27)
    have n28 : (op == 28) = false := by simpa using (by omega : op ≠ 28)
    have n29 : (op == 29) = false := by simpa using (by omega : op ≠ 29)
    have n30 : (op == 30) = false := by simpa using (by omega : op ≠ 30)
    unfold usesR at h
    rw [n1, n2, n3, n4, n5, n6, n7, n8, n9, n10, n11, n12, n13, n14, n15, n16, n17, n18, n19, n20, n21, n22, n23, n24, n25, n26, n27, n28, n29, n30] at h
    cases h
theorem insL_mem {k : Kd} : ∀ {l : List Ik} {i : Int}, insL k i l = true → 0 ≤ i → ∀ x ∈ l, ∃ j, 0 ≤ j ∧ insR k j x = true
  | [], _, _, _, x, hx => by cases hx
  | y :: r, i, h, hi, x, hx => by
    have h2 : (insR k i y && insL k (i + 1) r) = true := h
    rw [Bool.and_eq_true] at h2
    rcases List.mem_cons.1 hx with rfl | hx
    · exact ⟨i, hi, h2.1⟩
    · exact insL_mem h2.2 (by omega) x hx
/-- What is right is small. -/
theorem right_fit {k : Kd} (h : rightR k = true) : k.Fit := by
  unfold rightR at h
  rw [Bool.and_eq_true, Bool.and_eq_true] at h
  obtain ⟨⟨hh, hw⟩, hi⟩ := h
  unfold headR at hh
  simp only [Bool.and_eq_true, decide_eq_true_eq] at hh
  obtain ⟨⟨⟨⟨⟨r0, r1⟩, w1⟩, i1⟩, i2⟩, -⟩ := hh
  refine ⟨i64_of (by omega) (by omega), w1, i2, fun x hx => ?_, fun x hx => ?_⟩
  · have h1 := List.all_eq_true.1 hw x hx
    unfold waiR at h1
    simp only [Bool.and_eq_true, decide_eq_true_eq] at h1
    obtain ⟨⟨⟨p0, d0⟩, d1⟩, hl⟩ := h1
    refine ⟨pla_fit p0 i2, i64_of (by omega) (by omega), ?_⟩
    cases he : decide (x.label = []) with
    | true =>
      rw [he] at hl
      simp only [cond_true, Bool.and_eq_true, beq_iff_eq] at hl
      have := of_decide_eq_true he
      exact ⟨i64_of (by omega) (by omega), i64_of (by omega) (by omega), by rw [this]; simp⟩
    | false =>
      rw [he] at hl
      simp only [cond_false, Bool.and_eq_true] at hl
      exact ⟨pla_fit hl.1.2 i2, pla_fit hl.2 i2, nam_len hl.1.1⟩
  · obtain ⟨j, hj, h1⟩ := insL_mem hi (Int.le_refl 0) x hx
    unfold insR at h1
    simp only [Bool.and_eq_true] at h1
    obtain ⟨⟨⟨⟨⟨⟨g1, g2⟩, g3⟩, g4⟩, g5⟩, g6⟩, g7⟩ := h1
    have a1 := reg_fit g2 r1
    have a2 := reg_fit g3 r1
    have a3 := reg_fit g4 r1
    exact ⟨op_fit g1, i64_of (by omega) (by omega), i64_of (by omega) (by omega), i64_of (by omega) (by omega), num_fit g5 w1, to_fit g7 hj i2, txt_fit g6⟩
end Go.Proofs.YtebikhfjmpjpjaaGreatDoor
