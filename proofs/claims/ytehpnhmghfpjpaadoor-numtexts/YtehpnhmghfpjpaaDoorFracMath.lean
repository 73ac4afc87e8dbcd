/- The digits behind the point, written by the reference's way: plain mathematics. -/
import Derived.Test.YtehpnhmghfpjpaaDoorBackMath
namespace Go.Proofs.YtehpnhmghfpjpaaDoor

/-- Digits of one length that stand for one number are the same. -/
theorem valW_inj : ∀ (a b : List UInt8), a.length = b.length → a.all isD = true → b.all isD = true → valW 0 a = valW 0 b → a = b
  | [], [], _, _, _, _ => rfl
  | [], _ :: _, h, _, _, _ => by simp at h
  | _ :: _, [], h, _, _, _ => by simp at h
  | x :: a, y :: b, h, ha, hb, hv => by
    simp only [List.all_cons, Bool.and_eq_true] at ha hb
    simp only [List.length_cons, Nat.add_right_cancel_iff] at h
    have e1 : valW 0 (x :: a) = dv x * 10 ^ a.length + valW 0 a := by
      show valW (0 * 10 + dv x) a = _; rw [valW_split]; simp
    have e2 : valW 0 (y :: b) = dv y * 10 ^ b.length + valW 0 b := by
      show valW (0 * 10 + dv y) b = _; rw [valW_split]; simp
    have l1 := valW_lt a 0 ha.2
    have l2 := valW_lt b 0 hb.2
    rw [e1, e2, ← h] at hv
    rw [← h] at l2
    simp only [Nat.zero_add, Nat.one_mul] at l1 l2
    have hd : dv x = dv y := by
      have q1 : (dv x * 10 ^ a.length + valW 0 a) / 10 ^ a.length = dv x := by
        rw [Nat.mul_comm, Nat.mul_add_div (Nat.pow_pos (by omega)), Nat.div_eq_of_lt l1]; rfl
      have q2 : (dv y * 10 ^ a.length + valW 0 b) / 10 ^ a.length = dv y := by
        rw [Nat.mul_comm, Nat.mul_add_div (Nat.pow_pos (by omega)), Nat.div_eq_of_lt l2]; rfl
      rw [← q1, hv, q2]
    have hxy : x = y := by
      have h1 := (isD_iff x).1 ha.1
      have h2 := (isD_iff y).1 hb.1
      unfold dv at hd
      exact UInt8.toNat_inj.1 (by omega)
    rw [hd] at hv
    rw [hxy, valW_inj a b h ha.2 hb.2 (by omega)]

theorem valW_zeros (l : List UInt8) : ∀ j n, valW n (l ++ List.replicate j 48) = valW n l * 10 ^ j
  | 0, n => by simp
  | j + 1, n => by
    rw [List.replicate_succ', ← List.append_assoc, valW_snoc, valW_zeros l j n, Nat.pow_succ, ← Nat.mul_assoc]
    simp [dv]

/-- The last place that is written is no nought. -/
def LInv (s : List UInt8 × Int × Int) : Prop := s.2.1 = 0 → s.1 = [] ∨ ∃ t c, s.1 = t ++ [c] ∧ c ≠ 48
theorem LInv.next {s : List UInt8 × Int × Int} (h : LInv s) (hg : Good s) : LInv (putF s) := by
  unfold putF
  by_cases hz : s.2.1 = 0
  · rw [if_pos hz]; exact h
  · rw [if_neg hz]
    intro h0
    right
    refine ⟨s.1, _, rfl, ?_⟩
    obtain ⟨a1, a2, a3, a4, a5, a6, _⟩ := hg.step hz
    simp only at h0
    have hq : s.2.1 / (s.2.2 / 10) ≠ 0 := fun e => by
      have := Int.emod_add_mul_ediv s.2.1 (s.2.2 / 10)
      rw [e, h0] at this
      simp at this
      exact hz this.symm
    intro e
    have := congrArg UInt8.toNat e
    rw [ofNat_digit (show (s.2.1 / (s.2.2 / 10)).toNat ≤ 9 by omega)] at this
    have h48 : (48 : UInt8).toNat = 48 := rfl
    rw [h48] at this
    omega

theorem linv_all {r : Nat} (hr : r < 1000000) (h0 : 0 < r) : ∀ k, LInv (putN k ([], (r : Int), 1000000)) ∧ Good (putN k ([], (r : Int), 1000000))
  | 0 => ⟨fun _ => Or.inl rfl, Or.inr ⟨6, by omega, by omega, by simp [putN], by simp [putN]; omega, by simp [putN]; omega⟩⟩
  | k + 1 => ⟨(linv_all hr h0 k).1.next (linv_all hr h0 k).2, (linv_all hr h0 k).2.next⟩

/-- The digits of a million and r, without the first: those behind the point, and noughts. -/
theorem tail_eq {r : Nat} (hr : r < 1000000) (h0 : 0 < r) :
    ∃ t c j, fracDigits (r : Int) = t ++ [c] ∧ c ≠ 48 ∧ j ≤ 5 ∧ Lib.decDigits (1000000 + r) = 49 :: (fracDigits (r : Int) ++ List.replicate j 48) := by
  obtain ⟨h1, h2, _, h4, h5, h6⟩ := finv_all hr 6 (Nat.le_refl _)
  obtain ⟨g1, g2⟩ := linv_all hr h0 6
  have hl : (putN 6 ([], (r : Int), 1000000)).2.1 = 0 := by
    rcases Int.lt_or_le 0 (putN 6 ([], (r : Int), 1000000)).2.1 with h | h
    · have := (h6 (by omega)).2.2; simp at this; omega
    · omega
  rw [hl] at h5
  have g := g1 hl
  clear g1 g2 h6 h4 hl
  show ∃ t c j, (putN 6 ([], (r : Int), 1000000)).1 = t ++ [c] ∧ c ≠ 48 ∧ j ≤ 5 ∧ Lib.decDigits (1000000 + r) = 49 :: ((putN 6 ([], (r : Int), 1000000)).1 ++ List.replicate j 48)
  generalize (putN 6 ([], (r : Int), 1000000)).1 = d at *
  have h5' : r = valW 0 d * 10 ^ (6 - d.length) := by omega
  rcases g with g | ⟨t, c, e, hc⟩
  · rw [g] at h5'; simp [valW] at h5'; omega
  · have hdl : 1 ≤ d.length := by rw [e]; simp
    refine ⟨t, c, 6 - d.length, e, hc, by omega, ?_⟩
    have hL : (Lib.decDigits (1000000 + r)).length = 7 := by
      have e1 : ∀ k u, 10 ^ k ≤ u → k + 1 ≤ (Lib.decDigits u).length := fun k => by
        induction k with
        | zero => intro u _; have := dec_ne u; cases hx : Lib.decDigits u; exact absurd hx this; simp
        | succ k ih =>
          intro u hu
          have hp : 1 ≤ 10 ^ k := Nat.pow_pos (by omega)
          rw [Nat.pow_succ] at hu
          rw [dec_big (by omega)]
          have := ih (u / 10) (by omega)
          simp; omega
      have a1 := e1 6 (1000000 + r) (by omega)
      have a2 := decDigits_len 6 (1000000 + r) (by omega)
      omega
    apply valW_inj
    · simp; omega
    · exact dec_all _
    · rw [List.all_cons, List.all_append, h1]
      have : (List.replicate (6 - d.length) (48 : UInt8)).all isD = true := by
        rw [List.all_eq_true]; intro x hx; rw [List.eq_of_mem_replicate hx]; decide
      rw [this]; rfl
    · rw [dec_val]
      show _ = valW (0 * 10 + dv 49) (d ++ List.replicate (6 - d.length) 48)
      rw [valW_zeros, valW_split d, Nat.add_mul, ← h5', Nat.mul_assoc, ← Nat.pow_add, show d.length + (6 - d.length) = 6 by omega]
      rfl
end Go.Proofs.YtehpnhmghfpjpaaDoor
