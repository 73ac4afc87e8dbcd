/- The plain mathematics of layer 2 (wire), numbers and texts: no Go in sight. -/
import Derived.WalkKit
namespace Go.Proofs.Ytfblnjidghijaaa
open Go Go.RowKit

/-- The byte at a place, as a number. -/
def at8 (l : List UInt8) (k : Nat) : Int := ((l.getD k 0).toNat : Int)
theorem at8_ge (l : List UInt8) (k : Nat) : 0 ≤ at8 l k := Int.natCast_nonneg _
theorem at8_le (l : List UInt8) (k : Nat) : at8 l k ≤ 255 := by
  unfold at8; have := (l.getD k 0).toNat_lt; omega
theorem at8_drop (l : List UInt8) (i k : Nat) : at8 (l.drop i) k = at8 l (i + k) := by
  unfold at8; simp [List.getD, List.getElem?_drop]
theorem at8_take (l : List UInt8) (n k : Nat) (h : k < n) : at8 (l.take n) k = at8 l k := by
  unfold at8; simp [List.getD, h]
theorem at8_cons_zero (c : UInt8) (r : List UInt8) : at8 (c :: r) 0 = (c.toNat : Int) := rfl
theorem drop_cons8 (l : List UInt8) (k : Nat) (h : k < l.length) : l.drop k = l.getD k 0 :: l.drop (k + 1) := by
  rw [List.drop_eq_getElem_cons h]; simp [List.getD, h]

/-- A number as one from 0 on. -/
def zig (n : Int) : Nat := if n < 0 then (-2 * n - 1).toNat else (2 * n).toNat
def unzig (u : Nat) : Int := if u % 2 = 1 then -((u / 2 : Nat) : Int) - 1 else ((u / 2 : Nat) : Int)
theorem unzig_zig (n : Int) : unzig (zig n) = n := by
  unfold unzig zig
  split <;> split <;> omega
theorem zig_unzig (u : Nat) : zig (unzig u) = u := by
  unfold unzig zig
  split <;> split <;> omega
theorem zig_lt {n : Int} (h0 : -9223372036854775808 ≤ n) (h1 : n ≤ 9223372036854775807) : zig n < 18446744073709551616 := by
  unfold zig; split <;> omega
theorem unzig_ge {u : Nat} (h : u < 18446744073709551616) : -9223372036854775808 ≤ unzig u := by unfold unzig; split <;> omega
theorem unzig_le {u : Nat} (h : u < 18446744073709551616) : unzig u ≤ 9223372036854775807 := by unfold unzig; split <;> omega
theorem zig_inj {a b : Int} (h : zig a = zig b) : a = b := by rw [← unzig_zig a, ← unzig_zig b, h]
theorem zig_nat (n : Nat) : zig (n : Int) = 2 * n := by unfold zig; rw [if_neg (by omega)]; omega
theorem zig_neg {n : Int} (h : n < 0) : (zig n : Int) = -2 * n - 1 := by unfold zig; rw [if_pos h]; omega
theorem zig_pos {n : Int} (h : ¬ n < 0) : (zig n : Int) = 2 * n := by unfold zig; rw [if_neg h]; omega

/-- A number's bytes. -/
def vb (u : Nat) : List UInt8 := if u < 128 then [UInt8.ofNat u] else UInt8.ofNat (u % 128 + 128) :: vb (u / 128)
termination_by u
theorem vb_lt {u : Nat} (h : u < 128) : vb u = [UInt8.ofNat u] := by rw [vb, if_pos h]
theorem vb_ge {u : Nat} (h : ¬ u < 128) : vb u = UInt8.ofNat (u % 128 + 128) :: vb (u / 128) := by rw [vb, if_neg h]
theorem vb_ne (u : Nat) : vb u ≠ [] := by rw [vb]; split <;> simp
theorem vb_pos (u : Nat) : 0 < (vb u).length := by rw [vb]; split <;> simp
theorem vb_len : ∀ (k u : Nat), u < 128 ^ (k + 1) → (vb u).length ≤ k + 1
  | 0, u, h => by rw [vb_lt (by simpa using h)]; simp
  | k + 1, u, h => by
    by_cases hu : u < 128
    · rw [vb_lt hu]; simp
    · rw [vb_ge hu, List.length_cons]
      have := vb_len k (u / 128) (by rw [Nat.div_lt_iff_lt_mul (by decide)]; rw [Nat.pow_succ] at h; exact h)
      omega
theorem vb_len10 {u : Nat} (h : u < 18446744073709551616) : (vb u).length ≤ 10 := vb_len 9 u (by have : (128 : Nat) ^ (9 + 1) = 1180591620717411303424 := by decide
                                                                                                 omega)
theorem zvb_len {n : Int} (h0 : -9223372036854775808 ≤ n) (h1 : n ≤ 9223372036854775807) : (vb (zig n)).length ≤ 10 := vb_len10 (zig_lt h0 h1)

theorem u8_ofNat {k : Nat} (h : k < 256) : (UInt8.ofNat k).toNat = k := by simp; omega
theorem u8_ext {a b : UInt8} (h : a.toNat = b.toNat) : a = b := UInt8.toNat_inj.1 h

/-- May a byte end a number, so many ahead of it? -/
def mayEndB (i : Nat) (c : Int) : Bool := if i = 9 then decide (c = 1) else (decide (0 < c) || decide (i = 0))

/-- What bytes say: the reading loop. -/
def dec (i u : Nat) : List UInt8 → Option (Nat × Nat)
  | [] => none
  | c :: r => if 10 ≤ i then none else
      if 128 ≤ c.toNat then dec (i + 1) ((u + c.toNat % 128 * 128 ^ i) % 18446744073709551616) r
      else if mayEndB i (c.toNat : Int) then some ((u + c.toNat % 128 * 128 ^ i) % 18446744073709551616, i + 1) else none
theorem dec_ten (u : Nat) (l : List UInt8) : dec 10 u l = none := by cases l <;> simp [dec]

theorem pow128_le {i : Nat} (h : i ≤ 8) : 128 ^ (i + 1) ≤ 9223372036854775808 := by
  have : (128 : Nat) ^ (i + 1) ≤ 128 ^ 9 := Nat.pow_le_pow_right (by decide) (by omega)
  have e : (128 : Nat) ^ 9 = 9223372036854775808 := by decide
  omega

theorem dec_iff : ∀ (l : List UInt8) (i u U k : Nat), i ≤ 9 → u < 128 ^ i →
    (dec i u l = some (U, k) ↔ ∃ q, U = u + 128 ^ i * q ∧ (i = 0 ∨ 1 ≤ q) ∧ U < 18446744073709551616 ∧ vb q <+: l ∧ k = i + (vb q).length)
  | [], i, u, U, k, hi, hu => by
    simp only [dec, List.prefix_nil]
    exact ⟨fun h => (by cases h), fun ⟨q, _, _, _, h, _⟩ => absurd h (vb_ne q)⟩
  | c :: r, i, u, U, k, hi, hu => by
    have hc : c.toNat < 256 := c.toNat_lt
    rw [dec, if_neg (by omega)]
    by_cases h128 : 128 ≤ c.toNat
    · rw [if_pos h128]
      have hcm : c.toNat % 128 = c.toNat - 128 := by omega
      by_cases h9 : i = 9
      · subst h9
        rw [dec_ten]
        refine ⟨fun h => (by cases h), ?_⟩
        rintro ⟨q, rfl, _, hU, hp, rfl⟩
        exfalso
        have e9 : (128 : Nat) ^ 9 = 9223372036854775808 := by decide
        rw [e9] at hU
        have hq : q < 128 := by omega
        rw [vb_lt hq] at hp
        obtain ⟨t, ht⟩ := hp
        simp at ht
        have := u8_ofNat (show q < 256 by omega)
        rw [ht.1] at this
        omega
      · have hp1 := pow128_le (i := i) (by omega)
        have hps : (128 : Nat) ^ (i + 1) = 128 * 128 ^ i := by rw [Nat.pow_succ]; omega
        have hub : u + c.toNat % 128 * 128 ^ i < 128 ^ (i + 1) := by
          have : c.toNat % 128 * 128 ^ i ≤ 127 * 128 ^ i := Nat.mul_le_mul_right _ (by omega)
          omega
        rw [Nat.mod_eq_of_lt (by omega)]
        rw [dec_iff r (i + 1) _ U k (by omega) hub]
        constructor
        · rintro ⟨q', rfl, h1, hU, hp, rfl⟩
          have h1' : 1 ≤ q' := by omega
          refine ⟨c.toNat % 128 + 128 * q', ?_, .inr (by omega), hU, ?_, ?_⟩
          · rw [hps, Nat.mul_add, Nat.mul_comm (128 ^ i) (c.toNat % 128)]
            have : 128 ^ i * (128 * q') = 128 * 128 ^ i * q' := by rw [← Nat.mul_assoc, Nat.mul_comm (128 ^ i) 128]
            omega
          · rw [vb_ge (by omega)]
            have e1 : (c.toNat % 128 + 128 * q') % 128 + 128 = c.toNat := by omega
            have e2 : (c.toNat % 128 + 128 * q') / 128 = q' := by omega
            rw [e1, e2]
            have : UInt8.ofNat c.toNat = c := by simp
            rw [this]
            exact List.cons_prefix_cons.2 ⟨rfl, hp⟩
          · rw [vb_ge (u := c.toNat % 128 + 128 * q') (by omega)]
            have e2 : (c.toNat % 128 + 128 * q') / 128 = q' := by omega
            rw [e2, List.length_cons]; omega
        · rintro ⟨q, rfl, h1, hU, hp, rfl⟩
          have hq : ¬ q < 128 := by
            intro hq
            rw [vb_lt hq] at hp
            have := (List.cons_prefix_cons.1 hp).1
            have h' := u8_ofNat (show q < 256 by omega)
            rw [this] at h'
            omega
          rw [vb_ge hq] at hp
          obtain ⟨hc', hp'⟩ := List.cons_prefix_cons.1 hp
          have hcq : q % 128 + 128 = c.toNat := by rw [← hc', u8_ofNat (by omega)]
          refine ⟨q / 128, ?_, .inr (by omega), hU, hp', ?_⟩
          · rw [hps]
            have e : q = c.toNat % 128 + 128 * (q / 128) := by omega
            conv => lhs; rw [e]
            rw [Nat.mul_add, Nat.mul_comm (128 ^ i) (c.toNat % 128)]
            have : 128 ^ i * (128 * (q / 128)) = 128 * 128 ^ i * (q / 128) := by rw [← Nat.mul_assoc, Nat.mul_comm (128 ^ i) 128]
            omega
          · rw [vb_ge hq, List.length_cons]; omega
    · rw [if_neg h128]
      have hcm : c.toNat % 128 = c.toNat := by omega
      have hcc : UInt8.ofNat c.toNat = c := by simp
      rw [hcm]
      have hU : mayEndB i (c.toNat : Int) = true → u + c.toNat * 128 ^ i < 18446744073709551616 := by
        unfold mayEndB
        intro h
        by_cases h9 : i = 9
        · subst h9
          simp at h
          have e9 : (128 : Nat) ^ 9 = 9223372036854775808 := by decide
          have : c.toNat = 1 := by omega
          rw [this]; rw [e9] at hu ⊢; omega
        · have hp1 := pow128_le (i := i) (by omega)
          have hps : (128 : Nat) ^ (i + 1) = 128 * 128 ^ i := by rw [Nat.pow_succ]; omega
          have : c.toNat * 128 ^ i ≤ 127 * 128 ^ i := Nat.mul_le_mul_right _ (by omega)
          omega
      constructor
      · intro h
        by_cases hm : mayEndB i (c.toNat : Int) = true
        · rw [if_pos hm] at h
          have hu' := hU hm
          rw [Nat.mod_eq_of_lt hu'] at h
          injection h with h
          injection h with hA hB
          subst hA; subst hB
          refine ⟨c.toNat, by rw [Nat.mul_comm], ?_, hu', ?_, ?_⟩
          · unfold mayEndB at hm
            by_cases h9 : i = 9
            · subst h9; simp at hm; right; omega
            · simp [h9] at hm; rcases hm with h | h
              · right; omega
              · left; exact h
          · rw [vb_lt (by omega), hcc]; exact List.cons_prefix_cons.2 ⟨rfl, List.nil_prefix⟩
          · rw [vb_lt (by omega)]; rfl
        · rw [if_neg hm] at h; cases h
      · rintro ⟨q, rfl, h1, hU', hp, rfl⟩
        have hq : q < 128 := by
          apply Classical.byContradiction
          intro hq
          rw [vb_ge hq] at hp
          have := (List.cons_prefix_cons.1 hp).1
          have h' := u8_ofNat (show q % 128 + 128 < 256 by omega)
          rw [this] at h'
          omega
        rw [vb_lt hq] at hp ⊢
        have hqc : c.toNat = q := by rw [← (List.cons_prefix_cons.1 hp).1, u8_ofNat (by omega)]
        rw [hqc]
        have hm : mayEndB i (q : Int) = true := by
          unfold mayEndB
          by_cases h9 : i = 9
          · subst h9
            have e9 : (128 : Nat) ^ 9 = 9223372036854775808 := by decide
            rw [e9] at hU'
            simp; omega
          · simp [h9]; omega
        rw [if_pos hm, Nat.mul_comm q, Nat.mod_eq_of_lt hU']
        rfl

/-- What bytes say, from their beginning. -/
def takeI (l : List UInt8) : Option (Int × Nat) := (dec 0 0 l).map fun p => (unzig p.1, p.2)
theorem dec0_iff (l : List UInt8) (U k : Nat) : dec 0 0 l = some (U, k) ↔ U < 18446744073709551616 ∧ vb U <+: l ∧ k = (vb U).length := by
  rw [dec_iff l 0 0 U k (by omega) (by simp)]
  constructor
  · rintro ⟨q, rfl, _, h1, h2, h3⟩
    simp at h1 h2 h3 ⊢
    exact ⟨h1, h2, h3⟩
  · rintro ⟨h1, h2, h3⟩
    exact ⟨U, by simp, .inl rfl, h1, h2, by omega⟩
theorem takeI_iff (l : List UInt8) (n : Int) (k : Nat) : takeI l = some (n, k) ↔ (-9223372036854775808 ≤ n ∧ n ≤ 9223372036854775807) ∧ vb (zig n) <+: l ∧ k = (vb (zig n)).length := by
  unfold takeI
  constructor
  · intro h
    obtain ⟨⟨U, k'⟩, h1, h2⟩ := Option.map_eq_some_iff.1 h
    obtain ⟨a, b, c⟩ := (dec0_iff l U k').1 h1
    simp only [Prod.mk.injEq] at h2
    obtain ⟨rfl, rfl⟩ := h2
    rw [zig_unzig]
    exact ⟨⟨unzig_ge a, unzig_le a⟩, b, c⟩
  · rintro ⟨⟨h0, h1⟩, h2, rfl⟩
    rw [(dec0_iff l (zig n) _).2 ⟨zig_lt h0 h1, h2, rfl⟩]
    simp [unzig_zig]
theorem takeI_put {n : Int} (h0 : -9223372036854775808 ≤ n) (h1 : n ≤ 9223372036854775807) (r : List UInt8) : takeI (vb (zig n) ++ r) = some (n, (vb (zig n)).length) :=
  (takeI_iff _ _ _).2 ⟨⟨h0, h1⟩, List.prefix_append _ _, rfl⟩
theorem takeI_nil : takeI [] = none := rfl
theorem takeI_len {l : List UInt8} {n : Int} {k : Nat} (h : takeI l = some (n, k)) : 1 ≤ k ∧ k ≤ 10 ∧ k ≤ l.length := by
  obtain ⟨⟨a, b⟩, c, rfl⟩ := (takeI_iff _ _ _).1 h
  exact ⟨vb_pos _, zvb_len a b, c.length_le⟩
/-- No number's bytes are the beginning of another one's. -/
theorem vb_prefix {a b : Nat} (ha : a < 18446744073709551616) (hb : b < 18446744073709551616) (h : vb a <+: vb b) : a = b := by
  have h1 := (dec0_iff (vb b) a _).2 ⟨ha, h, rfl⟩
  have h2 := (dec0_iff (vb b) b _).2 ⟨hb, List.prefix_refl _, rfl⟩
  rw [h1] at h2
  injection h2 with h2
  injection h2
end Go.Proofs.Ytfblnjidghijaaa
