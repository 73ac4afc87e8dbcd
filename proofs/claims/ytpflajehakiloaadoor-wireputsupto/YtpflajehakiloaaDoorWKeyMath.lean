/- The plain mathematics of keys: parts of numbers and texts, what they say, and how they stand. -/
import Derived.Test.YtpflajehakiloaaDoorWMath
namespace Go.Proofs.YtpflajehakiloaaDoor
open Go Go.RowKit

/-- The last k bytes of a number, the highest first. -/
def beN : Nat → Nat → List UInt8
  | 0, _ => []
  | k + 1, u => UInt8.ofNat (u / 256 ^ k % 256) :: beN k u
theorem beN_len : ∀ k u, (beN k u).length = k
  | 0, _ => rfl
  | k + 1, u => by rw [beN, List.length_cons, beN_len k u]
theorem beN_get : ∀ (k u i : Nat), i < k → (beN k u)[i]? = some (UInt8.ofNat (u / 256 ^ (k - 1 - i) % 256))
  | 0, _, i, h => by omega
  | k + 1, u, 0, h => by simp [beN]
  | k + 1, u, i + 1, h => by
    rw [beN, List.getElem?_cons_succ, beN_get k u i (by omega)]
    have : k + 1 - 1 - (i + 1) = k - 1 - i := by omega
    rw [this]
theorem beN_take (k u i : Nat) (h : i < k) : (beN k u).take (i + 1) = (beN k u).take i ++ [UInt8.ofNat (u / 256 ^ (k - 1 - i) % 256)] := by
  rw [List.take_add_one, beN_get k u i h]; rfl
theorem beN_full (k u : Nat) : (beN k u).take k = beN k u := List.take_of_length_le (by rw [beN_len]; exact Nat.le_refl _)
/-- What bytes say, the highest first. -/
def val (u : Nat) : List UInt8 → Nat
  | [] => u
  | c :: r => val (u * 256 + c.toNat) r
theorem val_append : ∀ (a b : List UInt8) (u : Nat), val u (a ++ b) = val (val u a) b
  | [], b, u => rfl
  | c :: r, b, u => by rw [List.cons_append, val, val_append r b]; rfl
theorem val_lt : ∀ (l : List UInt8) (u m : Nat), u < m → val u l < m * 256 ^ l.length
  | [], u, m, h => by simpa [val] using h
  | c :: r, u, m, h => by
    rw [val, List.length_cons]
    have hc : c.toNat < 256 := c.toNat_lt
    have := val_lt r (u * 256 + c.toNat) (m * 256) (by omega)
    rw [Nat.pow_succ, Nat.mul_comm (256 ^ r.length) 256, ← Nat.mul_assoc]; exact this
theorem val_beN : ∀ (k u h : Nat), val h (beN k u) = h * 256 ^ k + u % 256 ^ k
  | 0, u, h => by simp [beN, val, Nat.mod_one]
  | k + 1, u, h => by
    have e : (UInt8.ofNat (u / 256 ^ k % 256)).toNat = u / 256 ^ k % 256 := u8_ofNat (Nat.mod_lt _ (by decide))
    rw [beN, val, val_beN k u, e]
    have h1 : u % 256 ^ (k + 1) = u % 256 ^ k + 256 ^ k * (u / 256 ^ k % 256) := by rw [Nat.pow_succ, Nat.mod_mul]
    rw [h1, Nat.pow_succ, Nat.add_mul, Nat.mul_assoc, Nat.mul_comm 256 (256 ^ k), Nat.mul_comm (u / 256 ^ k % 256)]
    omega
theorem beN_val : ∀ (l : List UInt8) (h : Nat), beN l.length (val h l) = l
  | [], h => rfl
  | c :: r, h => by
    have hc : c.toNat < 256 := c.toNat_lt
    rw [List.length_cons, beN, val]
    have h1 : val (h * 256 + c.toNat) r / 256 ^ r.length = h * 256 + c.toNat := by
      have hlt := val_lt r 0 1 (by omega)
      have key : ∀ (l : List UInt8) (x : Nat), val x l = x * 256 ^ l.length + val 0 l := by
        intro l
        induction l with
        | nil => intro x; simp [val]
        | cons d t ih =>
          intro x
          rw [val, ih, val, ih (0 * 256 + d.toNat), List.length_cons, Nat.pow_succ, Nat.add_mul, Nat.add_mul, Nat.mul_assoc x, Nat.mul_comm 256]
          omega
      rw [key r (h * 256 + c.toNat), Nat.mul_comm, Nat.mul_add_div (Nat.pow_pos (by decide)), Nat.div_eq_of_lt (by omega)]; omega
    rw [h1, beN_val r]
    congr 1
    apply u8_ext
    rw [u8_ofNat (Nat.mod_lt _ (by decide))]; omega

/-- A number's part of a key. -/
def ku (n : Int) : Nat := (n + 9223372036854775808).toNat
def kb (n : Int) : List UInt8 := beN 8 (ku n)
theorem kb_len (n : Int) : (kb n).length = 8 := beN_len 8 _
theorem ku_lt {n : Int} (h0 : -9223372036854775808 ≤ n) (h1 : n ≤ 9223372036854775807) : ku n < 18446744073709551616 := by unfold ku; omega
/-- The number that eight bytes say. -/
def unku (u : Nat) : Int := (u : Int) - 9223372036854775808
theorem unku_ku {n : Int} (h0 : -9223372036854775808 ≤ n) : unku (ku n) = n := by unfold unku ku; omega
theorem ku_unku (u : Nat) : ku (unku u) = u := by unfold unku ku; omega
theorem val_kb {n : Int} (h0 : -9223372036854775808 ≤ n) (h1 : n ≤ 9223372036854775807) : val 0 (kb n) = ku n := by
  have e : (256 : Nat) ^ 8 = 18446744073709551616 := by decide
  unfold kb
  rw [val_beN, e, Nat.mod_eq_of_lt (ku_lt h0 h1)]; omega
theorem kb_val {l : List UInt8} (h : l.length = 8) : kb (unku (val 0 l)) = l := by
  unfold kb
  rw [ku_unku, ← h, beN_val]
theorem val8_lt {l : List UInt8} (h : l.length ≤ 8) : val 0 l < 18446744073709551616 := by
  have h1 := val_lt l 0 1 (by omega)
  have h2 : (256 : Nat) ^ l.length ≤ 256 ^ 8 := Nat.pow_le_pow_right (by decide) h
  have e : (256 : Nat) ^ 8 = 18446744073709551616 := by decide
  omega
/-- What is taken of a number's part. -/
def takeKI (l : List UInt8) : Option (Int × Nat) := if 8 ≤ l.length then some (unku (val 0 (l.take 8)), 8) else none
theorem takeKI_put {n : Int} (h0 : -9223372036854775808 ≤ n) (h1 : n ≤ 9223372036854775807) (r : List UInt8) : takeKI (kb n ++ r) = some (n, 8) := by
  unfold takeKI
  rw [if_pos (by rw [List.length_append, kb_len]; omega), List.take_append_of_le_length (by rw [kb_len]; omega), List.take_of_length_le (by rw [kb_len]; omega), val_kb h0 h1, unku_ku h0]

/-- A text's part of a key. -/
def escB (c : UInt8) : List UInt8 := if c = 0 then [0, 255] else [c]
def esc (s : List UInt8) : List UInt8 := s.flatMap escB
def kt (s : List UInt8) : List UInt8 := esc s ++ [0, 1]
theorem esc_nil : esc [] = [] := rfl
theorem esc_cons (c : UInt8) (s : List UInt8) : esc (c :: s) = escB c ++ esc s := rfl
theorem esc_append (a b : List UInt8) : esc (a ++ b) = esc a ++ esc b := by simp [esc]
theorem esc_len : ∀ s : List UInt8, (esc s).length = s.length + s.count 0
  | [] => rfl
  | c :: s => by
    rw [esc_cons, List.length_append, esc_len s, List.length_cons, List.count_cons]
    unfold escB
    by_cases h : c = 0
    · simp [h]; omega
    · simp [h]; omega
theorem esc_take_len (s : List UInt8) (k : Nat) : (esc (s.take k)).length ≤ (esc s).length := by
  have h : esc s = esc (s.take k) ++ esc (s.drop k) := by rw [← esc_append, List.take_append_drop]
  rw [h, List.length_append]; omega
theorem esc_take_succ (s : List UInt8) (k : Nat) (h : k < s.length) : esc (s.take (k + 1)) = esc (s.take k) ++ escB (s.getD k 0) := by
  rw [List.take_add_one, esc_append]
  simp [List.getD, h, esc]
theorem kt_len (s : List UInt8) : (kt s).length = s.length + s.count 0 + 2 := by unfold kt; rw [List.length_append, esc_len]; rfl
theorem kt_len_le (s : List UInt8) : (kt s).length ≤ 2 * s.length + 2 := by rw [kt_len]; have := List.count_le_length (a := (0 : UInt8)) (l := s); omega
theorem kt_nil : kt [] = [0, 1] := rfl
theorem kt_cons (c : UInt8) (s : List UInt8) : kt (c :: s) = escB c ++ kt s := by unfold kt; rw [esc_cons, List.append_assoc]
/-- What is taken of a text's part: the reading loop. -/
def kdec (acc : List UInt8) (i : Nat) : List UInt8 → Option (List UInt8 × Nat)
  | [] => none
  | c :: r => if c ≠ 0 then kdec (acc ++ [c]) (i + 1) r else
      match r with
      | [] => none
      | d :: r' => if d = 1 then some (acc, i + 2) else if d = 255 then kdec (acc ++ [0]) (i + 2) r' else none
theorem kdec_ne (acc : List UInt8) (i : Nat) (c : UInt8) (r : List UInt8) (h : c ≠ 0) : kdec acc i (c :: r) = kdec (acc ++ [c]) (i + 1) r := by rw [kdec.eq_def]; simp [h]
theorem kdec_end (acc : List UInt8) (i : Nat) : kdec acc i [0] = none := by rw [kdec.eq_def]; simp
theorem kdec_zero (acc : List UInt8) (i : Nat) (d : UInt8) (r : List UInt8) : kdec acc i (0 :: d :: r) = if d = 1 then some (acc, i + 2) else if d = 255 then kdec (acc ++ [0]) (i + 2) r else none := by rw [kdec.eq_def]; simp
theorem kdec_iff : ∀ (n : Nat) (l acc : List UInt8) (i : Nat) (T : List UInt8) (k : Nat), l.length ≤ n →
    (kdec acc i l = some (T, k) ↔ ∃ t, T = acc ++ t ∧ kt t <+: l ∧ k = i + (kt t).length)
  | _, [], acc, i, T, k, _ => by
    simp only [kdec, List.prefix_nil]
    exact ⟨fun h => (by cases h), fun ⟨t, _, h, _⟩ => by have := kt_len t; rw [h] at this; simp at this⟩
  | 0, c :: r, acc, i, T, k, h => by simp at h
  | n + 1, c :: r, acc, i, T, k, hn => by
    have hn' : r.length ≤ n := by simpa using hn
    by_cases hc : c = 0
    · subst hc
      cases r with
      | nil =>
        rw [kdec_end]
        refine ⟨fun h => (by cases h), ?_⟩
        rintro ⟨t, _, h, _⟩
        have h1 := h.length_le
        have := kt_len t
        simp at h1; omega
      | cons d r' =>
        rw [kdec_zero]
        by_cases h1 : d = 1
        · subst h1
          rw [if_pos rfl]
          constructor
          · intro h
            injection h with h
            injection h with hA hB
            exact ⟨[], by simp [hA], by rw [kt_nil]; exact List.cons_prefix_cons.2 ⟨rfl, List.cons_prefix_cons.2 ⟨rfl, List.nil_prefix⟩⟩, by rw [kt_nil]; simp [← hB]⟩
          · rintro ⟨t, rfl, hp, rfl⟩
            cases t with
            | nil => simp [kt_nil]
            | cons e t' =>
              exfalso
              rw [kt_cons] at hp
              unfold escB at hp
              by_cases he : e = 0
              · rw [if_pos he] at hp
                have := (List.cons_prefix_cons.1 (List.cons_prefix_cons.1 hp).2).1
                exact absurd this (by decide)
              · rw [if_neg he] at hp
                exact he (List.cons_prefix_cons.1 hp).1
        · rw [if_neg h1]
          by_cases h2 : d = 255
          · subst h2
            rw [if_pos rfl, kdec_iff n r' _ _ _ _ (by simp at hn'; omega)]
            constructor
            · rintro ⟨t, rfl, hp, rfl⟩
              refine ⟨0 :: t, by simp, ?_, ?_⟩
              · rw [kt_cons]; unfold escB; rw [if_pos rfl]
                exact List.cons_prefix_cons.2 ⟨rfl, List.cons_prefix_cons.2 ⟨rfl, hp⟩⟩
              · rw [kt_cons]; unfold escB; rw [if_pos rfl]; simp; omega
            · rintro ⟨t, rfl, hp, rfl⟩
              cases t with
              | nil =>
                rw [kt_nil] at hp
                have := (List.cons_prefix_cons.1 (List.cons_prefix_cons.1 hp).2).1
                exact absurd this (by decide)
              | cons e t' =>
                rw [kt_cons] at hp
                unfold escB at hp
                by_cases he : e = 0
                · subst he
                  rw [if_pos rfl] at hp
                  refine ⟨t', by simp, (List.cons_prefix_cons.1 (List.cons_prefix_cons.1 hp).2).2, ?_⟩
                  rw [kt_cons]; unfold escB; rw [if_pos rfl]; simp; omega
                · rw [if_neg he] at hp
                  exact absurd (List.cons_prefix_cons.1 hp).1 he
          · rw [if_neg h2]
            refine ⟨fun h => (by cases h), ?_⟩
            rintro ⟨t, _, hp, _⟩
            exfalso
            cases t with
            | nil =>
              rw [kt_nil] at hp
              exact h1 (List.cons_prefix_cons.1 (List.cons_prefix_cons.1 hp).2).1.symm
            | cons e t' =>
              rw [kt_cons] at hp
              unfold escB at hp
              by_cases he : e = 0
              · rw [if_pos he] at hp
                exact h2 (List.cons_prefix_cons.1 (List.cons_prefix_cons.1 hp).2).1.symm
              · rw [if_neg he] at hp
                exact he (List.cons_prefix_cons.1 hp).1
    · rw [kdec_ne _ _ _ _ hc, kdec_iff n r _ _ _ _ hn']
      constructor
      · rintro ⟨t, rfl, hp, rfl⟩
        refine ⟨c :: t, by simp, ?_, ?_⟩
        · rw [kt_cons]; unfold escB; rw [if_neg hc]; exact List.cons_prefix_cons.2 ⟨rfl, hp⟩
        · rw [kt_cons]; unfold escB; rw [if_neg hc]; simp; omega
      · rintro ⟨t, rfl, hp, rfl⟩
        cases t with
        | nil =>
          rw [kt_nil] at hp
          exact absurd (List.cons_prefix_cons.1 hp).1.symm hc
        | cons e t' =>
          rw [kt_cons] at hp
          unfold escB at hp
          by_cases he : e = 0
          · rw [if_pos he] at hp
            exact absurd (List.cons_prefix_cons.1 hp).1.symm hc
          · rw [if_neg he] at hp
            obtain ⟨e1, e2⟩ := List.cons_prefix_cons.1 hp
            have e1' : e = c := e1
            subst e1'
            refine ⟨t', by simp, e2, ?_⟩
            rw [kt_cons]; unfold escB; rw [if_neg hc]; simp; omega
def takeKT (l : List UInt8) : Option (List UInt8 × Nat) := kdec [] 0 l
theorem takeKT_iff (l T : List UInt8) (k : Nat) : takeKT l = some (T, k) ↔ kt T <+: l ∧ k = (kt T).length := by
  unfold takeKT
  rw [kdec_iff l.length l [] 0 T k (Nat.le_refl _)]
  constructor
  · rintro ⟨t, rfl, h1, h2⟩
    exact ⟨h1, by omega⟩
  · rintro ⟨h1, h2⟩
    exact ⟨T, by simp, h1, by omega⟩
theorem takeKT_put (s r : List UInt8) : takeKT (kt s ++ r) = some (s, (kt s).length) := (takeKT_iff _ _ _).2 ⟨List.prefix_append _ _, rfl⟩
theorem kt_prefix {s t : List UInt8} (h : kt s <+: kt t) : s = t := by
  have h1 := (takeKT_iff (kt t) s _).2 ⟨h, rfl⟩
  have h2 := (takeKT_iff (kt t) t _).2 ⟨List.prefix_refl _, rfl⟩
  rw [h1] at h2
  injection h2 with h2
  injection h2
end Go.Proofs.YtpflajehakiloaaDoor
