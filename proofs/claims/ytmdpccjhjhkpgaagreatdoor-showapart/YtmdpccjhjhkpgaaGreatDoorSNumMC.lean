/- the text SNumM -/
import Derived.Test.YtmdpccjhjhkpgaaGreatDoorSGd
import Derived.Lib.Strings
import Derived.Lib.IndexMore
import Derived.Lib.IndexBytes
namespace Go.Proofs.YtmdpccjhjhkpgaaGreatDoor.Nm

def isD (c : UInt8) : Bool := decide (48 ≤ c.toNat) && decide (c.toNat ≤ 57)
def isDigL (l : List UInt8) (most : Nat) : Bool := decide (1 ≤ l.length) && decide (l.length ≤ most) && l.all isD
def isWhL (l : List UInt8) : Bool := isDigL l 10 && (decide (l[0]?.getD 0 ≠ 48) || decide (l.length = 1))
/-- What a digit stands for. -/
def dv (c : UInt8) : Nat := c.toNat - 48
/-- The number of digits, behind n. -/
def valW (n : Nat) (l : List UInt8) : Nat := l.foldl (fun n c => n * 10 + dv c) n
/-- Six places behind the point, of which those that aren't written are noughts. -/
def frac (d : List UInt8) (n : Nat) : Nat → Nat
  | 0 => n
  | k + 1 => frac d n k * 10 + dv (d[k]?.getD 48)
def milL (whole behind : List UInt8) : Nat := frac behind (valW 0 whole) 6

theorem isD_iff (c : UInt8) : isD c = true ↔ 48 ≤ c.toNat ∧ c.toNat ≤ 57 := by unfold isD; simp
theorem dv_le {c : UInt8} (h : isD c = true) : dv c ≤ 9 := by unfold dv; rw [isD_iff] at h; omega

theorem valW_snoc (n : Nat) (l : List UInt8) (c : UInt8) : valW n (l ++ [c]) = valW n l * 10 + dv c := by simp [valW]

theorem dv_getD {d : List UInt8} (h : d.all isD = true) (k : Nat) : dv (d[k]?.getD 48) ≤ 9 := by
  rcases Nat.lt_or_ge k d.length with hk | hk
  · rw [List.getElem?_eq_getElem hk]
    exact dv_le (List.all_eq_true.1 h _ (List.getElem_mem hk))
  · rw [List.getElem?_eq_none hk]; simp [dv]

theorem frac_lt {d : List UInt8} (h : d.all isD = true) {n : Nat} (hn : n < 10000000000) : ∀ k, frac d n k < 10000000000 * 10 ^ k
  | 0 => by simpa [frac] using hn
  | k + 1 => by
    have := frac_lt h hn k
    have hd := dv_getD h k
    simp only [frac]
    rw [Nat.pow_succ, ← Nat.mul_assoc]
    omega
/-- What is read: with the parts of the text under names. -/
def coreR (iw f id bl : Bool) (n : Nat) : Int × Bool :=
  if iw && (!f || id) then (if decide (1000000000000000 < n) || (bl && decide (n = 0)) then (0, false) else (if bl then -(n : Int) else (n : Int), true)) else (0, false)
def parseT (bl : Bool) (c : List UInt8 × List UInt8 × Bool) : Int × Bool := coreR (isWhL c.1) c.2.2 (isDigL c.2.1 6) bl (milL c.1 c.2.1)
def parseL (l : List UInt8) : Int × Bool := parseT (Lib.hasPrefix l [45]) (Lib.cut (Lib.trimPrefix l [45]) [46])

theorem cut_none {l sep : List UInt8} (h : (Lib.cut l sep).2.2 = false) : (Lib.cut l sep).2.1 = [] := by
  unfold Lib.cut at *; split <;> simp_all
end Go.Proofs.YtmdpccjhjhkpgaaGreatDoor.Nm
namespace Go.Proofs.YtmdpccjhjhkpgaaGreatDoor.Nm

theorem ofNat_digit {k : Nat} (h : k ≤ 9) : (UInt8.ofNat (48 + k)).toNat = 48 + k := by
  rw [UInt8.toNat_ofNat_of_lt' (by show 48 + k < 256; omega)]
theorem isD_ofNat {k : Nat} (h : k ≤ 9) : isD (UInt8.ofNat (48 + k)) = true := by rw [isD_iff, ofNat_digit h]; omega
theorem dv_ofNat {k : Nat} (h : k ≤ 9) : dv (UInt8.ofNat (48 + k)) = k := by unfold dv; rw [ofNat_digit h]; omega

theorem dec_small {u : Nat} (h : u < 10) : Lib.decDigits u = [UInt8.ofNat (48 + u)] := by unfold Lib.decDigits; rw [dif_pos h]
theorem dec_big {u : Nat} (h : ¬ u < 10) : Lib.decDigits u = Lib.decDigits (u / 10) ++ [UInt8.ofNat (48 + u % 10)] := by
  rw [Lib.decDigits, dif_neg h]

theorem dec_all (u : Nat) : (Lib.decDigits u).all isD = true := by
  induction u using Nat.strongRecOn with
  | _ u ih =>
    by_cases h : u < 10
    · rw [dec_small h]; simp only [List.all_cons, List.all_nil, isD_ofNat (show u ≤ 9 by omega), Bool.and_true]
    · rw [dec_big h, List.all_append, ih (u / 10) (by omega)]; simp only [List.all_cons, List.all_nil, isD_ofNat (show u % 10 ≤ 9 by omega), Bool.and_true]
theorem dec_val (u : Nat) : valW 0 (Lib.decDigits u) = u := by
  induction u using Nat.strongRecOn with
  | _ u ih =>
    by_cases h : u < 10
    · rw [dec_small h]; show 0 * 10 + dv (UInt8.ofNat (48 + u)) = u; rw [dv_ofNat (show u ≤ 9 by omega)]; omega
    · rw [dec_big h, valW_snoc, ih (u / 10) (by omega), dv_ofNat (show u % 10 ≤ 9 by omega)]; omega
theorem dec_ne (u : Nat) : Lib.decDigits u ≠ [] := by
  by_cases h : u < 10
  · rw [dec_small h]; simp
  · rw [dec_big h]; simp
theorem dec_head (u : Nat) (hu : u ≠ 0) : (Lib.decDigits u)[0]?.getD 0 ≠ 48 := by
  induction u using Nat.strongRecOn with
  | _ u ih =>
    by_cases h : u < 10
    · rw [dec_small h]
      intro e
      have := congrArg UInt8.toNat e
      simp only [List.getElem?_cons_zero, Option.getD_some] at this
      rw [ofNat_digit (show u ≤ 9 by omega)] at this
      simp at this
      exact hu this
    · rw [dec_big h]
      have := ih (u / 10) (by omega) (by omega)
      cases hl : Lib.decDigits (u / 10) with
      | nil => exact absurd hl (dec_ne _)
      | cons c t => rw [hl] at this; simpa using this
theorem dec_whole {u : Nat} (h : u ≤ 1000000000) : isWhL (Lib.decDigits u) = true := by
  have hl := decDigits_len 9 u (by omega)
  have h1 : 1 ≤ (Lib.decDigits u).length := by
    cases hd : Lib.decDigits u with
    | nil => exact absurd hd (dec_ne u)
    | cons => simp
  have hd : isDigL (Lib.decDigits u) 10 = true := by unfold isDigL; rw [dec_all u]; simp [h1]; omega
  unfold isWhL
  rw [hd]
  by_cases hu : u = 0
  · subst hu; rw [dec_small (by omega)]; simp
  · simp [dec_head u hu]

theorem not46 {l : List UInt8} (h : l.all isD = true) : ∀ c ∈ l, c ≠ 46 := fun c hc e => by
  have := List.all_eq_true.1 h c hc
  rw [e] at this; revert this; decide
theorem index_app : ∀ (x y : List UInt8), (∀ c ∈ x, c ≠ 46) → Lib.index (x ++ 46 :: y) [46] = x.length
  | [], y, _ => by simp [Lib.index, List.isPrefixOf]
  | c :: x, y, h => by
    have hc : c ≠ 46 := h c (by simp)
    have ih := index_app x y (fun d hd => h d (by simp [hd]))
    simp only [List.cons_append, Lib.index]
    rw [ih, if_neg (by simp [List.isPrefixOf, Ne.symm hc]), if_neg (by simp)]
    simp
theorem index_no : ∀ (x : List UInt8), (∀ c ∈ x, c ≠ 46) → Lib.index x [46] = -1
  | [], _ => by simp [Lib.index]
  | c :: x, h => by
    have hc : c ≠ 46 := h c (by simp)
    have ih := index_no x (fun d hd => h d (by simp [hd]))
    simp only [Lib.index]
    rw [ih, if_neg (by simp [List.isPrefixOf, Ne.symm hc])]
    simp
theorem cut_app {x : List UInt8} (y : List UInt8) (h : x.all isD = true) : Lib.cut (x ++ 46 :: y) [46] = (x, y, true) := by
  unfold Lib.cut
  rw [index_app x y (not46 h), if_pos (by omega)]
  simp
theorem cut_no {x : List UInt8} (h : x.all isD = true) : Lib.cut x [46] = (x, [], false) := by
  unfold Lib.cut
  rw [index_no x (not46 h), if_neg (by omega)]

/-- The digits behind the point: what they stand for. -/
theorem valW_split : ∀ (l : List UInt8) (n : Nat), valW n l = n * 10 ^ l.length + valW 0 l
  | [], n => by simp [valW]
  | c :: l, n => by
    show valW (n * 10 + dv c) l = n * 10 ^ (l.length + 1) + valW (0 * 10 + dv c) l
    rw [valW_split l (n * 10 + dv c), valW_split l (0 * 10 + dv c), Nat.pow_succ, Nat.add_mul, Nat.mul_assoc n 10, Nat.mul_comm 10]
    simp; omega
theorem frac_take (d : List UInt8) (n : Nat) : ∀ k, k ≤ d.length → frac d n k = valW n (d.take k)
  | 0, _ => by simp [frac, valW]
  | k + 1, h => by
    rw [frac, frac_take d n k (by omega), List.take_succ_eq_append_getElem (by omega), valW_snoc, List.getElem?_eq_getElem (by omega)]
    rfl
theorem frac_past (d : List UInt8) (n : Nat) : ∀ j, frac d n (d.length + j) = valW n d * 10 ^ j
  | 0 => by rw [Nat.add_zero, frac_take d n _ (Nat.le_refl _), List.take_length]; simp
  | j + 1 => by
    rw [← Nat.add_assoc, frac, frac_past d n j, List.getElem?_eq_none (by omega), Nat.pow_succ, ← Nat.mul_assoc]
    simp [dv]

/-- What is known of the places written so far. -/
def FInv (r : Nat) (k : Nat) (s : List UInt8 × Int × Int) : Prop :=
  s.1.all isD = true ∧ s.1.length ≤ 6 ∧ s.1.length ≤ k ∧ 0 ≤ s.2.1 ∧ (r : Int) = ((valW 0 s.1 * 10 ^ (6 - s.1.length) : Nat) : Int) + s.2.1 ∧
    (s.2.1 ≠ 0 → s.1.length = k ∧ s.2.2 = ((10 ^ (6 - k) : Nat) : Int) ∧ s.2.1 < ((10 ^ (6 - k) : Nat) : Int))

theorem FInv.next {r k : Nat} {s : List UInt8 × Int × Int} (h : FInv r k s) (hk : k < 6) : FInv r (k + 1) (putF s) := by
  obtain ⟨ds, l, u⟩ := s
  obtain ⟨h1, h2, h3, h4, h5, h6⟩ := h
  simp only at h1 h2 h3 h4 h5 h6
  unfold putF
  by_cases hl : l = 0
  · rw [if_pos (by exact hl)]
    exact ⟨h1, h2, by simp only; omega, h4, h5, fun h => absurd hl h⟩
  · rw [if_neg (by exact hl)]
    obtain ⟨e1, e2, e3⟩ := h6 hl
    have ep : 10 ^ (6 - k) = 10 * 10 ^ (6 - (k + 1)) := by rw [show 6 - k = (6 - (k + 1)) + 1 by omega, Nat.pow_succ, Nat.mul_comm]
    have hu : u / 10 = ((10 ^ (6 - (k + 1)) : Nat) : Int) := by rw [e2, ep]; push_cast; omega
    have hpos : 0 < 10 ^ (6 - (k + 1)) := Nat.pow_pos (by omega)
    simp only [hu]
    rw [ep] at e3
    obtain ⟨L, rfl⟩ : ∃ L : Nat, l = (L : Int) := ⟨l.toNat, by omega⟩
    have hq : (L : Int) / ((10 ^ (6 - (k + 1)) : Nat) : Int) = ((L / 10 ^ (6 - (k + 1)) : Nat) : Int) := (Int.natCast_ediv _ _).symm
    have hm : (L : Int) % ((10 ^ (6 - (k + 1)) : Nat) : Int) = ((L % 10 ^ (6 - (k + 1)) : Nat) : Int) := (Int.natCast_emod _ _).symm
    have hdm := Nat.div_add_mod' L (10 ^ (6 - (k + 1)))
    have hml := Nat.mod_lt L hpos
    have hq9 : L / 10 ^ (6 - (k + 1)) ≤ 9 := by
      have : L / 10 ^ (6 - (k + 1)) < 10 := by rw [Nat.div_lt_iff_lt_mul hpos]; omega
      omega
    rw [hq, hm, Int.toNat_natCast]
    refine ⟨?_, ?_, ?_, ?_, ?_, ?_⟩
    · show (ds ++ [_]).all isD = true
      rw [List.all_append, h1]; simp only [List.all_cons, List.all_nil, isD_ofNat hq9, Bool.and_true]
    · simp; omega
    · simp; omega
    · exact Int.natCast_nonneg _
    · simp only [List.length_append, List.length_cons, List.length_nil, valW_snoc, dv_ofNat hq9]
      rw [e1] at h5 ⊢
      rw [h5, ep]
      generalize 10 ^ (6 - (0 + 1 + k)) = z at *
      rw [show 6 - (k + (0 + 1)) = 6 - (k + 1) by omega]
      generalize 10 ^ (6 - (k + 1)) = P at *
      rw [Nat.add_mul, ← Nat.mul_assoc, Nat.mul_right_comm]
      generalize L / P * P = X at *
      generalize valW 0 ds * P = Y at *
      omega
    · intro _
      exact ⟨by simp; omega, rfl, Int.ofNat_lt.2 hml⟩

theorem finv_all {r : Nat} (hr : r < 1000000) : ∀ k, k ≤ 6 → FInv r k (putN k ([], (r : Int), 1000000))
  | 0, _ => ⟨rfl, by simp [putN], by simp [putN], by simp [putN], by simp [putN, valW], fun _ => ⟨by simp [putN], by simp [putN], by simp [putN]; omega⟩⟩
  | k + 1, h => (finv_all hr k (by omega)).next (by omega)

theorem frac_facts {r : Nat} (hr : r < 1000000) (h0 : r ≠ 0) : isDigL (fracDigits r) 6 = true ∧ ∀ n, frac (fracDigits r) n 6 = n * 1000000 + r := by
  obtain ⟨h1, h2, _, h4, h5, h6⟩ := finv_all hr 6 (Nat.le_refl _)
  have hl : (putN 6 ([], (r : Int), 1000000)).2.1 = 0 := by
    rcases Int.lt_or_le 0 (putN 6 ([], (r : Int), 1000000)).2.1 with h | h
    · have := (h6 (by omega)).2.2; simp at this; omega
    · omega
  rw [hl] at h5
  show isDigL (putN 6 ([], (r : Int), 1000000)).1 6 = true ∧ ∀ n, frac (putN 6 ([], (r : Int), 1000000)).1 n 6 = n * 1000000 + r
  generalize (putN 6 ([], (r : Int), 1000000)).1 = d at *
  have h5' : r = valW 0 d * 10 ^ (6 - d.length) := by omega
  constructor
  · unfold isDigL
    rw [h1]
    have : d ≠ [] := fun e => by rw [e] at h5'; simp [valW] at h5'; exact h0 h5'
    have : 1 ≤ d.length := by cases d; exact absurd rfl this; simp
    simp [h2, this]
  · intro n
    have := frac_past d n (6 - d.length)
    rw [show d.length + (6 - d.length) = 6 by omega] at this
    rw [this, valW_split d n, Nat.add_mul, ← h5', Nat.mul_assoc, ← Nat.pow_add, show d.length + (6 - d.length) = 6 by omega]

theorem frac_nil (n : Nat) : frac [] n 6 = n * 1000000 := by
  have := frac_past [] n 6
  simp only [List.length_nil, Nat.zero_add] at this
  rw [this]; rfl

/-- The text of a number that is not below 0, cut at its point. -/
theorem showPos_parts {c : Nat} (hc : c ≤ 1000000000000000) :
    ∃ B A f, Lib.cut (showPos (c : Int)) [46] = (B, A, f) ∧ isWhL B = true ∧ (f = true → isDigL A 6 = true) ∧ milL B A = c := by
  have e1 : Lib.itoa ((c : Int) / 1000000) = Lib.decDigits (c / 1000000) := by rw [itoa_nonneg (by omega)]; congr 1
  have e2 : (c : Int) % 1000000 = ((c % 1000000 : Nat) : Int) := by omega
  unfold showPos
  rw [e1, e2]
  by_cases h : c % 1000000 = 0
  · rw [if_pos (by rw [h]; rfl), List.append_nil, cut_no (dec_all _)]
    refine ⟨_, _, _, rfl, dec_whole (by omega), by simp, ?_⟩
    unfold milL; rw [dec_val, frac_nil]; omega
  · rw [if_neg (by omega), cut_app _ (dec_all _)]
    obtain ⟨f1, f2⟩ := frac_facts (show c % 1000000 < 1000000 by omega) h
    refine ⟨_, _, _, rfl, dec_whole (by omega), fun _ => f1, ?_⟩
    unfold milL; rw [dec_val, f2]; omega

theorem showPos_head (c : Int) (hc : 0 ≤ c) : Lib.hasPrefix (showPos c) [45] = false := by
  unfold showPos
  rw [itoa_nonneg (by omega)]
  have hd := dec_all (c / 1000000).toNat
  cases hl : Lib.decDigits (c / 1000000).toNat with
  | nil => exact absurd hl (dec_ne _)
  | cons x t =>
    rw [hl, List.all_cons, Bool.and_eq_true, isD_iff] at hd
    have : x ≠ 45 := fun e => by have h := hd.1.1; rw [e] at h; revert h; decide
    simp [Lib.hasPrefix, List.isPrefixOf, Ne.symm this]

/-- A text without a sign. -/
theorem parse_pos {c : Nat} (hc : c ≤ 1000000000000000) : parseL (showPos (c : Int)) = ((c : Int), true) := by
  obtain ⟨B, A, f, h1, h2, h3, h4⟩ := showPos_parts hc
  have hh := showPos_head (c : Int) (by omega)
  unfold parseL Lib.trimPrefix
  rw [hh, if_neg (by simp), h1]
  unfold parseT coreR
  simp only [h2, h4]
  have : (true && (!f || isDigL A 6)) = true := by cases f <;> simp_all
  rw [this, decide_eq_false (show ¬ 1000000000000000 < c by omega)]
  rfl
end Go.Proofs.YtmdpccjhjhkpgaaGreatDoor.Nm
