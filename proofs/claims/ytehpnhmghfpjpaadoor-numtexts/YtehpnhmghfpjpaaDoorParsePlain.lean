/- The plain mathematics of reading a number: no Go in sight. -/
import Derived.Test.YtehpnhmghfpjpaaDoorPlain
import Derived.Lib.Strings
import Derived.Lib.IndexMore
import Derived.Lib.IndexBytes
namespace Go.Proofs.YtehpnhmghfpjpaaDoor

def isD (c : UInt8) : Bool := decide (48 ≤ c.toNat) && decide (c.toNat ≤ 57)
def isDigL (l : List UInt8) (most : Nat) : Bool := decide (1 ≤ l.length) && decide (l.length ≤ most) && l.all isD
def isWhL (l : List UInt8) : Bool := isDigL l 10 && (decide (l[0]?.getD 0 ≠ 48) || decide (l.length = 1))
/-- What a digit stands for. -/
def dv (c : UInt8) : Nat := c.toNat - 48
/-- The number of digits, behind n. -/
def valW (n : Nat) (l : List UInt8) : Nat := l.foldl (fun n c => n * 10 + dv c) n
/-- Six places behind the point, of which those that aren't written are noughts. -/
def frac (d : List UInt8) (n : Nat) : Nat → Nat
  | 0 => n
  | k + 1 => frac d n k * 10 + dv (d[k]?.getD 48)
def milL (whole behind : List UInt8) : Nat := frac behind (valW 0 whole) 6

theorem isD_iff (c : UInt8) : isD c = true ↔ 48 ≤ c.toNat ∧ c.toNat ≤ 57 := by unfold isD; simp
theorem dv_le {c : UInt8} (h : isD c = true) : dv c ≤ 9 := by unfold dv; rw [isD_iff] at h; omega

theorem valW_snoc (n : Nat) (l : List UInt8) (c : UInt8) : valW n (l ++ [c]) = valW n l * 10 + dv c := by simp [valW]

theorem valW_lt : ∀ (l : List UInt8) (n : Nat), l.all isD = true → valW n l < (n + 1) * 10 ^ l.length
  | [], n, _ => by simp [valW]
  | c :: l, n, h => by
    simp only [List.all_cons, Bool.and_eq_true] at h
    have := valW_lt l (n * 10 + dv c) h.2
    have hd := dv_le h.1
    show valW (n * 10 + dv c) l < (n + 1) * 10 ^ (l.length + 1)
    rw [Nat.pow_succ, Nat.mul_comm (10 ^ l.length), ← Nat.mul_assoc]
    refine Nat.lt_of_lt_of_le this (Nat.mul_le_mul_right _ (by omega))

theorem take_all {l : List UInt8} (h : l.all isD = true) (k : Nat) : (l.take k).all isD = true := by
  rw [List.all_eq_true] at *
  intro x hx
  exact h x (List.mem_of_mem_take hx)

theorem valW_take_lt {l : List UInt8} (h : l.all isD = true) (hl : l.length ≤ 10) (k : Nat) : valW 0 (l.take k) < 10000000000 := by
  have h1 := valW_lt (l.take k) 0 (take_all h k)
  have h2 : (l.take k).length ≤ 10 := by simp; omega
  have h3 : 10 ^ (l.take k).length ≤ 10 ^ 10 := Nat.pow_le_pow_right (by omega) h2
  simp only [Nat.zero_add, Nat.one_mul] at h1
  omega

theorem dv_getD {d : List UInt8} (h : d.all isD = true) (k : Nat) : dv (d[k]?.getD 48) ≤ 9 := by
  rcases Nat.lt_or_ge k d.length with hk | hk
  · rw [List.getElem?_eq_getElem hk]
    exact dv_le (List.all_eq_true.1 h _ (List.getElem_mem hk))
  · rw [List.getElem?_eq_none hk]; simp [dv]

theorem frac_lt {d : List UInt8} (h : d.all isD = true) {n : Nat} (hn : n < 10000000000) : ∀ k, frac d n k < 10000000000 * 10 ^ k
  | 0 => by simpa [frac] using hn
  | k + 1 => by
    have := frac_lt h hn k
    have hd := dv_getD h k
    simp only [frac]
    rw [Nat.pow_succ, ← Nat.mul_assoc]
    omega
theorem frac_lt6 {d : List UInt8} (h : d.all isD = true) {n : Nat} (hn : n < 10000000000) (k : Nat) (hk : k ≤ 6) : frac d n k < 10000000000000000 := by
  have h1 := frac_lt h hn k
  have h2 : 10 ^ k ≤ 10 ^ 6 := Nat.pow_le_pow_right (by omega) hk
  omega

/-- What is read: with the parts of the text under names. -/
def coreR (iw f id bl : Bool) (n : Nat) : Int × Bool :=
  if iw && (!f || id) then (if decide (1000000000000000 < n) || (bl && decide (n = 0)) then (0, false) else (if bl then -(n : Int) else (n : Int), true)) else (0, false)
def parseT (bl : Bool) (c : List UInt8 × List UInt8 × Bool) : Int × Bool := coreR (isWhL c.1) c.2.2 (isDigL c.2.1 6) bl (milL c.1 c.2.1)
def parseL (l : List UInt8) : Int × Bool := parseT (Lib.hasPrefix l [45]) (Lib.cut (Lib.trimPrefix l [45]) [46])

theorem cut_lens (l sep : List UInt8) : (Lib.cut l sep).1.length ≤ l.length ∧ (Lib.cut l sep).2.1.length ≤ l.length := by
  unfold Lib.cut; split <;> simp <;> omega
theorem cut_none {l sep : List UInt8} (h : (Lib.cut l sep).2.2 = false) : (Lib.cut l sep).2.1 = [] := by
  unfold Lib.cut at *; split <;> simp_all
theorem isDigL_all {l : List UInt8} {m : Nat} (h : isDigL l m = true) : l.all isD = true ∧ 1 ≤ l.length ∧ l.length ≤ m := by
  unfold isDigL at h; simp only [Bool.and_eq_true, decide_eq_true_eq] at h; exact ⟨h.2, h.1.1, h.1.2⟩
theorem isWhL_all {l : List UInt8} (h : isWhL l = true) : l.all isD = true ∧ 1 ≤ l.length ∧ l.length ≤ 10 := by
  unfold isWhL at h; simp only [Bool.and_eq_true] at h; exact isDigL_all h.1
theorem milL_lt {b a : List UInt8} (hb : isWhL b = true) (ha : a.all isD = true) : milL b a < 10000000000000000 := by
  obtain ⟨h1, _, h3⟩ := isWhL_all hb
  have := valW_take_lt h1 h3 b.length
  rw [List.take_length] at this
  exact frac_lt6 ha this 6 (Nat.le_refl _)
end Go.Proofs.YtehpnhmghfpjpaaDoor
