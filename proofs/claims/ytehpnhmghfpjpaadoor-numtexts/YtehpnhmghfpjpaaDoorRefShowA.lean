/- The walk of the reference's Digits. -/
import Derived.Test.YtehpnhmghfpjpaaDoorBackMath
import Derived.Test.YtehpnhmghfpjpaaDoorRefRatio
import Derived.Laws.Concat
namespace Go.Proofs.YtehpnhmghfpjpaaDoor
open Go.RowKit

/-- What the reference's Digits has written so far, and what is left. -/
def DInv (N m : Nat) (l : List UInt8) : Prop := ((0 < m ∨ l = []) ∧ Lib.decDigits N = Lib.decDigits m ++ l) ∨ (m = 0 ∧ l ≠ [] ∧ Lib.decDigits N = l)

theorem DInv.next {N m : Nat} {l : List UInt8} (h : DInv N m l) (hc : 0 < m ∨ l = []) : DInv N (m / 10) (UInt8.ofNat (48 + m % 10) :: l) := by
  have h1 : Lib.decDigits N = Lib.decDigits m ++ l := by
    rcases h with ⟨_, h⟩ | ⟨h0, h1, _⟩
    · exact h
    · rcases hc with h | h
      · omega
      · exact absurd h h1
  by_cases hm : m < 10
  · right
    rw [dec_small hm] at h1
    refine ⟨by omega, by simp, ?_⟩
    rw [h1, show m % 10 = m by omega]; rfl
  · left
    rw [dec_big hm] at h1
    refine ⟨Or.inl (by omega), ?_⟩
    rw [h1, List.append_assoc]; rfl

def strZ : Value → Nat
  | .string s => if s.size = 0 then 1 else 0
  | _ => 0

theorem strZ_cons (c : UInt8) (l : List UInt8) : strZ (.string ⟨(c :: l).toArray⟩) = 0 := by
  show (if (⟨(c :: l).toArray⟩ : ByteArray).size = 0 then 1 else 0) = 0
  rw [Lib.size_eq]; simp
theorem strZ_ne {l : List UInt8} (h : l ≠ []) : strZ (.string ⟨l.toArray⟩) = 0 := by
  cases l
  · exact absurd rfl h
  · exact strZ_cons _ _

theorem dig_cat : ∀ (d : Nat) (_ : d < 10) (l : List UInt8), (⟨#[48, 49, 50, 51, 52, 53, 54, 55, 56, 57]⟩ : ByteArray).extract d (d + 1) ++ ⟨l.toArray⟩ = ⟨(UInt8.ofNat (48 + d) :: l).toArray⟩ := fun d hd l => by
  have e : (⟨#[48, 49, 50, 51, 52, 53, 54, 55, 56, 57]⟩ : ByteArray).extract d (d + 1) = ⟨#[UInt8.ofNat (48 + d)]⟩ := by
    rw [Lib.extract_eq]
    have : d = 0 ∨ d = 1 ∨ d = 2 ∨ d = 3 ∨ d = 4 ∨ d = 5 ∨ d = 6 ∨ d = 7 ∨ d = 8 ∨ d = 9 := by omega
    rcases this with rfl | rfl | rfl | rfl | rfl | rfl | rfl | rfl | rfl | rfl <;> rfl
  rw [e]
  apply ByteArray.ext
  apply Array.ext'
  simp

theorem DInv.len {N m : Nat} {l : List UInt8} (h : DInv N m l) : l.length ≤ (Lib.decDigits N).length := by
  rcases h with ⟨_, h⟩ | ⟨_, _, h⟩ <;> rw [h] <;> simp

set_option maxHeartbeats 800000 in
theorem rdigits_any (N : Nat) (w : World) (hN : N ≤ 1000000000000000) :
    Calls Tryd.prog 41 #[.int .i64 N] w fun e w' => e = .returned (.string ⟨(Lib.decDigits N).toArray⟩) ∧ w' = w := by
  have HL : Hid ((Lib.decDigits N).length ≤ 16) := decDigits_len 15 N (by omega)
  have H0 : Hid (DInv N N []) := Or.inl ⟨Or.inr rfl, by simp⟩
  generalize hD : (⟨(Lib.decDigits N).toArray⟩ : ByteArray) = D
  have HD : Hid ((⟨(Lib.decDigits N).toArray⟩ : ByteArray) = D) := hD
  clear hD
  go_enter Tryd.func41, Tryd.ntmps41
  go_wp2
  go_loop [0, 3] (fun a b => ∃ (m : Nat) (l : List UInt8), m ≤ N ∧ a = .int .i64 m ∧ b = .string ⟨l.toArray⟩ ∧ DInv N m l) (fun a b => 2 * (intOf a).toNat + strZ b)
  case atStart => exact ⟨N, [], Nat.le_refl _, rfl, rfl, H0.out⟩
  case round =>
    obtain ⟨m, l, hm, rfl, rfl, hI⟩ := hrel
    have hlen := hI.len
    have hl16 := HL.out
    have HC : Hid (∀ l : List UInt8, (⟨#[48, 49, 50, 51, 52, 53, 54, 55, 56, 57]⟩ : ByteArray).extract (m % 10) (m % 10 + 1) ++ ⟨l.toArray⟩ = ⟨(UInt8.ofNat (48 + m % 10) :: l).toArray⟩) := fun l => dig_cat (m % 10) (by omega) l
    have hmi : (m : Int) ≤ 1000000000000000 := by omega
    by_cases hl : l = []
    · subst hl
      have HI : Hid (DInv N (m / 10) [UInt8.ofNat (48 + m % 10)]) := hI.next (Or.inr rfl)
      clear hlen hl16 hI
      go_wp2
      go_round
      case rel =>
        refine ⟨m / 10, _, by omega, by go_num, ?_, HI.out⟩
        rw [← HC.out]
      case measure =>
        show 2 * ((m : Int) / 10).toNat + strZ (.string ((⟨#[48, 49, 50, 51, 52, 53, 54, 55, 56, 57]⟩ : ByteArray).extract (m % 10) (m % 10 + 1) ++ ⟨([] : List UInt8).toArray⟩)) < 2 * ((m : Int)).toNat + 1
        rw [HC.out, strZ_cons]; omega
    · have e1 : l.isEmpty = false := by cases l <;> simp_all
      have ll : min (m % 10 + 1) 10 - m % 10 + l.length ≤ 9223372036854775807 := by omega
      by_cases h0 : 0 < m
      · have HI : Hid (DInv N (m / 10) (UInt8.ofNat (48 + m % 10) :: l)) := hI.next (Or.inl h0)
        clear hlen hl16 hI
        go_wp2
        go_round
        case rel =>
          refine ⟨m / 10, _, by omega, by go_num, ?_, HI.out⟩
          rw [← HC.out]
        case measure =>
          show 2 * ((m : Int) / 10).toNat + strZ (.string ((⟨#[48, 49, 50, 51, 52, 53, 54, 55, 56, 57]⟩ : ByteArray).extract (m % 10) (m % 10 + 1) ++ ⟨l.toArray⟩)) < 2 * ((m : Int)).toNat + strZ (.string ⟨l.toArray⟩)
          rw [HC.out, strZ_cons, strZ_ne hl]; omega
      · have HI : Hid (Lib.decDigits N = l) := by
          rcases hI with ⟨h | h, _⟩ | ⟨_, _, h⟩
          · omega
          · exact absurd h hl
          · exact h
        have HE : Hid ((⟨l.toArray⟩ : ByteArray) = D) := by show (⟨l.toArray⟩ : ByteArray) = D; rw [← HI.out, HD.out]
        clear hlen hl16 hI HI
        go_wp2
        go_ret
        exact ⟨by rw [← HE.out]; rfl, rfl⟩
end Go.Proofs.YtehpnhmghfpjpaaDoor
