/- The walk of wire's TakeText. -/
import Derived.Test.YtpflajehakiloaaDoorWTakeInt
namespace Go.Proofs.YtpflajehakiloaaDoor
open Go Go.RowKit

def triS (t : List UInt8) (k : Int) (b : Bool) : Value := .tuple #[.string ⟨t.toArray⟩, .int .i64 k, .bool b]
def outS : Option (List UInt8 × Nat) → Int → Value
  | some (t, k), at_ => triS t (at_ + k) true
  | none, _ => triS [] 0 false
/-- What is taken of a text's bytes. -/
def tText (l : List UInt8) (at_ most : Int) : Option (List UInt8 × Nat) :=
  match tInt l at_ with
  | some (n, k) => if 0 ≤ n ∧ n ≤ most ∧ n ≤ (l.length : Int) - (at_ + k) then some ((l.drop (at_.toNat + k)).take n.toNat, k + n.toNat) else none
  | none => none

theorem Rd.sub {w : World} {b off : Nat} {l : List UInt8} (h : Rd w b off l) (i m : Nat) (hm : i + m ≤ l.length) : Rd w b (off + i) ((l.drop i).take m) := fun k hk => by
  have hk' : k < m := by simp at hk; omega
  rw [at8_take _ _ _ hk', at8_drop, Nat.add_assoc]
  exact h (i + k) (by omega)
theorem conv_sub {w : World} {b off cap c : Nat} {l : List UInt8} (h : Rd w b off l) (i m : Nat) (hm : i + m ≤ l.length) (_ : l.length ≤ cap) (hc : m ≤ c) :
    (convert 22 9 (.slice (some ⟨b, off + i, none⟩) m c)).run Tryd.prog w = .ok (.string ⟨((l.drop i).take m).toArray⟩) w := by
  have hl : ((l.drop i).take m).length = m := by simp; omega
  have := conv_sl (Sl.mk (h.sub i m hm) (cap := c) (by omega))
  rwa [hl] at this
theorem conv_empty {w : World} (a : Option Addr) (c : Nat) (ha : a = none → c = 0) : (convert 22 9 (.slice a 0 c)).run Tryd.prog w = .ok (.string ⟨#[]⟩) w :=
  conv_sl (l := []) ⟨a, c, rfl, Nat.zero_le _, ha, fun h => absurd rfl h⟩

set_option maxHeartbeats 400000 in
theorem takeText_no (a : Option Addr) (l : List UInt8) (cap : Nat) (at_ most : Int) (w : World) (hv : Sl w (.slice a l.length cap) l) (hn : l.length ≤ 281474976710656) (h : tInt l at_ = none) :
    Calls Tryd.prog 22 #[.slice a l.length cap, .int .i64 at_, .int .i64 most] w fun e w' => e = .returned (triS [] 0 false) ∧ w' = w := by
  have HV := hid hv
  have HH := hid h
  clear hv h
  go_enter Tryd.func22, Tryd.ntmps22
  go_wp2_with (go_at_call 20; refine (takeInt_any a l cap at_ _ HV.out hn).mono ?_; rintro e w' ⟨rfl, rfl⟩; rw [HH.out]; unfold outI tri)
  go_ret3
  exact ⟨rfl, rfl⟩

set_option maxHeartbeats 400000 in
theorem takeText_bad (a : Option Addr) (l : List UInt8) (cap : Nat) (at_ most n : Int) (k : Nat) (w : World) (hv : Sl w (.slice a l.length cap) l) (hn : l.length ≤ 281474976710656) (h : tInt l at_ = some (n, k))
    (hj : 0 ≤ at_) (hjk : at_ + k ≤ l.length) (hbad : n < 0 ∨ most < n ∨ (l.length : Int) - (at_ + k) < n) :
    Calls Tryd.prog 22 #[.slice a l.length cap, .int .i64 at_, .int .i64 most] w fun e w' => e = .returned (triS [] 0 false) ∧ w' = w := by
  have HV := hid hv
  have HH := hid h
  clear hv h
  by_cases h1 : n < 0
  · have b1 : decide (n < 0) = true := decide_eq_true h1
    go_enter Tryd.func22, Tryd.ntmps22
    go_wp2_with (go_at_call 20; refine (takeInt_any a l cap at_ _ HV.out hn).mono ?_; rintro e w' ⟨rfl, rfl⟩; rw [HH.out]; unfold outI tri)
    go_ret3
    exact ⟨rfl, rfl⟩
  · have b1 : decide (n < 0) = false := decide_eq_false h1
    by_cases h2 : most < n
    · have b2 : decide (most < n) = true := decide_eq_true h2
      go_enter Tryd.func22, Tryd.ntmps22
      go_wp2_with (go_at_call 20; refine (takeInt_any a l cap at_ _ HV.out hn).mono ?_; rintro e w' ⟨rfl, rfl⟩; rw [HH.out]; unfold outI tri)
      go_ret3
      exact ⟨rfl, rfl⟩
    · have b2 : decide (most < n) = false := decide_eq_false h2
      have b3 : decide ((l.length : Int) - (at_ + k) < n) = true := decide_eq_true (by omega)
      go_enter Tryd.func22, Tryd.ntmps22
      go_wp2_with (go_at_call 20; refine (takeInt_any a l cap at_ _ HV.out hn).mono ?_; rintro e w' ⟨rfl, rfl⟩; rw [HH.out]; unfold outI tri)
      go_ret3
      exact ⟨rfl, rfl⟩

set_option maxHeartbeats 400000 in
theorem takeText_ok0 (b off : Nat) (l : List UInt8) (j k : Nat) (most : Int) (w : World) (hr : Rd w b off l) (hc : l.length ≤ j + k) (hn : l.length ≤ 281474976710656) (h : tInt l (j : Int) = some ((0 : Int), k))
    (hm : (0 : Int) ≤ most) (hl : j + k ≤ l.length) :
    Calls Tryd.prog 22 #[.slice (some ⟨b, off, none⟩) l.length (j + k), .int .i64 j, .int .i64 most] w fun e w' => e = .returned (triS [] ((j : Int) + (k : Int)) true) ∧ w' = w := by
  have HR := hid hr
  have HH := hid h
  clear hr h
  have b2 : decide (most < (0 : Int)) = false := decide_eq_false (by omega)
  have b3 : decide ((l.length : Int) - ((j : Int) + k) < 0) = false := decide_eq_false (by omega)
  have hcv := conv_empty (w := w) (some ⟨b, off, none⟩) 0 (fun h => by cases h)
  go_enter Tryd.func22, Tryd.ntmps22
  go_wp2_with (go_at_call 20; refine (takeInt_any _ l (j + k) j _ (Sl.mk HR.out hc) hn).mono ?_; rintro e w' ⟨rfl, rfl⟩; rw [HH.out]; unfold outI tri)
  go_ret3
  exact ⟨rfl, rfl⟩

set_option maxHeartbeats 400000 in
theorem takeText_ok1 (b off : Nat) (l : List UInt8) (cap j k n : Nat) (most : Int) (w : World) (hr : Rd w b off l) (hc : l.length ≤ cap) (hn : l.length ≤ 281474976710656) (h : tInt l (j : Int) = some ((n : Int), k))
    (hm : (n : Int) ≤ most) (hl : j + k + n ≤ l.length) (hcap : j + k < cap) :
    Calls Tryd.prog 22 #[.slice (some ⟨b, off, none⟩) l.length cap, .int .i64 j, .int .i64 most] w fun e w' => e = .returned (triS ((l.drop (j + k)).take n) ((j : Int) + ((k + n : Nat) : Int)) true) ∧ w' = w := by
  have HR := hid hr
  have HH := hid h
  clear hr h
  have b1 : decide ((n : Int) < 0) = false := decide_eq_false (by omega)
  have b2 : decide (most < (n : Int)) = false := decide_eq_false (by omega)
  have b3 : decide ((l.length : Int) - ((j : Int) + k) < n) = false := decide_eq_false (by omega)
  have hcv := conv_sub HR.out (j + k) n (by omega) hc (c := cap - (j + k)) (by omega)
  go_enter Tryd.func22, Tryd.ntmps22
  go_wp2_with (go_at_call 20; refine (takeInt_any _ l cap j _ (Sl.mk HR.out hc) hn).mono ?_; rintro e w' ⟨rfl, rfl⟩; rw [HH.out]; unfold outI tri)
  go_ret3
  refine ⟨?_, rfl⟩
  show Ending.returned (triS ((l.drop (j + k)).take n) ((j : Int) + k + n) true) = _
  rw [Int.natCast_add, Int.add_assoc]

theorem tInt_len {l : List UInt8} {at_ n : Int} {k : Nat} (h : tInt l at_ = some (n, k)) : 0 ≤ at_ ∧ at_ + k ≤ l.length ∧ takeI (l.drop at_.toNat) = some (n, k) ∧ l ≠ [] := by
  unfold tInt at h
  by_cases hc : 0 ≤ at_ ∧ at_ ≤ l.length
  · rw [if_pos hc] at h
    have := takeI_len h
    rw [List.length_drop] at this
    exact ⟨hc.1, by omega, h, by intro e; rw [e] at this; simp at this; omega⟩
  · rw [if_neg hc] at h; cases h

/-- TakeText, whatever it is given. -/
theorem takeText_any (a : Option Addr) (l : List UInt8) (cap : Nat) (at_ most : Int) (w : World) (hv : Sl w (.slice a l.length cap) l) (hn : l.length ≤ 281474976710656) :
    Calls Tryd.prog 22 #[.slice a l.length cap, .int .i64 at_, .int .i64 most] w fun e w' => e = .returned (outS (tText l at_ most) at_) ∧ w' = w := by
  unfold tText
  cases hT : tInt l at_ with
  | none => exact takeText_no a l cap at_ most w hv hn hT
  | some p =>
    obtain ⟨n, k⟩ := p
    obtain ⟨h0, h1, _, hne⟩ := tInt_len hT
    dsimp only
    by_cases hc : 0 ≤ n ∧ n ≤ most ∧ n ≤ (l.length : Int) - (at_ + k)
    · rw [if_pos hc]
      obtain ⟨j, rfl⟩ := Int.eq_ofNat_of_zero_le h0
      obtain ⟨m, rfl⟩ := Int.eq_ofNat_of_zero_le hc.1
      rw [Int.toNat_natCast, Int.toNat_natCast]
      obtain ⟨a', cap', he, h2, h3, h4⟩ := hv
      cases he
      obtain ⟨b, off, rfl, hr⟩ := h4 hne
      by_cases hcap : j + k < cap
      · exact takeText_ok1 b off l cap j k m most w hr h2 hn hT hc.2.1 (by omega) hcap
      · obtain rfl : cap = j + k := by omega
        obtain rfl : m = 0 := by omega
        exact takeText_ok0 b off l j k most w hr h2 hn hT hc.2.1 (by omega)
    · rw [if_neg hc]
      exact takeText_bad a l cap at_ most n k w hv hn hT h0 h1 (by omega)
end Go.Proofs.YtpflajehakiloaaDoor
