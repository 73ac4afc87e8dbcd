/- The walks of wire's TakeKeyInt and TakeKeyText. -/
import Derived.Test.YtpflajehakiloaaDoorWTakeText
namespace Go.Proofs.YtpflajehakiloaaDoor
open Go Go.RowKit

def tKI (l : List UInt8) (at_ : Int) : Option (Int × Nat) := if 0 ≤ at_ ∧ at_ ≤ l.length then takeKI (l.drop at_.toNat) else none

theorem take_snoc8 (l : List UInt8) (j k : Nat) (h : j + k < l.length) : (l.drop j).take (k + 1) = (l.drop j).take k ++ [l.getD (j + k) 0] := by
  rw [List.take_add_one, List.getElem?_drop]
  simp [List.getD, h]
theorem val_snoc (l : List UInt8) (c : UInt8) (u : Nat) : val u (l ++ [c]) = val u l * 256 + c.toNat := by rw [val_append]; rfl
theorem val_take_lt (l : List UInt8) (k : Nat) (hk : k ≤ 7) : val 0 (l.take k) < 72057594037927936 := by
  have h1 := val_lt (l.take k) 0 1 (by omega)
  have h2 : (256 : Nat) ^ (l.take k).length ≤ 256 ^ 7 := Nat.pow_le_pow_right (by decide) (by simp; omega)
  have e : (256 : Nat) ^ 7 = 72057594037927936 := by decide
  omega

set_option maxHeartbeats 400000 in
theorem takeKeyInt_no (a : Option Addr) (n cap : Nat) (at_ : Int) (w : World) (hn : n ≤ 281474976710656) (h : at_ < 0 ∨ (n : Int) - 8 < at_) :
    Calls Tryd.prog 24 #[.slice a n cap, .int .i64 at_] w fun e w' => e = .returned (tri 0 0 false) ∧ w' = w := by
  by_cases h0 : at_ < 0
  · have hb : decide (at_ < 0) = true := decide_eq_true h0
    go_enter Tryd.func24, Tryd.ntmps24
    go_wp2
    go_ret3
    exact ⟨rfl, rfl⟩
  · have hb : decide (at_ < 0) = false := decide_eq_false h0
    have hb2 : decide ((n : Int) - 8 < at_) = true := decide_eq_true (by omega)
    go_enter Tryd.func24, Tryd.ntmps24
    go_wp2
    go_ret3
    exact ⟨rfl, rfl⟩

set_option maxRecDepth 100000 in
set_option maxHeartbeats 800000 in
theorem takeKeyInt_ok (b off cap j : Nat) (l : List UInt8) (w : World) (hr : Rd w b off l) (hn : l.length ≤ 281474976710656) (hc : l.length ≤ cap) (hj : j + 8 ≤ l.length) :
    Calls Tryd.prog 24 #[.slice (some ⟨b, off, none⟩) l.length cap, .int .i64 j] w fun e w' => e = .returned (tri (unku (val 0 ((l.drop j).take 8))) ((j : Int) + 8) true) ∧ w' = w := by
  have hb : decide ((j : Int) < 0) = false := decide_eq_false (by omega)
  have hb2 : decide ((l.length : Int) - 8 < (j : Int)) = false := decide_eq_false (by omega)
  have HR := hid hr
  clear hr
  go_enter Tryd.func24, Tryd.ntmps24
  go_wp2
  go_loop [7, 25] (fun q i => ∃ k u : Nat, k ≤ 8 ∧ i = .int .i64 k ∧ q = .int .u64 u ∧ u = val 0 ((l.drop j).take k)) (fun _ i => 8 - (intOf i).toNat)
  case atStart => exact ⟨0, 0, by omega, rfl, rfl, rfl⟩
  case round =>
    obtain ⟨k, u, hk, rfl, rfl, hu⟩ := hrel
    have HU := hid hu
    clear hu
    by_cases hlt : k < 8
    · have hcell : w.cell? ⟨b, off + j + k, none⟩ = some (.int .u8 (at8 l (j + k))) := by rw [Nat.add_assoc]; exact HR.out (j + k) (by omega)
      have hub : u < 72057594037927936 := by rw [HU.out]; exact val_take_lt _ k (by omega)
      have hx1 := (l.getD (j + k) 0).toNat_lt
      unfold at8 at hcell
      have hstep : u * 256 + (l.getD (j + k) 0).toNat = val 0 ((l.drop j).take (k + 1)) := by rw [take_snoc8 l j k (by omega), val_snoc, ← HU.out]
      have HST := hid hstep
      clear hstep
      generalize (l.getD (j + k) 0).toNat = x at *
      have hor := hid (or_eight u x hub (by omega))
      go_wp2_with fail
      refine ⟨⟨k + 1, u * 256 + x, by omega, by go_num, congrArg (Value.int .u64) hor.out, HST.out⟩, by simp [intOf]; omega⟩
    · obtain rfl : k = 8 := by omega
      have hub : u < 18446744073709551616 := by rw [HU.out]; exact val8_lt (by simp; omega)
      have HI : Hid (wrap64 (((u : Int) + 9223372036854775808) % 18446744073709551616) = unku (val 0 ((l.drop j).take 8))) := by
        show _ = _
        rw [← HU.out]
        unfold unku wrap64
        omega
      go_wp2_with (go_at_call 33; refine (turn_any u hub _).mono ?_; rintro e w' ⟨rfl, rfl⟩)
      go_ret3
      refine ⟨?_, rfl⟩
      show Ending.returned (tri (wrap64 (((u : Int) + 9223372036854775808) % 18446744073709551616)) ((j : Int) + 8) true) = _
      rw [HI.out]

/-- TakeKeyInt, whatever it is given. -/
theorem takeKeyInt_any (a : Option Addr) (l : List UInt8) (cap : Nat) (at_ : Int) (w : World) (hv : Sl w (.slice a l.length cap) l) (hn : l.length ≤ 281474976710656) :
    Calls Tryd.prog 24 #[.slice a l.length cap, .int .i64 at_] w fun e w' => e = .returned (outI (tKI l at_) at_) ∧ w' = w := by
  unfold tKI takeKI
  obtain ⟨a', cap', he, h2, h3, h4⟩ := hv
  cases he
  by_cases h : 0 ≤ at_ ∧ at_ + 8 ≤ l.length
  · obtain ⟨j, rfl⟩ := Int.eq_ofNat_of_zero_le h.1
    rw [if_pos (by omega), Int.toNat_natCast, List.length_drop, if_pos (by omega)]
    obtain ⟨b, off, rfl, hr⟩ := h4 (by intro e; rw [e] at h; simp at h; omega)
    exact takeKeyInt_ok b off cap j l w hr hn h2 (by omega)
  · have e : (if 0 ≤ at_ ∧ at_ ≤ l.length then if 8 ≤ (l.drop at_.toNat).length then some (unku (val 0 ((l.drop at_.toNat).take 8)), 8) else none else none) = (none : Option (Int × Nat)) := by
      by_cases h' : 0 ≤ at_ ∧ at_ ≤ l.length
      · rw [if_pos h', if_neg (by rw [List.length_drop]; omega)]
      · rw [if_neg h']
    rw [e]
    exact takeKeyInt_no a l.length cap at_ w hn (by omega)
end Go.Proofs.YtpflajehakiloaaDoor
