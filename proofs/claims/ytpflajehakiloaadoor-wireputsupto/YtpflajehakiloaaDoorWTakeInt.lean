/- The walk of wire's TakeInt. -/
import Derived.Test.YtpflajehakiloaaDoorWKey
namespace Go.Proofs.YtpflajehakiloaaDoor
open Go Go.RowKit

/-- Three results. -/
def tri (n : Int) (k : Int) (b : Bool) : Value := .tuple #[.int .i64 n, .int .i64 k, .bool b]
/-- What is taken, and where it ends. -/
def outI : Option (Int × Nat) → Int → Value
  | some (n, k), at_ => tri n (at_ + k) true
  | none, _ => tri 0 0 false
def tInt (l : List UInt8) (at_ : Int) : Option (Int × Nat) := if 0 ≤ at_ ∧ at_ ≤ l.length then takeI (l.drop at_.toNat) else none

set_option maxHeartbeats 400000 in
theorem takeInt_out (a : Option Addr) (n cap : Nat) (at_ : Int) (w : World) (h : at_ < 0 ∨ (n : Int) < at_) :
    Calls Tryd.prog 20 #[.slice a n cap, .int .i64 at_] w fun e w' => e = .returned (tri 0 0 false) ∧ w' = w := by
  by_cases h0 : at_ < 0
  · have hb : decide (at_ < 0) = true := decide_eq_true h0
    go_enter Tryd.func20, Tryd.ntmps20
    go_wp2
    go_ret3
    exact ⟨rfl, rfl⟩
  · have hb : decide (at_ < 0) = false := decide_eq_false h0
    have hb2 : decide ((n : Int) < at_) = true := decide_eq_true (by omega)
    go_enter Tryd.func20, Tryd.ntmps20
    go_wp2
    go_ret3
    exact ⟨rfl, rfl⟩

set_option maxHeartbeats 400000 in
theorem takeInt_end (a : Option Addr) (n cap : Nat) (w : World) (hn : n ≤ 281474976710656) (hc : n ≤ cap) :
    Calls Tryd.prog 20 #[.slice a n cap, .int .i64 n] w fun e w' => e = .returned (tri 0 0 false) ∧ w' = w := by
  have hb : decide ((n : Int) < 0) = false := decide_eq_false (by omega)
  have hb2 : decide ((n : Int) < (n : Int)) = false := decide_eq_false (by omega)
  go_enter Tryd.func20, Tryd.ntmps20
  go_wp2
  all_goals
    have hM : (min ((n : Int) + 10) (n : Int)).toNat - n = 0 := by omega
    rw [hM]
    refine wp_loop_rounds 1 ?_
    rw [rounds_succ]
    go_wp2
    go_ret3
    exact ⟨rfl, rfl⟩

set_option maxRecDepth 100000 in
set_option maxHeartbeats 800000 in
theorem takeInt_in (b off cap j : Nat) (l : List UInt8) (w : World) (hr : Rd w b off l) (hn : l.length ≤ 281474976710656) (hc : l.length ≤ cap) (hj : j < l.length) :
    Calls Tryd.prog 20 #[.slice (some ⟨b, off, none⟩) l.length cap, .int .i64 j] w fun e w' => e = .returned (outI (takeI (l.drop j)) j) ∧ w' = w := by
  have hb : decide ((j : Int) < 0) = false := decide_eq_false (by omega)
  have hb2 : decide ((l.length : Int) < (j : Int)) = false := decide_eq_false (by omega)
  go_enter Tryd.func20, Tryd.ntmps20
  go_wp2
  generalize hMd : (min ((j : Int) + 10) (l.length : Int)).toNat - j = M
  have hM1 : M ≤ 10 := by omega
  have hM2 : j + M ≤ l.length := by omega
  have hM3 : M = 10 ∨ j + M = l.length := by omega
  have HM3 := hid hM3
  clear hMd hM3
  have HR := hid hr
  clear hr
  go_loop [7, 27] (fun q i => ∃ k u : Nat, k ≤ M ∧ i = .int .i64 k ∧ q = .int .u64 u ∧ u < 128 ^ k ∧ u < 18446744073709551616 ∧ dec 0 0 (l.drop j) = dec k u (l.drop (j + k))) (fun _ i => M - (intOf i).toNat)
  case atStart => exact ⟨0, 0, by omega, rfl, rfl, by simp, by omega, rfl⟩
  case round =>
    obtain ⟨k, u, hk, rfl, rfl, hu, hu64, hd⟩ := hrel
    have HD := hid hd
    have HU := hid hu
    clear hd hu
    by_cases hlt : k < M
    · have hcell : w.cell? ⟨b, off + j + k, none⟩ = some (.int .u8 (at8 l (j + k))) := by rw [Nat.add_assoc]; exact HR.out (j + k) (by omega)
      have hbyte := drop_cons8 l (j + k) (by omega)
      have hx1 := (l.getD (j + k) 0).toNat_lt
      unfold at8 at hcell
      have hdec : ∀ r, dec k u (l.getD (j + k) 0 :: r) = if 128 ≤ (l.getD (j + k) 0).toNat then dec (k + 1) ((u + (l.getD (j + k) 0).toNat % 128 * 128 ^ k) % 18446744073709551616) r
          else if mayEndB k ((l.getD (j + k) 0).toNat : Int) then some ((u + (l.getD (j + k) 0).toNat % 128 * 128 ^ k) % 18446744073709551616, k + 1) else none := fun r => by rw [dec, if_neg (by omega)]
      have HB := hid hbyte
      have HDE := hid hdec
      clear hbyte hdec
      generalize (l.getD (j + k) 0).toNat = x at *
      have hor := or_seven u (x % 128) k (by omega) HU.out
      have hU' : (u + x % 128 * 128 ^ k) % 18446744073709551616 < 128 ^ (k + 1) := by
        have h1 : (u + x % 128 * 128 ^ k) % 18446744073709551616 ≤ u + x % 128 * 128 ^ k := Nat.mod_le _ _
        have h2 : x % 128 * 128 ^ k ≤ 127 * 128 ^ k := Nat.mul_le_mul_right _ (by omega)
        have h3 : (128 : Nat) ^ (k + 1) = 128 * 128 ^ k := by rw [Nat.pow_succ]; omega
        have := HU.out
        omega
      have hU2 : (u + x % 128 * 128 ^ k) % 18446744073709551616 < 18446744073709551616 := Nat.mod_lt _ (by decide)
      generalize (u + x % 128 * 128 ^ k) % 18446744073709551616 = U at *
      rw [Int.natCast_emod, show ((128 : Nat) : Int) = 128 from rfl] at hor
      have HOR := hid hor
      have HU1 := hid hU'
      clear hor hU'
      by_cases h128 : 128 ≤ x
      · go_wp2_with fail
        refine ⟨⟨k + 1, U, by omega, by go_num, congrArg (Value.int .u64) HOR.out, HU1.out, hU2, ?_⟩, by simp [intOf]; omega⟩
        rw [HD.out, HB.out, HDE.out, if_pos h128]; rfl
      · cases hme : mayEndB k (x : Int) with
        | false =>
          have hD : dec 0 0 (l.drop j) = none := by rw [HD.out, HB.out, HDE.out, if_neg h128, hme]; rfl
          have HF := hid hD
          clear hD
          go_wp2_with (go_at_call 35; refine (mayEnd_any k (x : Int) _).mono ?_; rintro e w' ⟨rfl, rfl⟩; rw [hme])
          go_ret3
          exact ⟨by unfold takeI; rw [HF.out]; rfl, rfl⟩
        | true =>
          have hD : dec 0 0 (l.drop j) = some (U, k + 1) := by rw [HD.out, HB.out, HDE.out, if_neg h128, hme]; rfl
          have HF := hid hD
          clear hD
          go_wp2_with (first
            | (go_at_call 35; refine (mayEnd_any k (x : Int) _).mono ?_; rintro e w' ⟨rfl, rfl⟩; rw [hme])
            | (go_at_call 36; rw [HOR.out]; refine (unfold_any U hU2 _).mono ?_; rintro e w' ⟨rfl, rfl⟩))
          go_ret3
          refine ⟨?_, rfl⟩
          unfold takeI
          rw [HF.out]
          show Ending.returned (tri (unzig U) ((j : Int) + k + 1) true) = Ending.returned (tri (unzig U) ((j : Int) + ((k + 1 : Nat) : Int)) true)
          rw [Int.natCast_add, ← Int.add_assoc]; rfl
    · obtain rfl : k = M := by omega
      have hD : dec 0 0 (l.drop j) = none := by
        rw [HD.out]
        rcases HM3.out with h | h
        · rw [h]; exact dec_ten _ _
        · rw [h, List.drop_length]; rfl
      have HF := hid hD
      clear hD
      go_wp2
      go_ret3
      exact ⟨by unfold takeI; rw [HF.out]; rfl, rfl⟩

/-- TakeInt, whatever it is given. -/
theorem takeInt_any (a : Option Addr) (l : List UInt8) (cap : Nat) (at_ : Int) (w : World) (hv : Sl w (.slice a l.length cap) l) (hn : l.length ≤ 281474976710656) :
    Calls Tryd.prog 20 #[.slice a l.length cap, .int .i64 at_] w fun e w' => e = .returned (outI (tInt l at_) at_) ∧ w' = w := by
  obtain ⟨a', cap', he, h2, h3, h4⟩ := hv
  cases he
  unfold tInt
  by_cases h : 0 ≤ at_ ∧ at_ ≤ l.length
  · rw [if_pos h]
    obtain ⟨j, rfl⟩ := Int.eq_ofNat_of_zero_le h.1
    rw [Int.toNat_natCast]
    by_cases hj : j < l.length
    · obtain ⟨b, off, rfl, hr⟩ := h4 (by intro e; rw [e] at hj; simp at hj)
      exact takeInt_in b off cap j l w hr hn h2 hj
    · obtain rfl : j = l.length := by omega
      rw [List.drop_length]
      exact takeInt_end a l.length cap w hn h2
  · rw [if_neg h]
    exact takeInt_out a l.length cap at_ w (by omega)
end Go.Proofs.YtpflajehakiloaaDoor
