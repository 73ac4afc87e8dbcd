/- texts put together: WKeyMath WBits WBase WApp WCopy WPut WKey WTakeInt WCrcMath WCrc -/
import Derived.Test.YtcmgclkbhhdnaaaGreatDoorJGa
import Derived.WalkKit
import Derived.Laws.Bits64b
import Derived.Lib.Strings
import Derived.Lib.Slices
import Derived.Lib.Walk
import Derived.Lib.Bytealg
namespace Go.Proofs.YtcmgclkbhhdnaaaGreatDoor
open Go Go.RowKit

/-- The last k bytes of a number, the highest first. -/
def beN : Nat → Nat → List UInt8
  | 0, _ => []
  | k + 1, u => UInt8.ofNat (u / 256 ^ k % 256) :: beN k u
/-- What bytes say, the highest first. -/
def val (u : Nat) : List UInt8 → Nat
  | [] => u
  | c :: r => val (u * 256 + c.toNat) r
/-- A number's part of a key. -/
def ku (n : Int) : Nat := (n + 9223372036854775808).toNat
def kb (n : Int) : List UInt8 := beN 8 (ku n)
end Go.Proofs.YtcmgclkbhhdnaaaGreatDoor
namespace Go.Proofs.YtcmgclkbhhdnaaaGreatDoor
open Go

theorem not_i64 (n : Int) (h0 : -9223372036854775808 ≤ n) (h1 : n ≤ 9223372036854775807) : bits .xor .i64 (-1) n = -n - 1 := by
  show IntKind.i64.wrap ((BitVec.ofInt 64 (-1) ^^^ BitVec.ofInt 64 n).toNat : Int) = _
  have e : BitVec.ofInt 64 (-1) = BitVec.allOnes 64 := by decide
  rw [e, BitVec.allOnes_xor, BitVec.toNat_not, BitVec.toNat_ofInt, IntKind.wrap_i64]
  omega

/-- 'x | y', the first one's bits all above the second one's. -/
theorem or_hi (i a b : Nat) (hb : b < 2 ^ i) (h : 2 ^ i * a + b < 18446744073709551616) : bits .or .u64 ((2 ^ i * a : Nat) : Int) (b : Int) = ((2 ^ i * a + b : Nat) : Int) := by
  rw [bits_or_u64_nat _ _ (by omega) (by omega), Nat.two_pow_add_eq_or_of_lt hb a]
theorem or_lo (i a b : Nat) (hb : b < 2 ^ i) (h : 2 ^ i * a + b < 18446744073709551616) : bits .or .u64 (b : Int) ((2 ^ i * a : Nat) : Int) = ((b + 2 ^ i * a : Nat) : Int) := by
  rw [bits_or_u64_nat _ _ (by omega) (by omega), Nat.or_comm, ← Nat.two_pow_add_eq_or_of_lt hb a, Nat.add_comm]

theorem or_one (k : Int) (h0 : 0 ≤ k) (h1 : k < 9223372036854775808) : bits .or .u64 (k * 2) 1 = 2 * k + 1 := by
  obtain ⟨a, rfl⟩ := Int.eq_ofNat_of_zero_le h0
  have h := or_hi 1 a 1 (by decide) (by omega)
  have e : ((2 ^ 1 * a : Nat) : Int) = (a : Int) * 2 := by simp; omega
  rw [e] at h
  have e1 : ((1 : Nat) : Int) = 1 := rfl
  rw [e1] at h
  rw [h]; simp

/-- Seven bits more. -/
theorem or_seven (u x i : Nat) (hi : i ≤ 9) (hu : u < 128 ^ i) :
    bits .or .u64 (u : Int) (IntKind.u64.wrap ((x : Int) * 2 ^ (7 * i))) = (((u + x * 128 ^ i) % 18446744073709551616 : Nat) : Int) := by
  have hp : (128 : Nat) ^ i = 2 ^ (7 * i) := by rw [show (128 : Nat) = 2 ^ 7 by decide, ← Nat.pow_mul]
  have hw : IntKind.u64.wrap ((x : Int) * 2 ^ (7 * i)) = ((x * 2 ^ (7 * i) % 18446744073709551616 : Nat) : Int) := by
    rw [IntKind.wrap_u64, Int.natCast_emod, Int.natCast_mul, Int.natCast_pow]; rfl
  rw [hw, hp]
  rw [hp] at hu
  have h63 : (2 : Nat) ^ (7 * i) ≤ 2 ^ 63 := Nat.pow_le_pow_right (by decide) (by omega)
  have e63 : (2 : Nat) ^ 63 = 9223372036854775808 := by decide
  -- the remainder is itself a multiple
  have hdvd : ∃ y, x * 2 ^ (7 * i) % 18446744073709551616 = 2 ^ (7 * i) * y := by
    have h1 : 2 ^ (7 * i) ∣ 18446744073709551616 := by
      have : (18446744073709551616 : Nat) = 2 ^ 64 := by decide
      rw [this]; exact Nat.pow_dvd_pow 2 (by omega)
    exact (Nat.dvd_mod_iff h1).2 (Nat.dvd_mul_left _ _)
  obtain ⟨y, hy⟩ := hdvd
  have hylt : 2 ^ (7 * i) * y < 18446744073709551616 := by rw [← hy]; exact Nat.mod_lt _ (by decide)
  have hsum : 2 ^ (7 * i) * y + u < 18446744073709551616 := by
    have h1 : 2 ^ (7 * i) ∣ 18446744073709551616 := by
      have : (18446744073709551616 : Nat) = 2 ^ 64 := by decide
      rw [this]; exact Nat.pow_dvd_pow 2 (by omega)
    obtain ⟨z, hz⟩ := h1
    rw [hz] at hylt ⊢
    have hyz : y < z := Nat.lt_of_mul_lt_mul_left hylt
    have : 2 ^ (7 * i) * (y + 1) ≤ 2 ^ (7 * i) * z := Nat.mul_le_mul_left _ hyz
    rw [Nat.mul_add] at this
    omega
  rw [hy, or_lo (7 * i) y u hu hsum]
  congr 1
  rw [Nat.add_mod, hy]
  rw [Nat.mod_eq_of_lt (show u < 18446744073709551616 by omega), Nat.mod_eq_of_lt (by omega)]

end Go.Proofs.YtcmgclkbhhdnaaaGreatDoor
namespace Go.Proofs.YtcmgclkbhhdnaaaGreatDoor
open Go Go.RowKit

theorem ret_int {k : IntKind} {a b : Int} (h : a = b) : Ending.returned (.int k a) = .returned (.int k b) := by rw [h]
theorem ret_bool {a b : Bool} (h : a = b) : Ending.returned (.bool a) = .returned (.bool b) := by rw [h]

set_option maxHeartbeats 400000 in
theorem fold_any (n : Int) (h0 : -9223372036854775808 ≤ n) (h1 : n ≤ 9223372036854775807) (w : World) :
    Calls Tryz.prog 142 #[.int .i64 n] w fun e w' => e = .returned (.int .u64 (zig n : Nat)) ∧ w' = w := by
  by_cases hn : n < 0
  · go_enter Tryz.func142, Tryz.ntmps142
    go_wp2
    go_ret
    refine ⟨ret_int ?_, rfl⟩
    rw [not_i64 n h0 h1, zig_neg hn, IntKind.wrap_u64 (-n - 1), Int.emod_eq_of_lt (by omega) (by omega), IntKind.wrap_u64, Int.emod_eq_of_lt (by omega) (by omega), or_one _ (by omega) (by omega)]
    omega
  · go_enter Tryz.func142, Tryz.ntmps142
    go_wp2
    go_ret
    refine ⟨ret_int ?_, rfl⟩
    rw [zig_pos (by omega)]; omega

set_option maxHeartbeats 400000 in
theorem unfold_any (u : Nat) (h : u < 18446744073709551616) (w : World) :
    Calls Tryz.prog 141 #[.int .u64 u] w fun e w' => e = .returned (.int .i64 (unzig u)) ∧ w' = w := by
  by_cases hn : u % 2 = 1
  · go_enter Tryz.func141, Tryz.ntmps141
    go_wp2
    go_ret
    refine ⟨ret_int ?_, rfl⟩
    rw [not_i64 _ (by omega) (by omega)]
    unfold unzig
    rw [if_pos hn]; omega
  · go_enter Tryz.func141, Tryz.ntmps141
    go_wp2
    go_ret
    refine ⟨ret_int ?_, rfl⟩
    unfold unzig
    rw [if_neg hn]; omega

set_option maxHeartbeats 400000 in
theorem mayEnd_any (i : Nat) (c : Int) (w : World) :
    Calls Tryz.prog 140 #[.int .i64 i, .int .u8 c] w fun e w' => e = .returned (.bool (mayEndB i c)) ∧ w' = w := by
  by_cases h9 : i = 9
  · have h9b : ((i : Int) == 9) = true := by simp; omega
    go_enter Tryz.func140, Tryz.ntmps140
    go_wp2
    go_ret
    refine ⟨ret_bool ?_, rfl⟩
    unfold mayEndB
    rw [if_pos h9]; rfl
  · have h9b : ((i : Int) == 9) = false := by simp; omega
    by_cases hc : 0 < c
    · have hcb : decide (0 < c) = true := decide_eq_true hc
      go_enter Tryz.func140, Tryz.ntmps140
      go_wp2
      go_ret
      refine ⟨ret_bool ?_, rfl⟩
      unfold mayEndB
      rw [if_neg h9]; simp [hc]
    · have hcb : decide (0 < c) = false := decide_eq_false hc
      go_enter Tryz.func140, Tryz.ntmps140
      go_wp2
      go_ret
      refine ⟨ret_bool ?_, rfl⟩
      unfold mayEndB
      rw [if_neg h9, decide_eq_false (show ¬ 0 < c by omega)]
      rw [Bool.eq_iff_iff]; simp

end Go.Proofs.YtcmgclkbhhdnaaaGreatDoor
namespace Go.Proofs.YtcmgclkbhhdnaaaGreatDoor
open Go Go.RowKit

end Go.Proofs.YtcmgclkbhhdnaaaGreatDoor
namespace Go.Proofs.YtcmgclkbhhdnaaaGreatDoor
open Go Go.RowKit

theorem sl_cells {w w' : World} {a : Option Addr} {cap : Nat} {l : List UInt8} (hv : Sl w (.slice a l.length cap) l) (hg : w.grownBy w' none) :
    ∀ ad, a = some ad → ∀ j u, (cells8 l)[j]? = some u → w'.cell? (ad.add j) = some u := by
  rintro ad rfl j u hu
  have hj : j < l.length := by have := (List.getElem?_eq_some_iff.1 hu).1; rwa [cells8_len] at this
  obtain ⟨a', cap', he, _, _, h4⟩ := hv
  cases he
  obtain ⟨b, off, e, hr⟩ := h4 (by intro h; rw [h] at hj; simp at hj)
  obtain rfl := Option.some.inj e
  rw [Addr.add_lit]
  rw [cells8_get l j hj] at hu
  rw [← hu]
  exact hg.cell (hr j hj) (by simp)

set_option maxHeartbeats 400000 in
theorem copy_any (a : Option Addr) (l : List UInt8) (cap : Nat) (r : Int) (w : World) (hv : Sl w (.slice a l.length cap) l) (hr : 0 ≤ r) (hb : (l.length : Int) + r ≤ 281474976710656) :
    Calls Tryz.prog 124 #[.slice a l.length cap, .int .i64 r] w fun e w' => e = .returned (.slice (some ⟨w.heap.size, 0, none⟩) l.length (l.length + r.toNat)) ∧
      w'.ownsRow w.heap.size 5 1 (.slice (some ⟨w.heap.size, 0, none⟩) l.length (l.length + r.toNat)) l.length (cells8 l) ∧ Below w.heap.size w w' := by
  obtain ⟨i0, hi0, hz0, hz1, hz2⟩ := info_parts info8
  have hN : a = none → l.length = 0 ∧ cap = 0 := by
    intro h
    obtain ⟨a', cap', he, h2, h3, h4⟩ := hv
    cases he
    have := h3 h
    omega
  have HV : Hid (Sl w (.slice a l.length cap) l) := hv
  clear hv
  go_enter Tryz.func124, Tryz.ntmps124
  go_wp2_with (first
    | (at_make; refine wpList_make_own _ rfl _ _ 49 rfl w.heap.size 5 i0 (.int .u8 0) 1 Tryz.underlying49 hi0 hz0 hz1 _ _ _ (l.length + r.toNat) rfl rfl (by omega) (by rw [hz2]; omega) (by unfold maxLen; omega) (Nat.le_refl _) ?_; intro w0 hown0 hgrow0)
    | (at_builtin; refine wpList_append_fits_any _ rfl _ _ 49 rfl w.heap.size 5 i0 1 Tryz.underlying49 hi0 hz1 w.heap.size 0 (l.length + r.toNat) _ rfl hown0 a l.length cap (cells8 l) rfl (by rw [cells8_len]; omega) hN (sl_cells HV.out hgrow0) (cells8_one l) (by omega) ?_; intro w1 hown1 hgrow1))
  simp only [Nat.zero_add, List.nil_append] at hown1 ⊢
  go_ret
  exact ⟨rfl, hown1, ((Below.refl _ _).grown hgrow0 (Nat.le_refl _) (fun k h => by cases h)).grown hgrow1 hgrow0.size (fun k hk => by cases hk; exact Nat.le_refl _)⟩

/-- The loop's part of a number's bytes: those laid so far, and what is left. -/
theorem vb_step {u : Nat} (h : ¬ u < 128) : cells8 (vb u) = [Value.int .u8 ((u : Int) % 128 + 128)] ++ cells8 (vb (u / 128)) := by
  rw [vb_ge h]
  have : (UInt8.ofNat (u % 128 + 128)).toNat = u % 128 + 128 := u8_ofNat (by omega)
  simp [cells8, cb]; omega

set_option maxRecDepth 100000 in
set_option maxHeartbeats 800000 in
theorem appInt_any (B g cap : Nat) (l : List UInt8) (n : Int) (w : World) (h0 : -9223372036854775808 ≤ n) (h1 : n ≤ 9223372036854775807)
    (hown : w.ownsRow B 5 1 (.slice (some ⟨g, 0, none⟩) l.length cap) l.length (cells8 l)) (hroom : l.length + (vb (zig n)).length ≤ cap) (hB : B ≤ w.heap.size) :
    Calls Tryz.prog 123 #[.slice (some ⟨g, 0, none⟩) l.length cap, .int .i64 n] w fun e w' => e = .returned (.slice (some ⟨g, 0, none⟩) (l ++ vb (zig n)).length cap) ∧
      w'.ownsRow B 5 1 (.slice (some ⟨g, 0, none⟩) (l ++ vb (zig n)).length cap) (l ++ vb (zig n)).length (cells8 (l ++ vb (zig n))) ∧ Below B w w' := by
  obtain ⟨i0, hi0, hz0, hz1, hz2⟩ := info_parts info8
  have hz := zig_lt h0 h1
  go_enter Tryz.func123, Tryz.ntmps123
  go_wp2_with (go_at_call 142; refine (fold_any n h0 h1 _).mono ?_; rintro e w ⟨rfl, rfl⟩)
  go_loopw [0, 5] (fun v u wr => ∃ (m : List UInt8) (q : Nat), q < 18446744073709551616 ∧ u = .int .u64 q ∧ m ++ vb q = l ++ vb (zig n) ∧ v = .slice (some ⟨g, 0, none⟩) m.length cap ∧ wr.ownsRow B 5 1 (.slice (some ⟨g, 0, none⟩) m.length cap) m.length (cells8 m) ∧ Below B w wr ∧ B ≤ wr.heap.size) (fun _ u _ => (intOf u).toNat)
  case atStart => exact ⟨l, zig n, hz, rfl, rfl, rfl, hown, Below.refl _ _, hB⟩
  case round =>
    obtain ⟨m, q, hq, rfl, hm, rfl, ho, hbel, hBr⟩ := hrel
    have hlen : m.length + (vb q).length = l.length + (vb (zig n)).length := by have := congrArg List.length hm; simpa using this
    have HM : Hid (m ++ vb q = l ++ vb (zig n)) := hm
    clear hm hown
    have hvp := vb_pos q
    by_cases hlt : q < 128
    · have hcell : cells8 m ++ [Value.int .u8 (q : Int)] = cells8 (l ++ vb (zig n)) := by
        rw [← HM.out, ← cells8_append, vb_lt hlt, cells8_ofInt (q : Int) (by omega) (by omega)]; simp
      have hl1 : m.length + 1 = (l ++ vb (zig n)).length := by rw [← HM.out, vb_lt hlt]; simp
      have HC := hid hcell
      have HL := hid hl1
      clear hcell hl1
      go_wp2_with (at_builtin; refine wpList_append_fits _ rfl _ _ 49 rfl B 5 i0 1 Tryz.underlying49 hi0 hz1 g m.length cap _ rfl (ho.alloc _) ⟨wr.heap.size, 0, none⟩ 1 1 [.int .u8 (q : Int)] rfl (by rfl) (World.news_of_block (cs := #[.int .u8 (q : Int)]) (t := 5) (fr := (0, 0)) (heap_alloc_new wr _)) (by simp [Value.oneCell']) (by omega) ?_; intro w1 hown1 hgrow1)
      go_ret
      rw [HC.out, HL.out] at hown1
      rw [HL.out]
      exact ⟨rfl, hown1, (hbel.alloc hBr _).grown hgrow1 (by simp; omega) (fun k hk => by cases hk; exact (owns_cap ho).2.2.1)⟩
    · have hcell := vb_step hlt
      have hvl : (vb q).length = (vb (q / 128)).length + 1 := by rw [vb_ge hlt]; simp
      have HVL := hid hvl
      have HC := hid hcell
      clear hcell hvl
      go_wp2_with (at_builtin; refine wpList_append_fits _ rfl _ _ 49 rfl B 5 i0 1 Tryz.underlying49 hi0 hz1 g m.length cap _ rfl (ho.alloc _) ⟨wr.heap.size, 0, none⟩ 1 1 [.int .u8 ((q : Int) % 128 + 128)] rfl (by rfl) (World.news_of_block (cs := #[.int .u8 ((q : Int) % 128 + 128)]) (t := 5) (fr := (0, 0)) (heap_alloc_new wr _)) (by simp [Value.oneCell']) (by omega) ?_; intro w1 hown1 hgrow1)
      go_roundw
      case rel =>
        have e8 : UInt8.ofNat (q % 128 + 128) :: vb (q / 128) = vb q := (vb_ge hlt).symm
        have hc1 : cells8 m ++ [Value.int .u8 ((q : Int) % 128 + 128)] = cells8 (m ++ [UInt8.ofNat (q % 128 + 128)]) := by
          rw [← cells8_append, cells8_ofInt _ (by omega) (by omega)]
          congr 4
        rw [hc1] at hown1
        refine ⟨m ++ [UInt8.ofNat (q % 128 + 128)], q / 128, by omega, by go_num, ?_, by simp, by simpa using hown1, (hbel.alloc hBr _).grown hgrow1 (by simp; omega) (fun k hk => by cases hk; exact (owns_cap ho).2.2.1), ?_⟩
        · rw [List.append_assoc, List.singleton_append, e8, HM.out]
        · have := hgrow1.size; simp at this; omega
      case measure => simp [intOf]; omega
end Go.Proofs.YtcmgclkbhhdnaaaGreatDoor
namespace Go.Proofs.YtcmgclkbhhdnaaaGreatDoor
open Go Go.RowKit

/-- What a call that puts something hands back: bytes of its own, in new memory. -/
def Puts (L : List UInt8) (cap : Nat) (w : World) (e : Ending) (w' : World) : Prop :=
  e = .returned (.slice (some ⟨w.heap.size, 0, none⟩) L.length cap) ∧ w'.ownsRow w.heap.size 5 1 (.slice (some ⟨w.heap.size, 0, none⟩) L.length cap) L.length (cells8 L) ∧ Below w.heap.size w w'

theorem ret_sl {a : Option Addr} {n m c : Nat} (h : n = m) : Ending.returned (.slice a n c) = .returned (.slice a m c) := by rw [h]

set_option maxHeartbeats 400000 in
theorem putInt_any (a : Option Addr) (l : List UInt8) (cap : Nat) (n : Int) (w : World) (hv : Sl w (.slice a l.length cap) l) (h0 : -9223372036854775808 ≤ n) (h1 : n ≤ 9223372036854775807) (hb : l.length + 10 ≤ 281474976710656) :
    Calls Tryz.prog 108 #[.slice a l.length cap, .int .i64 n] w (Puts (l ++ vb (zig n)) (l.length + 10) w) := by
  have HV := hid hv
  have hz := zvb_len h0 h1
  clear hv
  go_enter Tryz.func108, Tryz.ntmps108
  go_wp2_with fail
  refine (copy_any a l cap 10 w HV.out (by omega) (by omega)).mono ?_
  rintro e w1 ⟨rfl, ho, hB⟩
  have h10 : (10 : Int).toNat = 10 := rfl
  rw [h10] at ho ⊢
  go_wp2_with fail
  refine (appInt_any w.heap.size w.heap.size (l.length + 10) l n w1 h0 h1 ho (by omega) hB.size).mono ?_
  rintro e w2 ⟨rfl, ho2, hB2⟩
  go_wp2
  go_ret
  exact ⟨ret_sl (by simp), ho2, hB.trans hB2⟩

end Go.Proofs.YtcmgclkbhhdnaaaGreatDoor
namespace Go.Proofs.YtcmgclkbhhdnaaaGreatDoor
open Go Go.RowKit

end Go.Proofs.YtcmgclkbhhdnaaaGreatDoor
namespace Go.Proofs.YtcmgclkbhhdnaaaGreatDoor
open Go Go.RowKit

/-- Three results. -/
def tri (n : Int) (k : Int) (b : Bool) : Value := .tuple #[.int .i64 n, .int .i64 k, .bool b]
/-- What is taken, and where it ends. -/
def outI : Option (Int × Nat) → Int → Value
  | some (n, k), at_ => tri n (at_ + k) true
  | none, _ => tri 0 0 false
def tInt (l : List UInt8) (at_ : Int) : Option (Int × Nat) := if 0 ≤ at_ ∧ at_ ≤ l.length then takeI (l.drop at_.toNat) else none

set_option maxHeartbeats 400000 in
theorem takeInt_out (a : Option Addr) (n cap : Nat) (at_ : Int) (w : World) (h : at_ < 0 ∨ (n : Int) < at_) :
    Calls Tryz.prog 122 #[.slice a n cap, .int .i64 at_] w fun e w' => e = .returned (tri 0 0 false) ∧ w' = w := by
  by_cases h0 : at_ < 0
  · have hb : decide (at_ < 0) = true := decide_eq_true h0
    go_enter Tryz.func122, Tryz.ntmps122
    go_wp2
    go_ret3
    exact ⟨rfl, rfl⟩
  · have hb : decide (at_ < 0) = false := decide_eq_false h0
    have hb2 : decide ((n : Int) < at_) = true := decide_eq_true (by omega)
    go_enter Tryz.func122, Tryz.ntmps122
    go_wp2
    go_ret3
    exact ⟨rfl, rfl⟩

set_option maxHeartbeats 400000 in
theorem takeInt_end (a : Option Addr) (n cap : Nat) (w : World) (hn : n ≤ 281474976710656) (hc : n ≤ cap) :
    Calls Tryz.prog 122 #[.slice a n cap, .int .i64 n] w fun e w' => e = .returned (tri 0 0 false) ∧ w' = w := by
  have hb : decide ((n : Int) < 0) = false := decide_eq_false (by omega)
  have hb2 : decide ((n : Int) < (n : Int)) = false := decide_eq_false (by omega)
  go_enter Tryz.func122, Tryz.ntmps122
  go_wp2
  all_goals
    have hM : (min ((n : Int) + 10) (n : Int)).toNat - n = 0 := by omega
    rw [hM]
    refine wp_loop_rounds 1 ?_
    rw [rounds_succ]
    go_wp2
    go_ret3
    exact ⟨rfl, rfl⟩

set_option maxRecDepth 100000 in
set_option maxHeartbeats 800000 in
theorem takeInt_in (b off cap j : Nat) (l : List UInt8) (w : World) (hr : Rd w b off l) (hn : l.length ≤ 281474976710656) (hc : l.length ≤ cap) (hj : j < l.length) :
    Calls Tryz.prog 122 #[.slice (some ⟨b, off, none⟩) l.length cap, .int .i64 j] w fun e w' => e = .returned (outI (takeI (l.drop j)) j) ∧ w' = w := by
  have hb : decide ((j : Int) < 0) = false := decide_eq_false (by omega)
  have hb2 : decide ((l.length : Int) < (j : Int)) = false := decide_eq_false (by omega)
  go_enter Tryz.func122, Tryz.ntmps122
  go_wp2
  generalize hMd : (min ((j : Int) + 10) (l.length : Int)).toNat - j = M
  have hM1 : M ≤ 10 := by omega
  have hM2 : j + M ≤ l.length := by omega
  have hM3 : M = 10 ∨ j + M = l.length := by omega
  have HM3 := hid hM3
  clear hMd hM3
  have HR := hid hr
  clear hr
  go_loop [7, 27] (fun q i => ∃ k u : Nat, k ≤ M ∧ i = .int .i64 k ∧ q = .int .u64 u ∧ u < 128 ^ k ∧ u < 18446744073709551616 ∧ dec 0 0 (l.drop j) = dec k u (l.drop (j + k))) (fun _ i => M - (intOf i).toNat)
  case atStart => exact ⟨0, 0, by omega, rfl, rfl, by simp, by omega, rfl⟩
  case round =>
    obtain ⟨k, u, hk, rfl, rfl, hu, hu64, hd⟩ := hrel
    have HD := hid hd
    have HU := hid hu
    clear hd hu
    by_cases hlt : k < M
    · have hcell : w.cell? ⟨b, off + j + k, none⟩ = some (.int .u8 (at8 l (j + k))) := by rw [Nat.add_assoc]; exact HR.out (j + k) (by omega)
      have hbyte := drop_cons8 l (j + k) (by omega)
      have hx1 := (l.getD (j + k) 0).toNat_lt
      unfold at8 at hcell
      have hdec : ∀ r, dec k u (l.getD (j + k) 0 :: r) = if 128 ≤ (l.getD (j + k) 0).toNat then dec (k + 1) ((u + (l.getD (j + k) 0).toNat % 128 * 128 ^ k) % 18446744073709551616) r
          else if mayEndB k ((l.getD (j + k) 0).toNat : Int) then some ((u + (l.getD (j + k) 0).toNat % 128 * 128 ^ k) % 18446744073709551616, k + 1) else none := fun r => by rw [dec, if_neg (by omega)]
      have HB := hid hbyte
      have HDE := hid hdec
      clear hbyte hdec
      generalize (l.getD (j + k) 0).toNat = x at *
      have hor := or_seven u (x % 128) k (by omega) HU.out
      have hU' : (u + x % 128 * 128 ^ k) % 18446744073709551616 < 128 ^ (k + 1) := by
        have h1 : (u + x % 128 * 128 ^ k) % 18446744073709551616 ≤ u + x % 128 * 128 ^ k := Nat.mod_le _ _
        have h2 : x % 128 * 128 ^ k ≤ 127 * 128 ^ k := Nat.mul_le_mul_right _ (by omega)
        have h3 : (128 : Nat) ^ (k + 1) = 128 * 128 ^ k := by rw [Nat.pow_succ]; omega
        have := HU.out
        omega
      have hU2 : (u + x % 128 * 128 ^ k) % 18446744073709551616 < 18446744073709551616 := Nat.mod_lt _ (by decide)
      generalize (u + x % 128 * 128 ^ k) % 18446744073709551616 = U at *
      rw [Int.natCast_emod, show ((128 : Nat) : Int) = 128 from rfl] at hor
      have HOR := hid hor
      have HU1 := hid hU'
      clear hor hU'
      by_cases h128 : 128 ≤ x
      · go_wp2_with fail
        refine ⟨⟨k + 1, U, by omega, by go_num, congrArg (Value.int .u64) HOR.out, HU1.out, hU2, ?_⟩, by simp [intOf]; omega⟩
        rw [HD.out, HB.out, HDE.out, if_pos h128]; rfl
      · cases hme : mayEndB k (x : Int) with
        | false =>
          have hD : dec 0 0 (l.drop j) = none := by rw [HD.out, HB.out, HDE.out, if_neg h128, hme]; rfl
          have HF := hid hD
          clear hD
          go_wp2_with (go_at_call 140; refine (mayEnd_any k (x : Int) _).mono ?_; rintro e w' ⟨rfl, rfl⟩; rw [hme])
          go_ret3
          exact ⟨by unfold takeI; rw [HF.out]; rfl, rfl⟩
        | true =>
          have hD : dec 0 0 (l.drop j) = some (U, k + 1) := by rw [HD.out, HB.out, HDE.out, if_neg h128, hme]; rfl
          have HF := hid hD
          clear hD
          go_wp2_with (first
            | (go_at_call 140; refine (mayEnd_any k (x : Int) _).mono ?_; rintro e w' ⟨rfl, rfl⟩; rw [hme])
            | (go_at_call 141; rw [HOR.out]; refine (unfold_any U hU2 _).mono ?_; rintro e w' ⟨rfl, rfl⟩))
          go_ret3
          refine ⟨?_, rfl⟩
          unfold takeI
          rw [HF.out]
          show Ending.returned (tri (unzig U) ((j : Int) + k + 1) true) = Ending.returned (tri (unzig U) ((j : Int) + ((k + 1 : Nat) : Int)) true)
          rw [Int.natCast_add, ← Int.add_assoc]; rfl
    · obtain rfl : k = M := by omega
      have hD : dec 0 0 (l.drop j) = none := by
        rw [HD.out]
        rcases HM3.out with h | h
        · rw [h]; exact dec_ten _ _
        · rw [h, List.drop_length]; rfl
      have HF := hid hD
      clear hD
      go_wp2
      go_ret3
      exact ⟨by unfold takeI; rw [HF.out]; rfl, rfl⟩

/-- TakeInt, whatever it is given. -/
theorem takeInt_any (a : Option Addr) (l : List UInt8) (cap : Nat) (at_ : Int) (w : World) (hv : Sl w (.slice a l.length cap) l) (hn : l.length ≤ 281474976710656) :
    Calls Tryz.prog 122 #[.slice a l.length cap, .int .i64 at_] w fun e w' => e = .returned (outI (tInt l at_) at_) ∧ w' = w := by
  obtain ⟨a', cap', he, h2, h3, h4⟩ := hv
  cases he
  unfold tInt
  by_cases h : 0 ≤ at_ ∧ at_ ≤ l.length
  · rw [if_pos h]
    obtain ⟨j, rfl⟩ := Int.eq_ofNat_of_zero_le h.1
    rw [Int.toNat_natCast]
    by_cases hj : j < l.length
    · obtain ⟨b, off, rfl, hr⟩ := h4 (by intro e; rw [e] at hj; simp at hj)
      exact takeInt_in b off cap j l w hr hn h2 hj
    · obtain rfl : j = l.length := by omega
      rw [List.drop_length]
      exact takeInt_end a l.length cap w hn h2
  · rw [if_neg h]
    exact takeInt_out a l.length cap at_ w (by omega)
end Go.Proofs.YtcmgclkbhhdnaaaGreatDoor
namespace Go.Proofs.YtcmgclkbhhdnaaaGreatDoor
open Go Go.RowKit

/-- What four steps leave of half a byte. -/
def crcTab : List Nat := [0, 498536548, 997073096, 651767980, 1994146192, 1802195444, 1303535960, 1342533948, 3988292384, 4027552580, 3604390888, 3412177804, 2607071920, 2262029012, 2685067896, 3183342108]
def crcAt (k : Nat) : Nat := crcTab.getD k 0
/-- One step, bit by bit. -/
def stepC (s : Nat) : Nat := s / 2 ^^^ (if s % 2 = 1 then 3988292384 else 0)
def nib (s : Nat) : Nat := s / 16 ^^^ crcAt (s % 16)

theorem half_xor (a b : Nat) : (a ^^^ b) / 2 = a / 2 ^^^ b / 2 := by
  apply Nat.eq_of_testBit_eq
  intro i
  rw [Nat.testBit_xor, Nat.testBit_div_two, Nat.testBit_div_two, Nat.testBit_div_two, Nat.testBit_xor]
theorem odd_xor (a b : Nat) : ((a ^^^ b) % 2 = 1) ↔ ¬ ((a % 2 = 1) ↔ (b % 2 = 1)) := Nat.xor_mod_two_eq_one
theorem stepC_xor (a b : Nat) : stepC (a ^^^ b) = stepC a ^^^ stepC b := by
  unfold stepC
  rw [half_xor]
  have ho := odd_xor a b
  by_cases ha : a % 2 = 1 <;> by_cases hb : b % 2 = 1
  · rw [if_neg (fun h => (ho.1 h) ⟨fun _ => hb, fun _ => ha⟩), if_pos ha, if_pos hb]
    rw [Nat.xor_zero, Nat.xor_assoc, Nat.xor_comm (3988292384 : Nat) (b / 2 ^^^ 3988292384), Nat.xor_assoc (b / 2), Nat.xor_self, Nat.xor_zero]
  · rw [if_pos (ho.2 (fun h => hb (h.1 ha))), if_pos ha, if_neg hb]
    rw [Nat.xor_zero, Nat.xor_assoc, Nat.xor_comm (b / 2), ← Nat.xor_assoc]
  · rw [if_pos (ho.2 (fun h => ha (h.2 hb))), if_neg ha, if_pos hb]
    rw [Nat.xor_zero, Nat.xor_assoc]
  · rw [if_neg (fun h => (ho.1 h) ⟨fun h => absurd h ha, fun h => absurd h hb⟩), if_neg ha, if_neg hb]
    simp
theorem stepC_even (a : Nat) : stepC (2 * a) = a := by
  unfold stepC
  rw [if_neg (by omega), Nat.xor_zero]; omega
theorem steps4 (s : Nat) : stepC (stepC (stepC (stepC s))) = nib s := by
  have e : s = 2 * (2 * (2 * (2 * (s / 16)))) ^^^ s % 16 := by
    have h := Nat.two_pow_add_eq_or_of_lt (i := 4) (b := s % 16) (by simp; omega) (s / 16)
    have h' : 2 * (2 * (2 * (2 * (s / 16)))) = 2 ^ 4 * (s / 16) := by omega
    rw [h']
    have hx : 2 ^ 4 * (s / 16) ^^^ s % 16 = 2 ^ 4 * (s / 16) ||| s % 16 := by
      apply Nat.eq_of_testBit_eq
      intro i
      rw [Nat.testBit_or, Nat.testBit_xor, Nat.testBit_two_pow_mul]
      by_cases hi : i ≥ 4
      · rw [Nat.testBit_lt_two_pow (x := s % 16) (Nat.lt_of_lt_of_le (show s % 16 < 2 ^ 4 by omega) (Nat.pow_le_pow_right (by decide) hi))]
        simp
      · simp [hi]
    rw [hx, ← h]; omega
  conv => lhs; rw [e]
  rw [stepC_xor, stepC_even, stepC_xor, stepC_even, stepC_xor, stepC_even, stepC_xor, stepC_even]
  unfold nib
  congr 1
  have h16 : s % 16 < 16 := Nat.mod_lt _ (by decide)
  generalize s % 16 = r at h16
  have : ∀ r : Fin 16, stepC (stepC (stepC (stepC r.val))) = crcAt r.val := by decide +kernel
  exact this ⟨r, h16⟩
theorem stepC_lt {s : Nat} (h : s < 4294967296) : stepC s < 4294967296 := by
  unfold stepC
  have : s / 2 ^^^ (if s % 2 = 1 then 3988292384 else 0) < 2 ^ 32 := Nat.xor_lt_two_pow (by omega) (by split <;> decide)
  simpa using this
theorem crcAt_lt (k : Nat) : crcAt k < 4294967296 := by
  unfold crcAt
  by_cases h : k < 16
  · have : ∀ r : Fin 16, crcTab.getD r.val 0 < 4294967296 := by decide +kernel
    exact this ⟨k, h⟩
  · have : crcTab.getD k 0 = 0 := by
      have hl : crcTab.length = 16 := rfl
      simp [List.getD, List.getElem?_eq_none (show crcTab.length ≤ k by omega)]
    rw [this]; decide
theorem nib_lt {s : Nat} (h : s < 4294967296) : nib s < 4294967296 := by
  rw [← steps4]; exact stepC_lt (stepC_lt (stepC_lt (stepC_lt h)))
theorem xor8_lt {s : Nat} (h : s < 4294967296) (c : UInt8) : s ^^^ c.toNat < 4294967296 := by
  have : s ^^^ c.toNat < 2 ^ 32 := Nat.xor_lt_two_pow (by omega) (by have := c.toNat_lt; omega)
  simpa using this
/-- A sum carried on over some bytes. -/
def crcB (s : Nat) : List UInt8 → Nat
  | [] => s
  | c :: r => crcB (nib (nib (s ^^^ c.toNat))) r
theorem crcB_append : ∀ (a b : List UInt8) (s : Nat), crcB s (a ++ b) = crcB (crcB s a) b
  | [], _, _ => rfl
  | c :: r, b, s => by rw [List.cons_append, crcB, crcB_append r b]; rfl
theorem crcB_lt : ∀ (l : List UInt8) (s : Nat), s < 4294967296 → crcB s l < 4294967296
  | [], _, h => h
  | c :: r, s, h => by rw [crcB]; exact crcB_lt r _ (nib_lt (nib_lt (xor8_lt h c)))
/-- The whole sum. -/
def crcOf (l : List UInt8) : Nat := 4294967295 - crcB 4294967295 l
end Go.Proofs.YtcmgclkbhhdnaaaGreatDoor
namespace Go.Proofs.YtcmgclkbhhdnaaaGreatDoor
open Go Go.RowKit

/-- The table lies where the program lays it. -/
def Tab (w : World) : Prop := ∀ k, k < 16 → w.cell? ⟨0, k, none⟩ = some (.int .u32 (crcAt k : Nat))
theorem Tab.below {w w' : World} (h : Tab w) (hB : Below w.heap.size w w') : Tab w' := fun k hk => by
  rw [hB.cell (p := ⟨0, k, none⟩) (World.block_lt_of_cell? w _ (h k hk))]; exact h k hk

theorem bits_xor_u32_nat (a b : Nat) (ha : a < 4294967296) (hb : b < 4294967296) : bits .xor .u32 (a : Int) (b : Int) = ((a ^^^ b : Nat) : Int) := by
  have hx : a ^^^ b < 2 ^ 32 := Nat.xor_lt_two_pow (by omega) (by omega)
  have h1 : (BitVec.ofInt 32 (a : Int)).toNat = a := by
    rw [BitVec.ofInt_natCast, BitVec.toNat_ofNat]; exact Nat.mod_eq_of_lt (by omega)
  have h2 : (BitVec.ofInt 32 (b : Int)).toNat = b := by
    rw [BitVec.ofInt_natCast, BitVec.toNat_ofNat]; exact Nat.mod_eq_of_lt (by omega)
  show IntKind.u32.wrap ((BitVec.ofInt 32 (a : Int) ^^^ BitVec.ofInt 32 (b : Int)).toNat : Int) = _
  rw [BitVec.toNat_xor, h1, h2, IntKind.wrap_u32]
  omega
theorem nib_int (x : Nat) (h : x < 4294967296) : bits .xor .u32 ((x : Int) / 16) ((crcAt (x % 16) : Nat) : Int) = ((nib x : Nat) : Int) := by
  have e : ((x : Int) / 16) = ((x / 16 : Nat) : Int) := by omega
  rw [e, bits_xor_u32_nat _ _ (by omega) (crcAt_lt _)]; rfl

theorem crcB_snoc (s : Nat) (l : List UInt8) (k : Nat) (h : k < l.length) : crcB s (l.take (k + 1)) = nib (nib (crcB s (l.take k) ^^^ (l.getD k 0).toNat)) := by
  rw [List.take_add_one, crcB_append]
  simp [List.getD, h, crcB]

set_option maxRecDepth 100000 in
set_option maxHeartbeats 800000 in
theorem crcOver_in (b off cap s : Nat) (l : List UInt8) (w : World) (hs : s < 4294967296) (hr : Rd w b off l) (hn : l.length ≤ 281474976710656) (ht : Tab w) :
    Calls Tryz.prog 125 #[.int .u32 s, .slice (some ⟨b, off, none⟩) l.length cap] w fun e w' => e = .returned (.int .u32 (crcB s l : Nat)) ∧ w' = w := by
  have HR := hid hr
  have HT := hid ht
  clear hr ht
  go_enter Tryz.func125, Tryz.ntmps125
  go_wp2
  go_loop [0, 9] (fun q i => ∃ k x : Nat, k ≤ l.length ∧ i = .int .i64 k ∧ q = .int .u32 x ∧ x < 4294967296 ∧ x = crcB s (l.take k)) (fun _ i => l.length - (intOf i).toNat)
  case atStart => exact ⟨0, s, by omega, rfl, rfl, hs, rfl⟩
  case round =>
    obtain ⟨k, x, hk, rfl, rfl, hx, hxe⟩ := hrel
    have HX := hid hxe
    clear hxe
    by_cases hlt : k < l.length
    · have hcell := HR.out k hlt
      have hst := crcB_snoc s l k hlt
      rw [← HX.out] at hst
      have hc := (l.getD k 0).toNat_lt
      have h1 := bits_xor_u32_nat x (l.getD k 0).toNat hx (by omega)
      have hb1 := xor8_lt hx (l.getD k 0)
      unfold at8 at hcell
      have HST := hid hst
      clear hst
      generalize x ^^^ (l.getD k 0).toNat = x1 at *
      generalize (l.getD k 0).toNat = c at *
      have hb2 := nib_lt hb1
      have hb3 := nib_lt hb2
      have h2 := nib_int x1 hb1
      have h3 := nib_int (nib x1) hb2
      have ht1 := HT.out (x1 % 16) (Nat.mod_lt _ (by decide))
      have ht2 := HT.out (nib x1 % 16) (Nat.mod_lt _ (by decide))
      generalize nib (nib x1) = x3 at *
      generalize nib x1 = x2 at *
      generalize crcAt (x1 % 16) = t1 at *
      generalize crcAt (x2 % 16) = t2 at *
      go_wp2_with fail
      exact ⟨⟨k + 1, x3, by omega, by go_num, rfl, hb3, HST.out.symm⟩, by simp [intOf]; omega⟩
    · have hall : crcB s l = x := by rw [HX.out, List.take_of_length_le (by omega)]
      have HA := hid hall
      clear hall
      go_wp2
      go_ret
      exact ⟨by rw [HA.out]; rfl, rfl⟩

set_option maxHeartbeats 400000 in
theorem crcOver_nil (a : Option Addr) (cap s : Nat) (w : World) :
    Calls Tryz.prog 125 #[.int .u32 s, .slice a 0 cap] w fun e w' => e = .returned (.int .u32 s) ∧ w' = w := by
  go_enter Tryz.func125, Tryz.ntmps125
  go_wp2
  refine wp_loop_rounds 1 ?_
  rw [rounds_succ]
  go_wp2
  go_ret
  exact ⟨rfl, rfl⟩

theorem crcOver_any (a : Option Addr) (cap s : Nat) (l : List UInt8) (w : World) (hs : s < 4294967296) (hv : Sl w (.slice a l.length cap) l) (hn : l.length ≤ 281474976710656) (ht : Tab w) :
    Calls Tryz.prog 125 #[.int .u32 s, .slice a l.length cap] w fun e w' => e = .returned (.int .u32 (crcB s l : Nat)) ∧ w' = w := by
  obtain ⟨a', cap', he, h2, h3, h4⟩ := hv
  cases he
  cases l with
  | nil => exact crcOver_nil a cap s w
  | cons c r =>
    obtain ⟨b, off, rfl, hr⟩ := h4 (by simp)
    exact crcOver_in b off cap s (c :: r) w hs hr hn ht

/-- Parts that lie in memory: each a slice of its own. -/
def Parts (w : World) (a : Option Addr) (ps : List (List UInt8)) : Prop :=
  ∀ k, k < ps.length → ∃ b o ap cp, a = some ⟨b, o, none⟩ ∧ w.cell? ⟨b, o + k, none⟩ = some (.slice ap (ps.getD k []).length cp) ∧ Sl w (.slice ap (ps.getD k []).length cp) (ps.getD k [])

theorem crcB_flat (s : Nat) (ps : List (List UInt8)) (k : Nat) (h : k < ps.length) : crcB s (ps.take (k + 1)).flatten = crcB (crcB s (ps.take k).flatten) (ps.getD k []) := by
  rw [List.take_add_one, List.flatten_append, crcB_append]
  simp [List.getD, h]
theorem not_u32 (x : Nat) (h : x < 4294967296) : bits .xor .u32 IntKind.u32.max (x : Int) = ((4294967295 - x : Nat) : Int) := by
  show IntKind.u32.wrap ((BitVec.ofInt 32 4294967295 ^^^ BitVec.ofInt 32 (x : Int)).toNat : Int) = _
  have e : BitVec.ofInt 32 4294967295 = BitVec.allOnes 32 := by decide
  rw [e, BitVec.allOnes_xor, BitVec.toNat_not, BitVec.ofInt_natCast, BitVec.toNat_ofNat, IntKind.wrap_u32]
  omega

set_option maxRecDepth 100000 in
set_option maxHeartbeats 800000 in
theorem crc_any (a : Option Addr) (n cap : Nat) (ps : List (List UInt8)) (w : World) (hp : Parts w a ps) (hl : ps.length = n) (hn : n ≤ 281474976710656) (hq : ∀ l ∈ ps, l.length ≤ 281474976710656) (ht : Tab w) :
    Calls Tryz.prog 109 #[.slice a n cap] w fun e w' => e = .returned (.int .u32 (crcOf ps.flatten : Nat)) ∧ w' = w := by
  have HP := hid hp
  have HT := hid ht
  have HQ := hid hq
  have HL := hid hl
  clear hp ht hq hl
  go_enter Tryz.func109, Tryz.ntmps109
  go_wp2
  go_loop [3, 8] (fun q i => ∃ k x : Nat, k ≤ n ∧ i = .int .i64 k ∧ q = .int .u32 x ∧ x < 4294967296 ∧ x = crcB 4294967295 (ps.take k).flatten) (fun _ i => n - (intOf i).toNat)
  case atStart => exact ⟨0, 4294967295, by omega, rfl, rfl, by decide, rfl⟩
  case round =>
    obtain ⟨k, x, hk, rfl, rfl, hx, hxe⟩ := hrel
    have HX := hid hxe
    clear hxe
    by_cases hlt : k < n
    · obtain ⟨b, o, ap, cp, rfl, hcell, hsl⟩ := HP.out k (by rw [HL.out]; exact hlt)
      have hst := crcB_flat 4294967295 ps k (by rw [HL.out]; exact hlt)
      rw [← HX.out] at hst
      have hqk := HQ.out (ps.getD k []) (by have hk' : k < ps.length := by rw [HL.out]; exact hlt
                                            simp [List.getD, hk'])
      have hb3 := crcB_lt (ps.getD k []) x hx
      have HST := hid hst
      have HSL := hid hsl
      clear hst hsl
      generalize ps.getD k [] = lp at *
      go_wp2_with fail
      refine (crcOver_any ap cp x lp w hx HSL.out hqk HT.out).mono ?_
      rintro e w ⟨rfl, rfl⟩
      go_wp2_with fail
      exact ⟨⟨k + 1, _, by omega, by go_num, rfl, hb3, HST.out.symm⟩, by simp [intOf]; omega⟩
    · have hall : crcB 4294967295 ps.flatten = x := by rw [HX.out, List.take_of_length_le (by rw [HL.out]; omega)]
      have HA := hid hall
      clear hall
      go_wp2
      go_ret
      refine ⟨?_, rfl⟩
      unfold crcOf
      rw [HA.out, ← not_u32 x hx]
      rfl
end Go.Proofs.YtcmgclkbhhdnaaaGreatDoor
