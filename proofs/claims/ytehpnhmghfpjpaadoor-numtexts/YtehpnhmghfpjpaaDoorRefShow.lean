/- The walk of the reference's Show: the same text as num's. -/
import Derived.Test.YtehpnhmghfpjpaaDoorRefShowA
import Derived.Test.YtehpnhmghfpjpaaDoorFracMath
import Derived.WalkSpells
import Derived.WalkLawsBesides
namespace Go.Proofs.YtehpnhmghfpjpaaDoor
open Go.RowKit

theorem cat_lists (a b : List UInt8) : (⟨a.toArray⟩ : ByteArray) ++ ⟨b.toArray⟩ = ⟨(a ++ b).toArray⟩ := by
  apply ByteArray.ext
  apply Array.ext'
  simp
theorem size_list (l : List UInt8) : (⟨l.toArray⟩ : ByteArray).size = l.length := by rw [Lib.size_eq]
theorem cut_first (c : UInt8) (l : List UInt8) : (⟨(c :: l).toArray⟩ : ByteArray).extract 1 (⟨(c :: l).toArray⟩ : ByteArray).size = ⟨l.toArray⟩ := by
  rw [Lib.extract_eq, size_list]
  simp
theorem cut_last (l : List UInt8) (c : UInt8) : (⟨(l ++ [c]).toArray⟩ : ByteArray).extract 0 l.length = ⟨l.toArray⟩ := by
  rw [Lib.extract_eq]
  simp

set_option maxHeartbeats 800000 in
theorem rshow_whole (a : Int) (w : World) (h1 : (clampI a).natAbs % 1000000 = 0) :
    Calls Tryd.prog 27 #[.int .i64 a] w fun e w' => e = .returned (.string ⟨(showL a).toArray⟩) ∧ w' = w := by
  have l0 := clampI_le a
  have l1 := clampI_ge a
  have HC : Hid (∀ w : World, Calls Tryd.prog 29 #[.int .i64 (clampI a)] w fun e w' => e = .returned (.int .i64 ((clampI a).natAbs : Int)) ∧ w' = w) := fun w => rsize_any _ w l1 l0
  have HL : Hid (showL a = (if clampI a < 0 then [45] else []) ++ Lib.decDigits ((clampI a).natAbs / 1000000)) := by
    show showL a = _
    unfold showL showPos
    by_cases h : clampI a < 0
    · rw [if_pos h, if_pos h, itoa_nonneg (by omega), if_pos (by omega), show (-clampI a / 1000000).toNat = (clampI a).natAbs / 1000000 by omega]; simp
    · rw [if_neg h, if_neg h, itoa_nonneg (by omega), if_pos (by omega), show (clampI a / 1000000).toNat = (clampI a).natAbs / 1000000 by omega]; simp
  generalize hS : showL a = SL at *
  generalize hn : (clampI a).natAbs = n at *
  have HD : Hid (∀ w : World, Calls Tryd.prog 41 #[.int .i64 ((n / 1000000 : Nat) : Int)] w fun e w' => e = .returned (.string ⟨(Lib.decDigits (n / 1000000)).toArray⟩) ∧ w' = w) := fun w => rdigits_any _ w (by omega)
  have hlen := decDigits_len 9 (n / 1000000) (by omega)
  have rq : (n : Int) / 1000000 = ((n / 1000000 : Nat) : Int) := by omega
  have rr : ((n : Int) % 1000000 == 0) = true := by simp; omega
  have ni : (n : Int) ≤ 1000000000000000 := by omega
  generalize hE : Lib.decDigits (n / 1000000) = E at *
  by_cases hneg : clampI a < 0
  · have hL := HL.out
    rw [if_pos hneg] at hL
    have HF : Hid (SL = 45 :: E) := hL
    have hadd : ∀ w1 : World, (Op.stringOp .add ⟨#[45]⟩ ⟨E.toArray⟩).run Tryd.prog w1 = .ok (.string ⟨(45 :: E).toArray⟩) w1 := fun w1 => by
      have z1 : (⟨#[45]⟩ : ByteArray).size = 1 := rfl
      have z2 := size_list E
      have := run_string_add_sum (P := Tryd.prog) w1 ⟨#[45]⟩ ⟨E.toArray⟩ (by omega)
      rw [show (⟨#[45]⟩ : ByteArray) ++ ⟨E.toArray⟩ = ⟨(45 :: E).toArray⟩ from cat_lists [45] E] at this; exact this
    clear hS hn hE HL hlen l0 l1 h1 hL
    generalize n / 1000000 = q at *
    go_enter Tryd.func27, Tryd.ntmps27
    go_wp2_with (first | (go_at_call 11; refine (rclamp_any _ _).mono ?_; rintro e w ⟨rfl, rfl⟩) | (go_at_call 29; refine (HC.out _).mono ?_; rintro e w ⟨rfl, rfl⟩) | (go_at_call 41; refine (HD.out _).mono ?_; rintro e w ⟨rfl, rfl⟩))
    go_ret
    exact ⟨by rw [HF.out]; rfl, rfl⟩
  · have hL := HL.out
    rw [if_neg hneg] at hL
    have HF : Hid (SL = E) := hL
    clear hS hn hE HL hlen l0 l1 h1 hL
    generalize n / 1000000 = q at *
    go_enter Tryd.func27, Tryd.ntmps27
    go_wp2_with (first | (go_at_call 11; refine (rclamp_any _ _).mono ?_; rintro e w ⟨rfl, rfl⟩) | (go_at_call 29; refine (HC.out _).mono ?_; rintro e w ⟨rfl, rfl⟩) | (go_at_call 41; refine (HD.out _).mono ?_; rintro e w ⟨rfl, rfl⟩))
    go_ret
    exact ⟨by rw [HF.out]; rfl, rfl⟩

theorem last_at (u : List UInt8) (d : UInt8) (h : u.length < (⟨(u ++ [d]).toArray⟩ : ByteArray).size) : (⟨(u ++ [d]).toArray⟩ : ByteArray)[u.length]'h = d := by
  show ((u ++ [d]).toArray)[u.length]'_ = d
  simp

def strL : Value → Nat
  | .string s => s.size
  | _ => 0

set_option maxHeartbeats 800000 in
theorem rshow_frac (a : Int) (w : World) (h1 : (clampI a).natAbs % 1000000 ≠ 0) :
    Calls Tryd.prog 27 #[.int .i64 a] w fun e w' => e = .returned (.string ⟨(showL a).toArray⟩) ∧ w' = w := by
  have l0 := clampI_le a
  have l1 := clampI_ge a
  have HC : Hid (∀ w : World, Calls Tryd.prog 29 #[.int .i64 (clampI a)] w fun e w' => e = .returned (.int .i64 ((clampI a).natAbs : Int)) ∧ w' = w) := fun w => rsize_any _ w l1 l0
  have HL : showL a = ((if clampI a < 0 then [45] else []) ++ Lib.decDigits ((clampI a).natAbs / 1000000)) ++ 46 :: fracDigits (((clampI a).natAbs % 1000000 : Nat) : Int) := by
    unfold showL showPos
    by_cases h : clampI a < 0
    · rw [if_pos h, if_pos h, itoa_nonneg (by omega), if_neg (by omega), show (-clampI a / 1000000).toNat = (clampI a).natAbs / 1000000 by omega, show (-clampI a) % 1000000 = (((clampI a).natAbs % 1000000 : Nat) : Int) by omega]; simp
    · rw [if_neg h, if_neg h, itoa_nonneg (by omega), if_neg (by omega), show (clampI a / 1000000).toNat = (clampI a).natAbs / 1000000 by omega, show clampI a % 1000000 = (((clampI a).natAbs % 1000000 : Nat) : Int) by omega]; simp
  generalize hS : showL a = SL at *
  generalize hn : (clampI a).natAbs = n at *
  have HD : Hid (∀ w : World, Calls Tryd.prog 41 #[.int .i64 ((n / 1000000 : Nat) : Int)] w fun e w' => e = .returned (.string ⟨(Lib.decDigits (n / 1000000)).toArray⟩) ∧ w' = w) := fun w => rdigits_any _ w (by omega)
  have hlen := decDigits_len 9 (n / 1000000) (by omega)
  have rq : (n : Int) / 1000000 = ((n / 1000000 : Nat) : Int) := by omega
  have rm : (n : Int) % 1000000 = ((n % 1000000 : Nat) : Int) := by omega
  have rr : (((n % 1000000 : Nat) : Int) == 0) = false := by simp; omega
  have ni : (n : Int) ≤ 1000000000000000 := by omega
  obtain ⟨t, c, j, hx, hc, hj, hdec⟩ := tail_eq (show n % 1000000 < 1000000 by omega) (show 0 < n % 1000000 by omega)
  have HE : Hid (∀ w : World, Calls Tryd.prog 41 #[.int .i64 (1000000 + ((n % 1000000 : Nat) : Int))] w fun e w' => e = .returned (.string ⟨(49 :: (fracDigits ((n % 1000000 : Nat) : Int) ++ List.replicate j 48)).toArray⟩) ∧ w' = w) := fun w => by
    have := rdigits_any (1000000 + n % 1000000) w (by omega)
    rw [hdec] at this
    exact this
  have rmi : ((n % 1000000 : Nat) : Int) ≤ 999999 := by omega
  have hxl : (fracDigits ((n % 1000000 : Nat) : Int)).length ≤ 6 := by unfold fracDigits; simpa using putN_len ([], ((n % 1000000 : Nat) : Int), 1000000) 6
  generalize fracDigits ((n % 1000000 : Nat) : Int) = x at *
  have hcut := cut_first 49 (x ++ List.replicate j 48)
  have hvs := size_list (49 :: (x ++ List.replicate j 48))
  generalize hV : (⟨(49 :: (x ++ List.replicate j 48)).toArray⟩ : ByteArray) = V at *
  have v1 : (1 : Int) ≤ (V.size : Int) := by rw [hvs]; simp; omega
  generalize hEE : Lib.decDigits (n / 1000000) = E at *
  generalize n / 1000000 = q at *
  generalize n % 1000000 = r at *
  by_cases hneg : clampI a < 0
  · rw [if_pos hneg] at HL
    have HF : Hid (SL = ((45 :: E) ++ [46]) ++ x) := by show SL = _; rw [HL]; simp
    have hadd : ∀ w1 : World, (Op.stringOp .add ⟨#[45]⟩ ⟨E.toArray⟩).run Tryd.prog w1 = .ok (.string ⟨(45 :: E).toArray⟩) w1 := fun w1 => by
      have z1 : (⟨#[45]⟩ : ByteArray).size = 1 := rfl
      have z2 := size_list E
      have := run_string_add_sum (P := Tryd.prog) w1 ⟨#[45]⟩ ⟨E.toArray⟩ (by omega)
      rw [show (⟨#[45]⟩ : ByteArray) ++ ⟨E.toArray⟩ = ⟨(45 :: E).toArray⟩ from cat_lists [45] E] at this; exact this
    have hadd2 : ∀ w1 : World, (Op.stringOp .add ⟨(45 :: E).toArray⟩ ⟨#[46]⟩).run Tryd.prog w1 = .ok (.string ⟨((45 :: E) ++ [46]).toArray⟩) w1 := fun w1 => by
      have z1 : (⟨#[46]⟩ : ByteArray).size = 1 := rfl
      have z2 := size_list (45 :: E)
      have z3 : (45 :: E).length ≤ 11 := by simp; omega
      have := run_string_add_sum (P := Tryd.prog) w1 ⟨(45 :: E).toArray⟩ ⟨#[46]⟩ (by omega)
      rw [cat_lists _ [46]] at this; exact this
    have hadd3 : ∀ w1 : World, (Op.stringOp .add ⟨((45 :: E) ++ [46]).toArray⟩ ⟨x.toArray⟩).run Tryd.prog w1 = .ok (.string ⟨SL.toArray⟩) w1 := fun w1 => by
      have z1 := size_list x
      have z2 := size_list ((45 :: E) ++ [46])
      have z3 : ((45 :: E) ++ [46]).length ≤ 12 := by simp; omega
      have := run_string_add_sum (P := Tryd.prog) w1 ⟨((45 :: E) ++ [46]).toArray⟩ ⟨x.toArray⟩ (by omega)
      rw [cat_lists] at this; rw [this, HF.out]
    have HX : Hid (x = t ++ [c]) := hx
    clear hS hn hlen l0 l1 hEE hdec hV hvs HL HF h1 hx
    generalize (⟨(45 :: E).toArray⟩ : ByteArray) = G at *
    generalize (⟨((45 :: E) ++ [46]).toArray⟩ : ByteArray) = G2 at *
    generalize (⟨E.toArray⟩ : ByteArray) = EB at *
    generalize (⟨SL.toArray⟩ : ByteArray) = SB at *
    go_enter Tryd.func27, Tryd.ntmps27
    go_wp2_with (first | (go_at_call 11; refine (rclamp_any _ _).mono ?_; rintro e w ⟨rfl, rfl⟩) | (go_at_call 29; refine (HC.out _).mono ?_; rintro e w ⟨rfl, rfl⟩))
    refine (HD.out _).mono ?_
    rintro e w ⟨rfl, rfl⟩
    go_wp2_with (first | (go_at_call 29; refine (HC.out _).mono ?_; rintro e w ⟨rfl, rfl⟩))
    refine (HE.out _).mono ?_
    rintro e w ⟨rfl, rfl⟩
    go_wp2
    go_loop [5] (fun b => ∃ i : Nat, i ≤ j ∧ b = .string ⟨(x ++ List.replicate i 48).toArray⟩) (fun b => strL b)
    case atStart => exact ⟨j, Nat.le_refl _, rfl⟩
    case round =>
      obtain ⟨i, hi, rfl⟩ := hrel
      obtain ⟨u, d, hud, hcase⟩ : ∃ u d, x ++ List.replicate i 48 = u ++ [d] ∧ ((i = 0 ∧ d ≠ 48) ∨ (∃ i', i = i' + 1 ∧ d = 48 ∧ u = x ++ List.replicate i' 48)) := by
        cases i with
        | zero => exact ⟨t, c, by rw [HX.out]; simp, Or.inl ⟨rfl, hc⟩⟩
        | succ i' => exact ⟨x ++ List.replicate i' 48, 48, by rw [List.replicate_succ', ← List.append_assoc], Or.inr ⟨i', rfl, rfl, rfl⟩⟩
      have hul : u.length ≤ 20 := by have := congrArg List.length hud; simp at this; omega
      have hsz : (⟨(u ++ [d]).toArray⟩ : ByteArray).size = u.length + 1 := by rw [size_list]; simp
      have hla := last_at u d
      have hex := cut_last u d
      have HU : Hid ((⟨(x ++ List.replicate i 48).toArray⟩ : ByteArray) = ⟨(u ++ [d]).toArray⟩) := by show (⟨(x ++ List.replicate i 48).toArray⟩ : ByteArray) = _; rw [hud]
      rw [HU.out]
      have HZ : Hid (i = 0 → (⟨(u ++ [d]).toArray⟩ : ByteArray) = ⟨x.toArray⟩) := fun h => by rw [← HU.out, h]; simp
      have HV : Hid (∀ i', u = x ++ List.replicate i' 48 → (⟨u.toArray⟩ : ByteArray) = ⟨(x ++ List.replicate i' 48).toArray⟩) := fun i' h => by rw [h]
      clear hud HU
      generalize (⟨(u ++ [d]).toArray⟩ : ByteArray) = T at *
      generalize hUU : (⟨u.toArray⟩ : ByteArray) = U at *
      have HUs : Hid (U.size = u.length) := by show U.size = _; rw [← hUU, size_list]
      generalize u.length = k at *
      have hki : (k : Int) ≤ 20 := by omega
      have hlt : k < T.size := by omega
      have hla' := hla hlt
      clear hla hUU
      rcases hcase with ⟨h0, hd⟩ | ⟨i', h0, hd, hu⟩
      · have d1 : (((T[k]'hlt).toNat : Int) == 48) = false := by
          rw [hla']
          have : d.toNat ≠ 48 := fun e => hd (UInt8.toNat_inj.1 e)
          simp; omega
        have HT := HZ.out h0
        subst HT
        clear hla' HV HUs hex
        go_wp2
        go_ret
        exact ⟨rfl, rfl⟩
      · have d1 : (((T[k]'hlt).toNat : Int) == 48) = true := by rw [hla', hd]; rfl
        have HT : Hid (U = ⟨(x ++ List.replicate i' 48).toArray⟩) := HV.out i' hu
        clear hla' HV hu HZ
        go_wp2
        go_round
        case rel => exact ⟨i', by omega, by rw [← HT.out]⟩
        case measure =>
          show U.size < T.size
          rw [HUs.out]; omega
  · rw [if_neg hneg] at HL
    have HF : Hid (SL = (E ++ [46]) ++ x) := by show SL = _; rw [HL]; simp
    have hadd2 : ∀ w1 : World, (Op.stringOp .add ⟨E.toArray⟩ ⟨#[46]⟩).run Tryd.prog w1 = .ok (.string ⟨(E ++ [46]).toArray⟩) w1 := fun w1 => by
      have z1 : (⟨#[46]⟩ : ByteArray).size = 1 := rfl
      have z2 := size_list E
      have z3 : E.length ≤ 11 := by omega
      have := run_string_add_sum (P := Tryd.prog) w1 ⟨E.toArray⟩ ⟨#[46]⟩ (by omega)
      rw [cat_lists _ [46]] at this; exact this
    have hadd3 : ∀ w1 : World, (Op.stringOp .add ⟨(E ++ [46]).toArray⟩ ⟨x.toArray⟩).run Tryd.prog w1 = .ok (.string ⟨SL.toArray⟩) w1 := fun w1 => by
      have z1 := size_list x
      have z2 := size_list (E ++ [46])
      have z3 : (E ++ [46]).length ≤ 12 := by simp; omega
      have := run_string_add_sum (P := Tryd.prog) w1 ⟨(E ++ [46]).toArray⟩ ⟨x.toArray⟩ (by omega)
      rw [cat_lists] at this; rw [this, HF.out]
    have HX : Hid (x = t ++ [c]) := hx
    clear hS hn hlen l0 l1 hEE hdec hV hvs HL HF h1 hx
    generalize (⟨(E ++ [46]).toArray⟩ : ByteArray) = G2 at *
    generalize (⟨E.toArray⟩ : ByteArray) = EB at *
    generalize (⟨SL.toArray⟩ : ByteArray) = SB at *
    go_enter Tryd.func27, Tryd.ntmps27
    go_wp2_with (first | (go_at_call 11; refine (rclamp_any _ _).mono ?_; rintro e w ⟨rfl, rfl⟩) | (go_at_call 29; refine (HC.out _).mono ?_; rintro e w ⟨rfl, rfl⟩))
    refine (HD.out _).mono ?_
    rintro e w ⟨rfl, rfl⟩
    go_wp2_with (first | (go_at_call 29; refine (HC.out _).mono ?_; rintro e w ⟨rfl, rfl⟩))
    refine (HE.out _).mono ?_
    rintro e w ⟨rfl, rfl⟩
    go_wp2
    go_loop [5] (fun b => ∃ i : Nat, i ≤ j ∧ b = .string ⟨(x ++ List.replicate i 48).toArray⟩) (fun b => strL b)
    case atStart => exact ⟨j, Nat.le_refl _, rfl⟩
    case round =>
      obtain ⟨i, hi, rfl⟩ := hrel
      obtain ⟨u, d, hud, hcase⟩ : ∃ u d, x ++ List.replicate i 48 = u ++ [d] ∧ ((i = 0 ∧ d ≠ 48) ∨ (∃ i', i = i' + 1 ∧ d = 48 ∧ u = x ++ List.replicate i' 48)) := by
        cases i with
        | zero => exact ⟨t, c, by rw [HX.out]; simp, Or.inl ⟨rfl, hc⟩⟩
        | succ i' => exact ⟨x ++ List.replicate i' 48, 48, by rw [List.replicate_succ', ← List.append_assoc], Or.inr ⟨i', rfl, rfl, rfl⟩⟩
      have hul : u.length ≤ 20 := by have := congrArg List.length hud; simp at this; omega
      have hsz : (⟨(u ++ [d]).toArray⟩ : ByteArray).size = u.length + 1 := by rw [size_list]; simp
      have hla := last_at u d
      have hex := cut_last u d
      have HU : Hid ((⟨(x ++ List.replicate i 48).toArray⟩ : ByteArray) = ⟨(u ++ [d]).toArray⟩) := by show (⟨(x ++ List.replicate i 48).toArray⟩ : ByteArray) = _; rw [hud]
      rw [HU.out]
      have HZ : Hid (i = 0 → (⟨(u ++ [d]).toArray⟩ : ByteArray) = ⟨x.toArray⟩) := fun h => by rw [← HU.out, h]; simp
      have HV : Hid (∀ i', u = x ++ List.replicate i' 48 → (⟨u.toArray⟩ : ByteArray) = ⟨(x ++ List.replicate i' 48).toArray⟩) := fun i' h => by rw [h]
      clear hud HU
      generalize (⟨(u ++ [d]).toArray⟩ : ByteArray) = T at *
      generalize hUU : (⟨u.toArray⟩ : ByteArray) = U at *
      have HUs : Hid (U.size = u.length) := by show U.size = _; rw [← hUU, size_list]
      generalize u.length = k at *
      have hki : (k : Int) ≤ 20 := by omega
      have hlt : k < T.size := by omega
      have hla' := hla hlt
      clear hla hUU
      rcases hcase with ⟨h0, hd⟩ | ⟨i', h0, hd, hu⟩
      · have d1 : (((T[k]'hlt).toNat : Int) == 48) = false := by
          rw [hla']
          have : d.toNat ≠ 48 := fun e => hd (UInt8.toNat_inj.1 e)
          simp; omega
        have HT := HZ.out h0
        subst HT
        clear hla' HV HUs hex
        go_wp2
        go_ret
        exact ⟨rfl, rfl⟩
      · have d1 : (((T[k]'hlt).toNat : Int) == 48) = true := by rw [hla', hd]; rfl
        have HT : Hid (U = ⟨(x ++ List.replicate i' 48).toArray⟩) := HV.out i' hu
        clear hla' HV hu HZ
        go_wp2
        go_round
        case rel => exact ⟨i', by omega, by rw [← HT.out]⟩
        case measure =>
          show U.size < T.size
          rw [HUs.out]; omega
end Go.Proofs.YtehpnhmghfpjpaaDoor
