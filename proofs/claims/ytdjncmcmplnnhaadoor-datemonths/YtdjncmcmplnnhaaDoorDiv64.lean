/- The walk of math/bits.Div64: the quotient and the rest of two words by one. -/
import Derived.Test.YtdjncmcmplnnhaaDoorShelf
import Derived.Test.YtdjncmcmplnnhaaDoorDivPlain
import Derived.WalkKit
import Derived.WalkSpells
import Derived.WalkLawsBesides
import Derived.Laws.Bits64b
namespace Go.Proofs.YtdjncmcmplnnhaaDoor
open Go.RowKit

theorem wrapN (a : Nat) : IntKind.u64.wrap (a : Int) = ((a % 18446744073709551616 : Nat) : Int) := by rw [IntKind.wrap_u64]; omega
theorem wrapMul (a b : Nat) : IntKind.u64.wrap ((a : Int) * (b : Int)) = ((a * b % 18446744073709551616 : Nat) : Int) := by rw [← Int.natCast_mul]; exact wrapN _
theorem wrapMulK (a : Nat) : IntKind.u64.wrap ((a : Int) * 4294967296) = ((a * 4294967296 % 18446744073709551616 : Nat) : Int) := wrapMul a 4294967296

theorem mod_calc {T R u v : Nat} (h : T + R = u * 4294967296 + v) (hR : R < 18446744073709551616) :
    IntKind.u64.wrap ((((u * 4294967296 % 18446744073709551616 + v) % 18446744073709551616 : Nat) : Int) - ((T % 18446744073709551616 : Nat) : Int)) = (R : Int) := by
  rw [IntKind.wrap_u64]
  omega

/-- The rest behind a digit, as the walk reckons it: modulo 2^64. -/
theorem rest_rules {Y u v Q : Nat} (hYb : Y ≤ 18446744073709551616) (hY0 : 0 < Y) (hQ : Q = (u * 4294967296 + v) / Y) :
    ∃ A B C R : Nat, IntKind.u64.wrap ((u : Int) * 4294967296) = (A : Int) ∧ IntKind.u64.wrap ((A : Int) + (v : Int)) = (B : Int) ∧ IntKind.u64.wrap ((Q : Int) * (Y : Int)) = (C : Int) ∧
      IntKind.u64.wrap ((B : Int) - (C : Int)) = (R : Int) ∧ R < Y ∧ Q * Y + R = u * 4294967296 + v := by
  have h1 : Q * Y + (u * 4294967296 + v) % Y = u * 4294967296 + v := hQ ▸ Nat.div_add_mod' (u * 4294967296 + v) Y
  have h2 := Nat.mod_lt (u * 4294967296 + v) (show Y > 0 from hY0)
  refine ⟨_, ((u * 4294967296 % 18446744073709551616 + v) % 18446744073709551616), _, (u * 4294967296 + v) % Y, wrapMulK u, ?_, wrapMul Q Y, mod_calc h1 (Nat.lt_of_lt_of_le h2 hYb), h2, h1⟩
  rw [← Int.natCast_add]; exact wrapN _

/-- The first guess of a digit. -/
theorem guess_rules {Y y1 y0 u : Nat} (hY : Y = y1 * 4294967296 + y0) (h1 : 0 < y1) (hy1 : y1 < 4294967296) (hub : u < 18446744073709551616) :
    ∃ q p r : Nat, (u : Int) / (y1 : Int) = (q : Int) ∧ IntKind.u64.wrap (q : Int) = (q : Int) ∧ IntKind.u64.wrap ((q : Int) * (y1 : Int)) = (p : Int) ∧ (u : Int) - (p : Int) = (r : Int) ∧ p ≤ u ∧ r < 4294967296 ∧
      (q * y1 + r = u) ∧ ∀ v, v < 4294967296 → (u * 4294967296 + v) / Y ≤ q := by
  have dm := Nat.div_add_mod' u y1
  have dl := Nat.mod_lt u (show y1 > 0 by omega)
  have dq := Nat.div_le_self u y1
  have ds : ∀ v, v < 4294967296 → (u * 4294967296 + v) / Y ≤ u / y1 := fun v hv => (kn_start hY h1).resolve_right (by omega)
  have de := (Int.natCast_ediv u y1).symm
  generalize u / y1 = q at *
  generalize u % y1 = r at *
  refine ⟨q, q * y1, r, de, IntWalk.u64_in _ ⟨by omega, by omega⟩, ?_, by omega, by omega, by omega, dm, ds⟩
  rw [← Int.natCast_mul]
  generalize q * y1 = p at *
  exact IntWalk.u64_in _ ⟨by omega, by omega⟩

/-- What the division leaves: two digits, and the rest, shifted back. -/
def DivOk (Y u u1 u0 s : Nat) (w : World) (e : Ending) (w' : World) : Prop :=
  ∃ Q1 R1 Q0 R0 : Nat, Q1 < 4294967296 ∧ Q0 < 4294967296 ∧ Q1 * Y + R1 = u * 4294967296 + u1 ∧ Q0 * Y + R0 = R1 * 4294967296 + u0 ∧ R0 < Y ∧
      e = .returned (.tuple #[.int .u64 ((Q1 : Int) * 4294967296 + (Q0 : Int)), .int .u64 ((R0 : Int) / 2 ^ s)]) ∧ w' = w

set_option maxRecDepth 100000 in
set_option maxHeartbeats 3200000 in
theorem div64_core (hi lo y s Y y1 y0 u L u1 u0 : Nat) (w : World) (h1 : hi < y) (h0 : 0 < hi) (hs : s ≤ 63)
    (hlz : ∀ w : World, Calls Tryd.prog 60 #[.int .u64 y] w fun e w' => e = .returned (.int .i64 s) ∧ w' = w)
    (rY : IntKind.u64.wrap ((y : Int) * 2 ^ s) = (Y : Int)) (rY0 : bits .and .u64 (Y : Int) 4294967295 = (y0 : Int)) (rY1 : (Y : Int) / 4294967296 = (y1 : Int))
    (rU : bits .or .u64 (IntKind.u64.wrap ((hi : Int) * 2 ^ s)) ((lo : Int) / 2 ^ (64 - s)) = (u : Int))
    (rL : IntKind.u64.wrap ((lo : Int) * 2 ^ s) = (L : Int)) (rL0 : bits .and .u64 (L : Int) 4294967295 = (u0 : Int)) (rL1 : (L : Int) / 4294967296 = (u1 : Int))
    (hY : Y = y1 * 4294967296 + y0) (hy1 : 2147483648 ≤ y1) (hy1' : y1 < 4294967296) (hy0 : y0 < 4294967296) (hu : u < Y) (hu1 : u1 < 4294967296) (hu0 : u0 < 4294967296) :
    Calls Tryd.prog 58 #[.int .u64 hi, .int .u64 lo, .int .u64 y] w fun e w' => DivOk Y u u1 u0 s w e w' := by
  have e1 : ((y : Int) == 0) = false := by simp; omega
  have e2 : ((hi : Int) == 0) = false := by simp; omega
  have e4 : ((y1 : Int) == 0) = false := by simp; omega
  have e3 : ¬ ((y : Int) ≤ (hi : Int)) := by omega
  have HL : Hid (∀ w : World, Calls Tryd.prog 60 #[.int .u64 y] w fun e w' => e = .returned (.int .i64 s) ∧ w' = w) := hlz
  have HY : Hid (Y = y1 * 4294967296 + y0) := hY
  have bY : Y ≤ 18446744073709551615 := by omega
  obtain ⟨q, p, r, rq, rwq, rp, rr, rpu, rrl, heq, hQs⟩ := guess_rules (u := u) hY (by omega) hy1' (by omega)
  have HS : Hid (q * y1 + r = u ∧ (u * 4294967296 + u1) / Y ≤ q) := ⟨heq, hQs u1 hu1⟩
  clear hlz hY heq hQs
  go_enter Tryd.func58, Tryd.ntmps58
  go_wp2_with (go_at_call 60; refine (HL.out _).mono ?_; rintro e w ⟨rfl, rfl⟩)
  go_loop [15, 16] (fun a b => ∃ q r : Nat, a = .int .u64 q ∧ b = .int .u64 r ∧ q * y1 + r = u ∧ (u * 4294967296 + u1) / Y ≤ q ∧ r < 4294967296) (fun a _ => (intOf a).toNat)
  case atStart => exact ⟨q, r, rfl, rfl, HS.out.1, HS.out.2, rrl⟩
  case round =>
    obtain ⟨q1, r1, rfl, rfl, he, hQ, hr⟩ := hrel
    clear rq rwq rp rr rpu rrl HS
    by_cases c1 : 4294967296 ≤ q1
    · have hqq := kn_big (u := u) (v := u1) hu hu1 c1
      have d1 : decide ((4294967296 : Int) ≤ (q1 : Int)) = true := by simp; omega
      obtain ⟨Q1, rz, hz⟩ : ∃ Q : Nat, (q1 : Int) - 1 = (Q : Int) ∧ q1 = Q + 1 := ⟨q1 - 1, by omega, by omega⟩
      obtain ⟨R1x, rn, hn⟩ : ∃ R : Nat, (r1 : Int) + (y1 : Int) = (R : Int) ∧ R = r1 + y1 := ⟨r1 + y1, by omega, rfl⟩
      have hee : Q1 * y1 + R1x = u := by rw [hz, Nat.add_mul] at he; omega
      have hQQ : (u * 4294967296 + u1) / Y ≤ Q1 := by omega
      have bqu : q1 ≤ q1 * y1 := Nat.le_mul_of_pos_right _ (by omega)
      have rzw : IntKind.u64.wrap (Q1 : Int) = (Q1 : Int) := IntWalk.u64_in _ ⟨by omega, by omega⟩
      have rnw : IntKind.u64.wrap (R1x : Int) = (R1x : Int) := IntWalk.u64_in _ ⟨by omega, by omega⟩
      have bR : (r1 : Int) < 4294967296 := by omega
      have bq : (1 : Int) ≤ (q1 : Int) := by omega
      have ML : Hid (Q1 < q1) := by show Q1 < q1; omega
      clear hz hn he hQ hr bqu hqq c1
      by_cases c3 : 4294967296 ≤ R1x
      · have d3 : decide ((4294967296 : Int) ≤ (R1x : Int)) = true := by simp; omega
        have hQe := kn_break HY.out hy0 hu hee hQQ c3
        clear hee hQQ c3
        have bq1 : Q1 < 4294967296 := by rw [hQe]; exact kn_Q_lt hu hu1
        obtain ⟨A, B, C, R1, rA, rB, rC, rD, hR1, hR1e⟩ := rest_rules (v := u1) (u := u) (Q := Q1) (by omega) (by omega) hQe
        obtain ⟨q', p', r', rq, rwq, rp, rr, rpu, rrl, heq', hQs⟩ := guess_rules (u := R1) HY.out (by omega) hy1' (by omega)
        have HS : Hid (q' * y1 + r' = R1 ∧ (R1 * 4294967296 + u0) / Y ≤ q') := ⟨heq', hQs u0 hu0⟩
        have HE : Hid (Q1 * Y + R1 = u * 4294967296 + u1) := hR1e
        clear heq' hQs hR1e hQe
        go_wp2
        go_loop [18, 16] (fun a b => ∃ q r : Nat, a = .int .u64 q ∧ b = .int .u64 r ∧ q * y1 + r = R1 ∧ (R1 * 4294967296 + u0) / Y ≤ q ∧ r < 4294967296) (fun a _ => (intOf a).toNat)
        case atStart => exact ⟨q', r', rfl, rfl, HS.out.1, HS.out.2, rrl⟩
        case round =>
          obtain ⟨q2, r2, rfl, rfl, he, hQ, hr⟩ := hrel
          clear rq rwq rp rr rpu rrl HS rA rB rC rD
          by_cases c1 : 4294967296 ≤ q2
          · have hqq := kn_big (u := R1) (v := u0) hR1 hu0 c1
            have d1 : decide ((4294967296 : Int) ≤ (q2 : Int)) = true := by simp; omega
            obtain ⟨Q2, rz, hz⟩ : ∃ Q : Nat, (q2 : Int) - 1 = (Q : Int) ∧ q2 = Q + 1 := ⟨q2 - 1, by omega, by omega⟩
            obtain ⟨R2x, rn, hn⟩ : ∃ R : Nat, (r2 : Int) + (y1 : Int) = (R : Int) ∧ R = r2 + y1 := ⟨r2 + y1, by omega, rfl⟩
            have hee : Q2 * y1 + R2x = R1 := by rw [hz, Nat.add_mul] at he; omega
            have hQQ : (R1 * 4294967296 + u0) / Y ≤ Q2 := by omega
            have bqu : q2 ≤ q2 * y1 := Nat.le_mul_of_pos_right _ (by omega)
            have rzw : IntKind.u64.wrap (Q2 : Int) = (Q2 : Int) := IntWalk.u64_in _ ⟨by omega, by omega⟩
            have rnw : IntKind.u64.wrap (R2x : Int) = (R2x : Int) := IntWalk.u64_in _ ⟨by omega, by omega⟩
            have bR : (r2 : Int) < 4294967296 := by omega
            have bq : (1 : Int) ≤ (q2 : Int) := by omega
            have ML : Hid (Q2 < q2) := by show Q2 < q2; omega
            clear hz hn he hQ hr bqu hqq c1
            by_cases c3 : 4294967296 ≤ R2x
            · have d3 : decide ((4294967296 : Int) ≤ (R2x : Int)) = true := by simp; omega
              have hQe := kn_break HY.out hy0 hR1 hee hQQ c3
              clear hee hQQ c3
              have bq2 : Q2 < 4294967296 := by rw [hQe]; exact kn_Q_lt hR1 hu0
              obtain ⟨A2, B2, C2, R0, rA2, rB2, rC2, rD2, hR0, hR0e⟩ := rest_rules (v := u0) (u := R1) (Q := Q2) (by omega) (by omega) hQe
              have HF : Hid (Q2 * Y + R0 = R1 * 4294967296 + u0) := hR0e
              clear hR0e hQe
              go_wp2
              go_ret2
              exact ⟨Q1, R1, Q2, R0, bq1, bq2, HE.out, HF.out, hR0, rfl, rfl⟩
            · have d3 : decide ((4294967296 : Int) ≤ (R2x : Int)) = false := by simp; omega
              have HR : Hid (Q2 * y1 + R2x = R1 ∧ (R1 * 4294967296 + u0) / Y ≤ Q2 ∧ R2x < 4294967296) := ⟨hee, hQQ, by omega⟩
              clear hee hQQ c3
              go_wp2
              go_round
              case rel => exact ⟨Q2, R2x, rfl, rfl, HR.out.1, HR.out.2.1, HR.out.2.2⟩
              case measure => have := ML.out; simp [intOf]; omega
          · have bS : q2 * y0 ≤ 4294967295 * 4294967295 := Nat.mul_le_mul (by omega) (by omega)
            obtain ⟨S, hS⟩ : ∃ S, S = q2 * y0 := ⟨_, rfl⟩
            have rS : IntKind.u64.wrap ((q2 : Int) * (y0 : Int)) = (S : Int) := by rw [← Int.natCast_mul, ← hS]; exact IntWalk.u64_in _ ⟨by omega, by omega⟩
            obtain ⟨KR, rK⟩ : ∃ KR : Nat, (4294967296 : Int) * (r2 : Int) = (KR : Int) := ⟨4294967296 * r2, by simp⟩
            have bK : (KR : Int) ≤ 18446744069414584320 := by omega
            have d1 : decide ((4294967296 : Int) ≤ (q2 : Int)) = false := by simp; omega
            by_cases c2 : 4294967296 * r2 + u0 < q2 * y0
            · obtain ⟨hqq, hq1⟩ := kn_more HY.out hR1 he c2
              have d2 : decide ((KR : Int) + (u0 : Int) < (S : Int)) = true := by simp; omega
              obtain ⟨Q2, rz, hz⟩ : ∃ Q : Nat, (q2 : Int) - 1 = (Q : Int) ∧ q2 = Q + 1 := ⟨q2 - 1, by omega, by omega⟩
              obtain ⟨R2x, rn, hn⟩ : ∃ R : Nat, (r2 : Int) + (y1 : Int) = (R : Int) ∧ R = r2 + y1 := ⟨r2 + y1, by omega, rfl⟩
              have hee : Q2 * y1 + R2x = R1 := by rw [hz, Nat.add_mul] at he; omega
              have hQQ : (R1 * 4294967296 + u0) / Y ≤ Q2 := by omega
              have bqu : q2 ≤ q2 * y1 := Nat.le_mul_of_pos_right _ (by omega)
              have rzw : IntKind.u64.wrap (Q2 : Int) = (Q2 : Int) := IntWalk.u64_in _ ⟨by omega, by omega⟩
              have rnw : IntKind.u64.wrap (R2x : Int) = (R2x : Int) := IntWalk.u64_in _ ⟨by omega, by omega⟩
              have bR : (r2 : Int) < 4294967296 := by omega
              have bq : (1 : Int) ≤ (q2 : Int) := by omega
              have ML : Hid (Q2 < q2) := by show Q2 < q2; omega
              clear hz hn he hQ hr bqu hqq hq1 c1 c2 hS bS
              by_cases c3 : 4294967296 ≤ R2x
              · have d3 : decide ((4294967296 : Int) ≤ (R2x : Int)) = true := by simp; omega
                have hQe := kn_break HY.out hy0 hR1 hee hQQ c3
                clear hee hQQ c3
                have bq2 : Q2 < 4294967296 := by rw [hQe]; exact kn_Q_lt hR1 hu0
                obtain ⟨A2, B2, C2, R0, rA2, rB2, rC2, rD2, hR0, hR0e⟩ := rest_rules (v := u0) (u := R1) (Q := Q2) (by omega) (by omega) hQe
                have HF : Hid (Q2 * Y + R0 = R1 * 4294967296 + u0) := hR0e
                clear hR0e hQe
                go_wp2
                go_ret2
                exact ⟨Q1, R1, Q2, R0, bq1, bq2, HE.out, HF.out, hR0, rfl, rfl⟩
              · have d3 : decide ((4294967296 : Int) ≤ (R2x : Int)) = false := by simp; omega
                have HR : Hid (Q2 * y1 + R2x = R1 ∧ (R1 * 4294967296 + u0) / Y ≤ Q2 ∧ R2x < 4294967296) := ⟨hee, hQQ, by omega⟩
                clear hee hQQ c3
                go_wp2
                go_round
                case rel => exact ⟨Q2, R2x, rfl, rfl, HR.out.1, HR.out.2.1, HR.out.2.2⟩
                case measure => have := ML.out; simp [intOf]; omega
            · have d2 : decide ((KR : Int) + (u0 : Int) < (S : Int)) = false := by simp; omega
              have hQe := kn_done HY.out hR1 he hQ (by omega)
              have bR : (r2 : Int) < 4294967296 := by omega
              clear he hQ hr c1 c2 hS bS
              have bq2 : q2 < 4294967296 := by rw [hQe]; exact kn_Q_lt hR1 hu0
              obtain ⟨A2, B2, C2, R0, rA2, rB2, rC2, rD2, hR0, hR0e⟩ := rest_rules (v := u0) (u := R1) (Q := q2) (by omega) (by omega) hQe
              have HF : Hid (q2 * Y + R0 = R1 * 4294967296 + u0) := hR0e
              clear hR0e hQe
              go_wp2
              go_ret2
              exact ⟨Q1, R1, q2, R0, bq1, bq2, HE.out, HF.out, hR0, rfl, rfl⟩
      · have d3 : decide ((4294967296 : Int) ≤ (R1x : Int)) = false := by simp; omega
        have HR : Hid (Q1 * y1 + R1x = u ∧ (u * 4294967296 + u1) / Y ≤ Q1 ∧ R1x < 4294967296) := ⟨hee, hQQ, by omega⟩
        clear hee hQQ c3
        go_wp2
        go_round
        case rel => exact ⟨Q1, R1x, rfl, rfl, HR.out.1, HR.out.2.1, HR.out.2.2⟩
        case measure => have := ML.out; simp [intOf]; omega
    · have bS : q1 * y0 ≤ 4294967295 * 4294967295 := Nat.mul_le_mul (by omega) (by omega)
      obtain ⟨S, hS⟩ : ∃ S, S = q1 * y0 := ⟨_, rfl⟩
      have rS : IntKind.u64.wrap ((q1 : Int) * (y0 : Int)) = (S : Int) := by rw [← Int.natCast_mul, ← hS]; exact IntWalk.u64_in _ ⟨by omega, by omega⟩
      obtain ⟨KR, rK⟩ : ∃ KR : Nat, (4294967296 : Int) * (r1 : Int) = (KR : Int) := ⟨4294967296 * r1, by simp⟩
      have bK : (KR : Int) ≤ 18446744069414584320 := by omega
      have d1 : decide ((4294967296 : Int) ≤ (q1 : Int)) = false := by simp; omega
      by_cases c2 : 4294967296 * r1 + u1 < q1 * y0
      · obtain ⟨hqq, hq1⟩ := kn_more HY.out hu he c2
        have d2 : decide ((KR : Int) + (u1 : Int) < (S : Int)) = true := by simp; omega
        obtain ⟨Q1, rz, hz⟩ : ∃ Q : Nat, (q1 : Int) - 1 = (Q : Int) ∧ q1 = Q + 1 := ⟨q1 - 1, by omega, by omega⟩
        obtain ⟨R1x, rn, hn⟩ : ∃ R : Nat, (r1 : Int) + (y1 : Int) = (R : Int) ∧ R = r1 + y1 := ⟨r1 + y1, by omega, rfl⟩
        have hee : Q1 * y1 + R1x = u := by rw [hz, Nat.add_mul] at he; omega
        have hQQ : (u * 4294967296 + u1) / Y ≤ Q1 := by omega
        have bqu : q1 ≤ q1 * y1 := Nat.le_mul_of_pos_right _ (by omega)
        have rzw : IntKind.u64.wrap (Q1 : Int) = (Q1 : Int) := IntWalk.u64_in _ ⟨by omega, by omega⟩
        have rnw : IntKind.u64.wrap (R1x : Int) = (R1x : Int) := IntWalk.u64_in _ ⟨by omega, by omega⟩
        have bR : (r1 : Int) < 4294967296 := by omega
        have bq : (1 : Int) ≤ (q1 : Int) := by omega
        have ML : Hid (Q1 < q1) := by show Q1 < q1; omega
        clear hz hn he hQ hr bqu hqq hq1 c1 c2 hS bS
        by_cases c3 : 4294967296 ≤ R1x
        · have d3 : decide ((4294967296 : Int) ≤ (R1x : Int)) = true := by simp; omega
          have hQe := kn_break HY.out hy0 hu hee hQQ c3
          clear hee hQQ c3
          have bq1 : Q1 < 4294967296 := by rw [hQe]; exact kn_Q_lt hu hu1
          obtain ⟨A, B, C, R1, rA, rB, rC, rD, hR1, hR1e⟩ := rest_rules (v := u1) (u := u) (Q := Q1) (by omega) (by omega) hQe
          obtain ⟨q', p', r', rq, rwq, rp, rr, rpu, rrl, heq', hQs⟩ := guess_rules (u := R1) HY.out (by omega) hy1' (by omega)
          have HS : Hid (q' * y1 + r' = R1 ∧ (R1 * 4294967296 + u0) / Y ≤ q') := ⟨heq', hQs u0 hu0⟩
          have HE : Hid (Q1 * Y + R1 = u * 4294967296 + u1) := hR1e
          clear heq' hQs hR1e hQe
          go_wp2
          go_loop [18, 16] (fun a b => ∃ q r : Nat, a = .int .u64 q ∧ b = .int .u64 r ∧ q * y1 + r = R1 ∧ (R1 * 4294967296 + u0) / Y ≤ q ∧ r < 4294967296) (fun a _ => (intOf a).toNat)
          case atStart => exact ⟨q', r', rfl, rfl, HS.out.1, HS.out.2, rrl⟩
          case round =>
            obtain ⟨q2, r2, rfl, rfl, he, hQ, hr⟩ := hrel
            clear rq rwq rp rr rpu rrl HS rA rB rC rD
            by_cases c1 : 4294967296 ≤ q2
            · have hqq := kn_big (u := R1) (v := u0) hR1 hu0 c1
              have d1 : decide ((4294967296 : Int) ≤ (q2 : Int)) = true := by simp; omega
              obtain ⟨Q2, rz, hz⟩ : ∃ Q : Nat, (q2 : Int) - 1 = (Q : Int) ∧ q2 = Q + 1 := ⟨q2 - 1, by omega, by omega⟩
              obtain ⟨R2x, rn, hn⟩ : ∃ R : Nat, (r2 : Int) + (y1 : Int) = (R : Int) ∧ R = r2 + y1 := ⟨r2 + y1, by omega, rfl⟩
              have hee : Q2 * y1 + R2x = R1 := by rw [hz, Nat.add_mul] at he; omega
              have hQQ : (R1 * 4294967296 + u0) / Y ≤ Q2 := by omega
              have bqu : q2 ≤ q2 * y1 := Nat.le_mul_of_pos_right _ (by omega)
              have rzw : IntKind.u64.wrap (Q2 : Int) = (Q2 : Int) := IntWalk.u64_in _ ⟨by omega, by omega⟩
              have rnw : IntKind.u64.wrap (R2x : Int) = (R2x : Int) := IntWalk.u64_in _ ⟨by omega, by omega⟩
              have bR : (r2 : Int) < 4294967296 := by omega
              have bq : (1 : Int) ≤ (q2 : Int) := by omega
              have ML : Hid (Q2 < q2) := by show Q2 < q2; omega
              clear hz hn he hQ hr bqu hqq c1
              by_cases c3 : 4294967296 ≤ R2x
              · have d3 : decide ((4294967296 : Int) ≤ (R2x : Int)) = true := by simp; omega
                have hQe := kn_break HY.out hy0 hR1 hee hQQ c3
                clear hee hQQ c3
                have bq2 : Q2 < 4294967296 := by rw [hQe]; exact kn_Q_lt hR1 hu0
                obtain ⟨A2, B2, C2, R0, rA2, rB2, rC2, rD2, hR0, hR0e⟩ := rest_rules (v := u0) (u := R1) (Q := Q2) (by omega) (by omega) hQe
                have HF : Hid (Q2 * Y + R0 = R1 * 4294967296 + u0) := hR0e
                clear hR0e hQe
                go_wp2
                go_ret2
                exact ⟨Q1, R1, Q2, R0, bq1, bq2, HE.out, HF.out, hR0, rfl, rfl⟩
              · have d3 : decide ((4294967296 : Int) ≤ (R2x : Int)) = false := by simp; omega
                have HR : Hid (Q2 * y1 + R2x = R1 ∧ (R1 * 4294967296 + u0) / Y ≤ Q2 ∧ R2x < 4294967296) := ⟨hee, hQQ, by omega⟩
                clear hee hQQ c3
                go_wp2
                go_round
                case rel => exact ⟨Q2, R2x, rfl, rfl, HR.out.1, HR.out.2.1, HR.out.2.2⟩
                case measure => have := ML.out; simp [intOf]; omega
            · have bS : q2 * y0 ≤ 4294967295 * 4294967295 := Nat.mul_le_mul (by omega) (by omega)
              obtain ⟨S, hS⟩ : ∃ S, S = q2 * y0 := ⟨_, rfl⟩
              have rS : IntKind.u64.wrap ((q2 : Int) * (y0 : Int)) = (S : Int) := by rw [← Int.natCast_mul, ← hS]; exact IntWalk.u64_in _ ⟨by omega, by omega⟩
              obtain ⟨KR, rK⟩ : ∃ KR : Nat, (4294967296 : Int) * (r2 : Int) = (KR : Int) := ⟨4294967296 * r2, by simp⟩
              have bK : (KR : Int) ≤ 18446744069414584320 := by omega
              have d1 : decide ((4294967296 : Int) ≤ (q2 : Int)) = false := by simp; omega
              by_cases c2 : 4294967296 * r2 + u0 < q2 * y0
              · obtain ⟨hqq, hq1⟩ := kn_more HY.out hR1 he c2
                have d2 : decide ((KR : Int) + (u0 : Int) < (S : Int)) = true := by simp; omega
                obtain ⟨Q2, rz, hz⟩ : ∃ Q : Nat, (q2 : Int) - 1 = (Q : Int) ∧ q2 = Q + 1 := ⟨q2 - 1, by omega, by omega⟩
                obtain ⟨R2x, rn, hn⟩ : ∃ R : Nat, (r2 : Int) + (y1 : Int) = (R : Int) ∧ R = r2 + y1 := ⟨r2 + y1, by omega, rfl⟩
                have hee : Q2 * y1 + R2x = R1 := by rw [hz, Nat.add_mul] at he; omega
                have hQQ : (R1 * 4294967296 + u0) / Y ≤ Q2 := by omega
                have bqu : q2 ≤ q2 * y1 := Nat.le_mul_of_pos_right _ (by omega)
                have rzw : IntKind.u64.wrap (Q2 : Int) = (Q2 : Int) := IntWalk.u64_in _ ⟨by omega, by omega⟩
                have rnw : IntKind.u64.wrap (R2x : Int) = (R2x : Int) := IntWalk.u64_in _ ⟨by omega, by omega⟩
                have bR : (r2 : Int) < 4294967296 := by omega
                have bq : (1 : Int) ≤ (q2 : Int) := by omega
                have ML : Hid (Q2 < q2) := by show Q2 < q2; omega
                clear hz hn he hQ hr bqu hqq hq1 c1 c2 hS bS
                by_cases c3 : 4294967296 ≤ R2x
                · have d3 : decide ((4294967296 : Int) ≤ (R2x : Int)) = true := by simp; omega
                  have hQe := kn_break HY.out hy0 hR1 hee hQQ c3
                  clear hee hQQ c3
                  have bq2 : Q2 < 4294967296 := by rw [hQe]; exact kn_Q_lt hR1 hu0
                  obtain ⟨A2, B2, C2, R0, rA2, rB2, rC2, rD2, hR0, hR0e⟩ := rest_rules (v := u0) (u := R1) (Q := Q2) (by omega) (by omega) hQe
                  have HF : Hid (Q2 * Y + R0 = R1 * 4294967296 + u0) := hR0e
                  clear hR0e hQe
                  go_wp2
                  go_ret2
                  exact ⟨Q1, R1, Q2, R0, bq1, bq2, HE.out, HF.out, hR0, rfl, rfl⟩
                · have d3 : decide ((4294967296 : Int) ≤ (R2x : Int)) = false := by simp; omega
                  have HR : Hid (Q2 * y1 + R2x = R1 ∧ (R1 * 4294967296 + u0) / Y ≤ Q2 ∧ R2x < 4294967296) := ⟨hee, hQQ, by omega⟩
                  clear hee hQQ c3
                  go_wp2
                  go_round
                  case rel => exact ⟨Q2, R2x, rfl, rfl, HR.out.1, HR.out.2.1, HR.out.2.2⟩
                  case measure => have := ML.out; simp [intOf]; omega
              · have d2 : decide ((KR : Int) + (u0 : Int) < (S : Int)) = false := by simp; omega
                have hQe := kn_done HY.out hR1 he hQ (by omega)
                have bR : (r2 : Int) < 4294967296 := by omega
                clear he hQ hr c1 c2 hS bS
                have bq2 : q2 < 4294967296 := by rw [hQe]; exact kn_Q_lt hR1 hu0
                obtain ⟨A2, B2, C2, R0, rA2, rB2, rC2, rD2, hR0, hR0e⟩ := rest_rules (v := u0) (u := R1) (Q := q2) (by omega) (by omega) hQe
                have HF : Hid (q2 * Y + R0 = R1 * 4294967296 + u0) := hR0e
                clear hR0e hQe
                go_wp2
                go_ret2
                exact ⟨Q1, R1, q2, R0, bq1, bq2, HE.out, HF.out, hR0, rfl, rfl⟩
        · have d3 : decide ((4294967296 : Int) ≤ (R1x : Int)) = false := by simp; omega
          have HR : Hid (Q1 * y1 + R1x = u ∧ (u * 4294967296 + u1) / Y ≤ Q1 ∧ R1x < 4294967296) := ⟨hee, hQQ, by omega⟩
          clear hee hQQ c3
          go_wp2
          go_round
          case rel => exact ⟨Q1, R1x, rfl, rfl, HR.out.1, HR.out.2.1, HR.out.2.2⟩
          case measure => have := ML.out; simp [intOf]; omega
      · have d2 : decide ((KR : Int) + (u1 : Int) < (S : Int)) = false := by simp; omega
        have hQe := kn_done HY.out hu he hQ (by omega)
        have bR : (r1 : Int) < 4294967296 := by omega
        clear he hQ hr c1 c2 hS bS
        have bq1 : q1 < 4294967296 := by rw [hQe]; exact kn_Q_lt hu hu1
        obtain ⟨A, B, C, R1, rA, rB, rC, rD, hR1, hR1e⟩ := rest_rules (v := u1) (u := u) (Q := q1) (by omega) (by omega) hQe
        obtain ⟨q', p', r', rq, rwq, rp, rr, rpu, rrl, heq', hQs⟩ := guess_rules (u := R1) HY.out (by omega) hy1' (by omega)
        have HS : Hid (q' * y1 + r' = R1 ∧ (R1 * 4294967296 + u0) / Y ≤ q') := ⟨heq', hQs u0 hu0⟩
        have HE : Hid (q1 * Y + R1 = u * 4294967296 + u1) := hR1e
        clear heq' hQs hR1e hQe
        go_wp2
        go_loop [18, 16] (fun a b => ∃ q r : Nat, a = .int .u64 q ∧ b = .int .u64 r ∧ q * y1 + r = R1 ∧ (R1 * 4294967296 + u0) / Y ≤ q ∧ r < 4294967296) (fun a _ => (intOf a).toNat)
        case atStart => exact ⟨q', r', rfl, rfl, HS.out.1, HS.out.2, rrl⟩
        case round =>
          obtain ⟨q2, r2, rfl, rfl, he, hQ, hr⟩ := hrel
          clear rq rwq rp rr rpu rrl HS rA rB rC rD
          by_cases c1 : 4294967296 ≤ q2
          · have hqq := kn_big (u := R1) (v := u0) hR1 hu0 c1
            have d1 : decide ((4294967296 : Int) ≤ (q2 : Int)) = true := by simp; omega
            obtain ⟨Q2, rz, hz⟩ : ∃ Q : Nat, (q2 : Int) - 1 = (Q : Int) ∧ q2 = Q + 1 := ⟨q2 - 1, by omega, by omega⟩
            obtain ⟨R2x, rn, hn⟩ : ∃ R : Nat, (r2 : Int) + (y1 : Int) = (R : Int) ∧ R = r2 + y1 := ⟨r2 + y1, by omega, rfl⟩
            have hee : Q2 * y1 + R2x = R1 := by rw [hz, Nat.add_mul] at he; omega
            have hQQ : (R1 * 4294967296 + u0) / Y ≤ Q2 := by omega
            have bqu : q2 ≤ q2 * y1 := Nat.le_mul_of_pos_right _ (by omega)
            have rzw : IntKind.u64.wrap (Q2 : Int) = (Q2 : Int) := IntWalk.u64_in _ ⟨by omega, by omega⟩
            have rnw : IntKind.u64.wrap (R2x : Int) = (R2x : Int) := IntWalk.u64_in _ ⟨by omega, by omega⟩
            have bR : (r2 : Int) < 4294967296 := by omega
            have bq : (1 : Int) ≤ (q2 : Int) := by omega
            have ML : Hid (Q2 < q2) := by show Q2 < q2; omega
            clear hz hn he hQ hr bqu hqq c1
            by_cases c3 : 4294967296 ≤ R2x
            · have d3 : decide ((4294967296 : Int) ≤ (R2x : Int)) = true := by simp; omega
              have hQe := kn_break HY.out hy0 hR1 hee hQQ c3
              clear hee hQQ c3
              have bq2 : Q2 < 4294967296 := by rw [hQe]; exact kn_Q_lt hR1 hu0
              obtain ⟨A2, B2, C2, R0, rA2, rB2, rC2, rD2, hR0, hR0e⟩ := rest_rules (v := u0) (u := R1) (Q := Q2) (by omega) (by omega) hQe
              have HF : Hid (Q2 * Y + R0 = R1 * 4294967296 + u0) := hR0e
              clear hR0e hQe
              go_wp2
              go_ret2
              exact ⟨q1, R1, Q2, R0, bq1, bq2, HE.out, HF.out, hR0, rfl, rfl⟩
            · have d3 : decide ((4294967296 : Int) ≤ (R2x : Int)) = false := by simp; omega
              have HR : Hid (Q2 * y1 + R2x = R1 ∧ (R1 * 4294967296 + u0) / Y ≤ Q2 ∧ R2x < 4294967296) := ⟨hee, hQQ, by omega⟩
              clear hee hQQ c3
              go_wp2
              go_round
              case rel => exact ⟨Q2, R2x, rfl, rfl, HR.out.1, HR.out.2.1, HR.out.2.2⟩
              case measure => have := ML.out; simp [intOf]; omega
          · have bS : q2 * y0 ≤ 4294967295 * 4294967295 := Nat.mul_le_mul (by omega) (by omega)
            obtain ⟨S, hS⟩ : ∃ S, S = q2 * y0 := ⟨_, rfl⟩
            have rS : IntKind.u64.wrap ((q2 : Int) * (y0 : Int)) = (S : Int) := by rw [← Int.natCast_mul, ← hS]; exact IntWalk.u64_in _ ⟨by omega, by omega⟩
            obtain ⟨KR, rK⟩ : ∃ KR : Nat, (4294967296 : Int) * (r2 : Int) = (KR : Int) := ⟨4294967296 * r2, by simp⟩
            have bK : (KR : Int) ≤ 18446744069414584320 := by omega
            have d1 : decide ((4294967296 : Int) ≤ (q2 : Int)) = false := by simp; omega
            by_cases c2 : 4294967296 * r2 + u0 < q2 * y0
            · obtain ⟨hqq, hq1⟩ := kn_more HY.out hR1 he c2
              have d2 : decide ((KR : Int) + (u0 : Int) < (S : Int)) = true := by simp; omega
              obtain ⟨Q2, rz, hz⟩ : ∃ Q : Nat, (q2 : Int) - 1 = (Q : Int) ∧ q2 = Q + 1 := ⟨q2 - 1, by omega, by omega⟩
              obtain ⟨R2x, rn, hn⟩ : ∃ R : Nat, (r2 : Int) + (y1 : Int) = (R : Int) ∧ R = r2 + y1 := ⟨r2 + y1, by omega, rfl⟩
              have hee : Q2 * y1 + R2x = R1 := by rw [hz, Nat.add_mul] at he; omega
              have hQQ : (R1 * 4294967296 + u0) / Y ≤ Q2 := by omega
              have bqu : q2 ≤ q2 * y1 := Nat.le_mul_of_pos_right _ (by omega)
              have rzw : IntKind.u64.wrap (Q2 : Int) = (Q2 : Int) := IntWalk.u64_in _ ⟨by omega, by omega⟩
              have rnw : IntKind.u64.wrap (R2x : Int) = (R2x : Int) := IntWalk.u64_in _ ⟨by omega, by omega⟩
              have bR : (r2 : Int) < 4294967296 := by omega
              have bq : (1 : Int) ≤ (q2 : Int) := by omega
              have ML : Hid (Q2 < q2) := by show Q2 < q2; omega
              clear hz hn he hQ hr bqu hqq hq1 c1 c2 hS bS
              by_cases c3 : 4294967296 ≤ R2x
              · have d3 : decide ((4294967296 : Int) ≤ (R2x : Int)) = true := by simp; omega
                have hQe := kn_break HY.out hy0 hR1 hee hQQ c3
                clear hee hQQ c3
                have bq2 : Q2 < 4294967296 := by rw [hQe]; exact kn_Q_lt hR1 hu0
                obtain ⟨A2, B2, C2, R0, rA2, rB2, rC2, rD2, hR0, hR0e⟩ := rest_rules (v := u0) (u := R1) (Q := Q2) (by omega) (by omega) hQe
                have HF : Hid (Q2 * Y + R0 = R1 * 4294967296 + u0) := hR0e
                clear hR0e hQe
                go_wp2
                go_ret2
                exact ⟨q1, R1, Q2, R0, bq1, bq2, HE.out, HF.out, hR0, rfl, rfl⟩
              · have d3 : decide ((4294967296 : Int) ≤ (R2x : Int)) = false := by simp; omega
                have HR : Hid (Q2 * y1 + R2x = R1 ∧ (R1 * 4294967296 + u0) / Y ≤ Q2 ∧ R2x < 4294967296) := ⟨hee, hQQ, by omega⟩
                clear hee hQQ c3
                go_wp2
                go_round
                case rel => exact ⟨Q2, R2x, rfl, rfl, HR.out.1, HR.out.2.1, HR.out.2.2⟩
                case measure => have := ML.out; simp [intOf]; omega
            · have d2 : decide ((KR : Int) + (u0 : Int) < (S : Int)) = false := by simp; omega
              have hQe := kn_done HY.out hR1 he hQ (by omega)
              have bR : (r2 : Int) < 4294967296 := by omega
              clear he hQ hr c1 c2 hS bS
              have bq2 : q2 < 4294967296 := by rw [hQe]; exact kn_Q_lt hR1 hu0
              obtain ⟨A2, B2, C2, R0, rA2, rB2, rC2, rD2, hR0, hR0e⟩ := rest_rules (v := u0) (u := R1) (Q := q2) (by omega) (by omega) hQe
              have HF : Hid (q2 * Y + R0 = R1 * 4294967296 + u0) := hR0e
              clear hR0e hQe
              go_wp2
              go_ret2
              exact ⟨q1, R1, q2, R0, bq1, bq2, HE.out, HF.out, hR0, rfl, rfl⟩

end Go.Proofs.YtdjncmcmplnnhaaDoor
