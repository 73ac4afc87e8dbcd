/- The walk of the reference's Crc; a slice appended to a row of the call's own. -/
import Derived.Test.YtpflajehakiloaaDoorWLaw
import Derived.Maps.AppendAt
namespace Go.Proofs.YtpflajehakiloaaDoor
open Go Go.RowKit

/-- 'append(own, xs...)', whatever slice xs is. -/
theorem appS {ops : Array Oper} {rest : List Oper} {o : Oper} {a : Act} {Q : Exit → Act → World → Prop} {w wr : World} (l : List UInt8)
    (hg : o.guard = none) (s x : Operand) (hop : o.op = Op.call { callee := Callee.builtin Builtin.append, args := #[s, x], argTypes := #[22, 22] })
    (B n : Nat) (v vx : Value) (m : List UInt8) (hs : a.eval s = v) (hx : a.eval x = vx) (hsl : Sl wr vx l)
    (ho : wr.ownsRow B 5 1 v n (cells8 m)) (hbnd : n + l.length ≤ 140737488355328) (hbel : Below B w wr) (hB : B ≤ wr.heap.size)
    (hK : ∀ v' w1, w1.ownsRow B 5 1 v' (n + l.length) (cells8 (m ++ l)) → Below B w w1 → wr.heap.size ≤ w1.heap.size → wpList Tryd.prog ops Q rest (a.put o.dst v') w1) :
    wpList Tryd.prog ops Q (o :: rest) a wr := by
  obtain ⟨i0, hi0, hz0, hz1, hz2⟩ := info_parts info8
  obtain ⟨ad, cap, rfl, h2, h3, h4⟩ := hsl
  cases ad with
  | none =>
    have hc := h3 rfl
    subst hc
    obtain rfl : l = [] := List.eq_nil_of_length_eq_zero (by omega)
    refine wpList_plain hg fun K hK' => ?_
    have hrun := run_append_owned_none (P := Tryd.prog) wr B 22 o.type 5 i0 1 Tryd.underlying22 hi0 v n _ ho
    unfold Oper.wp
    simp [execOp, hop, resolve, invoke, builtin, hs, hx, hrun, Result.andThen]
    exact hK' _ _ (hK v wr (by simpa using ho) hbel (Nat.le_refl _))
  | some ad =>
    have hcells : ∀ j u, (cells8 l)[j]? = some u → wr.cell? (ad.add j) = some u := by
      intro j u hu
      have hj : j < l.length := by have := (List.getElem?_eq_some_iff.1 hu).1; rwa [cells8_len] at this
      obtain ⟨b, off, e, hr⟩ := h4 (by intro h; rw [h] at hj; simp at hj)
      obtain rfl := Option.some.inj e
      rw [Addr.add_lit, hr j hj, ← hu, cells8_get l j hj]
    refine wpList_append_own_at _ hg s x 22 hop B 5 i0 (.int .u8 0) 1 1 Tryd.underlying22 hi0 hz0 hz1 hz2 rfl (by omega) v n _ hs ho ad l.length cap (cells8 l) hx (by rw [cells8_len]; omega) hcells (cells8_one _) (by unfold maxLen; omega) (by omega) hB ?_
    intro v' w1 ho1 hg1 _ _
    rw [cells8_append] at ho1
    exact hK v' w1 ho1 (hbel.grown hg1 hB (fun k hk => (ho.lt k hk).1)) hg1.size

def stepsN : Nat → Nat → Nat
  | 0, x => x
  | k + 1, x => stepC (stepsN k x)
theorem stepsN_lt {x : Nat} (h : x < 4294967296) : ∀ k, stepsN k x < 4294967296
  | 0 => h
  | k + 1 => stepC_lt (stepsN_lt h k)
theorem stepsN8 (x : Nat) : stepsN 8 x = nib (nib x) := by rw [← steps4 (nib x), ← steps4 x]; rfl
theorem and_one (x : Nat) (h : x < 4294967296) : bits .and .u32 (x : Int) 1 = ((x % 2 : Nat) : Int) := by
  have h1 : (BitVec.ofInt 32 (x : Int)).toNat = x := by
    rw [BitVec.ofInt_natCast, BitVec.toNat_ofNat]; exact Nat.mod_eq_of_lt (by omega)
  have h2 : (BitVec.ofInt 32 (1 : Int)).toNat = 1 := by decide
  show IntKind.u32.wrap ((BitVec.ofInt 32 (x : Int) &&& BitVec.ofInt 32 (1 : Int)).toNat : Int) = _
  rw [BitVec.toNat_and, h1, h2, IntKind.wrap_u32, Nat.and_one_is_mod]
  omega
theorem step_odd (x : Nat) (h : x < 4294967296) (ho : x % 2 = 1) : bits .xor .u32 ((x : Int) / 2) 3988292384 = ((stepC x : Nat) : Int) := by
  have e : ((x : Int) / 2) = ((x / 2 : Nat) : Int) := by omega
  have e2 : (3988292384 : Int) = ((3988292384 : Nat) : Int) := rfl
  rw [e, e2, bits_xor_u32_nat _ _ (by omega) (by decide)]
  unfold stepC
  rw [if_pos ho]
theorem step_even (x : Nat) (ho : ¬ x % 2 = 1) : (x : Int) / 2 = ((stepC x : Nat) : Int) := by
  unfold stepC
  rw [if_neg ho, Nat.xor_zero]; omega

set_option maxRecDepth 100000 in
set_option maxHeartbeats 800000 in
theorem refCrc_in (b off cap : Nat) (l : List UInt8) (w : World) (hr : Rd w b off l) (hn : l.length ≤ 281474976710656) :
    Calls Tryd.prog 29 #[.slice (some ⟨b, off, none⟩) l.length cap] w fun e w' => e = .returned (.int .u32 (crcOf l : Nat)) ∧ w' = w := by
  have HR := hid hr
  clear hr
  go_enter Tryd.func29, Tryd.ntmps29
  go_wp2
  go_loop [3, 4] (fun q i => ∃ k x : Nat, k ≤ l.length ∧ i = .int .i64 k ∧ q = .int .u32 x ∧ x < 4294967296 ∧ x = crcB 4294967295 (l.take k)) (fun _ i => l.length - (intOf i).toNat)
  case atStart => exact ⟨0, 4294967295, by omega, rfl, rfl, by decide, rfl⟩
  case round =>
    obtain ⟨k, x, hk, rfl, rfl, hx, hxe⟩ := hrel
    have HX := hid hxe
    clear hxe
    by_cases hlt : k < l.length
    · have hcell := HR.out k hlt
      have hst := crcB_snoc 4294967295 l k hlt
      rw [← HX.out, ← stepsN8] at hst
      have hc := (l.getD k 0).toNat_lt
      have h1 := bits_xor_u32_nat x (l.getD k 0).toNat hx (by omega)
      have hb1 := xor8_lt hx (l.getD k 0)
      unfold at8 at hcell
      have HST := hid hst
      clear hst
      generalize x ^^^ (l.getD k 0).toNat = x1 at *
      generalize (l.getD k 0).toNat = c at *
      go_wp2
      go_loop [3, 5] (fun q i => ∃ j y : Nat, j ≤ 8 ∧ i = .int .i64 j ∧ q = .int .u32 y ∧ y < 4294967296 ∧ y = stepsN j x1) (fun _ i => 8 - (intOf i).toNat)
      case atStart => exact ⟨0, x1, by omega, rfl, rfl, hb1, rfl⟩
      case round =>
        obtain ⟨j, y, hj, rfl, rfl, hy, hye⟩ := hrel
        have HY := hid hye
        clear hye
        by_cases hj8 : j < 8
        · have hand := and_one y hy
          have hs' : stepC y = stepsN (j + 1) x1 := by rw [HY.out]; rfl
          have hsl := stepC_lt hy
          by_cases hodd : y % 2 = 1
          · have hso := step_odd y hy hodd
            rw [hodd] at hand
            have HS := hid hs'
            clear hs' hodd
            generalize stepC y = z at *
            go_wp2_with fail
            exact ⟨⟨j + 1, z, by omega, by go_num, rfl, hsl, HS.out⟩, by simp [intOf]; omega⟩
          · have hse := hid (step_even y hodd)
            have h0 : y % 2 = 0 := by omega
            rw [h0] at hand
            have HS := hid hs'
            clear hs' hodd h0
            generalize stepC y = z at *
            go_wp2_with fail
            exact ⟨⟨j + 1, z, by omega, by go_num, congrArg (Value.int .u32) hse.out, hsl, HS.out⟩, by simp [intOf]; omega⟩
        · obtain rfl : j = 8 := by omega
          rw [← HY.out] at HST
          go_wp2_with fail
          exact ⟨⟨k + 1, y, by omega, by go_num, rfl, hy, HST.out.symm⟩, by simp [intOf]; omega⟩
    · have hall : crcB 4294967295 l = x := by rw [HX.out, List.take_of_length_le (by omega)]
      have HA := hid hall
      clear hall
      go_wp2
      go_ret
      refine ⟨?_, rfl⟩
      unfold crcOf
      rw [HA.out, ← not_u32 x hx]
      rfl

set_option maxHeartbeats 400000 in
theorem refCrc_nil (a : Option Addr) (cap : Nat) (w : World) :
    Calls Tryd.prog 29 #[.slice a 0 cap] w fun e w' => e = .returned (.int .u32 (crcOf [] : Nat)) ∧ w' = w := by
  go_enter Tryd.func29, Tryd.ntmps29
  go_wp2
  refine wp_loop_rounds 1 ?_
  rw [rounds_succ]
  go_wp2
  go_ret
  refine ⟨?_, rfl⟩
  exact congrArg (fun n => Ending.returned (.int .u32 n)) (not_u32 4294967295 (by decide))
theorem refCrc_v (a : Option Addr) (cap : Nat) (l : List UInt8) (w : World) (hv : Sl w (.slice a l.length cap) l) (hn : l.length ≤ 281474976710656) :
    Calls Tryd.prog 29 #[.slice a l.length cap] w fun e w' => e = .returned (.int .u32 (crcOf l : Nat)) ∧ w' = w := by
  obtain ⟨a', cap', he, h2, h3, h4⟩ := hv
  cases he
  cases l with
  | nil => exact refCrc_nil a cap w
  | cons c r =>
    obtain ⟨b, off, rfl, hr⟩ := h4 (by simp)
    exact refCrc_in b off cap (c :: r) w hr hn
end Go.Proofs.YtpflajehakiloaaDoor
