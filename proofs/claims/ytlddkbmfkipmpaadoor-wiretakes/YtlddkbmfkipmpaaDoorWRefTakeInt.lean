/- The walk of the reference's TakeInt. -/
import Derived.Test.YtlddkbmfkipmpaaDoorWRefPut
import Derived.Deep.RegionWith
import Derived.Deep.DrawnRows
namespace Go.Proofs.YtlddkbmfkipmpaaDoor
open Go Go.RowKit
attribute [local go_sem ↓] Go.wp_at_zero Go.wp_at_succ

/-- What bytes say, seven bits each, as the reference reckons it. -/
def lv (i u : Nat) : List UInt8 → Nat
  | [] => u
  | c :: r => lv (i + 1) ((u + c.toNat % 128 * 128 ^ i) % 18446744073709551616) r
theorem lv_append : ∀ (a b : List UInt8) (i u : Nat), lv i u (a ++ b) = lv (i + a.length) (lv i u a) b
  | [], _, _, _ => rfl
  | c :: r, b, i, u => by
    rw [List.cons_append, lv, lv_append r b, lv, List.length_cons]
    have : i + 1 + r.length = i + (r.length + 1) := by omega
    rw [this]
theorem lv_vb : ∀ (n q i u : Nat), q < n → lv i u (vb q) = (u + 128 ^ i * q) % 18446744073709551616
  | 0, _, _, _, h => by omega
  | n + 1, q, i, u, h => by
    by_cases hq : q < 128
    · rw [vb_lt hq, lv, lv, u8_ofNat (by omega), Nat.mod_eq_of_lt hq, Nat.mul_comm]
    · rw [vb_ge hq, lv, u8_ofNat (by omega), lv_vb n (q / 128) _ _ (by omega)]
      have e : (q % 128 + 128) % 128 = q % 128 := by omega
      rw [e, Nat.pow_succ]
      have e2 : 128 ^ i * q = q % 128 * 128 ^ i + 128 ^ i * 128 * (q / 128) := by
        have : q = q % 128 + 128 * (q / 128) := by omega
        conv => lhs; rw [this]
        rw [Nat.mul_add, Nat.mul_comm (128 ^ i) (q % 128), Nat.mul_assoc]
      rw [e2, Nat.add_mod, Nat.mod_mod, ← Nat.add_mod, Nat.add_assoc]
theorem lv_vb0 {q : Nat} (h : q < 18446744073709551616) : lv 0 0 (vb q) = q := by
  rw [lv_vb (q + 1) q 0 0 (by omega)]; simp; omega
theorem lv_snoc (l : List UInt8) (j i : Nat) (h : j + i < l.length) : lv 0 0 ((l.drop j).take (i + 1)) = (lv 0 0 ((l.drop j).take i) + (l.getD (j + i) 0).toNat % 128 * 128 ^ i) % 18446744073709551616 := by
  rw [take_snoc8 l j i h, lv_append]
  have hl : ((l.drop j).take i).length = i := by rw [List.length_take, List.length_drop]; omega
  rw [hl, Nat.zero_add]; rfl
theorem and127 (x : Nat) (h : x < 256) : bits .and .u8 (x : Int) 127 = ((x % 128 : Nat) : Int) := by
  have : ∀ y : Fin 256, bits .and .u8 ((y.val : Nat) : Int) 127 = ((y.val % 128 : Nat) : Int) := by decide +kernel
  exact this ⟨x, h⟩

set_option maxHeartbeats 400000 in
theorem refTakeInt_out (a : Option Addr) (n cap : Nat) (at_ : Int) (w : World) (h : at_ < 0 ∨ (n : Int) ≤ at_) :
    Calls Tryd.prog 21 #[.slice a n cap, .int .i64 at_] w fun e w' => e = .returned (tri 0 0 false) ∧ w' = w := by
  by_cases h0 : at_ < 0
  · have hb : decide (at_ < 0) = true := decide_eq_true h0
    go_enter Tryd.func21, Tryd.ntmps21
    go_wp2
    go_ret3
    exact ⟨rfl, rfl⟩
  · have hb : decide (at_ < 0) = false := decide_eq_false h0
    by_cases he : at_ = (n : Int)
    · subst he
      have hb2 : decide ((n : Int) < (n : Int)) = false := decide_eq_false (by omega)
      have hb3 : decide ((1 : Int) ≤ (n : Int) - (n : Int)) = false := decide_eq_false (by omega)
      go_enter Tryd.func21, Tryd.ntmps21
      go_wp2
      refine wp_loop_rounds 1 ?_
      rw [rounds_succ]
      go_wp2
      go_ret3
      exact ⟨rfl, rfl⟩
    · have hb2 : decide ((n : Int) < at_) = true := decide_eq_true (by omega)
      go_enter Tryd.func21, Tryd.ntmps21
      go_wp2
      go_ret3
      exact ⟨rfl, rfl⟩

theorem Rd.below0 {w w' : World} {b off : Nat} {l : List UInt8} (h : Rd w b off l) (hB : Below w.heap.size w w') : Rd w' b off l := h.below hB

set_option maxRecDepth 100000 in
set_option maxHeartbeats 1600000 in
theorem refTakeInt_in (b off cap j : Nat) (l : List UInt8) (w : World) (hr : Rd w b off l) (hn : l.length ≤ 281474976710656) (hc : l.length ≤ cap) (hj : j < l.length) :
    Calls Tryd.prog 21 #[.slice (some ⟨b, off, none⟩) l.length cap, .int .i64 j] w fun e w' => e = .returned (outI (takeI (l.drop j)) j) ∧ Below w.heap.size w w' := by
  have hb : decide ((j : Int) < 0) = false := decide_eq_false (by omega)
  have hb2 : decide ((l.length : Int) < (j : Int)) = false := decide_eq_false (by omega)
  have hb3 : decide (l.length < j) = false := decide_eq_false (by omega)
  have HR := hid hr
  clear hr
  go_enter Tryd.func21, Tryd.ntmps21
  go_wp2
  go_loopw [7] (fun q wr => ∃ k : Nat, 1 ≤ k ∧ k ≤ 11 ∧ q = .int .i64 k ∧ (∀ n i, takeI (l.drop j) = some (n, i) → k ≤ i) ∧ Below w.heap.size w wr) (fun q _ => 11 - (intOf q).toNat)
  case atStart => exact ⟨1, by omega, by omega, rfl, fun n i h => (takeI_len h).1, Below.refl _ _⟩
  case round =>
    obtain ⟨k, hk1, hk2, rfl, hnot, hbel⟩ := hrel
    have HNOT := hid hnot
    clear hnot
    by_cases hlt : k ≤ 10 ∧ j + k ≤ l.length
    · obtain ⟨hlt1, hlt2⟩ := hlt
      have hd1 : decide ((k : Int) ≤ 10) = true := decide_eq_true (by omega)
      have hd2 : decide ((k : Int) ≤ (l.length : Int) - (j : Int)) = true := decide_eq_true (by omega)
      go_wp2
      go_loop [8, 9] (fun q i => ∃ m u : Nat, m ≤ k ∧ i = .int .i64 m ∧ q = .int .u64 u ∧ u < 128 ^ m ∧ u < 18446744073709551616 ∧ u = lv 0 0 ((l.drop j).take m)) (fun _ i => k - (intOf i).toNat)
      case atStart => exact ⟨0, 0, by omega, rfl, rfl, by simp, by omega, rfl⟩
      case round =>
        obtain ⟨m, u, hm, rfl, rfl, hu, hu64, hue⟩ := hrel
        have HU := hid hu
        have HUE := hid hue
        clear hu hue
        by_cases hml : m < k
        · have hcell : wr.cell? ⟨b, off + (j + m), none⟩ = some (.int .u8 (at8 l (j + m))) := by
            have h := HR.out (j + m) (by omega)
            rw [hbel.cell (p := ⟨b, off + (j + m), none⟩) (World.block_lt_of_cell? w _ h)]; exact h
          unfold at8 at hcell
          have hx1 := (l.getD (j + m) 0).toNat_lt
          have hsn := lv_snoc l j m (by omega)
          rw [← HUE.out] at hsn
          have HSN := hid hsn
          clear hsn
          generalize (l.getD (j + m) 0).toNat = x at *
          have hand := and127 x (by omega)
          have hor := or_seven u (x % 128) m (by omega) HU.out
          have hU' : (u + x % 128 * 128 ^ m) % 18446744073709551616 < 128 ^ (m + 1) := by
            have h1 : (u + x % 128 * 128 ^ m) % 18446744073709551616 ≤ u + x % 128 * 128 ^ m := Nat.mod_le _ _
            have h2 : x % 128 * 128 ^ m ≤ 127 * 128 ^ m := Nat.mul_le_mul_right _ (by omega)
            have h3 : (128 : Nat) ^ (m + 1) = 128 * 128 ^ m := by rw [Nat.pow_succ]; omega
            have := HU.out
            omega
          have hU2 : (u + x % 128 * 128 ^ m) % 18446744073709551616 < 18446744073709551616 := Nat.mod_lt _ (by decide)
          generalize (u + x % 128 * 128 ^ m) % 18446744073709551616 = U at *
          have hyb : x % 128 < 128 := Nat.mod_lt _ (by decide)
          generalize x % 128 = y at *
          have HOR := hid hor
          have HU1 := hid hU'
          clear hor hU'
          go_wp2_with fail
          exact ⟨⟨m + 1, U, by omega, by go_num, congrArg (Value.int .u64) HOR.out, HU1.out, hU2, HSN.out.symm⟩, by simp [intOf]; omega⟩
        · obtain rfl : m = k := by omega
          have hun : unzig u = if u % 2 = 1 then -((u / 2 : Nat) : Int) - 1 else ((u / 2 : Nat) : Int) := rfl
          have hug := unzig_ge hu64
          have hul := unzig_le hu64
          have hcv := conv_sub (w := wr) (HR.out.below0 hbel) j m hlt2 hc (c := cap - j) (by omega)
          have e1 : (0 : Int) ≤ (j : Int) := by omega
          have e2 : (j : Int) ≤ (j : Int) + (m : Int) := by omega
          have e3 : (j : Int) + (m : Int) ≤ (cap : Int) := by omega
          have e4 : ¬ cap = j := by omega
          have e5 : IntKind.i64.wrap ((j : Int) + (m : Int)) = (j : Int) + (m : Int) := IntWalk.i64_in _ ⟨by omega, by omega⟩
          have e6 : ((j : Int) + (m : Int)).toNat = j + m := by omega
          have hcvd := conv_sub (w := wr.drew) (HR.out.below0 hbel).drew j m hlt2 hc (c := cap - j) (by omega)
          have htl : ((l.drop j).take m).length = m := by rw [List.length_take, List.length_drop]; omega
          by_cases hEq : vb u = (l.drop j).take m
          · have heq : (vb (zig (unzig u)) == (l.drop j).take m) = true := by rw [zig_unzig, beq_iff_eq]; exact hEq
            have hT : takeI (l.drop j) = some (unzig u, m) := (takeI_iff _ _ _).2 ⟨⟨hug, hul⟩, by rw [zig_unzig, hEq]; exact List.take_prefix _ _, by rw [zig_unzig, hEq, htl]⟩
            have HT := hid hT
            clear hT hEq htl
            by_cases hodd : u % 2 = 1
            · rw [if_pos hodd] at hun
              have hob : ((u : Int) % 2 == 1) = true := by simp only [beq_iff_eq]; omega
              have hun' : -((u : Int) / 2) - 1 = unzig u := by rw [hun]; omega
              have HUN := hid hun'
              clear hun hun' hodd
              go_wp2_with fail
              rw [HUN.out]
              go_region_with (go_at_call 16; refine (refInt_v _ _ hug hul).mono ?_; rintro e w2 ⟨v2, rfl, hs2, hB2⟩; have hcv2 := conv_sl hs2; have hcvb := conv_sub (w := w2) ((HR.out.below0 hbel).drew.below hB2) j m hlt2 hc (c := cap - j) (by omega))
              all_goals
                have hB3 : Below w.heap.size w w2 := Below.next hbel.drew hB2
                clear hcv hcvd hcv2 hcvb hs2 hB2
                go_wp2
                go_ret3
                exact ⟨by rw [HT.out]; rfl, hB3⟩
            · rw [if_neg hodd] at hun
              have hob : ((u : Int) % 2 == 1) = false := by simp only [beq_eq_false_iff_ne, ne_eq]; omega
              have hun' : (u : Int) / 2 = unzig u := by rw [hun]; omega
              have HUN := hid hun'
              clear hun hun' hodd
              go_wp2_with fail
              rw [HUN.out]
              go_region_with (go_at_call 16; refine (refInt_v _ _ hug hul).mono ?_; rintro e w2 ⟨v2, rfl, hs2, hB2⟩; have hcv2 := conv_sl hs2; have hcvb := conv_sub (w := w2) ((HR.out.below0 hbel).drew.below hB2) j m hlt2 hc (c := cap - j) (by omega))
              all_goals
                have hB3 : Below w.heap.size w w2 := Below.next hbel.drew hB2
                clear hcv hcvd hcv2 hcvb hs2 hB2
                go_wp2
                go_ret3
                exact ⟨by rw [HT.out]; rfl, hB3⟩
          · have heq : (vb (zig (unzig u)) == (l.drop j).take m) = false := by rw [zig_unzig, beq_eq_false_iff_ne]; exact hEq
            have hF : ∀ n i, takeI (l.drop j) = some (n, i) → m + 1 ≤ i := by
              intro n i h
              have h1 := HNOT.out n i h
              rcases Nat.lt_or_ge m i with h2 | h2
              · exact h2
              · exfalso
                obtain rfl : i = m := by omega
                obtain ⟨⟨n0, n1⟩, hp, hi⟩ := (takeI_iff _ _ _).1 h
                have hpre : vb (zig n) = (l.drop j).take i := by
                  obtain ⟨t, ht⟩ := hp
                  rw [← ht, hi, List.take_left]
                apply hEq
                rw [HUE.out, ← hpre, lv_vb0 (zig_lt n0 n1)]
            have HF := hid hF
            clear hF hEq htl
            by_cases hodd : u % 2 = 1
            · rw [if_pos hodd] at hun
              have hob : ((u : Int) % 2 == 1) = true := by simp only [beq_iff_eq]; omega
              have hun' : -((u : Int) / 2) - 1 = unzig u := by rw [hun]; omega
              have HUN := hid hun'
              clear hun hun' hodd
              go_wp2_with fail
              rw [HUN.out]
              go_region_with (go_at_call 16; refine (refInt_v _ _ hug hul).mono ?_; rintro e w2 ⟨v2, rfl, hs2, hB2⟩; have hcv2 := conv_sl hs2; have hcvb := conv_sub (w := w2) ((HR.out.below0 hbel).drew.below hB2) j m hlt2 hc (c := cap - j) (by omega))
              all_goals
                have hB3 : Below w.heap.size w w2 := Below.next hbel.drew hB2
                clear hcv hcvd hcv2 hcvb hs2 hB2
                go_wp2
                go_roundw
                case rel => exact ⟨m + 1, by omega, by omega, by go_num, HF.out, hB3⟩
                case measure => simp [intOf]; omega
            · rw [if_neg hodd] at hun
              have hob : ((u : Int) % 2 == 1) = false := by simp only [beq_eq_false_iff_ne, ne_eq]; omega
              have hun' : (u : Int) / 2 = unzig u := by rw [hun]; omega
              have HUN := hid hun'
              clear hun hun' hodd
              go_wp2_with fail
              rw [HUN.out]
              go_region_with (go_at_call 16; refine (refInt_v _ _ hug hul).mono ?_; rintro e w2 ⟨v2, rfl, hs2, hB2⟩; have hcv2 := conv_sl hs2; have hcvb := conv_sub (w := w2) ((HR.out.below0 hbel).drew.below hB2) j m hlt2 hc (c := cap - j) (by omega))
              all_goals
                have hB3 : Below w.heap.size w w2 := Below.next hbel.drew hB2
                clear hcv hcvd hcv2 hcvb hs2 hB2
                go_wp2
                go_roundw
                case rel => exact ⟨m + 1, by omega, by omega, by go_num, HF.out, hB3⟩
                case measure => simp [intOf]; omega
    · have hN : takeI (l.drop j) = none := by
        cases h : takeI (l.drop j) with
        | none => rfl
        | some p =>
          exfalso
          obtain ⟨n, i⟩ := p
          have h1 := HNOT.out n i h
          have h2 := takeI_len h
          rw [List.length_drop] at h2
          omega
      have HN := hid hN
      clear hN
      by_cases h10 : k ≤ 10
      · have hd1 : decide ((k : Int) ≤ 10) = true := decide_eq_true (by omega)
        have hd2 : decide ((k : Int) ≤ (l.length : Int) - (j : Int)) = false := decide_eq_false (by omega)
        go_wp2
        go_ret3
        exact ⟨by rw [HN.out]; rfl, hbel⟩
      · have hd1 : decide ((k : Int) ≤ 10) = false := decide_eq_false (by omega)
        go_wp2
        go_ret3
        exact ⟨by rw [HN.out]; rfl, hbel⟩

/-- The reference's TakeInt, whatever it is given. -/
theorem refTakeInt_v (v : Value) (l : List UInt8) (at_ : Int) (w : World) (hv : Sl w v l) (hn : l.length ≤ 281474976710656) :
    Calls Tryd.prog 21 #[v, .int .i64 at_] w fun e w' => e = .returned (outI (tInt l at_) at_) ∧ Below w.heap.size w w' := by
  unfold tInt
  obtain ⟨a, cap, rfl, h2, h3, h4⟩ := hv
  by_cases h : 0 ≤ at_ ∧ at_ < l.length
  · obtain ⟨j, rfl⟩ := Int.eq_ofNat_of_zero_le h.1
    rw [if_pos (by omega), Int.toNat_natCast]
    obtain ⟨b, off, rfl, hr⟩ := h4 (by intro e; rw [e] at h; simp at h; omega)
    exact refTakeInt_in b off cap j l w hr hn h2 (by omega)
  · have e : (if 0 ≤ at_ ∧ at_ ≤ l.length then takeI (l.drop at_.toNat) else none) = none := by
      by_cases h' : 0 ≤ at_ ∧ at_ ≤ l.length
      · rw [if_pos h', List.drop_eq_nil_of_le (by omega)]; rfl
      · rw [if_neg h']
    rw [e]
    exact (refTakeInt_out a l.length cap at_ w (by omega)).mono fun e w' ⟨h1, h2⟩ => ⟨h1, h2 ▸ Below.refl _ _⟩
end Go.Proofs.YtlddkbmfkipmpaaDoor
