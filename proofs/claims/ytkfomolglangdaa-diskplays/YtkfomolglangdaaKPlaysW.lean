/- The walk of DiskPlays. -/
import Derived.Test.YtkfomolglangdaaKDoes0
import Derived.Test.YtkfomolglangdaaKDoes1
import Derived.Test.YtkfomolglangdaaKDoes2
import Derived.Test.YtkfomolglangdaaKDoes3
import Derived.Test.YtkfomolglangdaaKDoes4
import Derived.Test.YtkfomolglangdaaKDoes5
import Derived.Test.YtkfomolglangdaaKFrame
namespace Go.Proofs.Ytkfomolglangdaa
open Go Go.RowKit

theorem does_any {w : World} {q p r B : Nat} {X : List Nat} {s : DS} {x : OpV} {l : List UInt8} {zs : List Int} (h : Both w q B p X r s) (hx : OpIn w B x l zs) :
    Calls Try.prog 12 #[.pointer (some ⟨q, 0, none⟩), .agg (ocs x)] w (Did w q B) := by
  have h6 := pk_lt x.kind (show (6 : Nat) ≠ 0 by omega)
  rcases Nat.lt_or_ge (pk x.kind 6) 1 with h0 | h0
  · exact does_0 h hx (by omega)
  rcases Nat.lt_or_ge (pk x.kind 6) 2 with h1 | h1
  · exact does_1 h hx (by omega)
  rcases Nat.lt_or_ge (pk x.kind 6) 3 with h2 | h2
  · exact does_2 h hx (by omega)
  rcases Nat.lt_or_ge (pk x.kind 6) 4 with h3 | h3
  · exact does_3 h hx (by omega)
  rcases Nat.lt_or_ge (pk x.kind 6) 5 with h4 | h4
  · exact does_4 h hx (by omega)
  · exact does_5 h hx (by omega)
set_option maxRecDepth 100000 in
set_option maxHeartbeats 4000000 in
theorem diskPlays_walk (n0 : Int) (a1 : Option Addr) (len1 cap1 : Nat) (xs : List OpV) (w : World) (hn0 : i64 n0) (hs : Ops w a1 len1 xs) (hf : ∀ x ∈ xs, OpF w x ∧ x.bl ≤ 140737488351232 ∧ x.sl * 8 ≤ 140737488351232) (hl1 : len1 ≤ 9223372036854775807) :
    Calls Try.prog 3 #[.int .i64 n0, .slice a1 len1 cap1] w fun e w' => e = .returned (.bool true) ∧ Below w.heap.size w w' := by
  have HS := hid hs
  have HF := hid hf
  have HL := hid hl1
  clear hs hf hl1
  go_enter Try.func3, Try.ntmps3
  go_wp2_with fail
  refine (shown_any _).mono ?_
  rintro e w1 ⟨rfl, hB1⟩
  go_wp2_with fail
  refine (nothing_any _).mono ?_
  rintro e w2 ⟨rfl, hB2⟩
  have HB2 := hid (Below.next hB1 hB2)
  clear hB1 hB2
  by_cases hbad : n0 < 1 ∨ 16384 < n0
  · go_wp2_with fail
    refine (new_bad _ n0 hbad).mono ?_
    rintro e w3 ⟨rfl, rfl⟩
    go_wp2_with fail
    refine (rnew_bad _ n0 hbad).mono ?_
    rintro e w4 ⟨rfl, rfl⟩
    go_wp2
    go_ret
    exact ⟨rfl, HB2.out⟩
  · obtain ⟨n, rfl⟩ : ∃ n : Nat, n0 = n := ⟨n0.toNat, by omega⟩
    go_wp2_with fail
    refine (new_d _ n (by omega) (by omega)).mono ?_
    rintro e w3 ⟨p, X, rfl, hD3, hX3, hB3⟩
    have HD3 := hid hD3
    have HX3 := hid hX3
    have HB3 := hid hB3
    clear hD3 hX3 hB3
    go_wp2_with fail
    refine (rnew_ok _ n (by omega) (by omega)).mono ?_
    rintro e w4 ⟨r, rfl, hR4, hB4⟩
    by_cases h40 : 40 < n
    · have h40' : (40 : Int) < n := by omega
      have HZ := hid (HB2.out.trans ((HB3.out.trans (hB4.mono HB3.out.size)).mono HB2.out.size))
      clear hR4 hB4 HD3
      go_wp2
      go_ret
      exact ⟨rfl, HZ.out⟩
    · have h40' : ¬ (40 : Int) < n := by omega
      have hB5 : Below w4.heap.size w4 (w4.alloc (.cells #[.pointer (some ⟨p, 0, none⟩), .pointer (some ⟨r, 0, none⟩)] 33)) := (Below.refl _ _).alloc (Nat.le_refl _) _
      have hbo5 : Bo (w4.alloc (.cells #[.pointer (some ⟨p, 0, none⟩), .pointer (some ⟨r, 0, none⟩)] 33)) w4.heap.size p r := heap_alloc_last _ _
      have hb5 : Both (w4.alloc (.cells #[.pointer (some ⟨p, 0, none⟩), .pointer (some ⟨r, 0, none⟩)] 33)) w4.heap.size w2.heap.size p X r (DS.new n) :=
        ⟨hbo5, (HD3.out.below hB4).below hB5, HX3.out, (hR4.below hB5).lower HB3.out.size, (fun h => by cases h), Nat.le_trans HB3.out.size hB4.size, Nat.le_trans HB3.out.size (Nat.le_trans hB4.size hB5.size)⟩
      have hB25 : Below w2.heap.size w2 (w4.alloc (.cells #[.pointer (some ⟨p, 0, none⟩), .pointer (some ⟨r, 0, none⟩)] 33)) := Below.next (Below.next HB3.out hB4) hB5
      have HB5 := hid hb5
      have HE5 := hid hB25
      clear hB4 hR4 hB5 hbo5 hb5 hB25 HD3 HX3 HB3
      go_upto_region 11 with fail
      generalize w4.alloc (.cells #[.pointer (some ⟨p, 0, none⟩), .pointer (some ⟨r, 0, none⟩)] 33) = w5 at *
      generalize w4.heap.size = q at *
      go_loopw [12, 13, 14] (fun y _ _ wr => ∃ (k p X r : _) (s : DS), k ≤ len1 ∧ k ≤ 200 ∧ y = .int .i64 (k : Nat) ∧ Both wr q w2.heap.size p X r s ∧ Below w2.heap.size w2 wr) (fun y _ _ _ => 200 - (intOf y).toNat)
      case atStart => exact ⟨0, p, X, r, _, Nat.zero_le _, Nat.zero_le _, rfl, HB5.out, HE5.out⟩
      case round =>
        clear HB5 HE5
        obtain ⟨k, p, X, r, s, hk, hk2, rfl, hb, hE⟩ := hrel
        have hwk : IntKind.i64.wrap ((k : Int) + 1) = ((k + 1 : Nat) : Int) := incR (k := k) (by omega)
        by_cases hlt : k < len1
        · have hlt' : (k : Int) < (len1 : Int) := by omega
          by_cases hlt2 : k < 200
          · have hlt2' : (k : Int) < 200 := by omega
            obtain ⟨x, hx⟩ : ∃ x, xs[k]? = some x := ⟨_, List.getElem?_eq_getElem (by rw [HS.out.1]; exact hlt)⟩
            obtain ⟨b1, b2, b3, b, off, rfl, c0, c1, c2, c3, c4⟩ := HS.out.2 k x hx
            obtain ⟨⟨⟨l, hsl, hll⟩, zs, hI, hz⟩, hbl, hsl2⟩ := HF.out x (List.mem_of_getElem? hx)
            have hwB : Below w.heap.size w wr := HB2.out.trans (hE.mono HB2.out.size)
            have q0 := cell_below hwB c0
            have q1 := cell_below hwB c1
            have q2 := cell_below hwB c2
            have q3 := cell_below hwB c3
            have q4 := cell_below hwB c4
            have hIn : OpIn wr w2.heap.size x l zs :=
              ⟨b1, b2, b3, fun w' hb' => hsl.below (hwB.trans (hb'.mono HB2.out.size)), ⟨hll, hbl⟩, hsl2, fun w' hb' => ints_later hI (hwB.trans (hb'.mono HB2.out.size)), hI.1⟩
            have HIn := hid hIn
            have HBo := hid hb
            have HE := hid hE
            clear hIn hb hE hwB hsl hI c0 c1 c2 c3 c4 hx hz b1 b2 b3 hbl hsl2 hll
            go_wp2_with fail
            refine (does_any HBo.out HIn.out).mono ?_
            rintro e w6 ⟨rfl, p6, X6, r6, s6, hb6, hE6⟩
            have HB6 := hid hb6
            have HE6 := hid (HE.out.trans hE6)
            clear hb6 hE6 HBo HIn HE q0 q1 q2 q3 q4
            go_wp2_with fail
            refine (alike_any HB6.out.bo HB6.out.disk HB6.out.ref).mono ?_
            rintro e w7 ⟨rfl, hB7⟩
            have HB7 := hid (HB6.out.below hB7)
            have HE7 := hid (HE6.out.trans (hB7.mono HB6.out.small))
            clear hB7 HB6 HE6
            go_wp2
            go_roundw
            case rel => exact ⟨k + 1, p6, X6, r6, s6, hlt, by omega, by go_num, HB7.out, HE7.out⟩
            case measure => simp [intOf]; omega
          · have hlt2' : ¬ (k : Int) < 200 := by omega
            have HZ := hid (HB2.out.trans (hE.mono HB2.out.size))
            clear hb hE
            go_wp2
            go_ret
            exact ⟨rfl, HZ.out⟩
        · have hlt' : ¬ (k : Int) < (len1 : Int) := by omega
          have HZ := hid (HB2.out.trans (hE.mono HB2.out.size))
          clear hb hE
          go_wp2
          go_ret
          exact ⟨rfl, HZ.out⟩
end Go.Proofs.Ytkfomolglangdaa
