/- The walk of WireTakes. -/
import Derived.Test.YtlddkbmfkipmpaaDoorWRefTake
import Derived.Test.YtlddkbmfkipmpaaDoorWFrame
namespace Go.Proofs.YtlddkbmfkipmpaaDoor
open Go Go.RowKit

theorem outI_tri (o : Option (Int × Nat)) (at_ : Int) : ∃ n k b, outI o at_ = .tuple #[.int .i64 n, .int .i64 k, .bool b] := by
  cases o with
  | none => exact ⟨_, _, _, rfl⟩
  | some p => exact ⟨_, _, _, rfl⟩
theorem outS_tri (o : Option (List UInt8 × Nat)) (at_ : Int) : ∃ t k b, outS o at_ = .tuple #[.string t, .int .i64 k, .bool b] := by
  cases o with
  | none => exact ⟨_, _, _, rfl⟩
  | some p => exact ⟨_, _, _, rfl⟩

set_option maxRecDepth 100000 in
set_option maxHeartbeats 2000000 in
theorem wireTakes_walk (a : Option Addr) (l : List UInt8) (cap : Nat) (at_ most : Int) (w : World) (ht : Tab w) (hv : Sl w (.slice a l.length cap) l) (hl : l.length ≤ 140737488351232) (_a0 : -9223372036854775808 ≤ at_) (_a1 : at_ ≤ 9223372036854775807) (_m0 : -9223372036854775808 ≤ most) (_m1 : most ≤ 9223372036854775807) :
    Calls Tryd.prog 4 #[.slice a l.length cap, .int .i64 at_, .int .i64 most] w fun e w' => e = .returned (.bool true) ∧ Below w.heap.size w w' := by
  have HT := hid ht
  have HV := hid hv
  have hlb : l.length ≤ 281474976710656 := by omega
  have hk : kcnt (l.drop at_.toNat) ≤ 140737488355328 := by
    have := kcnt_le _ (l.drop at_.toNat) (Nat.le_refl _)
    rw [List.length_drop] at this
    omega
  have HK := hid hk
  clear ht hv hk
  obtain ⟨n1, k1, b1, h1⟩ := outI_tri (tInt l at_) at_
  obtain ⟨t2, k2, b2, h2⟩ := outS_tri (tText l at_ most) at_
  obtain ⟨n3, k3, b3, h3⟩ := outI_tri (tKI l at_) at_
  obtain ⟨t4, k4, b4, h4⟩ := outS_tri (tKT l at_) at_
  have H1 := hid h1
  have H2 := hid h2
  have H3 := hid h3
  have H4 := hid h4
  clear h1 h2 h3 h4
  go_enter Tryd.func4, Tryd.ntmps4
  go_wp2_with fail
  refine (shown_any w HT.out).mono ?_
  rintro e w1 ⟨rfl, hB1⟩
  go_wp2_with fail
  refine (takeInt_v _ l at_ w1 (HV.out.below hB1) hlb).mono ?_
  rintro e w1 ⟨rfl, rfl⟩
  rw [H1.out]
  go_wp2_with fail
  refine (refTakeInt_v _ l at_ w1 (HV.out.below hB1) hlb).mono ?_
  rintro e w2 ⟨rfl, hB2⟩
  have hB2 := Below.next hB1 hB2
  rw [H1.out]
  clear hB1
  go_wp2_with fail
  refine (takeText_v _ l at_ most w2 (HV.out.below hB2) hlb).mono ?_
  rintro e w2 ⟨rfl, rfl⟩
  rw [H2.out]
  go_wp2_with fail
  refine (refTakeText_any a l cap at_ most w2 (HV.out.below hB2) hlb).mono ?_
  rintro e w3 ⟨rfl, hB3⟩
  have hB3 := Below.next hB2 hB3
  rw [H2.out]
  clear hB2
  go_wp2_with fail
  refine (takeKeyInt_v _ l at_ w3 (HV.out.below hB3) hlb).mono ?_
  rintro e w3 ⟨rfl, rfl⟩
  rw [H3.out]
  go_wp2_with fail
  refine (refTakeKeyInt_v _ l at_ w3 (HV.out.below hB3) hlb).mono ?_
  rintro e w3 ⟨rfl, rfl⟩
  rw [H3.out]
  go_wp2_with fail
  refine (takeKeyText_v _ l at_ w3 (HV.out.below hB3) hlb HK.out).mono ?_
  rintro e w4 ⟨rfl, hB4⟩
  have hB4 := Below.next hB3 hB4
  rw [H4.out]
  clear hB3
  go_wp2_with fail
  refine (refTakeKeyText_v _ l at_ w4 (HV.out.below hB4) hlb HK.out).mono ?_
  rintro e w5 ⟨rfl, hB5⟩
  have hB5 := Below.next hB4 hB5
  rw [H4.out]
  clear hB4
  go_wp2
  go_ret
  exact ⟨rfl, hB5⟩
end Go.Proofs.YtlddkbmfkipmpaaDoor
