/- The walks of the laws' own 'shown', and of DateDays. -/
import Derived.Test.YtdjncmcmplnnhaaDoorDParse
namespace Go.Proofs.YtdjncmcmplnnhaaDoor
open Go Go.RowKit

theorem sh46339 {y m d : Nat} (h : Dt y m d) (he : dn y m d = 46339) : shL y m d = [50, 48, 50, 54, 45, 49, 49, 45, 49, 53] := by
  have h0 : Dt 126 10 15 := by decide +kernel
  have h1 : dn 126 10 15 = 46339 := by decide +kernel
  obtain ⟨rfl, rfl, rfl⟩ := dn_inj h h0 (by rw [he, h1])
  decide +kernel
theorem of2000 : ofV 2000 2 29 = .tuple #[.int .i64 36583, .int .i64 0] := by
  have h := (by decide +kernel : Valid 2000 2 29)
  unfold ofV
  rw [if_pos h]
  have e : dn ((2000 : Int) - 1900).toNat ((2 : Int) - 1).toNat (29 : Int).toNat = 36583 := by decide +kernel
  rw [e]; rfl

set_option maxRecDepth 100000 in
set_option maxHeartbeats 800000 in
theorem shown_any (w : World) (ht : Tab w) :
    Calls Tryd.prog 9 #[] w fun e w' => e = .returned (.bool true) ∧ Below w.heap.size w w' := by
  have HT := hid ht
  clear ht
  go_enter Tryd.func9, Tryd.ntmps9
  go_wp2_with fail
  refine (show_yes 46339 (by omega) w HT.out).mono ?_
  rintro e w1 ⟨y, m, d, hd, hdn, rfl, hB1⟩
  rw [sh46339 hd hdn]
  go_wp2_with fail
  refine (of_any 2000 2 29 (by omega) w1 (HT.out.below hB1)).mono ?_
  rintro e w2 ⟨rfl, hB2⟩
  rw [of2000]
  have hB2 := Below.next hB1 hB2
  go_wp2
  go_ret
  exact ⟨rfl, hB2⟩
end Go.Proofs.YtdjncmcmplnnhaaDoor
