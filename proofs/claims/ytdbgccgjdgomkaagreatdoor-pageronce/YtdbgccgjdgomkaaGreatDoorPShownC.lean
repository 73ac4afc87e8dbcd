/- The law's shown: the document's examples. -/
import Derived.Test.YtdbgccgjdgomkaaGreatDoorPBegunC
namespace Go.Proofs.YtdbgccgjdgomkaaGreatDoor
open Go Go.RowKit

theorem begun28 : List.replicate (pgOf (32 + pk 28 300)) (none : Option (List UInt8)) = [none, none, none] := by
  have h : pgOf (32 + pk 28 300) = 3 := by decide
  rw [h]; rfl
set_option maxRecDepth 100000 in
set_option maxHeartbeats 2000000 in
theorem shown_any (w : World) (ht : Tab w) : Calls Tryz.prog 9 #[] w fun e w' => e = .returned (.bool true) ∧ Below w.heap.size w w' := by
  have HB := hid (begun_any 28 (by decide) (by decide) w ht)
  obtain ⟨B, hBB⟩ : ∃ B, w.heap.size = B := ⟨_, rfl⟩
  rw [hBB]
  clear ht
  go_enter Tryz.func9, Tryz.ntmps9
  go_wp2_with fail
  refine HB.out.mono ?_
  rintro e w1 ⟨d, j, p, r, s, bl, rfl, hP, hn, ho, hR, hB1⟩
  clear hR HB
  rw [begun28] at hP
  have e60 : 32 + pk 28 300 = 60 := by decide
  rw [e60] at hn ho
  have hnb : nbOf 60 = 29 := by decide
  rw [hnb] at ho
  rw [hBB] at hP hB1
  have H1 : Hid (Pv B w1 p j d s 1 bl [none, none, none] [none, none, none] (-1) (-1) ∧ s.n = 60 ∧ s.ops ≤ 69 ∧ Below B w w1) := hid ⟨hP, hn, by omega, hB1⟩
  have HPG : Hid (Calls Tryz.prog 29 #[.pointer (some ⟨p, 0, none⟩)] w1 fun e w' => e = .returned (.int .i64 3) ∧ w' = w1) := hid hP.pages
  have HLF : Hid (Calls Tryz.prog 26 #[.pointer (some ⟨p, 0, none⟩)] w1 fun e w' => e = .returned (.int .i64 3) ∧ w' = w1) := hid hP.left
  have HRT := hid hP.root
  have HAL : Hid (Calls Tryz.prog 22 #[.pointer (some ⟨p, 0, none⟩)] w1 fun e w' => e = .returned (.tuple #[.int .i64 0, .int .i64 0]) ∧ Aft B w1 w' p j d s 1 bl [some z896, none, none] [none, none, none] (-1) (-1)) := hid (hP.alloc 0 rfl (fun i hi => by omega))
  clear hP hn ho hB1 hnb e60
  go_wp2_with fail
  refine HPG.out.mono ?_
  rintro e wz ⟨rfl, hwz⟩
  obtain rfl := hwz.symm
  clear HPG
  go_wp2_with fail
  refine HLF.out.mono ?_
  rintro e wz ⟨rfl, hwz⟩
  obtain rfl := hwz.symm
  clear HLF
  go_wp2_with fail
  refine HRT.out.mono ?_
  rintro e wz ⟨rfl, hwz⟩
  obtain rfl := hwz.symm
  clear HRT
  go_wp2_with fail
  refine HAL.out.mono ?_
  rintro e w2 ⟨rfl, hP2, hB2, _⟩
  have HSR : Hid (Calls Tryz.prog 38 #[.pointer (some ⟨p, 0, none⟩), .int .i64 0] w2 fun e w' => e = .returned (.int .i64 0) ∧ Aft B w2 w' p j d s 1 bl [some z896, none, none] [none, none, none] 0 (-1)) := hid (hP2.setRoot 0 z896 rfl)
  have HB2 := hid (H1.out.2.2.2.trans hB2)
  clear hP2 hB2 HAL
  go_wp2_with fail
  refine HSR.out.mono ?_
  rintro e w3 ⟨rfl, hP3, hB3, _⟩
  have h1 := H1.out
  have hnb : nbOf s.n = 29 := by rw [h1.2.1]; decide
  have HCM := hid (hP3.commit (by decide) (by rw [hnb]; omega))
  have HB3 := hid (HB2.out.trans hB3)
  clear hP3 hB3 HSR h1 hnb H1 HB2
  go_wp2_with fail
  refine HCM.out.mono ?_
  rintro e w4 ⟨rfl, s', sq', bl', ⟨hP4, hB4, _⟩, _⟩
  have HFR : Hid (Calls Tryz.prog 27 #[.pointer (some ⟨p, 0, none⟩), .int .i64 0] w4 fun e w' => e = .returned (.int .i64 2) ∧ w' = w4) := hid (hP4.freeRoot 0 z896 rfl rfl)
  have HFN : Hid (Calls Tryz.prog 27 #[.pointer (some ⟨p, 0, none⟩), .int .i64 1] w4 fun e w' => e = .returned (.int .i64 81) ∧ w' = w4) := hid (hP4.freeNone 1 (.inr rfl))
  have HOP := hid hP4.open
  have HB4 := hid (HB3.out.trans hB4)
  clear hP4 hB4 HCM HB3
  go_wp2_with fail
  refine HFR.out.mono ?_
  rintro e wz ⟨rfl, hwz⟩
  obtain rfl := hwz.symm
  clear HFR
  go_wp2_with fail
  refine HFN.out.mono ?_
  rintro e wz ⟨rfl, hwz⟩
  obtain rfl := hwz.symm
  clear HFN
  go_wp2_with fail
  refine HOP.out.mono ?_
  rintro e w5 ⟨p2, _, rfl, hP5, hB5⟩
  have HLF : Hid (Calls Tryz.prog 26 #[.pointer (some ⟨p2, 0, none⟩)] w5 fun e w' => e = .returned (.int .i64 2) ∧ w' = w5) := hid hP5.left
  have HRT := hid hP5.root
  have HZ : Hid (Below B w w5) := hid (HB4.out.trans (hB5.mono (by have := HB4.out.size; omega)))
  clear hP5 hB5 HOP HB4 hBB
  go_wp2_with fail
  refine HRT.out.mono ?_
  rintro e wz ⟨rfl, hwz⟩
  obtain rfl := hwz.symm
  clear HRT
  go_wp2_with fail
  refine HLF.out.mono ?_
  rintro e wz ⟨rfl, hwz⟩
  obtain rfl := hwz.symm
  clear HLF
  go_wp2_with fail
  go_ret
  exact ⟨rfl, HZ.out⟩
end Go.Proofs.YtdbgccgjdgomkaaGreatDoor
