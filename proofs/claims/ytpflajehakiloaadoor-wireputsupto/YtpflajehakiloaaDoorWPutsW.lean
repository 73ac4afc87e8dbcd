/- The walk of WirePuts. -/
import Derived.Test.YtpflajehakiloaaDoorWPutsA
import Derived.Test.YtpflajehakiloaaDoorWRefPut
import Derived.Test.YtpflajehakiloaaDoorWHeldL
import Derived.BigQuiet
import Derived.BigCall
import Derived.BigGuard
namespace Go.Proofs.YtpflajehakiloaaDoor
open Go Go.RowKit

theorem size_lit (l : List UInt8) : (⟨l.toArray⟩ : ByteArray).size = l.length := by show l.toArray.size = _; simp
theorem eq_app (l m : List UInt8) : ((⟨(l ++ m).toArray⟩ : ByteArray).toList == (⟨l.toArray⟩ ++ ⟨m.toArray⟩ : ByteArray).toList) = true := by
  have e : (⟨l.toArray⟩ ++ ⟨m.toArray⟩ : ByteArray) = ⟨(l ++ m).toArray⟩ := by
    apply ByteArray.ext
    simp
  rw [e]; simp

set_option maxRecDepth 100000 in
set_option maxHeartbeats 8000000 in
theorem wirePuts_walk (a : Option Addr) (l : List UInt8) (cap : Nat) (n : Int) (s : ByteArray) (w : World) (ht : Tab w) (hv : Sl w (.slice a l.length cap) l) (_hl : l.length ≤ 140737488351232) (n0 : -9223372036854775808 ≤ n) (n1 : n ≤ 9223372036854775807) (_hs : s.size ≤ 140737488351232) (hup : l.length + s.data.size ≤ 1048576) :
    Calls Tryd.prog 3 #[.slice a l.length cap, .int .i64 n, .string s] w fun e w' => e = .returned (.bool true) ∧ Below w.heap.size w w' := by
  have HT := hid ht
  have HV := hid hv
  have hup' : l.length + s.size ≤ 1048576 := hup
  have hks : (kt s.data.toList).length ≤ 2 * s.size + 2 := by have := kt_len_le s.data.toList; rw [Array.length_toList] at this; exact this
  clear ht hv hup
  go_enter Tryd.func3, Tryd.ntmps3
  go_wp2_with fail
  refine (shown_any w HT.out).mono ?_
  rintro e w1 ⟨rfl, hB1⟩
  go_wp2_with fail
  refine (ahead_any a l cap w1 (HV.out.below hB1) (by omega)).mono ?_
  rintro e w2 ⟨rfl, hrow, hB2⟩
  have HR2 := hid hrow.1
  have HX2 := hid (Sl.mk (cap := l.length + 40) hrow.1.ahead (by omega))
  have hB2n := Below.next hB1 hB2
  clear hB1 hrow hB2
  generalize w1.heap.size = g at *
  go_wp2_with fail
  refine (putInt_v _ l n w2 HX2.out n0 n1 (by omega)).mono ?_
  rintro e w3 ⟨v3, rfl, hs3, hB3⟩
  have HX3 := hid (HX2.out.below hB3)
  have HR3 := hid (HR2.out.below hB3)
  have hB3' := Below.next hB2n hB3
  clear hB2n hB3 HX2 HR2
  go_wp2_with fail
  refine (putText_v _ l s w3 HX3.out (by omega)).mono ?_
  rintro e w4 ⟨v4, rfl, hs4, hB4⟩
  have HX4 := hid (HX3.out.below hB4)
  have HR4 := hid (HR3.out.below hB4)
  have hs3 := hs3.below hB4
  have hB4' := Below.next hB3' hB4
  clear hB3' hB4 HX3 HR3
  go_wp2_with fail
  refine (keyInt_v _ l n w4 HX4.out n0 n1 (by omega)).mono ?_
  rintro e w5 ⟨v5, rfl, hs5, hB5⟩
  have HX5 := hid (HX4.out.below hB5)
  have HR5 := hid (HR4.out.below hB5)
  have hs3 := hs3.below hB5
  have hs4 := hs4.below hB5
  have hB5' := Below.next hB4' hB5
  clear hB4' hB5 HX4 HR4
  go_wp2_with fail
  refine (keyText_v _ l s w5 HX5.out (by omega)).mono ?_
  rintro e w6 ⟨v6, rfl, hs6, hB6⟩
  have HR6 := hid (HR5.out.below hB6)
  have hs3 := hs3.below hB6
  have hs4 := hs4.below hB6
  have hs5 := hs5.below hB6
  have hB6' := Below.next hB5' hB6
  clear hB5' hB6 HX5 HR5
  go_wp2_with fail
  refine (stays_any g a l cap w6 HR6.out (HV.out.below hB6') (by omega)).mono ?_
  rintro e w6 ⟨rfl, rfl⟩
  have hcb := conv_sl (HV.out.below hB6')
  go_wp2_with fail
  clear hcb
  have hvn := zvb_len n0 n1
  have hvs := zvb_len (n := (s.size : Int)) (by omega) (by omega)
  have hss : s.data.toList.length = s.size := by rw [Array.length_toList]; rfl
  have hz0 : (⟨l.toArray⟩ : ByteArray).size + (⟨(vb (zig n)).toArray⟩ : ByteArray).size ≤ 4611686018427387904 := by rw [size_lit, size_lit]; omega
  have hz1 : (⟨l.toArray⟩ : ByteArray).size + (⟨(vb (zig s.size) ++ s.data.toList).toArray⟩ : ByteArray).size ≤ 4611686018427387904 := by rw [size_lit, size_lit, List.length_append]; omega
  have hz2 : (⟨l.toArray⟩ : ByteArray).size + (⟨(kb n).toArray⟩ : ByteArray).size ≤ 4611686018427387904 := by rw [size_lit, size_lit, kb_len]; omega
  have hz3 : (⟨l.toArray⟩ : ByteArray).size + (⟨(kt s.data.toList).toArray⟩ : ByteArray).size ≤ 4611686018427387904 := by rw [size_lit, size_lit]; omega
  have he0 := eq_app l (vb (zig n))
  have he1 := eq_app l (vb (zig s.size) ++ s.data.toList)
  have he2 := eq_app l (kb n)
  have he3 := eq_app l (kt s.data.toList)
  rw [List.append_assoc] at hs4
  have hS : Below w6.heap.size w6 w6.drew := (Below.refl _ _).drew
  refine h_openL (S := fun w' => Below w6.heap.size w6 w') (by kernel_rfl) (by kernel_rfl) (fun _ _ _ _ _ h => h) (L := #[false, false, false, false, false, false, false, false, false, false, false, false, false, false, false, false, false, false, false, false, false, false, false, false, false, false, false, false, false, false, false, false, false, false, false, false, false, false, false, false, false, false, false, false, false]) (by kernel_rfl) ?_
  intro Q' hns hP hN
  refine h_takeL (i := 0) (v := .bool true) hns rfl rfl (by kernel_rfl) (by kernel_rfl) hP (y_move rfl (by kernel_rfl) (by kernel_rfl)) hS rfl (L' := #[true, false, false, false, false, false, false, false, false, false, false, false, false, false, false, false, false, false, false, false, false, false, false, false, false, false, false, false, false, false, false, false, false, false, false, false, false, false, false, false, false, false, false, false, false]) (by kernel_rfl) ?_
  refine h_takeL (i := 1) (v := .bool true) hns rfl rfl (by kernel_rfl) (by kernel_rfl) hP (y_move rfl (by kernel_rfl) (by kernel_rfl)) hS rfl (L' := #[true, true, false, false, false, false, false, false, false, false, false, false, false, false, false, false, false, false, false, false, false, false, false, false, false, false, false, false, false, false, false, false, false, false, false, false, false, false, false, false, false, false, false, false, false]) (by kernel_rfl) ?_
  refine h_takeL (i := 2) (v := .bool true) hns rfl rfl (by kernel_rfl) (by kernel_rfl) hP (y_move rfl (by kernel_rfl) (by kernel_rfl)) hS rfl (L' := #[true, true, true, false, false, false, false, false, false, false, false, false, false, false, false, false, false, false, false, false, false, false, false, false, false, false, false, false, false, false, false, false, false, false, false, false, false, false, false, false, false, false, false, false, false]) (by kernel_rfl) ?_
  refine h_takeL (i := 3) (v := .bool true) hns rfl rfl (by kernel_rfl) (by kernel_rfl) hP (y_pick (b := true) rfl (by kernel_rfl) (by kernel_rfl) (by kernel_rfl)) hS rfl (L' := #[true, true, true, true, false, false, false, false, false, false, false, false, false, false, false, false, false, false, false, false, false, false, false, false, false, false, false, false, false, false, false, false, false, false, false, false, false, false, false, false, false, false, false, false, false]) (by kernel_rfl) ?_
  refine h_takeL (i := 4) (v := .bool true) hns rfl rfl (by kernel_rfl) (by kernel_rfl) hP (y_move rfl (by kernel_rfl) (by kernel_rfl)) hS rfl (L' := #[true, true, true, true, true, false, false, false, false, false, false, false, false, false, false, false, false, false, false, false, false, false, false, false, false, false, false, false, false, false, false, false, false, false, false, false, false, false, false, false, false, false, false, false, false]) (by kernel_rfl) ?_
  simp only [List.setIfInBounds_toArray, List.set_cons_zero, List.set_cons_succ]
  refine h_takeL (i := 5) (v := v3) hns rfl rfl (by kernel_rfl) (by kernel_rfl) hP (y_move rfl (by kernel_rfl) (by kernel_rfl)) hS rfl (L' := #[true, true, true, true, true, true, false, false, false, false, false, false, false, false, false, false, false, false, false, false, false, false, false, false, false, false, false, false, false, false, false, false, false, false, false, false, false, false, false, false, false, false, false, false, false]) (by kernel_rfl) ?_
  refine h_takeL (i := 6) (v := .string ⟨(l ++ vb (zig n)).toArray⟩) hns rfl rfl (by kernel_rfl) (by kernel_rfl) hP (y_conv rfl (by kernel_rfl) (by kernel_rfl) (fun w' hw => conv_sl (hs3.below hw))) hS rfl (L' := #[true, true, true, true, true, true, true, false, false, false, false, false, false, false, false, false, false, false, false, false, false, false, false, false, false, false, false, false, false, false, false, false, false, false, false, false, false, false, false, false, false, false, false, false, false]) (by kernel_rfl) ?_
  refine h_takeL (i := 7) (v := .string ⟨l.toArray⟩) hns rfl rfl (by kernel_rfl) (by kernel_rfl) hP (y_move rfl (by kernel_rfl) (by kernel_rfl)) hS rfl (L' := #[true, true, true, true, true, true, true, true, false, false, false, false, false, false, false, false, false, false, false, false, false, false, false, false, false, false, false, false, false, false, false, false, false, false, false, false, false, false, false, false, false, false, false, false, false]) (by kernel_rfl) ?_
  refine h_takeL (i := 8) (v := .int .i64 n) hns rfl rfl (by kernel_rfl) (by kernel_rfl) hP (y_move rfl (by kernel_rfl) (by kernel_rfl)) hS rfl (L' := #[true, true, true, true, true, true, true, true, true, false, false, false, false, false, false, false, false, false, false, false, false, false, false, false, false, false, false, false, false, false, false, false, false, false, false, false, false, false, false, false, false, false, false, false, false]) (by kernel_rfl) ?_
  refine h_callL (i := 9) (f := 16) (args := #[.int .i64 n]) (by kernel_rfl) rfl rfl (by kernel_rfl) (enter_go rfl (by kernel_rfl) (fun w => by go_simp)) (L' := #[true, true, true, true, true, true, true, true, true, true, false, false, false, false, false, false, false, false, false, false, false, false, false, false, false, false, false, false, false, false, false, false, false, false, false, false, false, false, false, false, false, false, false, false, false]) (by kernel_rfl) ?_
  refine (refInt_v n _ n0 n1).mono ?_
  rintro e wx ⟨vx, rfl, hsx, hBx⟩
  have hS2 : Below w6.heap.size w6 wx := Below.next hS hBx
  refine ⟨vx, rfl, hS2, ?_⟩
  clear hS hBx
  have hS := hS2
  clear hS2
  refine h_convL (i := 10) (by kernel_rfl) rfl rfl (by kernel_rfl) rfl (by kernel_rfl) (conv_sl hsx) hS rfl (L' := #[true, true, true, true, true, true, true, true, true, true, true, false, false, false, false, false, false, false, false, false, false, false, false, false, false, false, false, false, false, false, false, false, false, false, false, false, false, false, false, false, false, false, false, false, false]) (by kernel_rfl) ?_
  clear hsx
  refine h_takeL (i := 11) (v := .string (⟨l.toArray⟩ ++ ⟨(vb (zig n)).toArray⟩)) hns rfl rfl (by kernel_rfl) (by kernel_rfl) hP (y_add rfl (by kernel_rfl) (by kernel_rfl) (by kernel_rfl) hz0) hS rfl (L' := #[true, true, true, true, true, true, true, true, true, true, true, true, false, false, false, false, false, false, false, false, false, false, false, false, false, false, false, false, false, false, false, false, false, false, false, false, false, false, false, false, false, false, false, false, false]) (by kernel_rfl) ?_
  refine h_takeL (i := 12) (v := .bool true) hns rfl rfl (by kernel_rfl) (by kernel_rfl) hP (y_eqlT he0 rfl (by kernel_rfl) (by kernel_rfl) (by kernel_rfl)) hS rfl (L' := #[true, true, true, true, true, true, true, true, true, true, true, true, true, false, false, false, false, false, false, false, false, false, false, false, false, false, false, false, false, false, false, false, false, false, false, false, false, false, false, false, false, false, false, false, false]) (by kernel_rfl) ?_
  refine h_takeL (i := 13) (v := .bool true) hns rfl rfl (by kernel_rfl) (by kernel_rfl) hP (y_pick (b := true) rfl (by kernel_rfl) (by kernel_rfl) (by kernel_rfl)) hS rfl (L' := #[true, true, true, true, true, true, true, true, true, true, true, true, true, true, false, false, false, false, false, false, false, false, false, false, false, false, false, false, false, false, false, false, false, false, false, false, false, false, false, false, false, false, false, false, false]) (by kernel_rfl) ?_
  refine h_takeL (i := 14) (v := .bool true) hns rfl rfl (by kernel_rfl) (by kernel_rfl) hP (y_move rfl (by kernel_rfl) (by kernel_rfl)) hS rfl (L' := #[true, true, true, true, true, true, true, true, true, true, true, true, true, true, true, false, false, false, false, false, false, false, false, false, false, false, false, false, false, false, false, false, false, false, false, false, false, false, false, false, false, false, false, false, false]) (by kernel_rfl) ?_
  simp only [List.setIfInBounds_toArray, List.set_cons_zero, List.set_cons_succ]
  refine h_takeL (i := 15) (v := v4) hns rfl rfl (by kernel_rfl) (by kernel_rfl) hP (y_move rfl (by kernel_rfl) (by kernel_rfl)) hS rfl (L' := #[true, true, true, true, true, true, true, true, true, true, true, true, true, true, true, true, false, false, false, false, false, false, false, false, false, false, false, false, false, false, false, false, false, false, false, false, false, false, false, false, false, false, false, false, false]) (by kernel_rfl) ?_
  refine h_takeL (i := 16) (v := .string ⟨(l ++ (vb (zig s.size) ++ s.data.toList)).toArray⟩) hns rfl rfl (by kernel_rfl) (by kernel_rfl) hP (y_conv rfl (by kernel_rfl) (by kernel_rfl) (fun w' hw => conv_sl (hs4.below hw))) hS rfl (L' := #[true, true, true, true, true, true, true, true, true, true, true, true, true, true, true, true, true, false, false, false, false, false, false, false, false, false, false, false, false, false, false, false, false, false, false, false, false, false, false, false, false, false, false, false, false]) (by kernel_rfl) ?_
  refine h_takeL (i := 17) (v := .string ⟨l.toArray⟩) hns rfl rfl (by kernel_rfl) (by kernel_rfl) hP (y_move rfl (by kernel_rfl) (by kernel_rfl)) hS rfl (L' := #[true, true, true, true, true, true, true, true, true, true, true, true, true, true, true, true, true, true, false, false, false, false, false, false, false, false, false, false, false, false, false, false, false, false, false, false, false, false, false, false, false, false, false, false, false]) (by kernel_rfl) ?_
  refine h_takeL (i := 18) (v := .string s) hns rfl rfl (by kernel_rfl) (by kernel_rfl) hP (y_move rfl (by kernel_rfl) (by kernel_rfl)) hS rfl (L' := #[true, true, true, true, true, true, true, true, true, true, true, true, true, true, true, true, true, true, true, false, false, false, false, false, false, false, false, false, false, false, false, false, false, false, false, false, false, false, false, false, false, false, false, false, false]) (by kernel_rfl) ?_
  refine h_callL (i := 19) (f := 17) (args := #[.string s]) (by kernel_rfl) rfl rfl (by kernel_rfl) (enter_go rfl (by kernel_rfl) (fun w => by go_simp)) (L' := #[true, true, true, true, true, true, true, true, true, true, true, true, true, true, true, true, true, true, true, true, false, false, false, false, false, false, false, false, false, false, false, false, false, false, false, false, false, false, false, false, false, false, false, false, false]) (by kernel_rfl) ?_
  refine (refText_v s _ (by omega)).mono ?_
  rintro e wx ⟨vx, rfl, hsx, hBx⟩
  have hS2 : Below w6.heap.size w6 wx := Below.next hS hBx
  refine ⟨vx, rfl, hS2, ?_⟩
  clear hS hBx
  have hS := hS2
  clear hS2
  refine h_convL (i := 20) (by kernel_rfl) rfl rfl (by kernel_rfl) rfl (by kernel_rfl) (conv_sl hsx) hS rfl (L' := #[true, true, true, true, true, true, true, true, true, true, true, true, true, true, true, true, true, true, true, true, true, false, false, false, false, false, false, false, false, false, false, false, false, false, false, false, false, false, false, false, false, false, false, false, false]) (by kernel_rfl) ?_
  clear hsx
  refine h_takeL (i := 21) (v := .string (⟨l.toArray⟩ ++ ⟨((vb (zig s.size) ++ s.data.toList)).toArray⟩)) hns rfl rfl (by kernel_rfl) (by kernel_rfl) hP (y_add rfl (by kernel_rfl) (by kernel_rfl) (by kernel_rfl) hz1) hS rfl (L' := #[true, true, true, true, true, true, true, true, true, true, true, true, true, true, true, true, true, true, true, true, true, true, false, false, false, false, false, false, false, false, false, false, false, false, false, false, false, false, false, false, false, false, false, false, false]) (by kernel_rfl) ?_
  refine h_takeL (i := 22) (v := .bool true) hns rfl rfl (by kernel_rfl) (by kernel_rfl) hP (y_eqlT he1 rfl (by kernel_rfl) (by kernel_rfl) (by kernel_rfl)) hS rfl (L' := #[true, true, true, true, true, true, true, true, true, true, true, true, true, true, true, true, true, true, true, true, true, true, true, false, false, false, false, false, false, false, false, false, false, false, false, false, false, false, false, false, false, false, false, false, false]) (by kernel_rfl) ?_
  refine h_takeL (i := 23) (v := .bool true) hns rfl rfl (by kernel_rfl) (by kernel_rfl) hP (y_pick (b := true) rfl (by kernel_rfl) (by kernel_rfl) (by kernel_rfl)) hS rfl (L' := #[true, true, true, true, true, true, true, true, true, true, true, true, true, true, true, true, true, true, true, true, true, true, true, true, false, false, false, false, false, false, false, false, false, false, false, false, false, false, false, false, false, false, false, false, false]) (by kernel_rfl) ?_
  refine h_takeL (i := 24) (v := .bool true) hns rfl rfl (by kernel_rfl) (by kernel_rfl) hP (y_move rfl (by kernel_rfl) (by kernel_rfl)) hS rfl (L' := #[true, true, true, true, true, true, true, true, true, true, true, true, true, true, true, true, true, true, true, true, true, true, true, true, true, false, false, false, false, false, false, false, false, false, false, false, false, false, false, false, false, false, false, false, false]) (by kernel_rfl) ?_
  simp only [List.setIfInBounds_toArray, List.set_cons_zero, List.set_cons_succ]
  refine h_takeL (i := 25) (v := v5) hns rfl rfl (by kernel_rfl) (by kernel_rfl) hP (y_move rfl (by kernel_rfl) (by kernel_rfl)) hS rfl (L' := #[true, true, true, true, true, true, true, true, true, true, true, true, true, true, true, true, true, true, true, true, true, true, true, true, true, true, false, false, false, false, false, false, false, false, false, false, false, false, false, false, false, false, false, false, false]) (by kernel_rfl) ?_
  refine h_takeL (i := 26) (v := .string ⟨(l ++ kb n).toArray⟩) hns rfl rfl (by kernel_rfl) (by kernel_rfl) hP (y_conv rfl (by kernel_rfl) (by kernel_rfl) (fun w' hw => conv_sl (hs5.below hw))) hS rfl (L' := #[true, true, true, true, true, true, true, true, true, true, true, true, true, true, true, true, true, true, true, true, true, true, true, true, true, true, true, false, false, false, false, false, false, false, false, false, false, false, false, false, false, false, false, false, false]) (by kernel_rfl) ?_
  refine h_takeL (i := 27) (v := .string ⟨l.toArray⟩) hns rfl rfl (by kernel_rfl) (by kernel_rfl) hP (y_move rfl (by kernel_rfl) (by kernel_rfl)) hS rfl (L' := #[true, true, true, true, true, true, true, true, true, true, true, true, true, true, true, true, true, true, true, true, true, true, true, true, true, true, true, true, false, false, false, false, false, false, false, false, false, false, false, false, false, false, false, false, false]) (by kernel_rfl) ?_
  refine h_takeL (i := 28) (v := .int .i64 n) hns rfl rfl (by kernel_rfl) (by kernel_rfl) hP (y_move rfl (by kernel_rfl) (by kernel_rfl)) hS rfl (L' := #[true, true, true, true, true, true, true, true, true, true, true, true, true, true, true, true, true, true, true, true, true, true, true, true, true, true, true, true, true, false, false, false, false, false, false, false, false, false, false, false, false, false, false, false, false]) (by kernel_rfl) ?_
  refine h_callL (i := 29) (f := 18) (args := #[.int .i64 n]) (by kernel_rfl) rfl rfl (by kernel_rfl) (enter_go rfl (by kernel_rfl) (fun w => by go_simp)) (L' := #[true, true, true, true, true, true, true, true, true, true, true, true, true, true, true, true, true, true, true, true, true, true, true, true, true, true, true, true, true, true, false, false, false, false, false, false, false, false, false, false, false, false, false, false, false]) (by kernel_rfl) ?_
  refine (refKeyInt_v n _ n0 n1).mono ?_
  rintro e wx ⟨vx, rfl, hsx, hBx⟩
  have hS2 : Below w6.heap.size w6 wx := Below.next hS hBx
  refine ⟨vx, rfl, hS2, ?_⟩
  clear hS hBx
  have hS := hS2
  clear hS2
  refine h_convL (i := 30) (by kernel_rfl) rfl rfl (by kernel_rfl) rfl (by kernel_rfl) (conv_sl hsx) hS rfl (L' := #[true, true, true, true, true, true, true, true, true, true, true, true, true, true, true, true, true, true, true, true, true, true, true, true, true, true, true, true, true, true, true, false, false, false, false, false, false, false, false, false, false, false, false, false, false]) (by kernel_rfl) ?_
  clear hsx
  refine h_takeL (i := 31) (v := .string (⟨l.toArray⟩ ++ ⟨(kb n).toArray⟩)) hns rfl rfl (by kernel_rfl) (by kernel_rfl) hP (y_add rfl (by kernel_rfl) (by kernel_rfl) (by kernel_rfl) hz2) hS rfl (L' := #[true, true, true, true, true, true, true, true, true, true, true, true, true, true, true, true, true, true, true, true, true, true, true, true, true, true, true, true, true, true, true, true, false, false, false, false, false, false, false, false, false, false, false, false, false]) (by kernel_rfl) ?_
  refine h_takeL (i := 32) (v := .bool true) hns rfl rfl (by kernel_rfl) (by kernel_rfl) hP (y_eqlT he2 rfl (by kernel_rfl) (by kernel_rfl) (by kernel_rfl)) hS rfl (L' := #[true, true, true, true, true, true, true, true, true, true, true, true, true, true, true, true, true, true, true, true, true, true, true, true, true, true, true, true, true, true, true, true, true, false, false, false, false, false, false, false, false, false, false, false, false]) (by kernel_rfl) ?_
  refine h_takeL (i := 33) (v := .bool true) hns rfl rfl (by kernel_rfl) (by kernel_rfl) hP (y_pick (b := true) rfl (by kernel_rfl) (by kernel_rfl) (by kernel_rfl)) hS rfl (L' := #[true, true, true, true, true, true, true, true, true, true, true, true, true, true, true, true, true, true, true, true, true, true, true, true, true, true, true, true, true, true, true, true, true, true, false, false, false, false, false, false, false, false, false, false, false]) (by kernel_rfl) ?_
  refine h_takeL (i := 34) (v := .bool true) hns rfl rfl (by kernel_rfl) (by kernel_rfl) hP (y_move rfl (by kernel_rfl) (by kernel_rfl)) hS rfl (L' := #[true, true, true, true, true, true, true, true, true, true, true, true, true, true, true, true, true, true, true, true, true, true, true, true, true, true, true, true, true, true, true, true, true, true, true, false, false, false, false, false, false, false, false, false, false]) (by kernel_rfl) ?_
  simp only [List.setIfInBounds_toArray, List.set_cons_zero, List.set_cons_succ]
  refine h_takeL (i := 35) (v := v6) hns rfl rfl (by kernel_rfl) (by kernel_rfl) hP (y_move rfl (by kernel_rfl) (by kernel_rfl)) hS rfl (L' := #[true, true, true, true, true, true, true, true, true, true, true, true, true, true, true, true, true, true, true, true, true, true, true, true, true, true, true, true, true, true, true, true, true, true, true, true, false, false, false, false, false, false, false, false, false]) (by kernel_rfl) ?_
  refine h_takeL (i := 36) (v := .string ⟨(l ++ kt s.data.toList).toArray⟩) hns rfl rfl (by kernel_rfl) (by kernel_rfl) hP (y_conv rfl (by kernel_rfl) (by kernel_rfl) (fun w' hw => conv_sl (hs6.below hw))) hS rfl (L' := #[true, true, true, true, true, true, true, true, true, true, true, true, true, true, true, true, true, true, true, true, true, true, true, true, true, true, true, true, true, true, true, true, true, true, true, true, true, false, false, false, false, false, false, false, false]) (by kernel_rfl) ?_
  refine h_takeL (i := 37) (v := .string ⟨l.toArray⟩) hns rfl rfl (by kernel_rfl) (by kernel_rfl) hP (y_move rfl (by kernel_rfl) (by kernel_rfl)) hS rfl (L' := #[true, true, true, true, true, true, true, true, true, true, true, true, true, true, true, true, true, true, true, true, true, true, true, true, true, true, true, true, true, true, true, true, true, true, true, true, true, true, false, false, false, false, false, false, false]) (by kernel_rfl) ?_
  refine h_takeL (i := 38) (v := .string s) hns rfl rfl (by kernel_rfl) (by kernel_rfl) hP (y_move rfl (by kernel_rfl) (by kernel_rfl)) hS rfl (L' := #[true, true, true, true, true, true, true, true, true, true, true, true, true, true, true, true, true, true, true, true, true, true, true, true, true, true, true, true, true, true, true, true, true, true, true, true, true, true, true, false, false, false, false, false, false]) (by kernel_rfl) ?_
  refine h_callL (i := 39) (f := 19) (args := #[.string s]) (by kernel_rfl) rfl rfl (by kernel_rfl) (enter_go rfl (by kernel_rfl) (fun w => by go_simp)) (L' := #[true, true, true, true, true, true, true, true, true, true, true, true, true, true, true, true, true, true, true, true, true, true, true, true, true, true, true, true, true, true, true, true, true, true, true, true, true, true, true, true, false, false, false, false, false]) (by kernel_rfl) ?_
  refine (refKeyText_v s _ (by omega)).mono ?_
  rintro e wx ⟨vx, rfl, hsx, hBx⟩
  have hS2 : Below w6.heap.size w6 wx := Below.next hS hBx
  refine ⟨vx, rfl, hS2, ?_⟩
  clear hS hBx
  have hS := hS2
  clear hS2
  refine h_convL (i := 40) (by kernel_rfl) rfl rfl (by kernel_rfl) rfl (by kernel_rfl) (conv_sl hsx) hS rfl (L' := #[true, true, true, true, true, true, true, true, true, true, true, true, true, true, true, true, true, true, true, true, true, true, true, true, true, true, true, true, true, true, true, true, true, true, true, true, true, true, true, true, true, false, false, false, false]) (by kernel_rfl) ?_
  clear hsx
  refine h_takeL (i := 41) (v := .string (⟨l.toArray⟩ ++ ⟨(kt s.data.toList).toArray⟩)) hns rfl rfl (by kernel_rfl) (by kernel_rfl) hP (y_add rfl (by kernel_rfl) (by kernel_rfl) (by kernel_rfl) hz3) hS rfl (L' := #[true, true, true, true, true, true, true, true, true, true, true, true, true, true, true, true, true, true, true, true, true, true, true, true, true, true, true, true, true, true, true, true, true, true, true, true, true, true, true, true, true, true, false, false, false]) (by kernel_rfl) ?_
  refine h_takeL (i := 42) (v := .bool true) hns rfl rfl (by kernel_rfl) (by kernel_rfl) hP (y_eqlT he3 rfl (by kernel_rfl) (by kernel_rfl) (by kernel_rfl)) hS rfl (L' := #[true, true, true, true, true, true, true, true, true, true, true, true, true, true, true, true, true, true, true, true, true, true, true, true, true, true, true, true, true, true, true, true, true, true, true, true, true, true, true, true, true, true, true, false, false]) (by kernel_rfl) ?_
  refine h_takeL (i := 43) (v := .bool true) hns rfl rfl (by kernel_rfl) (by kernel_rfl) hP (y_pick (b := true) rfl (by kernel_rfl) (by kernel_rfl) (by kernel_rfl)) hS rfl (L' := #[true, true, true, true, true, true, true, true, true, true, true, true, true, true, true, true, true, true, true, true, true, true, true, true, true, true, true, true, true, true, true, true, true, true, true, true, true, true, true, true, true, true, true, true, false]) (by kernel_rfl) ?_
  refine h_takeL (i := 44) (v := .bool true) hns rfl rfl (by kernel_rfl) (by kernel_rfl) hP (y_assign rfl (by kernel_rfl) (by kernel_rfl)) hS rfl (L' := #[true, true, true, true, true, true, true, true, true, true, true, true, true, true, true, true, true, true, true, true, true, true, true, true, true, true, true, true, true, true, true, true, true, true, true, true, true, true, true, true, true, true, true, true, true]) (by kernel_rfl) ?_
  simp only [List.setIfInBounds_toArray, List.set_cons_zero, List.set_cons_succ]
  refine wpAnyH_done (by kernel_rfl) ?_ _
  refine hN _ _ ?_
  clear hP hN
  go_wp2_with fail
  exact ⟨rfl, .bool true, by kernel_rfl, rfl, Below.next hB6' hS⟩
end Go.Proofs.YtpflajehakiloaaDoor
