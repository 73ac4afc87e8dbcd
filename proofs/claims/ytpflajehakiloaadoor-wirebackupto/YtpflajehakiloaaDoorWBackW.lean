/- The walk of WireBack. -/
import Derived.Test.YtpflajehakiloaaDoorWBackMath
import Derived.Test.YtpflajehakiloaaDoorWHeld
import Derived.Deep.RegionWith
import Derived.Deep.DrawnRows
import Derived.Deep.DeepCutAuto
import Derived.BigQuiet
import Derived.BigCall
import Derived.BigGuard
namespace Go.Proofs.YtpflajehakiloaaDoor
open Go Go.RowKit
attribute [local go_sem ↓] Go.wp_at_zero Go.wp_at_succ

theorem bI_tri (o : Option (Int × Nat)) (at_ : Int) : ∃ n k b, outI o at_ = .tuple #[.int .i64 n, .int .i64 k, .bool b] := by
  cases o with
  | none => exact ⟨_, _, _, rfl⟩
  | some p => exact ⟨_, _, _, rfl⟩
theorem bS_tri (o : Option (List UInt8 × Nat)) (at_ : Int) : ∃ t k b, outS o at_ = .tuple #[.string t, .int .i64 k, .bool b] := by
  cases o with
  | none => exact ⟨_, _, _, rfl⟩
  | some p => exact ⟨_, _, _, rfl⟩
theorem outI_inv {o : Option (Int × Nat)} {at_ u r : Int} {f : Bool} (h : outI o at_ = .tuple #[.int .i64 u, .int .i64 r, .bool f]) : f = false ∨ f = true ∧ ∃ k : Nat, o = some (u, k) ∧ r = at_ + k := by
  cases o with
  | none => unfold outI tri at h; simp at h; exact .inl h.2.2
  | some p =>
    unfold outI tri at h; simp at h
    exact .inr ⟨h.2.2, p.2, by rw [← h.1], by omega⟩
theorem outS_inv {o : Option (List UInt8 × Nat)} {at_ r : Int} {t : ByteArray} {f : Bool} (h : outS o at_ = .tuple #[.string t, .int .i64 r, .bool f]) : f = false ∨ f = true ∧ ∃ k : Nat, o = some (t.data.toList, k) ∧ r = at_ + k := by
  cases o with
  | none => unfold outS triS at h; simp at h; exact .inl h.2.2
  | some p =>
    unfold outS triS at h; simp at h
    refine .inr ⟨h.2.2, p.2, ?_, by omega⟩
    have : p.1 = t.data.toList := by rw [← h.1]
    rw [← this]

theorem y_eqlT {ops : Array Oper} {S : World → Prop} {o : Oper} {a : Act} {x y : Operand} {s t : ByteArray} (he : (s.toList == t.toList) = true) (hop : o.op = .binOp .eql 9 x y 9) (hw : Region.wanted o (yielded ops a.tmps) = true) (hx : a.eval x = .string s) (hy : a.eval y = .string t) :
    YieldsIf Tryd.prog ops S o (.bool true) a := by
  have h := y_eql (S := S) hop hw hx hy
  rw [he] at h
  exact h

set_option maxRecDepth 100000 in
set_option maxHeartbeats 8000000 in
theorem wireBack_walk (n : Int) (s : ByteArray) (m : Int) (t : ByteArray) (a : Option Addr) (l : List UInt8) (cap : Nat) (at_ : Int) (w : World) (ht : Tab w) (n0 : -9223372036854775808 ≤ n) (n1 : n ≤ 9223372036854775807) (_hs : s.size ≤ 140737488351232) (m0 : -9223372036854775808 ≤ m) (m1 : m ≤ 9223372036854775807)
    (_hts : t.size ≤ 140737488351232) (hv : Sl w (.slice a l.length cap) l) (_hl : l.length ≤ 140737488351232) (_a0 : -9223372036854775808 ≤ at_) (_a1 : at_ ≤ 9223372036854775807) (hup : s.data.size + t.data.size + l.length ≤ 1048576) :
    Calls Tryd.prog 6 #[.int .i64 n, .string s, .int .i64 m, .string t, .slice a l.length cap, .int .i64 at_] w fun e w' => e = .returned (.bool true) ∧ Below w.heap.size w w' := by
  have HT := hid ht
  have HV := hid hv
  have hss : s.data.toList.length = s.size := by rw [Array.length_toList]; rfl
  have htt : t.data.toList.length = t.size := by rw [Array.length_toList]; rfl
  have hup' : s.size + t.size + l.length ≤ 1048576 := hup
  have hks : (kt s.data.toList).length ≤ 2 * s.size + 2 := by have := kt_len_le s.data.toList; rw [hss] at this; exact this
  have hkt : (kt t.data.toList).length ≤ 2 * t.size + 2 := by have := kt_len_le t.data.toList; rw [htt] at this; exact this
  have hvn := zvb_len n0 n1
  have hvm := zvb_len m0 m1
  have hvs := zvb_len (n := (s.size : Int)) (by omega) (by omega)
  have hvt := zvb_len (n := (t.size : Int)) (by omega) (by omega)
  have HSS := hid hss
  have HTT := hid htt
  clear ht hv hss htt hup
  go_enter Tryd.func6, Tryd.ntmps6
  go_wp2_with fail
  refine (shown_any w HT.out).mono ?_
  rintro e w1 ⟨rfl, hB1⟩
  go_wp2_with fail
  refine (putInt_v _ [] n w1 (Sl.nil w1) n0 n1 (by simp)).mono ?_
  rintro e w2 ⟨v2, rfl, hs2, hB2⟩
  have hB2 := Below.next hB1 hB2
  clear hB1
  go_wp2_with fail
  refine (putText_v v2 _ s w2 hs2 (by simp; omega)).mono ?_
  rintro e w3 ⟨v3, rfl, hs3, hB3⟩
  have hB3 := Below.next hB2 hB3
  clear hB2 hs2
  go_wp2_with fail
  refine (putInt_v v3 _ m w3 hs3 m0 m1 (by simp [HSS.out]; omega)).mono ?_
  rintro e w4 ⟨v4, rfl, hs4, hB4⟩
  have hB4 := Below.next hB3 hB4
  clear hB3 hs3
  go_wp2_with fail
  refine (putText_v v4 _ t w4 hs4 (by simp [HSS.out]; omega)).mono ?_
  rintro e w5 ⟨v5, rfl, hs5, hB5⟩
  have hB5 := Below.next hB4 hB5
  clear hB4 hs4
  generalize hX : [] ++ vb (zig n) ++ vb (zig s.size) ++ s.data.toList ++ vb (zig m) ++ vb (zig t.size) ++ t.data.toList = X at hs5
  rw [List.nil_append] at hX
  have hXl : X.length ≤ 1048676 := by rw [← hX]; simp only [List.length_append, HSS.out, HTT.out]; omega
  obtain ⟨i1, j1, k1, x1, x2, x3, x4⟩ := back_puts n m s.data.toList t.data.toList n0 n1 m0 m1 (by rw [HSS.out]; omega) (by rw [HTT.out]; omega) X (by rw [HSS.out, HTT.out]; exact hX.symm)
  rw [HSS.out] at x2
  rw [HTT.out] at x4
  have HX1 := hid x1
  have HX2 := hid x2
  have HX3 := hid x3
  have HX4 := hid x4
  clear x1 x2 x3 x4 hX
  have HS5 := hid hs5
  obtain ⟨a5, cap5, rfl, q5, -, -⟩ := hs5
  go_wp2_with fail
  refine (takeInt_v _ X 0 w5 HS5.out (by omega)).mono ?_
  rintro e w5 ⟨rfl, rfl⟩
  rw [HX1.out]
  go_wp2_with fail
  refine (takeText_v _ X i1 (s.size : Int) w5 HS5.out (by omega)).mono ?_
  rintro e w5 ⟨rfl, rfl⟩
  rw [HX2.out]
  go_wp2_with fail
  refine (takeInt_v _ X j1 w5 HS5.out (by omega)).mono ?_
  rintro e w5 ⟨rfl, rfl⟩
  rw [HX3.out]
  go_wp2_with fail
  refine (takeText_v _ X k1 (t.size : Int) w5 HS5.out (by omega)).mono ?_
  rintro e w5 ⟨rfl, rfl⟩
  rw [HX4.out]
  go_wp2_with fail
  refine (keyText_v _ [] s w5 (Sl.nil w5) (by simp; omega)).mono ?_
  rintro e w6 ⟨v6, rfl, hs6, hB6⟩
  have hB6 := Below.next hB5 hB6
  clear hB5
  go_wp2_with fail
  refine (keyInt_v v6 _ n w6 hs6 n0 n1 (by simp; omega)).mono ?_
  rintro e w7 ⟨v7, rfl, hs7, hB7⟩
  have hB7 := Below.next hB6 hB7
  clear hB6 hs6
  go_wp2_with fail
  refine (keyText_v v7 _ t w7 hs7 (by simp [kb_len]; omega)).mono ?_
  rintro e w8 ⟨v8, rfl, hs8, hB8⟩
  have hB8 := Below.next hB7 hB8
  clear hB7 hs7
  generalize hY : [] ++ kt s.data.toList ++ kb n ++ kt t.data.toList = Y at hs8
  rw [List.nil_append] at hY
  have hYl : Y.length ≤ 4194400 := by rw [← hY]; simp only [List.length_append, kb_len]; omega
  obtain ⟨o1, p1, y1, y2, y3⟩ := back_keys n s.data.toList t.data.toList n0 n1 Y hY.symm
  have HY1 := hid y1
  have HY2 := hid y2
  have HY3 := hid y3
  clear y1 y2 y3 hY
  have hky : ∀ i : Nat, kcnt (Y.drop i) ≤ 140737488355328 := fun i => by
    have := kcnt_le _ (Y.drop i) (Nat.le_refl _)
    rw [List.length_drop] at this
    omega
  have HKY := hid hky
  clear hky
  have HS8 := hid hs8
  obtain ⟨a8, cap8, rfl, q8, -, -⟩ := hs8
  go_wp2_with fail
  refine (takeKeyText_v _ Y 0 w8 HS8.out (by omega) (HKY.out _)).mono ?_
  rintro e w9 ⟨rfl, hB9⟩
  rw [HY1.out]
  have HS9 := hid (HS8.out.below hB9)
  have hB9 := Below.next hB8 hB9
  clear hB8
  go_wp2_with fail
  refine (takeKeyInt_v _ Y o1 w9 HS9.out (by omega)).mono ?_
  rintro e w9 ⟨rfl, rfl⟩
  rw [HY2.out]
  go_wp2_with fail
  refine (takeKeyText_v _ Y p1 w9 HS9.out (by omega) (HKY.out _)).mono ?_
  rintro e w10 ⟨rfl, hB10⟩
  rw [HY3.out]
  have hB10 := Below.next hB9 hB10
  clear hB9
  obtain ⟨u1, r1, f1, hf1⟩ := bI_tri (tInt l at_) at_
  have HF1 := hid hf1
  clear hf1
  go_wp2_with fail
  refine (takeInt_v _ l at_ w10 (HV.out.below hB10) (by omega)).mono ?_
  rintro e wc ⟨rfl, rfl⟩
  rw [HF1.out]
  clear HX1 HX2 HX3 HX4 HY1 HY2 HY3 HKY HS5 HS8 HS9 q5 q8 hXl hYl hks hkt hvn hvm hvs hvt HSS HTT
  clear n0 n1 m0 m1 _hs _hts
  go_upto_region 16 with fail
  go_cut [201] (fun c wx => c = .bool false ∧ Below w.heap.size w wx)
  case first =>
    rcases outI_inv HF1.out with rfl | ⟨rfl, k, hk, rfl⟩
    · go_region
      all_goals
        go_wp2_with fail
        go_meet
        exact ⟨rfl, hB10.drew⟩
    · obtain ⟨hat0, _, _, hne⟩ := tInt_len hk
      obtain ⟨j, rfl⟩ := Int.eq_ofNat_of_zero_le hat0
      obtain ⟨⟨g0, g1⟩, htk, hjk, hk1⟩ := again_int hk
      obtain ⟨a', cap', he, hcap, _, h4⟩ := HV.out
      cases he
      obtain ⟨b, off, rfl, hr⟩ := h4 hne
      have HR := hid hr
      have hneq : (!((⟨(vb (zig u1)).toArray⟩ : ByteArray).toList == (⟨((l.drop j).take k).toArray⟩ : ByteArray).toList)) = false := by rw [htk]; simp
      have hcv : ∀ w', Below wc.heap.size wc w' → (convert 22 9 (.slice (some ⟨b, off + j, none⟩) k (cap - j))).run Tryd.prog w' = .ok (.string ⟨((l.drop j).take k).toArray⟩) w' := fun w' hw => conv_sub ((HR.out.below hB10).below hw) j k hjk hcap (by omega)
      have hS : Below wc.heap.size wc wc.drew := (Below.refl _ _).drew
      refine h_open (S := fun w' => Below wc.heap.size wc w') (by kernel_rfl) (fun _ _ _ _ _ h => h) ?_
      intro Q' hP hN
      refine h_take (i := 0) (v := .bool true) rfl rfl (by kernel_rfl) (by kernel_rfl) (by kernel_rfl) hP (y_move rfl (by kernel_rfl) (by kernel_rfl)) hS rfl ?_
      refine h_take (i := 1) (v := .bool true) rfl rfl (by kernel_rfl) (by kernel_rfl) (by kernel_rfl) hP (y_move rfl (by kernel_rfl) (by kernel_rfl)) hS rfl ?_
      refine h_take (i := 2) (v := .int .i64 u1) rfl rfl (by kernel_rfl) (by kernel_rfl) (by kernel_rfl) hP (y_move rfl (by kernel_rfl) (by kernel_rfl)) hS rfl ?_
      refine h_take (i := 5) (v := .slice (some ⟨b, off, none⟩) l.length cap) rfl rfl (by kernel_rfl) (by kernel_rfl) (by kernel_rfl) hP (y_move rfl (by kernel_rfl) (by kernel_rfl)) hS rfl ?_
      refine h_take (i := 6) (v := .int .i64 (j : Int)) rfl rfl (by kernel_rfl) (by kernel_rfl) (by kernel_rfl) hP (y_move rfl (by kernel_rfl) (by kernel_rfl)) hS rfl ?_
      refine h_take (i := 7) (v := .int .i64 ((j : Int) + (k : Int))) rfl rfl (by kernel_rfl) (by kernel_rfl) (by kernel_rfl) hP (y_move rfl (by kernel_rfl) (by kernel_rfl)) hS rfl ?_
      refine h_take (i := 8) (v := .slice (some ⟨b, off + j, none⟩) k (cap - j)) rfl rfl (by kernel_rfl) (by kernel_rfl) (by kernel_rfl) hP (y_slice (b := b) (off := off) (n := l.length) (cap := cap) (j := j) (k := k) rfl (by kernel_rfl) (by kernel_rfl) (by kernel_rfl) (by kernel_rfl) (by omega) (by omega)) hS rfl ?_
      refine h_take (i := 9) (v := .string ⟨((l.drop j).take k).toArray⟩) rfl rfl (by kernel_rfl) (by kernel_rfl) (by kernel_rfl) hP (y_conv rfl (by kernel_rfl) (by kernel_rfl) hcv) hS rfl ?_
      refine h_call2 (i := 3) (f := 11) (args := #[.slice none 0 0, .int .i64 u1]) (by kernel_rfl) rfl rfl (by kernel_rfl) (enter_go rfl (by kernel_rfl) (fun w => by go_simp)) ?_
      refine (putInt_v _ [] u1 _ (Sl.nil _) g0 g1 (by simp)).mono ?_
      rintro e w11 ⟨v11, rfl, hs11, hB11⟩
      rw [List.nil_append] at hs11
      have hS2 : Below wc.heap.size wc w11 := Below.next hS hB11
      refine ⟨v11, rfl, hS2, ?_⟩
      clear hS
      have hS := hS2
      refine h_conv2 (i := 4) (by kernel_rfl) rfl rfl (by kernel_rfl) rfl (by kernel_rfl) (conv_sl hs11) hS rfl ?_
      refine h_take (i := 10) (v := .bool false) rfl rfl (by kernel_rfl) (by kernel_rfl) (by kernel_rfl) hP (hneq ▸ y_neq rfl (by kernel_rfl) (by kernel_rfl) (by kernel_rfl)) hS rfl ?_
      refine h_take (i := 11) (v := .bool false) rfl rfl (by kernel_rfl) (by kernel_rfl) (by kernel_rfl) hP (y_pick (b := true) rfl (by kernel_rfl) (by kernel_rfl) (by kernel_rfl)) hS rfl ?_
      refine wpAnyH_done (by kernel_rfl) ?_ _
      refine hN _ _ ?_
      clear hP hN
      simp only [List.setIfInBounds_toArray, List.set_cons_zero, List.set_cons_succ]
      go_wp2_with fail
      go_meet
      exact ⟨rfl, Below.next hB10 hS⟩
  case rest =>
  clear hB10
  obtain ⟨rfl, hB10⟩ := hcut
  obtain ⟨u2, r2, f2, hf2⟩ := bS_tri (tText l at_ l.length) at_
  have HF2 := hid hf2
  clear hf2
  go_wp2_with fail
  refine (takeText_v _ l at_ (l.length : Int) _ (HV.out.below hB10) (by omega)).mono ?_
  rintro e wc ⟨rfl, rfl⟩
  rw [HF2.out]
  go_upto_region 19 with fail
  go_cut [222] (fun c wx => c = .bool false ∧ Below w.heap.size w wx)
  case first =>
    rcases outS_inv HF2.out with rfl | ⟨rfl, k, hk, rfl⟩
    · go_region
      all_goals
        go_wp2_with fail
        go_meet
        exact ⟨rfl, hB10.drew⟩
    · skip
      obtain ⟨hat0, hne⟩ := tText_nn hk
      obtain ⟨j, rfl⟩ := Int.eq_ofNat_of_zero_le hat0
      obtain ⟨htk, hjk, hk1, htl⟩ := again_text hk
      obtain ⟨a', cap', he, hcap, _, h4⟩ := HV.out
      cases he
      obtain ⟨b, off, rfl, hr⟩ := h4 hne
      have HR := hid hr
      have hsz : u2.data.toList.length = u2.size := by rw [Array.length_toList]; rfl
      rw [hsz] at htk htl
      have hneq : (!((⟨(vb (zig u2.size) ++ u2.data.toList).toArray⟩ : ByteArray).toList == (⟨((l.drop j).take k).toArray⟩ : ByteArray).toList)) = false := by rw [htk]; simp
      have hcv : ∀ w', Below wc.heap.size wc w' → (convert 22 9 (.slice (some ⟨b, off + j, none⟩) k (cap - j))).run Tryd.prog w' = .ok (.string ⟨((l.drop j).take k).toArray⟩) w' := fun w' hw => conv_sub ((HR.out.below hB10).below hw) j k hjk hcap (by omega)
      have hS : Below wc.heap.size wc wc.drew := (Below.refl _ _).drew
      refine h_open (S := fun w' => Below wc.heap.size wc w') (by kernel_rfl) (fun _ _ _ _ _ h => h) ?_
      intro Q' hP hN
      refine h_take (i := 0) (v := .bool true) rfl rfl (by kernel_rfl) (by kernel_rfl) (by kernel_rfl) hP (y_move rfl (by kernel_rfl) (by kernel_rfl)) hS rfl ?_
      refine h_take (i := 1) (v := .bool true) rfl rfl (by kernel_rfl) (by kernel_rfl) (by kernel_rfl) hP (y_move rfl (by kernel_rfl) (by kernel_rfl)) hS rfl ?_
      refine h_take (i := 2) (v := .string u2) rfl rfl (by kernel_rfl) (by kernel_rfl) (by kernel_rfl) hP (y_move rfl (by kernel_rfl) (by kernel_rfl)) hS rfl ?_
      refine h_take (i := 5) (v := .slice (some ⟨b, off, none⟩) l.length cap) rfl rfl (by kernel_rfl) (by kernel_rfl) (by kernel_rfl) hP (y_move rfl (by kernel_rfl) (by kernel_rfl)) hS rfl ?_
      refine h_take (i := 6) (v := .int .i64 (j : Int)) rfl rfl (by kernel_rfl) (by kernel_rfl) (by kernel_rfl) hP (y_move rfl (by kernel_rfl) (by kernel_rfl)) hS rfl ?_
      refine h_take (i := 7) (v := .int .i64 ((j : Int) + (k : Int))) rfl rfl (by kernel_rfl) (by kernel_rfl) (by kernel_rfl) hP (y_move rfl (by kernel_rfl) (by kernel_rfl)) hS rfl ?_
      refine h_take (i := 8) (v := .slice (some ⟨b, off + j, none⟩) k (cap - j)) rfl rfl (by kernel_rfl) (by kernel_rfl) (by kernel_rfl) hP (y_slice (b := b) (off := off) (n := l.length) (cap := cap) (j := j) (k := k) rfl (by kernel_rfl) (by kernel_rfl) (by kernel_rfl) (by kernel_rfl) (by omega) (by omega)) hS rfl ?_
      refine h_take (i := 9) (v := .string ⟨((l.drop j).take k).toArray⟩) rfl rfl (by kernel_rfl) (by kernel_rfl) (by kernel_rfl) hP (y_conv rfl (by kernel_rfl) (by kernel_rfl) hcv) hS rfl ?_
      refine h_call2 (i := 3) (f := 12) (args := #[.slice none 0 0, .string u2]) (by kernel_rfl) rfl rfl (by kernel_rfl) (enter_go rfl (by kernel_rfl) (fun w => by go_simp)) ?_
      refine (putText_v _ [] u2 _ (Sl.nil _) (by simp; omega)).mono ?_
      rintro e w11 ⟨v11, rfl, hs11, hB11⟩
      rw [List.nil_append] at hs11
      have hS2 : Below wc.heap.size wc w11 := Below.next hS hB11
      refine ⟨v11, rfl, hS2, ?_⟩
      clear hS
      have hS := hS2
      refine h_conv2 (i := 4) (by kernel_rfl) rfl rfl (by kernel_rfl) rfl (by kernel_rfl) (conv_sl hs11) hS rfl ?_
      refine h_take (i := 10) (v := .bool false) rfl rfl (by kernel_rfl) (by kernel_rfl) (by kernel_rfl) hP (hneq ▸ y_neq rfl (by kernel_rfl) (by kernel_rfl) (by kernel_rfl)) hS rfl ?_
      refine h_take (i := 11) (v := .bool false) rfl rfl (by kernel_rfl) (by kernel_rfl) (by kernel_rfl) hP (y_pick (b := true) rfl (by kernel_rfl) (by kernel_rfl) (by kernel_rfl)) hS rfl ?_
      refine wpAnyH_done (by kernel_rfl) ?_ _
      refine hN _ _ ?_
      clear hP hN
      simp only [List.setIfInBounds_toArray, List.set_cons_zero, List.set_cons_succ]
      go_wp2_with fail
      go_meet
      exact ⟨rfl, Below.next hB10 hS⟩
  case rest =>
  clear hB10
  obtain ⟨rfl, hB10⟩ := hcut
  obtain ⟨u3, r3, f3, hf3⟩ := bS_tri (tKT l at_) at_
  have HF3 := hid hf3
  clear hf3
  have hkl := kcnt_le _ (l.drop at_.toNat) (Nat.le_refl _)
  rw [List.length_drop] at hkl
  have HKL := hid hkl
  clear hkl
  go_wp2_with fail
  refine (takeKeyText_v _ l at_ _ (HV.out.below hB10) (by omega) (by have := HKL.out; omega)).mono ?_
  rintro e wc ⟨rfl, hB13⟩
  have hB13 := Below.next hB10 hB13
  rw [HF3.out]
  clear hB10
  have hB10 := hB13
  go_upto_region 22 with fail
  rcases outS_inv HF3.out with rfl | ⟨rfl, k, hk, rfl⟩
  · go_region
    all_goals
      go_wp2_with fail
      exact ⟨rfl, .bool true, by kernel_rfl, rfl, hB10.drew⟩
  · skip
    obtain ⟨hat0, hne⟩ := tKT_nn hk
    obtain ⟨j, rfl⟩ := Int.eq_ofNat_of_zero_le hat0
    obtain ⟨htk, hjk, hk1, htl⟩ := again_key hk
    obtain ⟨a', cap', he, hcap, _, h4⟩ := HV.out
    cases he
    obtain ⟨b, off, rfl, hr⟩ := h4 hne
    have HR := hid hr
    have heq : ((⟨(kt u3.data.toList).toArray⟩ : ByteArray).toList == (⟨((l.drop j).take k).toArray⟩ : ByteArray).toList) = true := by rw [htk]; simp
    have hcv : ∀ w', Below wc.heap.size wc w' → (convert 22 9 (.slice (some ⟨b, off + j, none⟩) k (cap - j))).run Tryd.prog w' = .ok (.string ⟨((l.drop j).take k).toArray⟩) w' := fun w' hw => conv_sub ((HR.out.below hB10).below hw) j k hjk hcap (by omega)
    have hS : Below wc.heap.size wc wc.drew := (Below.refl _ _).drew
    refine h_open (S := fun w' => Below wc.heap.size wc w') (by kernel_rfl) (fun _ _ _ _ _ h => h) ?_
    intro Q' hP hN
    refine h_take (i := 0) (v := .bool true) rfl rfl (by kernel_rfl) (by kernel_rfl) (by kernel_rfl) hP (y_move rfl (by kernel_rfl) (by kernel_rfl)) hS rfl ?_
    refine h_take (i := 1) (v := .bool true) rfl rfl (by kernel_rfl) (by kernel_rfl) (by kernel_rfl) hP (y_move rfl (by kernel_rfl) (by kernel_rfl)) hS rfl ?_
    refine h_take (i := 2) (v := .bool true) rfl rfl (by kernel_rfl) (by kernel_rfl) (by kernel_rfl) hP (y_move rfl (by kernel_rfl) (by kernel_rfl)) hS rfl ?_
    refine h_take (i := 3) (v := .bool false) rfl rfl (by kernel_rfl) (by kernel_rfl) (by kernel_rfl) hP (y_not (b := true) rfl (by kernel_rfl) (by kernel_rfl)) hS rfl ?_
    refine h_take (i := 4) (v := .bool false) rfl rfl (by kernel_rfl) (by kernel_rfl) (by kernel_rfl) hP (y_move rfl (by kernel_rfl) (by kernel_rfl)) hS rfl ?_
    refine h_take (i := 5) (v := .string u3) rfl rfl (by kernel_rfl) (by kernel_rfl) (by kernel_rfl) hP (y_move rfl (by kernel_rfl) (by kernel_rfl)) hS rfl ?_
    refine h_take (i := 8) (v := .slice (some ⟨b, off, none⟩) l.length cap) rfl rfl (by kernel_rfl) (by kernel_rfl) (by kernel_rfl) hP (y_move rfl (by kernel_rfl) (by kernel_rfl)) hS rfl ?_
    refine h_take (i := 9) (v := .int .i64 (j : Int)) rfl rfl (by kernel_rfl) (by kernel_rfl) (by kernel_rfl) hP (y_move rfl (by kernel_rfl) (by kernel_rfl)) hS rfl ?_
    refine h_take (i := 10) (v := .int .i64 ((j : Int) + (k : Int))) rfl rfl (by kernel_rfl) (by kernel_rfl) (by kernel_rfl) hP (y_move rfl (by kernel_rfl) (by kernel_rfl)) hS rfl ?_
    refine h_take (i := 11) (v := .slice (some ⟨b, off + j, none⟩) k (cap - j)) rfl rfl (by kernel_rfl) (by kernel_rfl) (by kernel_rfl) hP (y_slice (b := b) (off := off) (n := l.length) (cap := cap) (j := j) (k := k) rfl (by kernel_rfl) (by kernel_rfl) (by kernel_rfl) (by kernel_rfl) (by omega) (by omega)) hS rfl ?_
    refine h_take (i := 12) (v := .string ⟨((l.drop j).take k).toArray⟩) rfl rfl (by kernel_rfl) (by kernel_rfl) (by kernel_rfl) hP (y_conv rfl (by kernel_rfl) (by kernel_rfl) hcv) hS rfl ?_
    refine h_call2 (i := 6) (f := 14) (args := #[.slice none 0 0, .string u3]) (by kernel_rfl) rfl rfl (by kernel_rfl) (enter_go rfl (by kernel_rfl) (fun w => by go_simp)) ?_
    refine (keyText_v _ [] u3 _ (Sl.nil _) (by simp; omega)).mono ?_
    rintro e w11 ⟨v11, rfl, hs11, hB11⟩
    rw [List.nil_append] at hs11
    have hS2 : Below wc.heap.size wc w11 := Below.next hS hB11
    refine ⟨v11, rfl, hS2, ?_⟩
    clear hS
    have hS := hS2
    refine h_conv2 (i := 7) (by kernel_rfl) rfl rfl (by kernel_rfl) rfl (by kernel_rfl) (conv_sl hs11) hS rfl ?_
    refine h_take (i := 13) (v := .bool true) rfl rfl (by kernel_rfl) (by kernel_rfl) (by kernel_rfl) hP (y_eqlT heq rfl (by kernel_rfl) (by kernel_rfl) (by kernel_rfl)) hS rfl ?_
    refine h_take (i := 14) (v := .bool true) rfl rfl (by kernel_rfl) (by kernel_rfl) (by kernel_rfl) hP (y_pick (b := false) rfl (by kernel_rfl) (by kernel_rfl) (by kernel_rfl)) hS rfl ?_
    refine h_take (i := 15) (v := .bool true) rfl rfl (by kernel_rfl) (by kernel_rfl) (by kernel_rfl) hP (y_pick (b := true) rfl (by kernel_rfl) (by kernel_rfl) (by kernel_rfl)) hS rfl ?_
    refine h_take (i := 16) (v := .bool true) rfl rfl (by kernel_rfl) (by kernel_rfl) (by kernel_rfl) hP (y_assign rfl (by kernel_rfl) (by kernel_rfl)) hS rfl ?_
    refine wpAnyH_done (by kernel_rfl) ?_ _
    refine hN _ _ ?_
    clear hP hN
    simp only [List.setIfInBounds_toArray, List.set_cons_zero, List.set_cons_succ]
    go_wp2_with fail
    exact ⟨rfl, .bool true, by kernel_rfl, rfl, Below.next hB10 hS⟩
end Go.Proofs.YtpflajehakiloaaDoor
