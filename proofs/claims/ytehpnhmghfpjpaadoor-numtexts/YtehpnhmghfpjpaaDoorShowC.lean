/- The walk of num's Show for numbers below 0. -/
import Derived.Test.YtehpnhmghfpjpaaDoorShowA
namespace Go.Proofs.YtehpnhmghfpjpaaDoor
open Go.RowKit

set_option maxRecDepth 100000 in
set_option maxHeartbeats 1600000 in
theorem show_nw (a : Int) (w : World) (h0 : clampI a < 0) (h1 : ((- clampI a) % 1000000 == 0) = true) (htab : Lib.TabBelow Tryd.prog w.heap.size w "internal/strconv.uint64pow10" .u64 Lib.pow10Tab) :
    Calls Tryd.prog 26 #[.int .i64 a] w fun e w' => e = .returned (.string ⟨(showL a).toArray⟩) ∧ Below w.heap.size w w' := by
  have l0 := clampI_le a
  have l1 := clampI_ge a
  have HS : Hid (showL a = 45 :: showPos (- clampI a)) := by show showL a = _; rw [showL, if_pos h0]
  obtain ⟨d, hd⟩ : ∃ d, clampI a = -d := ⟨- clampI a, by omega⟩
  rw [hd] at l0 l1 h0 h1 HS
  rw [Int.neg_neg] at h1 HS
  have h0' : 0 < d := by omega
  clear l0 h0
  have hlen : (Lib.itoa (d / 1000000)).length ≤ 10 := itoa_len (by omega) (by omega)
  have hlne := itoa_ne (d / 1000000)
  obtain ⟨i0, hi0, hz0, hz1, hz2⟩ := info_parts info5
  go_enter Tryd.func26, Tryd.ntmps26
  go_wp2_with (first | (go_at_call 10; refine (clamp_any _ _).mono ?_; rintro e w ⟨rfl, rfl⟩) | (at_builtin; refine wpList_append_lies _ rfl _ _ _ rfl w.heap.size 5 i0 _ 1 1 Tryd.underlying40 hi0 hz0 hz1 hz2 rfl (by omega) (.slice none 0 0) 0 [] rfl ((World.ownsRow_nil _ _ _ _).alloc _) ⟨w.heap.size, 0, none⟩ 1 1 [.int .u8 45] rfl rfl (cell_one_new _ _ _) (by simp [Value.oneCell']) (by omega) (by unfold maxLen; omega) (by omega) (by simp) (w.heap.size + 1) (by simp) ?_; intro g0 cap0 w0 hown0 hgrow0 hat0 hlt0))
  have hb0 : Below w.heap.size w w0 := below_append (Below.refl _ _) (Nat.le_refl _) (World.ownsRow_nil _ _ _ _) hgrow0
  have hb0s := hb0.size
  have hown0' : w0.ownsRow w.heap.size 5 1 (.slice (some ⟨g0, 0, none⟩) 1 cap0) 1 (Lib.byteCells [45]) := hown0
  clear hown0 hgrow0 hat0 hlt0
  refine (Tryd.strconv_AppendInt_10 w.heap.size 1 (d / 1000000) (by omega) (by omega) _ (Lib.byteCells [45]) w0 hown0' hb0s (by omega) (htab.on hb0)).mono ?_
  rintro e w1 ⟨v1, rfl, hown1, hb1', hk1⟩
  have hb1 := hb0.trans hb1'
  clear hk1 hb1' hown0' hb0s hb0
  have hb1s := hb1.size
  rw [← Lib.byteCells_append, show 1 + (Lib.itoa (d / 1000000)).length = ([45] ++ Lib.itoa (d / 1000000)).length by simp; omega] at hown1
  have HE : Hid (showL a = ([45] ++ Lib.itoa (d / 1000000)) ++ (if d % 1000000 = 0 then [] else 46 :: fracDigits (d % 1000000))) := by
    show showL a = _
    rw [HS.out]; simp [showPos]
  have hL1 : ([45] ++ Lib.itoa (d / 1000000)).length ≤ 11 := by simp; omega
  have hL2 : ([45] ++ Lib.itoa (d / 1000000)) ≠ [] := by simp
  generalize ([45] ++ Lib.itoa (d / 1000000)) = L at hown1 HE hL1 hL2
  clear hlen hlne
  have hcv := conv_owned hown1 hL2
  rw [show L = showL a by rw [HE.out, if_pos (by simpa using h1), List.append_nil]] at hcv
  clear hown1 hb1s hi0 hz0 hz1 hz2 HE
  go_wp2
  go_ret
  exact ⟨rfl, hb1⟩

set_option maxRecDepth 100000 in
set_option maxHeartbeats 1600000 in
theorem show_nf (a : Int) (w : World) (h0 : clampI a < 0) (h1 : ((- clampI a) % 1000000 == 0) = false) (htab : Lib.TabBelow Tryd.prog w.heap.size w "internal/strconv.uint64pow10" .u64 Lib.pow10Tab) :
    Calls Tryd.prog 26 #[.int .i64 a] w fun e w' => e = .returned (.string ⟨(showL a).toArray⟩) ∧ Below w.heap.size w w' := by
  have l0 := clampI_le a
  have l1 := clampI_ge a
  have HS : Hid (showL a = 45 :: showPos (- clampI a)) := by show showL a = _; rw [showL, if_pos h0]
  obtain ⟨d, hd⟩ : ∃ d, clampI a = -d := ⟨- clampI a, by omega⟩
  rw [hd] at l0 l1 h0 h1 HS
  rw [Int.neg_neg] at h1 HS
  have h0' : 0 < d := by omega
  clear l0 h0
  have hlen : (Lib.itoa (d / 1000000)).length ≤ 10 := itoa_len (by omega) (by omega)
  have hlne := itoa_ne (d / 1000000)
  obtain ⟨i0, hi0, hz0, hz1, hz2⟩ := info_parts info5
  go_enter Tryd.func26, Tryd.ntmps26
  go_wp2_with (first | (go_at_call 10; refine (clamp_any _ _).mono ?_; rintro e w ⟨rfl, rfl⟩) | (at_builtin; refine wpList_append_lies _ rfl _ _ _ rfl w.heap.size 5 i0 _ 1 1 Tryd.underlying40 hi0 hz0 hz1 hz2 rfl (by omega) (.slice none 0 0) 0 [] rfl ((World.ownsRow_nil _ _ _ _).alloc _) ⟨w.heap.size, 0, none⟩ 1 1 [.int .u8 45] rfl rfl (cell_one_new _ _ _) (by simp [Value.oneCell']) (by omega) (by unfold maxLen; omega) (by omega) (by simp) (w.heap.size + 1) (by simp) ?_; intro g0 cap0 w0 hown0 hgrow0 hat0 hlt0))
  have hb0 : Below w.heap.size w w0 := below_append (Below.refl _ _) (Nat.le_refl _) (World.ownsRow_nil _ _ _ _) hgrow0
  have hb0s := hb0.size
  have hown0' : w0.ownsRow w.heap.size 5 1 (.slice (some ⟨g0, 0, none⟩) 1 cap0) 1 (Lib.byteCells [45]) := hown0
  clear hown0 hgrow0 hat0 hlt0
  refine (Tryd.strconv_AppendInt_10 w.heap.size 1 (d / 1000000) (by omega) (by omega) _ (Lib.byteCells [45]) w0 hown0' hb0s (by omega) (htab.on hb0)).mono ?_
  rintro e w1 ⟨v1, rfl, hown1, hb1', hk1⟩
  have hb1 := hb0.trans hb1'
  clear hk1 hb1' hown0' hb0s hb0
  have hb1s := hb1.size
  rw [← Lib.byteCells_append, show 1 + (Lib.itoa (d / 1000000)).length = ([45] ++ Lib.itoa (d / 1000000)).length by simp; omega] at hown1
  have HE : Hid (showL a = ([45] ++ Lib.itoa (d / 1000000)) ++ (if d % 1000000 = 0 then [] else 46 :: fracDigits (d % 1000000))) := by
    show showL a = _
    rw [HS.out]; simp [showPos]
  have hL1 : ([45] ++ Lib.itoa (d / 1000000)).length ≤ 11 := by simp; omega
  have hL2 : ([45] ++ Lib.itoa (d / 1000000)) ≠ [] := by simp
  generalize ([45] ++ Lib.itoa (d / 1000000)) = L at hown1 HE hL1 hL2
  clear hlen hlne
  go_wp2_with (first | (at_builtin; refine wpList_append_lies _ rfl _ _ _ rfl w.heap.size 5 i0 _ 1 1 Tryd.underlying40 hi0 hz0 hz1 hz2 rfl (by omega) v1 L.length (Lib.byteCells L) rfl (hown1.alloc _) ⟨w1.heap.size, 0, none⟩ 1 1 [.int .u8 46] rfl rfl (cell_one_new _ _ _) (by simp [Value.oneCell']) (by omega) (by unfold maxLen; omega) (by omega) (by simp; omega) (w1.heap.size + 1) (by simp) ?_; intro g2 cap2 w2 hown2 hgrow2 hat2 hlt2))
  have hb2 : Below w.heap.size w w2 := below_append hb1 hb1s hown1 hgrow2
  have hb2s := hb2.size
  have e46 : Lib.byteCells L ++ [.int .u8 46] = Lib.byteCells (L ++ [46]) := byteCells_one_more _ 46
  rw [e46] at hown2
  have h1' : d % 1000000 ≠ 0 := by simpa using h1
  have hst := wst_start (r := d % 1000000) (by simp) hown2
  refine (place_put w.heap.size w2.heap.size _ _ hst (good_start _ (by omega) (by omega)) hb2s (by simp; omega)).mono ?_
  rintro e w3 ⟨rfl, ⟨g3, cap3, hwr3, hown3, hne3⟩, hb3'⟩
  have hb3 := (hb2.alloc hb2s _).trans hb3'
  rw [putN_pre' (L ++ [46])] at hwr3 hown3
  have hcv := conv_owned hown3 (by simp)
  have hR : L ++ [46] ++ fracDigits (d % 1000000) = showL a := by rw [HE.out, if_neg h1']; simp
  simp only [hR] at hcv hwr3
  have c0 := hwr3.1
  clear hown1 hb1s hi0 hz0 hz1 hz2 hown2 hgrow2 hat2 hlt2 hb2 hb2s e46 hst hown3 hne3 hb3' hwr3 hR HE
  go_wp2
  go_ret
  exact ⟨rfl, hb3⟩

end Go.Proofs.YtehpnhmghfpjpaaDoor
