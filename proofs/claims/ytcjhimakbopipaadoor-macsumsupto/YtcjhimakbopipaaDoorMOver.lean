/- Eight numbers added to eight, and the blocks of a text. -/
import Derived.Test.YtcjhimakbopipaaDoorMWords
namespace Go.Proofs.YtcjhimakbopipaaDoor
open Go Go.RowKit

theorem idxV48 (l : List Nat) (k : Nat) (hl : l.length = 8) (hk : k < 8) (w : World) : (Instr.index 48 (V32 l) (.int .i64 k)).run Tryd.prog w = .ok (.int .u32 (l.getD k 0 : Nat)) w := by
  obtain ⟨a, b, c, d, e, f, g, h, rfl⟩ := list8 hl
  show (Instr.index 48 (.agg #[.int .u32 a, .int .u32 b, .int .u32 c, .int .u32 d, .int .u32 e, .int .u32 f, .int .u32 g, .int .u32 h]) (.int .i64 k)).run Tryd.prog w = _
  match k, hk with
  | 0, _ => go_simp; rfl
  | 1, _ => go_simp; rfl
  | 2, _ => go_simp; rfl
  | 3, _ => go_simp; rfl
  | 4, _ => go_simp; rfl
  | 5, _ => go_simp; rfl
  | 6, _ => go_simp; rfl
  | 7, _ => go_simp; rfl
theorem set_mid (x y : List Nat) (k : Nat) (h : x.length = y.length) (hk : k < y.length) : (y.take k ++ x.drop k).set k (y.getD k 0) = y.take (k + 1) ++ x.drop (k + 1) := by
  apply List.ext_getElem?
  intro i
  rw [List.getElem?_set]
  by_cases h1 : i < k
  · rw [if_neg (by omega), List.getElem?_append_left (by simp; omega), List.getElem?_append_left (by simp; omega), List.getElem?_take_of_lt h1, List.getElem?_take_of_lt (by omega)]
  · by_cases h2 : k = i
    · subst h2
      rw [if_pos rfl, if_pos (by simp; omega), List.getElem?_append_left (by simp; omega), List.getElem?_take_of_lt (by omega)]
      simp [List.getD, hk]
    · rw [if_neg h2, List.getElem?_append_right (by simp; omega), List.getElem?_append_right (by simp; omega), List.getElem?_drop, List.getElem?_drop]
      congr 1
      simp; omega
theorem plus_get (h o : List Nat) (k : Nat) (hl : h.length = 8) (ol : o.length = 8) (hk : k < 8) : (plus h o).getD k 0 = pl (h.getD k 0) (o.getD k 0) := by
  simp [plus, List.getD, hl, ol, hk]
theorem mid_get (x y : List Nat) (k : Nat) (hk : k ≤ y.length) : (y.take k ++ x.drop k).getD k 0 = x.getD k 0 := by
  simp only [List.getD]
  rw [List.getElem?_append_right (by simp; omega), List.getElem?_drop]
  congr 2
  simp; omega
set_option maxHeartbeats 1000000 in
theorem plus_any (h o : List Nat) (hl : h.length = 8) (ol : o.length = 8) (w : World) :
    Calls Tryd.prog 36 #[V32 h, V32 o] w fun r w' => r = .returned (V32 (plus h o)) ∧ Below w.heap.size w w' := by
  show Calls _ _ #[.agg (cs32 h), .agg (cs32 o)] w _
  obtain ⟨a1, a2, a3, hB0⟩ := laid3M w (cs32 h) (cs32 o) (cs32 z8) 48 48 48
  change Below w.heap.size w (((w.alloc (.cells (cs32 h) 48)).alloc (.cells (cs32 o) 48)).alloc (.cells #[.int .u32 0, .int .u32 0, .int .u32 0, .int .u32 0, .int .u32 0, .int .u32 0, .int .u32 0, .int .u32 0] 48)) at hB0
  have HA1 : Hid (Ar _ _ _ ((plus h o).take 0 ++ h.drop 0)) := hidM a1
  have HA2 : Hid (Ar _ _ _ o) := hidM a2
  have HA3 : Hid (Ar _ _ _ z8) := hidM a3
  have HB0 := hidM hB0
  have HOL := hidM ol
  clear a1 a2 a3 hB0
  go_enter Tryd.func36, Tryd.ntmps36
  go_upto_region 1 with fail
  generalize hb : w.heap.size = b at *
  generalize hcc : b + 1 = c at *
  generalize hdd : c + 1 = d at *
  refine wp_region_lit ?_
  refine wp_y (v := V32 o) rfl rfl (y_load rfl (by kernel_rfl) (by kernel_rfl) (fun w' h => by subst h; exact load48 HOL.out HA2.out)) rfl ?_
  refine wp_y (v := (.int .i64 0)) rfl rfl (y_move rfl (by kernel_rfl) (by kernel_rfl)) rfl ?_
  simp only [List.setIfInBounds_toArray, List.set_cons_zero, List.set_cons_succ]
  refine wp_end ?_
  go_wp2_with fail
  go_loopw [8, 5, 6] (fun x _ _ wr => ∃ k : Nat, k ≤ 8 ∧ x = .int .i64 k ∧ Ar wr b 48 ((plus h o).take k ++ h.drop k) ∧ Ar wr d 48 z8 ∧ Below b w wr) (fun x _ _ _ => 8 - (intOf x).toNat)
  case atStart => exact ⟨0, Nat.zero_le _, rfl, HA1.out, HA3.out, HB0.out⟩
  case round =>
    obtain ⟨k, hk, rfl, hA, hD, hBr⟩ := hrel
    clear HA1 HA2 HA3 HB0
    have HD := hidM hD
    have HB := hidM hBr
    clear hD hBr
    by_cases hlt : k < 8
    · have hlt' : (k : Int) < 8 := by omega
      have hwk : IntKind.i64.wrap ((k : Int) + 1) = ((k + 1 : Nat) : Int) := by rw [IntWalk.i64_in _ ⟨by omega, by omega⟩]; omega
      have hpl := plus_len hl ol
      obtain ⟨st, hst⟩ : ∃ st, st = (plus h o).take k ++ h.drop k := ⟨_, rfl⟩
      rw [← hst] at hA
      have hL : st.length = 8 := by rw [hst]; simp [hpl, hl]; omega
      have hset := set_mid h (plus h o) k (by omega) (by omega)
      rw [plus_get h o k hl ol hlt, ← mid_get h (plus h o) k (by omega), ← hst] at hset
      have HST := hidM hset
      have HA := hidM hA
      have HL := hidM hL
      have HK := hidM hlt
      have hdb : d ≠ b := by omega
      have HDB := hidM hdb
      clear hA hL hst hset hdb hpl
      go_upto_region 3 with fail
      refine wp_region_lit ?_
      refine wp_y (v := .int .i64 k) rfl rfl (y_move rfl (by kernel_rfl) (by kernel_rfl)) rfl ?_
      refine wp_y (v := .int .u32 (o.getD k 0 : Nat)) rfl rfl (y_idx rfl (by kernel_rfl) (by kernel_rfl) (by kernel_rfl) (idxV48 o k HOL.out HK.out)) rfl ?_
      refine wp_y (v := .int .i64 k) rfl rfl (y_assign rfl (by kernel_rfl) (by kernel_rfl)) rfl ?_
      refine wp_y (v := .int .u32 (o.getD k 0 : Nat)) rfl rfl (y_assign rfl (by kernel_rfl) (by kernel_rfl)) rfl ?_
      simp only [List.setIfInBounds_toArray, List.set_cons_zero, List.set_cons_succ]
      refine wp_end ?_
      go_upto_region 4 with fail
      refine wp_region_lit ?_
      refine wp_y (v := .int .i64 k) rfl rfl (y_move rfl (by kernel_rfl) (by kernel_rfl)) rfl ?_
      refine wp_y (v := .pointer (some ⟨b, k, none⟩)) rfl rfl (y_index rfl (by kernel_rfl) (by kernel_rfl) (by kernel_rfl) (idx48 _ k HK.out)) rfl ?_
      refine wp_y (v := .int .u32 (st.getD k 0 : Nat)) rfl rfl (y_load rfl (by kernel_rfl) (by kernel_rfl) (fun w' h => by subst h; exact load37 (HA.out.cell k (by rw [HL.out]; exact HK.out)))) rfl ?_
      refine wp_y (v := .int .u32 (o.getD k 0 : Nat)) rfl rfl (y_move rfl (by kernel_rfl) (by kernel_rfl)) rfl ?_
      refine wp_y (v := .int .u32 (pl (st.getD k 0) (o.getD k 0) : Nat)) rfl rfl (y_bin rfl (by kernel_rfl) (by kernel_rfl) (by kernel_rfl) (add37 _ _)) rfl ?_
      refine wp_y (v := .pointer (some ⟨b, k, none⟩)) rfl rfl (y_index rfl (by kernel_rfl) (by kernel_rfl) (by kernel_rfl) (idx48 _ k HK.out)) rfl ?_
      refine wp_do rfl rfl (run_storeOp rfl (by kernel_rfl) (by kernel_rfl) (store37 HA.out (by rw [HL.out]; exact HK.out) (pl (st.getD k 0) (o.getD k 0)))) ?_
      simp only [List.setIfInBounds_toArray, List.set_cons_zero, List.set_cons_succ]
      refine wp_end ?_
      have hA1 : Ar (wr.setCell ⟨b, k, none⟩ (.int .u32 (pl (st.getD k 0) (o.getD k 0) : Nat))) b 48 ((plus h o).take (k + 1) ++ h.drop (k + 1)) := by rw [← HST.out]; exact HA.out.set k _
      have hD1 : Ar (wr.setCell ⟨b, k, none⟩ (.int .u32 (pl (st.getD k 0) (o.getD k 0) : Nat))) d 48 z8 := (Below.heap_setCell wr _ _ d HDB.out).trans HD.out
      have hB2 : Below b w (wr.setCell ⟨b, k, none⟩ (.int .u32 (pl (st.getD k 0) (o.getD k 0) : Nat))) := HB.out.setCell (Nat.le_refl _) _
      have HA5 := hidM hA1
      have HD5 := hidM hD1
      have HB5 := hidM hB2
      clear hA1 hD1 hB2
      generalize wr.setCell ⟨b, k, none⟩ (.int .u32 (pl (st.getD k 0) (o.getD k 0) : Nat)) = w2 at *
      go_wp2
      exact ⟨⟨k + 1, by omega, rfl, HA5.out, HD5.out, HB5.out⟩, by simp [intOf]; omega⟩
    · have hk8 : k = 8 := by omega
      subst hk8
      obtain ⟨st, hst⟩ : ∃ st, st = plus h o := ⟨_, rfl⟩
      have hL : st.length = 8 := by rw [hst]; exact plus_len hl ol
      rw [List.take_of_length_le (by rw [plus_len hl ol]; omega), List.drop_of_length_le (by omega), List.append_nil, ← hst] at hA
      have HSE := hidM hst
      have HL := hidM hL
      have HA := hidM hA
      clear hA hL hst
      go_upto_region 6 with fail
      refine wp_region_lit ?_
      refine wp_load (by kernel_rfl) (load48 HL.out HA.out) ?_
      refine wp_store (by kernel_rfl) (by kernel_rfl) (store48 rfl HL.out HD.out) ?_
      dsimp only [Act.put]
      simp only [List.setIfInBounds_toArray, List.set_cons_zero, List.set_cons_succ]
      refine wp_end ?_
      go_wp2
      refine ret_arr rfl rfl (by kernel_rfl) (HD.out.row st) under48 (by rw [cs32_size, HL.out]; exact size48) ⟨by rw [← HSE.out]; rfl, by rw [hb]; exact below_setRow HB.out (by omega) _⟩

theorem add64 (k : Nat) (h : 64 * k + 64 ≤ 281474976710656) (w : World) : (binOp .add 3 (.int .i64 (64 * k : Nat)) (.int .i64 64)).run Tryd.prog w = .ok (.int .i64 (64 * k + 64 : Nat)) w := by
  have h1 : IntKind.i64.wrap (((64 * k : Nat) : Int) + 64) = ((64 * k + 64 : Nat) : Int) := by rw [IntWalk.i64_in _ ⟨by omega, by omega⟩]; omega
  generalize 64 * k + 64 = m at *
  generalize 64 * k = n at *
  go_simp
theorem sub_str (l : List UInt8) (a b : Nat) : (⟨l.toArray⟩ : ByteArray).extract a b = ⟨((l.drop a).take (b - a)).toArray⟩ := by
  apply ByteArray.ext
  rw [ByteArray.data_extract]
  apply Array.ext'
  simp [List.extract_eq_take_drop]
theorem sub64 (l : List UInt8) (k : Nat) (h : 64 * k + 64 ≤ l.length) (w : World) : (Instr.sliceAt 9 (.string ⟨l.toArray⟩) (some (.int .i64 (64 * k : Nat))) (some (.int .i64 (64 * k + 64 : Nat))) none).run Tryd.prog w = .ok (.string ⟨((l.drop (64 * k)).take 64).toArray⟩) w := by
  have e := sub_str l (64 * k) (64 * k + 64)
  rw [show 64 * k + 64 - 64 * k = 64 by omega] at e
  rw [← e]
  have h1 : 64 * k ≤ 64 * k + 64 := by omega
  have h2 : (⟨l.toArray⟩ : ByteArray).size = l.length := by simp [ByteArray.size]
  clear e
  generalize 64 * k + 64 = m at *
  generalize 64 * k = n at *
  rw [← h2] at h
  clear h2
  generalize (⟨l.toArray⟩ : ByteArray) = s at *
  go_simp
set_option maxHeartbeats 1000000 in
theorem overBlocks_any (h : List Nat) (l : List UInt8) (n : Nat) (hl : h.length = 8) (hu : U32 h) (hn : l.length = 64 * n) (hsz : l.length ≤ 281474976710656) (w : World) (hG : Glob w) :
    Calls Tryd.prog 29 #[V32 h, .string ⟨l.toArray⟩] w fun r w' => r = .returned (V32 (overN h l n)) ∧ Below w.heap.size w w' := by
  show Calls _ _ #[.agg (cs32 h), .string ⟨l.toArray⟩] w _
  have a1 : Ar ((w.alloc (.cells (cs32 h) 48)).alloc (.cells (cs32 z8) 48)) w.heap.size 48 (overN h l 0) := laid8a w _ _ _
  have a2 : Ar ((w.alloc (.cells (cs32 h) 48)).alloc (.cells (cs32 z8) 48)) (w.heap.size + 1) 48 z8 := laid8' w _ _ _
  have hB0 := bel2 w (.cells (cs32 h) 48) (.cells (cs32 z8) 48)
  have hG1 := hG.below hB0 (Nat.le_refl _)
  have HA1 := hidM a1
  have HA2 := hidM a2
  have HB0 := hidM hB0
  have HG1 := hidM hG1
  have HG0 := hidM hG
  clear a1 a2 hB0 hG1 hG
  have hsize : (⟨l.toArray⟩ : ByteArray).size = 64 * n := by simp [ByteArray.size, hn]
  go_enter Tryd.func29, Tryd.ntmps29
  go_wp2_with fail
  generalize hb : w.heap.size = b at *
  generalize hdd : b + 1 = d at *
  go_loopw [5] (fun x wr => ∃ k : Nat, k ≤ n ∧ x = .int .i64 (64 * k : Nat) ∧ Ar wr b 48 (overN h l k) ∧ Ar wr d 48 z8 ∧ Glob wr ∧ Below b w wr) (fun x _ => 64 * n - (intOf x).toNat)
  case atStart => exact ⟨0, Nat.zero_le _, rfl, HA1.out, HA2.out, HG1.out, HB0.out⟩
  case round =>
    obtain ⟨k, hk, rfl, hA, hD, hGr, hBr⟩ := hrel
    clear HA1 HA2 HB0 HG1
    have HD := hidM hD
    have HG := hidM hGr
    have HB := hidM hBr
    clear hD hGr hBr
    by_cases hlt : k < n
    · have hlt' : ((64 * k : Nat) : Int) < ((64 * n : Nat) : Int) := by omega
      have hwk : IntKind.i64.wrap (((64 * k : Nat) : Int) + 64) = ((64 * (k + 1) : Nat) : Int) := by rw [IntWalk.i64_in _ ⟨by omega, by omega⟩]; omega
      obtain ⟨st, hst⟩ : ∃ st, st = overN h l k := ⟨_, rfl⟩
      rw [← hst] at hA
      have hL : st.length = 8 := by rw [hst]; exact overN_len hl l k
      have hU : U32 st := by rw [hst]; exact overN_u hu l k
      have HST : Hid (blk st ((l.drop (64 * k)).take 64) = overN h l (k + 1)) := by rw [hst]; exact hidM rfl
      have hlb : ((l.drop (64 * k)).take 64).length = 64 := by rw [List.length_take, List.length_drop]; omega
      have hkl : 64 * k + 64 ≤ l.length := by omega
      have hks : 64 * k + 64 ≤ 281474976710656 := by omega
      have HA := hidM hA
      have HL := hidM hL
      have HU := hidM hU
      have HLB := hidM hlb
      have HKL := hidM hkl
      have HKS := hidM hks
      have hdb : d ≠ b := by omega
      have HDB := hidM hdb
      clear hA hL hU hlb hkl hks hst hdb
      go_upto_region 4 with fail
      refine z_open (S := fun w' => Below wr.heap.size wr w') 10 (by kernel_rfl) (by kernel_rfl) (fun _ _ _ _ _ h => h) (L := #[false, false, false, false, false, false, false, false, false, false, false]) (by kernel_rfl) ?_
      intro Q' hns hP hN
      have hS := (show Below wr.heap.size wr wr.drew from (Below.refl _ _).drew)
      refine z_read (i := 0) (v := V32 st) hns rfl (by kernel_rfl) rfl rfl (by kernel_rfl) (by kernel_rfl) hP (y_load rfl (by kernel_rfl) (by kernel_rfl) (fun w' h => load48 HL.out (HA.out.below h HA.out.lt))) rfl hS rfl (L' := #[true, false, false, false, false, false, false, false, false, false, false]) (by kernel_rfl) ?_
      refine z_read (i := 1) (v := V32 st) hns rfl (by kernel_rfl) rfl rfl (by kernel_rfl) (by kernel_rfl) hP (y_load rfl (by kernel_rfl) (by kernel_rfl) (fun w' h => load48 HL.out (HA.out.below h HA.out.lt))) rfl hS rfl (L' := #[true, true, false, false, false, false, false, false, false, false, false]) (by kernel_rfl) ?_
      refine z_pure (i := 2) (v := .string ⟨l.toArray⟩) hns rfl rfl rfl (by kernel_rfl) (by kernel_rfl) hP (y_move rfl (by kernel_rfl) (by kernel_rfl)) (fun _ => hS) rfl (L' := #[true, true, true, false, false, false, false, false, false, false, false]) (by kernel_rfl) ?_
      refine z_pure (i := 3) (v := .int .i64 (64 * k : Nat)) hns rfl rfl rfl (by kernel_rfl) (by kernel_rfl) hP (y_move rfl (by kernel_rfl) (by kernel_rfl)) (fun _ => hS) rfl (L' := #[true, true, true, true, false, false, false, false, false, false, false]) (by kernel_rfl) ?_
      refine z_pure (i := 4) (v := .int .i64 (64 * k : Nat)) hns rfl rfl rfl (by kernel_rfl) (by kernel_rfl) hP (y_move rfl (by kernel_rfl) (by kernel_rfl)) (fun _ => hS) rfl (L' := #[true, true, true, true, true, false, false, false, false, false, false]) (by kernel_rfl) ?_
      refine z_pure (i := 5) (v := .int .i64 (64 * k + 64 : Nat)) hns rfl rfl rfl (by kernel_rfl) (by kernel_rfl) hP (y_bin rfl (by kernel_rfl) (by kernel_rfl) (by kernel_rfl) (add64 k HKS.out)) (fun _ => hS) rfl (L' := #[true, true, true, true, true, true, false, false, false, false, false]) (by kernel_rfl) ?_
      refine z_pure (i := 6) (v := .string ⟨((l.drop (64 * k)).take 64).toArray⟩) hns rfl rfl rfl (by kernel_rfl) (by kernel_rfl) hP (y_slice rfl (by kernel_rfl) (by kernel_rfl) (by kernel_rfl) (by kernel_rfl) (by kernel_rfl) (sub64 l k HKL.out)) (fun _ => hS) rfl (L' := #[true, true, true, true, true, true, true, false, false, false, false]) (by kernel_rfl) ?_
      simp only [List.setIfInBounds_toArray, List.set_cons_zero, List.set_cons_succ]
      refine z_call (i := 7) (f := 38) (args := #[.string ⟨((l.drop (64 * k)).take 64).toArray⟩]) (by kernel_rfl) rfl rfl (by kernel_rfl) (enter_go rfl (by kernel_rfl) (fun w => by go_simp)) (L' := #[true, true, true, true, true, true, true, true, false, false, false]) (by kernel_rfl) ?_
      refine (words_any ((l.drop (64 * k)).take 64) HLB.out _).mono ?_
      rintro e w1 ⟨rfl, hB1⟩
      have hS1 : Below wr.heap.size wr w1 := hS.trans (hB1.mono hS.size)
      refine ⟨_, rfl, hS1, ?_⟩
      refine z_call (i := 8) (f := 37) (args := #[V32 st, V32 (wordsOf ((l.drop (64 * k)).take 64))]) (by kernel_rfl) rfl rfl (by kernel_rfl) (enter_go rfl (by kernel_rfl) (fun w => by go_simp)) (L' := #[true, true, true, true, true, true, true, true, true, false, false]) (by kernel_rfl) ?_
      refine (mixed_any st _ HL.out HU.out (wordsOf_len _) _ (HG.out.below hS1 (Nat.le_refl _))).mono ?_
      rintro e w2 ⟨rfl, hB2⟩
      have hS2 : Below wr.heap.size wr w2 := hS1.trans (hB2.mono hS1.size)
      refine ⟨_, rfl, hS2, ?_⟩
      refine z_call (i := 9) (f := 36) (args := #[V32 st, V32 (mixN (wordsOf ((l.drop (64 * k)).take 64)) st 64)]) (by kernel_rfl) rfl rfl (by kernel_rfl) (enter_go rfl (by kernel_rfl) (fun w => by go_simp)) (L' := #[true, true, true, true, true, true, true, true, true, true, false]) (by kernel_rfl) ?_
      refine (plus_any st _ HL.out (mixN_len HL.out 64) _).mono ?_
      rintro e w3 ⟨rfl, hB3⟩
      have hS3 : Below wr.heap.size wr w3 := hS2.trans (hB3.mono hS2.size)
      refine ⟨_, rfl, hS3, ?_⟩
      refine z_last (by kernel_rfl) rfl rfl (by kernel_rfl) (run_storeOp rfl (by kernel_rfl) (by kernel_rfl) (store48 HL.out (blk_len HL.out ((l.drop (64 * k)).take 64)) (HA.out.below hS3 HA.out.lt))) rfl (L' := #[true, true, true, true, true, true, true, true, true, true, true]) (by kernel_rfl) ?_
      try simp only [List.setIfInBounds_toArray, List.set_cons_zero, List.set_cons_succ]
      refine z_done (by kernel_rfl) ?_ _
      refine hN _ _ ?_
      clear hP hN hns
      have hA1 : Ar (w3.setRow b (cs32 (blk st ((l.drop (64 * k)).take 64)))) b 48 (overN h l (k + 1)) := by rw [← HST.out]; exact (HA.out.below hS3 HA.out.lt).row _
      have hD1 : Ar (w3.setRow b (cs32 (blk st ((l.drop (64 * k)).take 64)))) d 48 z8 := (HD.out.below hS3 HD.out.lt).other HDB.out _
      have hB2 : Below b w (w3.setRow b (cs32 (blk st ((l.drop (64 * k)).take 64)))) := below_setRow (HB.out.trans (hS3.mono (by have := HB.out.size; omega))) (Nat.le_refl _) _
      have hG2 : Glob (w3.setRow b (cs32 (blk st ((l.drop (64 * k)).take 64)))) := HG0.out.below hB2 (by omega)
      have HA5 := hidM hA1
      have HD5 := hidM hD1
      have HB5 := hidM hB2
      have HG5 := hidM hG2
      clear hA1 hD1 hB2 hG2
      generalize w3.setRow b (cs32 (blk st ((l.drop (64 * k)).take 64))) = w2 at *
      go_wp2
      exact ⟨⟨k + 1, by omega, rfl, HA5.out, HD5.out, HG5.out, HB5.out⟩, by simp [intOf]; omega⟩
    · have hkn : k = n := by omega
      subst hkn
      obtain ⟨st, hst⟩ : ∃ st, st = overN h l k := ⟨_, rfl⟩
      have hL : st.length = 8 := by rw [hst]; exact overN_len hl l k
      rw [← hst] at hA
      have HSE := hidM hst
      have HL := hidM hL
      have HA := hidM hA
      clear hA hL hst
      go_upto_region 5 with fail
      refine wp_region_lit ?_
      refine wp_load (by kernel_rfl) (load48 HL.out HA.out) ?_
      refine wp_store (by kernel_rfl) (by kernel_rfl) (store48 rfl HL.out HD.out) ?_
      dsimp only [Act.put]
      simp only [List.setIfInBounds_toArray, List.set_cons_zero, List.set_cons_succ]
      refine wp_end ?_
      go_wp2
      refine ret_arr rfl rfl (by kernel_rfl) (HD.out.row st) under48 (by rw [cs32_size, HL.out]; exact size48) ⟨by rw [← HSE.out]; rfl, by rw [hb]; exact below_setRow HB.out (by omega) _⟩
end Go.Proofs.YtcjhimakbopipaaDoor
