/- The rounds of a block. -/
import Derived.Test.YtcjhimakbopipaaDoorMArr
namespace Go.Proofs.YtcjhimakbopipaaDoor
open Go Go.RowKit

theorem turned_l (l : List Nat) (kw : Nat) (hl : l.length = 8) (hu : U32 l) (w : World) :
    Calls Tryd.prog 45 #[V32 l, .int .u32 kw] w fun r w' => r = .returned (V32 (turn l kw)) ∧ Below w.heap.size w w' := by
  obtain ⟨a, b, c, d, e, f, g, h, rfl⟩ := list8 hl
  exact turned_any a b c d e f g h kw hu w
theorem laid3M (w : World) (c1 c2 c3 : Array Value) (t1 t2 t3 : TypeId) : (((w.alloc (.cells c1 t1)).alloc (.cells c2 t2)).alloc (.cells c3 t3)).heap[w.heap.size]? = some (.cells c1 t1) ∧ (((w.alloc (.cells c1 t1)).alloc (.cells c2 t2)).alloc (.cells c3 t3)).heap[w.heap.size + 1]? = some (.cells c2 t2) ∧
    (((w.alloc (.cells c1 t1)).alloc (.cells c2 t2)).alloc (.cells c3 t3)).heap[w.heap.size + 1 + 1]? = some (.cells c3 t3) ∧ Below w.heap.size w (((w.alloc (.cells c1 t1)).alloc (.cells c2 t2)).alloc (.cells c3 t3)) := by
  have h1 : (w.heap.push (.cells c1 t1)).size = w.heap.size + 1 := by simp
  have h2 : ((w.heap.push (.cells c1 t1)).push (.cells c2 t2)).size = w.heap.size + 1 + 1 := by simp
  refine ⟨?_, ?_, ?_, ?_⟩
  · show (((w.heap.push _).push _).push _)[w.heap.size]? = _
    rw [Array.getElem?_push_lt (by simp; omega), Array.getElem_push_lt (by simp), Array.getElem_push_eq]
  · show (((w.heap.push _).push _).push _)[w.heap.size + 1]? = _
    rw [Array.getElem?_push_lt (by simp), ← Array.getElem?_eq_getElem, ← h1, Array.getElem?_push_size]
  · show (((w.heap.push _).push _).push _)[w.heap.size + 1 + 1]? = _
    rw [← h2, Array.getElem?_push_size]
  · exact (bel2 w _ _).alloc (by show _ ≤ ((w.heap.push _).push _).size; simp; omega) _
theorem laid8a (w : World) (c : Array Value) (o' : Obj) (t : TypeId) : ((w.alloc (.cells c t)).alloc o').heap[w.heap.size]? = some (.cells c t) := by
  show ((w.heap.push _).push _)[w.heap.size]? = _
  rw [Array.getElem?_push_lt (by simp), Array.getElem_push_eq]
def z8 : List Nat := [0, 0, 0, 0, 0, 0, 0, 0]
set_option maxHeartbeats 1000000 in
theorem mixed_any (h ws : List Nat) (hl : h.length = 8) (hu : U32 h) (wl : ws.length = 64) (w : World) (hG : Glob w) :
    Calls Tryd.prog 37 #[V32 h, V32 ws] w fun r w' => r = .returned (V32 (mixN ws h 64)) ∧ Below w.heap.size w w' := by
  show Calls _ _ #[.agg (cs32 h), .agg (cs32 ws)] w _
  obtain ⟨a1, a2, a3, hB0⟩ := laid3M w (cs32 h) (cs32 ws) (cs32 z8) 48 38 48
  have hG1 := hG.below hB0 (Nat.le_refl _)
  change Below w.heap.size w (((w.alloc (.cells (cs32 h) 48)).alloc (.cells (cs32 ws) 38)).alloc (.cells #[.int .u32 0, .int .u32 0, .int .u32 0, .int .u32 0, .int .u32 0, .int .u32 0, .int .u32 0, .int .u32 0] 48)) at hB0
  have hc1 : cs32 h = cs32 (mixN ws h 0) := rfl
  have HG1 := hidM hG1
  have HA1 : Hid (Ar _ _ _ (mixN ws h 0)) := hidM a1
  have HA2 : Hid (Ar _ _ _ ws) := hidM a2
  have HA3 : Hid (Ar _ _ _ z8) := hidM a3
  have HB0 := hidM hB0
  have HG0 := hidM hG
  clear hG1 a1 a2 a3 hB0 hG hc1
  go_enter Tryd.func37, Tryd.ntmps37
  go_wp2_with fail
  generalize hb : w.heap.size = b at *
  generalize hcc : b + 1 = c at *
  generalize hdd : c + 1 = d at *
  go_loopw [6, 5] (fun x _ wr => ∃ k : Nat, k ≤ 64 ∧ x = .int .i64 k ∧ Ar wr b 48 (mixN ws h k) ∧ Ar wr c 38 ws ∧ Ar wr d 48 z8 ∧ Glob wr ∧ Below b w wr) (fun x _ _ => 64 - (intOf x).toNat)
  case atStart => exact ⟨0, Nat.zero_le _, rfl, HA1.out, HA2.out, HA3.out, HG1.out, HB0.out⟩
  case round =>
    obtain ⟨k, hk, rfl, hA, hW, hD, hGr, hBr⟩ := hrel
    clear HA1 HA2 HA3 HG1 HB0
    have HD := hidM hD
    have HG := hidM hGr
    have HB := hidM hBr
    clear hD hGr hBr
    by_cases hlt : k < 64
    · have hlt' : (k : Int) < 64 := by omega
      have hwk : IntKind.i64.wrap ((k : Int) + 1) = ((k + 1 : Nat) : Int) := by rw [IntWalk.i64_in _ ⟨by omega, by omega⟩]; omega
      obtain ⟨st, hst⟩ : ∃ st, st = mixN ws h k := ⟨_, rfl⟩
      rw [← hst] at hA
      have hL : st.length = 8 := by rw [hst]; exact mixN_len hl k
      have hU : U32 st := by rw [hst]; exact mixN_u hl hu k
      have HST : Hid (turn st (pl (kts.getD k 0) (ws.getD k 0)) = mixN ws h (k + 1)) := by rw [hst]; exact hidM rfl
      have HA := hidM hA
      have HW := hidM hW
      have HL := hidM hL
      have HU := hidM hU
      have HK := hidM hlt
      have HWL := hidM wl
      have hcb : c ≠ b ∧ d ≠ b := by omega
      have HCB := hidM hcb
      clear hA hW hL hU hst hcb wl
      go_upto_region 4 with fail
      refine z_open (S := fun w' => Below wr.heap.size wr w') 9 (by kernel_rfl) (by kernel_rfl) (fun _ _ _ _ _ h => h) (L := #[false, false, false, false, false, false, false, false, false, false]) (by kernel_rfl) ?_
      intro Q' hns hP hN
      have hS := (show Below wr.heap.size wr wr.drew from (Below.refl _ _).drew)
      refine z_read (i := 0) (v := V32 st) hns rfl (by kernel_rfl) rfl rfl (by kernel_rfl) (by kernel_rfl) hP (y_load rfl (by kernel_rfl) (by kernel_rfl) (fun w' h => load48 HL.out (HA.out.below h HA.out.lt))) rfl hS rfl (L' := #[true, false, false, false, false, false, false, false, false, false]) (by kernel_rfl) ?_
      refine z_pure (i := 1) (v := .int .i64 k) hns rfl rfl rfl (by kernel_rfl) (by kernel_rfl) hP (y_move rfl (by kernel_rfl) (by kernel_rfl)) (fun _ => hS) rfl (L' := #[true, true, false, false, false, false, false, false, false, false]) (by kernel_rfl) ?_
      refine z_pure (i := 2) (v := .pointer (some ⟨1, k, none⟩)) hns rfl rfl rfl (by kernel_rfl) (by kernel_rfl) hP (y_index rfl (by kernel_rfl) (by kernel_rfl) (by kernel_rfl) (idx38 _ k HK.out)) (fun _ => hS) rfl (L' := #[true, true, true, false, false, false, false, false, false, false]) (by kernel_rfl) ?_
      refine z_read (i := 3) (v := .int .u32 (kts.getD k 0 : Nat)) hns rfl (by kernel_rfl) rfl rfl (by kernel_rfl) (by kernel_rfl) hP (y_load rfl (by kernel_rfl) (by kernel_rfl) (fun w' h => load37 ((HG.out.below h (Nat.le_refl _)).2 k HK.out))) rfl hS rfl (L' := #[true, true, true, true, false, false, false, false, false, false]) (by kernel_rfl) ?_
      refine z_pure (i := 4) (v := .int .i64 k) hns rfl rfl rfl (by kernel_rfl) (by kernel_rfl) hP (y_move rfl (by kernel_rfl) (by kernel_rfl)) (fun _ => hS) rfl (L' := #[true, true, true, true, true, false, false, false, false, false]) (by kernel_rfl) ?_
      refine z_pure (i := 5) (v := .pointer (some ⟨c, k, none⟩)) hns rfl rfl rfl (by kernel_rfl) (by kernel_rfl) hP (y_index rfl (by kernel_rfl) (by kernel_rfl) (by kernel_rfl) (idx38 _ k HK.out)) (fun _ => hS) rfl (L' := #[true, true, true, true, true, true, false, false, false, false]) (by kernel_rfl) ?_
      refine z_read (i := 6) (v := .int .u32 (ws.getD k 0 : Nat)) hns rfl (by kernel_rfl) rfl rfl (by kernel_rfl) (by kernel_rfl) hP (y_load rfl (by kernel_rfl) (by kernel_rfl) (fun w' h => load37 ((HW.out.below h HW.out.lt).cell k (by rw [HWL.out]; exact HK.out)))) rfl hS rfl (L' := #[true, true, true, true, true, true, true, false, false, false]) (by kernel_rfl) ?_
      simp only [List.setIfInBounds_toArray, List.set_cons_zero, List.set_cons_succ]
      refine z_pure (i := 7) (v := .int .u32 (pl (kts.getD k 0) (ws.getD k 0) : Nat)) hns rfl rfl rfl (by kernel_rfl) (by kernel_rfl) hP (y_bin rfl (by kernel_rfl) (by kernel_rfl) (by kernel_rfl) (add37 _ _)) (fun _ => hS) rfl (L' := #[true, true, true, true, true, true, true, true, false, false]) (by kernel_rfl) ?_
      refine z_call (i := 8) (f := 45) (args := #[V32 st, .int .u32 (pl (kts.getD k 0) (ws.getD k 0) : Nat)]) (by kernel_rfl) rfl rfl (by kernel_rfl) (enter_go rfl (by kernel_rfl) (fun w => by go_simp)) (L' := #[true, true, true, true, true, true, true, true, true, false]) (by kernel_rfl) ?_
      refine (turned_l st _ HL.out HU.out _).mono ?_
      rintro e w1 ⟨rfl, hB1⟩
      refine ⟨_, rfl, hS.trans (hB1.mono hS.size), ?_⟩
      have hS1 : Below wr.heap.size wr w1 := hS.trans (hB1.mono hS.size)
      refine z_last (by kernel_rfl) rfl rfl (by kernel_rfl) (run_storeOp rfl (by kernel_rfl) (by kernel_rfl) (store48 HL.out (turn_len HL.out (pl (kts.getD k 0) (ws.getD k 0))) (HA.out.below hS1 HA.out.lt))) rfl (L' := #[true, true, true, true, true, true, true, true, true, true]) (by kernel_rfl) ?_
      simp only [List.setIfInBounds_toArray, List.set_cons_zero, List.set_cons_succ]
      refine z_done (by kernel_rfl) ?_ _
      refine hN _ _ ?_
      clear hP hN hns
      have hA1 : Ar (w1.setRow b (cs32 (turn st (pl (kts.getD k 0) (ws.getD k 0))))) b 48 (mixN ws h (k + 1)) := by
        rw [← HST.out]; exact (HA.out.below hS1 HA.out.lt).row _
      have hW1 : Ar (w1.setRow b (cs32 (turn st (pl (kts.getD k 0) (ws.getD k 0))))) c 38 ws := (HW.out.below hS1 HW.out.lt).other HCB.out.1 _
      have hD1 : Ar (w1.setRow b (cs32 (turn st (pl (kts.getD k 0) (ws.getD k 0))))) d 48 z8 := (HD.out.below hS1 HD.out.lt).other HCB.out.2 _
      have hB2 : Below b w (w1.setRow b (cs32 (turn st (pl (kts.getD k 0) (ws.getD k 0))))) := below_setRow (HB.out.trans (hS1.mono (by have := HB.out.size; omega))) (Nat.le_refl _) _
      have hG2 : Glob (w1.setRow b (cs32 (turn st (pl (kts.getD k 0) (ws.getD k 0))))) := HG0.out.below hB2 (by omega)
      have HA5 := hidM hA1
      have HW5 := hidM hW1
      have HD5 := hidM hD1
      have HB5 := hidM hB2
      have HG5 := hidM hG2
      clear hA1 hW1 hD1 hB2 hG2
      generalize w1.setRow b (cs32 (turn st (pl (kts.getD k 0) (ws.getD k 0)))) = w2 at *
      go_wp2
      exact ⟨⟨k + 1, by omega, rfl, HA5.out, HW5.out, HD5.out, HG5.out, HB5.out⟩, by simp [intOf]; omega⟩
    · have hk64 : k = 64 := by omega
      subst hk64
      obtain ⟨st, hst⟩ : ∃ st, st = mixN ws h 64 := ⟨_, rfl⟩
      rw [← hst] at hA
      have HSE := hidM hst
      have hL : st.length = 8 := by rw [hst]; exact mixN_len hl 64
      have HL := hidM hL
      have HA := hidM hA
      clear hA hL hst hW
      go_upto_region 6 with fail
      refine wp_region_lit ?_
      refine wp_load (by kernel_rfl) (load48 HL.out HA.out) ?_
      refine wp_store (by kernel_rfl) (by kernel_rfl) (store48 rfl HL.out HD.out) ?_
      dsimp only [Act.put]
      simp only [List.setIfInBounds_toArray, List.set_cons_zero, List.set_cons_succ]
      refine wp_end ?_
      go_wp2
      refine ret_arr rfl rfl (by kernel_rfl) (HD.out.row st) under48 (by rw [cs32_size, HL.out]; exact size48) ⟨by rw [← HSE.out]; rfl, by rw [hb]; exact below_setRow HB.out (by omega) _⟩
end Go.Proofs.YtcjhimakbopipaaDoor
