/- The document's Sum. -/
import Derived.Test.YtcjhimakbopipaaDoorMRefT
namespace Go.Proofs.YtcjhimakbopipaaDoor
open Go Go.RowKit

theorem Rd.sub {w : World} {b o : Nat} {l : List UInt8} (h : Rd w b o l) (k n : Nat) (_hk : k + n ≤ l.length) : Rd w b (o + k) ((l.drop k).take n) := fun j hj => by
  rw [List.length_take, List.length_drop] at hj
  have := h (k + j) (by omega)
  rw [Nat.add_assoc, this]
  simp only [at8, List.getD]
  rw [List.getElem?_take_of_lt (by omega), List.getElem?_drop]
theorem Rd.setRow {w : World} {b o : Nat} {l : List UInt8} (h : Rd w b o l) {b' : Nat} (hb : b ≠ b') (c : Array Value) : Rd (w.setRow b' c) b o l := fun j hj => by
  rw [World.cell?_of_block (w := w) (a := ⟨b, o + j, none⟩) (setRow_other w b' b c hb)]; exact h j hj
theorem Rd.setCell {w : World} {b o : Nat} {l : List UInt8} (h : Rd w b o l) {p : Addr} (hb : b ≠ p.block) (v : Value) : Rd (w.setCell p v) b o l := fun j hj => by
  rw [World.cell?_of_block (w := w) (a := ⟨b, o + j, none⟩) (Below.heap_setCell w p v b hb)]; exact h j hj
theorem size_setRow (w : World) (b : Nat) (c : Array Value) : (w.setRow b c).heap.size = w.heap.size := by
  simp [World.setRow]
theorem size_setCell (w : World) (p : Addr) (v : Value) : (w.setCell p v).heap.size = w.heap.size := by
  unfold World.setCell; split <;> simp
theorem size_alloc (w : World) (o : Obj) : (w.alloc o).heap.size = w.heap.size + 1 := by show (w.heap.push _).size = _; simp
set_option maxRecDepth 100000 in
set_option maxHeartbeats 4000000 in
theorem refSum_any (l : List UInt8) (g c : Nat) (hl : l.length + 136 ≤ 281474976710656) (w : World) (hg : Rd w g 0 l) (hgl : g < w.heap.size) :
    Calls Tryd.prog 11 #[.slice (some ⟨g, 0, none⟩) l.length c] w fun r w' => ∃ p, r = .returned (.slice (some ⟨p, 0, none⟩) 32 32) ∧ Rd w' p 0 (sha l) ∧ p < w'.heap.size ∧ Below w.heap.size w w' := by
  obtain ⟨nb, hnb⟩ : ∃ nb, (pads l).length = 64 * nb := ⟨_, pads_len l⟩
  have hsha := sha_pads l
  rw [hnb, Nat.mul_div_cancel_left _ (by decide)] at hsha
  have hple := pads_le l
  have HRD := hidM hg
  have HGL := hidM hgl
  clear hg hgl
  go_enter Tryd.func11, Tryd.ntmps11
  go_upto_region 1 with fail
  refine wp_region_lit ?_
  refine wp_call (f := 21) (args := #[]) (by kernel_rfl) (fun w => by go_simp) ?_
  refine (refConst_any _).mono ?_
  rintro e w1 ⟨rfl, hB1⟩
  have aK0 := heap_alloc_last w1 (.cells (cs32 z64) 38)
  refine ⟨_, rfl, ?_⟩
  dsimp only [Act.put]
  refine wp_run (v := .pointer (some ⟨w1.heap.size, 0, none⟩)) rfl rfl (run_alOp rfl (alloc38 _)) rfl ?_
  refine wp_do rfl rfl (run_storeOp rfl (by kernel_rfl) (by kernel_rfl) (store38 z64_len kts_len aK0)) ?_
  try simp only [List.setIfInBounds_toArray, List.set_cons_zero, List.set_cons_succ]
  refine wp_end ?_
  have hB2 : Below w.heap.size w ((w1.alloc (.cells (cs32 z64) 38)).setRow w1.heap.size (cs32 kts)) := below_setRow (hB1.alloc hB1.size _) hB1.size _
  have aK2 : Ar ((w1.alloc (.cells (cs32 z64) 38)).setRow w1.heap.size (cs32 kts)) w1.heap.size 38 kts := Ar.row aK0 kts
  have hkb := hB1.size
  have hs2 : ((w1.alloc (.cells (cs32 z64) 38)).setRow w1.heap.size (cs32 kts)).heap.size = w1.heap.size + 1 := by rw [size_setRow, size_alloc]
  generalize (w1.alloc (.cells (cs32 z64) 38)).setRow w1.heap.size (cs32 kts) = w2 at *
  generalize w1.heap.size = kb at *
  obtain ⟨hb, hhb⟩ : ∃ hb, hb = w2.heap.size := ⟨_, rfl⟩
  have aH0 : Ar (w2.alloc (.cells (cs32 z8) 40)) hb 40 z8 := by rw [hhb]; exact heap_alloc_last w2 _
  have HHB : Hid (w2.heap.size = hb) := hidM hhb.symm
  have AH0 := hidM aH0
  clear aK0
  go_upto_region 2 with fail
  refine wp_region_lit ?_
  refine wp_run (v := V32 h0s) rfl rfl (run_buildOp rfl (by kernel_rfl) (build40 1779033703 3144134277 1013904242 2773480762 1359893119 2600822924 528734635 1541459225 _)) rfl ?_
  refine wp_run (v := .pointer (some ⟨hb, 0, none⟩)) rfl rfl (run_alOp rfl (by rw [← HHB.out]; exact alloc40 _)) rfl ?_
  refine wp_do rfl rfl (run_storeOp rfl (by kernel_rfl) (by kernel_rfl) (store40 z8_len h0s_len AH0.out)) ?_
  try simp only [List.setIfInBounds_toArray, List.set_cons_zero, List.set_cons_succ]
  refine wp_end ?_
  have hB3 : Below w.heap.size w ((w2.alloc (.cells (cs32 z8) 40)).setRow hb (cs32 h0s)) := below_setRow (hB2.alloc hB2.size _) (by have := hB2.size; omega) _
  have aH3 : Ar ((w2.alloc (.cells (cs32 z8) 40)).setRow hb (cs32 h0s)) hb 40 h0s := Ar.row AH0.out h0s
  have aK3 : Ar ((w2.alloc (.cells (cs32 z8) 40)).setRow hb (cs32 h0s)) kb 38 kts := (aK2.below ((Below.refl _ _).alloc (Nat.le_refl _) _) (by omega)).other (by omega) _
  have hs3 : ((w2.alloc (.cells (cs32 z8) 40)).setRow hb (cs32 h0s)).heap.size = hb + 1 := by rw [size_setRow, size_alloc]; omega
  generalize (w2.alloc (.cells (cs32 z8) 40)).setRow hb (cs32 h0s) = w3' at *
  obtain ⟨pb, hpb⟩ : ∃ pb, pb = w3'.heap.size := ⟨_, rfl⟩
  obtain ⟨cp, hcp⟩ : ∃ cp, cp = l.length + 72 := ⟨_, rfl⟩
  have hcpl : 64 * nb ≤ cp := by omega
  have hpad := padded_any l g c (by omega) w3' (HRD.out.below' hB3 HGL.out) (Nat.lt_of_lt_of_le HGL.out hB3.size)
  rw [hnb, ← hpb, ← hcp] at hpad
  obtain ⟨P, hP⟩ : ∃ P, P = pads l := ⟨_, rfl⟩
  rw [← hP] at hpad hnb hsha
  have HPAD := hidM hpad
  have hkh : kb < hb ∧ hb < pb := by omega
  clear hpad aK2 aH0 AH0 HHB hs2 hB1 hB2
  go_upto_region 3 with fail
  refine wp_region_lit ?_
  refine wp_y (v := .slice (some ⟨g, 0, none⟩) l.length c) rfl rfl (y_move rfl (by kernel_rfl) (by kernel_rfl)) rfl ?_
  refine wp_call (f := 22) (args := #[.slice (some ⟨g, 0, none⟩) l.length c]) (by kernel_rfl) (fun w => by go_simp) ?_
  refine HPAD.out.mono ?_
  rintro e w3 ⟨rfl, hR3, hs3', hB3'⟩
  refine ⟨_, rfl, ?_⟩
  dsimp only [Act.put]
  refine wp_y (v := .slice (some ⟨pb, 0, none⟩) (64 * nb) cp) rfl rfl (y_assign rfl (by kernel_rfl) (by kernel_rfl)) rfl ?_
  try simp only [List.setIfInBounds_toArray, List.set_cons_zero, List.set_cons_succ]
  refine wp_end ?_
  have hB4 := hB3.trans (hB3'.mono (by omega))
  have aK4 := aK3.below hB3' (by omega)
  have aH4 := aH3.below hB3' (by omega)
  have hBk : w.heap.size ≤ kb := hkb
  have AK0 := hidM aK4
  have AH0 : Hid (Ar w3 hb 40 (overN h0s P 0)) := hidM aH4
  have RP0 := hidM hR3
  have HB0 := hidM hB4
  have HS0 := hidM hs3'
  clear aK3 aH3 aK4 aH4 hB3 hB3' hB4 hR3 hs3' HPAD hs3 hpb hhb hple HRD HGL
  generalize hBB : w.heap.size = B at *
  go_wp2_with fail
  go_loopw [6] (fun x wr => ∃ k : Nat, k ≤ nb ∧ x = .int .i64 (64 * k : Nat) ∧ Ar wr kb 38 kts ∧ Ar wr hb 40 (overN h0s P k) ∧ Rd wr pb 0 P ∧ Below B w wr ∧ pb < wr.heap.size) (fun x _ => 64 * nb - (intOf x).toNat)
  case atStart => exact ⟨0, Nat.zero_le _, rfl, AK0.out, AH0.out, RP0.out, HB0.out, HS0.out⟩
  case round =>
    clear AK0 AH0 RP0 HB0 HS0
    obtain ⟨k, hk, rfl, hAK, hAH, hRP, hBr, hsz⟩ := hrel
    by_cases hlt : k < nb
    · have hlt' : ((64 * k : Nat) : Int) < ((64 * nb : Nat) : Int) := by omega
      have hwk : IntKind.i64.wrap (((64 * k : Nat) : Int) + 64) = ((64 * (k + 1) : Nat) : Int) := by rw [IntWalk.i64_in _ ⟨by omega, by omega⟩]; omega
      obtain ⟨st, hst⟩ : ∃ st, st = overN h0s P k := ⟨_, rfl⟩
      rw [← hst] at hAH
      have hL : st.length = 8 := by rw [hst]; exact overN_len h0s_len P k
      have hU : U32 st := by rw [hst]; exact overN_u h0s_u P k
      have HST : Hid (blk st ((P.drop (64 * k)).take 64) = overN h0s P (k + 1)) := by rw [hst]; exact hidM rfl
      have HLB : Hid (((P.drop (64 * k)).take 64).length = 64) := hidM (by rw [List.length_take, List.length_drop]; omega)
      have HKL : Hid (64 * k + 64 ≤ 64 * nb) := hidM (by omega)
      have HKS : Hid (64 * k + 64 ≤ 281474976710656) := hidM (by omega)
      have HCP : Hid (64 * nb ≤ cp) := hidM hcpl
      have hRB := hRP.sub (64 * k) 64 (by omega)
      rw [Nat.zero_add] at hRB
      have HRB := hidM hRB
      have HPB := hidM hsz
      have HL := hidM hL
      have HU := hidM hU
      have AK1 := hidM hAK
      have AH1 := hidM hAH
      have RP1 := hidM hRP
      have HB1 := hidM hBr
      clear hst hL hU hRB hRP hAK hAH hBr hsz
      go_upto_region 7 with fail
      refine wp_region_lit ?_
      refine wp_y (v := .slice (some ⟨pb, 0, none⟩) (64 * nb) cp) rfl rfl (y_move rfl (by kernel_rfl) (by kernel_rfl)) rfl ?_
      refine wp_y (v := .int .i64 (64 * k : Nat)) rfl rfl (y_move rfl (by kernel_rfl) (by kernel_rfl)) rfl ?_
      refine wp_y (v := .int .i64 (64 * k : Nat)) rfl rfl (y_move rfl (by kernel_rfl) (by kernel_rfl)) rfl ?_
      refine wp_y (v := .int .i64 (64 * k + 64 : Nat)) rfl rfl (y_bin rfl (by kernel_rfl) (by kernel_rfl) (by kernel_rfl) (add64 k HKS.out)) rfl ?_
      refine wp_y (v := .slice (some ⟨pb, 64 * k, none⟩) 64 (cp - 64 * k)) rfl rfl (y_slice rfl (by kernel_rfl) (by kernel_rfl) (by kernel_rfl) (by kernel_rfl) (by kernel_rfl) (sliceB pb k (64 * nb) cp HKL.out HCP.out)) rfl ?_
      refine wp_call (f := 23) (args := #[.slice (some ⟨pb, 64 * k, none⟩) 64 (cp - 64 * k)]) (by kernel_rfl) (fun w => by go_simp) ?_
      refine (refWords_any ((P.drop (64 * k)).take 64) pb (64 * k) (cp - 64 * k) HLB.out _ HRB.out HPB.out).mono ?_
      rintro e w4 ⟨he4, hB4⟩
      obtain ⟨ws, hws⟩ : ∃ ws, ws = wordsOf ((P.drop (64 * k)).take 64) := ⟨_, rfl⟩
      rw [← hws] at he4
      subst he4
      have hwl : ws.length = 64 := by rw [hws]; exact wordsOf_len _
      have aW0 := heap_alloc_last w4 (.cells (cs32 z64) 38)
      refine ⟨_, rfl, ?_⟩
      dsimp only [Act.put]
      refine wp_run (v := .pointer (some ⟨w4.heap.size, 0, none⟩)) rfl rfl (run_alOp rfl (alloc38 _)) rfl ?_
      refine wp_do rfl rfl (run_storeOp rfl (by kernel_rfl) (by kernel_rfl) (store38 z64_len hwl aW0)) ?_
      try simp only [List.setIfInBounds_toArray, List.set_cons_zero, List.set_cons_succ]
      refine wp_end ?_
      have hB5 : Below wr.heap.size wr ((w4.alloc (.cells (cs32 z64) 38)).setRow w4.heap.size (cs32 ws)) := below_setRow (hB4.alloc hB4.size _) hB4.size _
      have aW5 : Ar ((w4.alloc (.cells (cs32 z64) 38)).setRow w4.heap.size (cs32 ws)) w4.heap.size 38 ws := Ar.row aW0 ws
      have hs5 : ((w4.alloc (.cells (cs32 z64) 38)).setRow w4.heap.size (cs32 ws)).heap.size = w4.heap.size + 1 := by rw [size_setRow, size_alloc]
      have hwb : wr.heap.size ≤ w4.heap.size := hB4.size
      generalize (w4.alloc (.cells (cs32 z64) 38)).setRow w4.heap.size (cs32 ws) = w5 at *
      generalize w4.heap.size = wb at *
      have hprl := HPB.out
      have hlk := AK1.out.lt
      have hlh := AH1.out.lt
      have aK5 := AK1.out.below hB5 hlk
      have aH5 := AH1.out.below hB5 hlh
      have rP5 := RP1.out.below' hB5 hprl
      have hBw5 := HB1.out.trans (hB5.mono (by have := HB1.out.size; omega))
      have AH5 := hidM aH5
      obtain ⟨vb, hvb⟩ : ∃ vb, vb = w5.heap.size := ⟨_, rfl⟩
      have HVB : Hid (w5.heap.size = vb) := hidM hvb.symm
      have aV0 : Ar (w5.alloc (.cells (cs32 z8) 40)) vb 40 z8 := by rw [hvb]; exact heap_alloc_last w5 _
      have AV0 := hidM aV0
      clear aW0 hB4 aV0
      go_upto_region 8 with fail
      refine wp_region_lit ?_
      refine wp_y (v := V32 st) rfl rfl (y_load rfl (by kernel_rfl) (by kernel_rfl) (fun w' h => by subst h; exact load40 HL.out AH5.out)) rfl ?_
      refine wp_run (v := .pointer (some ⟨vb, 0, none⟩)) rfl rfl (run_alOp rfl (by rw [← HVB.out]; exact alloc40 _)) rfl ?_
      refine wp_do rfl rfl (run_storeOp rfl (by kernel_rfl) (by kernel_rfl) (store40 z8_len HL.out AV0.out)) ?_
      try simp only [List.setIfInBounds_toArray, List.set_cons_zero, List.set_cons_succ]
      refine wp_end ?_
      have hB6 : Below vb w5 ((w5.alloc (.cells (cs32 z8) 40)).setRow vb (cs32 st)) := below_setRow ((Below.refl vb w5).alloc (by omega) _) (Nat.le_refl _) _
      have aV6 : Ar ((w5.alloc (.cells (cs32 z8) 40)).setRow vb (cs32 st)) vb 40 (mixN ws st 0) := Ar.row AV0.out st
      generalize (w5.alloc (.cells (cs32 z8) 40)).setRow vb (cs32 st) = w6 at *
      have hlt2 : kb < vb ∧ hb < vb ∧ pb < vb ∧ wb < vb ∧ B ≤ vb := by have := HB1.out.size; omega
      have AK6 := hidM (aK5.below hB6 hlt2.1)
      have AH6 := hidM (aH5.below hB6 hlt2.2.1)
      have RP6 := hidM (rP5.below' hB6 hlt2.2.2.1)
      have AW6 := hidM (aW5.below hB6 hlt2.2.2.2.1)
      have HB6 := hidM (hBw5.trans (hB6.mono hlt2.2.2.2.2))
      have AV6 := hidM aV6
      have HWL := hidM hwl
      have HWS := hidM hws
      have HLT := hidM hlt2
      clear aK5 aH5 rP5 aW5 hBw5 aV6 hwl hws hlt2 hB5 hB6 AH5 AV0 HVB hvb hwb hs5 hprl hlk hlh AK1 AH1 RP1 HB1 HRB HPB
      go_wp2_with fail
      go_loopw [9] (fun x wi => ∃ t : Nat, t ≤ 64 ∧ x = .int .i64 t ∧ Ar wi vb 40 (mixN ws st t) ∧ Below vb w6 wi) (fun x _ => 64 - (intOf x).toNat)
      case atStart => exact ⟨0, Nat.zero_le _, rfl, AV6.out, Below.refl _ _⟩
      case round =>
        obtain ⟨t, ht, rfl, hAV, hBi⟩ := hrel
        have hAK := AK6.out
        have hlts := HLT.out
        by_cases htl : t < 64
        · have htl' : (t : Int) < 64 := by omega
          have hwt : IntKind.i64.wrap ((t : Int) + 1) = ((t + 1 : Nat) : Int) := by rw [IntWalk.i64_in _ ⟨by omega, by omega⟩]; omega
          obtain ⟨va, vb0, vc, vd, ve, vf, vg, vh, hcur⟩ := list8 (mixN_len (w := ws) HL.out t)
          have hu8 := mixN_u (w := ws) HL.out HU.out t
          have hnx : turn (mixN ws st t) (pl (kts.getD t 0) (ws.getD t 0)) = mixN ws st (t + 1) := rfl
          rw [hcur] at hAV hu8 hnx
          have HA := hidM (hu8 va (by simp))
          have HB0 := hidM (hu8 vb0 (by simp))
          have HC := hidM (hu8 vc (by simp))
          have HE := hidM (hu8 ve (by simp))
          have HF := hidM (hu8 vf (by simp))
          have HG := hidM (hu8 vg (by simp))
          rw [← turn_ref] at hnx
          have HNX := hidM hnx
          have AK := hidM (AK6.out.below hBi hlts.1)
          have AW := hidM (AW6.out.below hBi hlts.2.2.2.1)
          have AV := hidM hAV
          have HBI := hidM hBi
          have HT := hidM htl
          clear hcur hu8 hnx hAV hBi hAK hlts
          go_upto_region 12 with fail
          refine wp_region_lit ?_
          refine wp_y (v := .pointer (some ⟨vb, 4, none⟩)) rfl rfl (y_index rfl (by kernel_rfl) (by kernel_rfl) (by kernel_rfl) (idx40 _ 4 (by decide))) rfl ?_
          refine wp_y (v := .int .u32 (ve : Nat)) rfl rfl (y_load rfl (by kernel_rfl) (by kernel_rfl) (fun w' h => by subst h; exact load37 (AV.out.cell 4 (show 4 < 8 by decide)))) rfl ?_
          refine wp_y (v := .int .u32 (ve : Nat)) rfl rfl (y_assign rfl (by kernel_rfl) (by kernel_rfl)) rfl ?_
          try simp only [List.setIfInBounds_toArray, List.set_cons_zero, List.set_cons_succ]
          refine wp_end ?_
          go_upto_region 13 with fail
          refine wp_region_lit ?_
          refine wp_y (v := .pointer (some ⟨vb, 0, none⟩)) rfl rfl (y_index rfl (by kernel_rfl) (by kernel_rfl) (by kernel_rfl) (idx40 _ 0 (by decide))) rfl ?_
          refine wp_y (v := .int .u32 (va : Nat)) rfl rfl (y_load rfl (by kernel_rfl) (by kernel_rfl) (fun w' h => by subst h; exact load37 (AV.out.cell 0 (show 0 < 8 by decide)))) rfl ?_
          refine wp_y (v := .int .u32 (va : Nat)) rfl rfl (y_assign rfl (by kernel_rfl) (by kernel_rfl)) rfl ?_
          try simp only [List.setIfInBounds_toArray, List.set_cons_zero, List.set_cons_succ]
          refine wp_end ?_
          go_upto_region 14 with fail
          refine z_open (S := fun w' => Below wr.heap.size wr w') 30 (by kernel_rfl) (by kernel_rfl) (fun _ _ _ _ _ h => h) (L := #[false, false, false, false, false, false, false, false, false, false, false, false, false, false, false, false, false, false, false, false, false, false, false, false, false, false, false, false, false, false, false]) (by kernel_rfl) ?_
          intro Q' hns hP hN
          have hS := (show Below wr.heap.size wr wr.drew from (Below.refl _ _).drew)
          refine z_pure (i := 0) (v := .pointer (some ⟨vb, 7, none⟩)) hns rfl rfl rfl (by kernel_rfl) (by kernel_rfl) hP (y_index rfl (by kernel_rfl) (by kernel_rfl) (by kernel_rfl) (idx40 _ 7 (by decide))) (fun _ => hS) rfl (L' := #[true, false, false, false, false, false, false, false, false, false, false, false, false, false, false, false, false, false, false, false, false, false, false, false, false, false, false, false, false, false, false]) (by kernel_rfl) ?_
          refine z_read (i := 1) (v := .int .u32 (vh : Nat)) hns rfl (by kernel_rfl) rfl rfl (by kernel_rfl) (by kernel_rfl) hP (y_load rfl (by kernel_rfl) (by kernel_rfl) (fun w' h => load37 ((AV.out.below h AV.out.lt).cell 7 (show 7 < 8 by decide)))) rfl hS rfl (L' := #[true, true, false, false, false, false, false, false, false, false, false, false, false, false, false, false, false, false, false, false, false, false, false, false, false, false, false, false, false, false, false]) (by kernel_rfl) ?_
          refine z_pure (i := 2) (v := .int .u32 (ve : Nat)) hns rfl rfl rfl (by kernel_rfl) (by kernel_rfl) hP (y_move rfl (by kernel_rfl) (by kernel_rfl)) (fun _ => hS) rfl (L' := #[true, true, true, false, false, false, false, false, false, false, false, false, false, false, false, false, false, false, false, false, false, false, false, false, false, false, false, false, false, false, false]) (by kernel_rfl) ?_
          refine z_pure (i := 4) (v := .int .u32 (ve : Nat)) hns rfl rfl rfl (by kernel_rfl) (by kernel_rfl) hP (y_move rfl (by kernel_rfl) (by kernel_rfl)) (fun _ => hS) rfl (L' := #[true, true, true, false, true, false, false, false, false, false, false, false, false, false, false, false, false, false, false, false, false, false, false, false, false, false, false, false, false, false, false]) (by kernel_rfl) ?_
          refine z_pure (i := 7) (v := .int .u32 (ve : Nat)) hns rfl rfl rfl (by kernel_rfl) (by kernel_rfl) hP (y_move rfl (by kernel_rfl) (by kernel_rfl)) (fun _ => hS) rfl (L' := #[true, true, true, false, true, false, false, true, false, false, false, false, false, false, false, false, false, false, false, false, false, false, false, false, false, false, false, false, false, false, false]) (by kernel_rfl) ?_
          refine z_pure (i := 11) (v := .int .u32 (ve : Nat)) hns rfl rfl rfl (by kernel_rfl) (by kernel_rfl) hP (y_move rfl (by kernel_rfl) (by kernel_rfl)) (fun _ => hS) rfl (L' := #[true, true, true, false, true, false, false, true, false, false, false, true, false, false, false, false, false, false, false, false, false, false, false, false, false, false, false, false, false, false, false]) (by kernel_rfl) ?_
          refine z_pure (i := 12) (v := .pointer (some ⟨vb, 5, none⟩)) hns rfl rfl rfl (by kernel_rfl) (by kernel_rfl) hP (y_index rfl (by kernel_rfl) (by kernel_rfl) (by kernel_rfl) (idx40 _ 5 (by decide))) (fun _ => hS) rfl (L' := #[true, true, true, false, true, false, false, true, false, false, false, true, true, false, false, false, false, false, false, false, false, false, false, false, false, false, false, false, false, false, false]) (by kernel_rfl) ?_
          simp only [List.setIfInBounds_toArray, List.set_cons_zero, List.set_cons_succ]
          refine z_read (i := 13) (v := .int .u32 (vf : Nat)) hns rfl (by kernel_rfl) rfl rfl (by kernel_rfl) (by kernel_rfl) hP (y_load rfl (by kernel_rfl) (by kernel_rfl) (fun w' h => load37 ((AV.out.below h AV.out.lt).cell 5 (show 5 < 8 by decide)))) rfl hS rfl (L' := #[true, true, true, false, true, false, false, true, false, false, false, true, true, true, false, false, false, false, false, false, false, false, false, false, false, false, false, false, false, false, false]) (by kernel_rfl) ?_
          refine z_pure (i := 14) (v := .int .u32 (ve &&& vf : Nat)) hns rfl rfl rfl (by kernel_rfl) (by kernel_rfl) hP (y_bin rfl (by kernel_rfl) (by kernel_rfl) (by kernel_rfl) (and37 _ _ HE.out HF.out)) (fun _ => hS) rfl (L' := #[true, true, true, false, true, false, false, true, false, false, false, true, true, true, true, false, false, false, false, false, false, false, false, false, false, false, false, false, false, false, false]) (by kernel_rfl) ?_
          refine z_pure (i := 15) (v := .int .u32 (ve : Nat)) hns rfl rfl rfl (by kernel_rfl) (by kernel_rfl) hP (y_move rfl (by kernel_rfl) (by kernel_rfl)) (fun _ => hS) rfl (L' := #[true, true, true, false, true, false, false, true, false, false, false, true, true, true, true, true, false, false, false, false, false, false, false, false, false, false, false, false, false, false, false]) (by kernel_rfl) ?_
          refine z_pure (i := 16) (v := .int .u32 (nt ve : Nat)) hns rfl rfl rfl (by kernel_rfl) (by kernel_rfl) hP (y_un rfl (by kernel_rfl) (by kernel_rfl) (not37 _ HE.out)) (fun _ => hS) rfl (L' := #[true, true, true, false, true, false, false, true, false, false, false, true, true, true, true, true, true, false, false, false, false, false, false, false, false, false, false, false, false, false, false]) (by kernel_rfl) ?_
          refine z_pure (i := 17) (v := .pointer (some ⟨vb, 6, none⟩)) hns rfl rfl rfl (by kernel_rfl) (by kernel_rfl) hP (y_index rfl (by kernel_rfl) (by kernel_rfl) (by kernel_rfl) (idx40 _ 6 (by decide))) (fun _ => hS) rfl (L' := #[true, true, true, false, true, false, false, true, false, false, false, true, true, true, true, true, true, true, false, false, false, false, false, false, false, false, false, false, false, false, false]) (by kernel_rfl) ?_
          refine z_read (i := 18) (v := .int .u32 (vg : Nat)) hns rfl (by kernel_rfl) rfl rfl (by kernel_rfl) (by kernel_rfl) hP (y_load rfl (by kernel_rfl) (by kernel_rfl) (fun w' h => load37 ((AV.out.below h AV.out.lt).cell 6 (show 6 < 8 by decide)))) rfl hS rfl (L' := #[true, true, true, false, true, false, false, true, false, false, false, true, true, true, true, true, true, true, true, false, false, false, false, false, false, false, false, false, false, false, false]) (by kernel_rfl) ?_
          refine z_pure (i := 19) (v := .int .u32 (nt ve &&& vg : Nat)) hns rfl rfl rfl (by kernel_rfl) (by kernel_rfl) hP (y_bin rfl (by kernel_rfl) (by kernel_rfl) (by kernel_rfl) (and37 _ _ (nt_lt _) HG.out)) (fun _ => hS) rfl (L' := #[true, true, true, false, true, false, false, true, false, false, false, true, true, true, true, true, true, true, true, true, false, false, false, false, false, false, false, false, false, false, false]) (by kernel_rfl) ?_
          refine z_pure (i := 20) (v := .int .u32 (cho ve vf vg : Nat)) hns rfl rfl rfl (by kernel_rfl) (by kernel_rfl) hP (y_bin rfl (by kernel_rfl) (by kernel_rfl) (by kernel_rfl) (xor37 _ _ (and_lt HF.out) (and_lt HG.out))) (fun _ => hS) rfl (L' := #[true, true, true, false, true, false, false, true, false, false, false, true, true, true, true, true, true, true, true, true, true, false, false, false, false, false, false, false, false, false, false]) (by kernel_rfl) ?_
          simp only [List.setIfInBounds_toArray, List.set_cons_zero, List.set_cons_succ]
          refine z_pure (i := 22) (v := .int .i64 t) hns rfl rfl rfl (by kernel_rfl) (by kernel_rfl) hP (y_move rfl (by kernel_rfl) (by kernel_rfl)) (fun _ => hS) rfl (L' := #[true, true, true, false, true, false, false, true, false, false, false, true, true, true, true, true, true, true, true, true, true, false, true, false, false, false, false, false, false, false, false]) (by kernel_rfl) ?_
          refine z_pure (i := 23) (v := .pointer (some ⟨kb, t, none⟩)) hns rfl rfl rfl (by kernel_rfl) (by kernel_rfl) hP (y_index rfl (by kernel_rfl) (by kernel_rfl) (by kernel_rfl) (idx38 _ t HT.out)) (fun _ => hS) rfl (L' := #[true, true, true, false, true, false, false, true, false, false, false, true, true, true, true, true, true, true, true, true, true, false, true, true, false, false, false, false, false, false, false]) (by kernel_rfl) ?_
          refine z_read (i := 24) (v := .int .u32 (kts.getD t 0 : Nat)) hns rfl (by kernel_rfl) rfl rfl (by kernel_rfl) (by kernel_rfl) hP (y_load rfl (by kernel_rfl) (by kernel_rfl) (fun w' h => load37 ((AK.out.below h AK.out.lt).cell t (by rw [kts_len]; exact HT.out)))) rfl hS rfl (L' := #[true, true, true, false, true, false, false, true, false, false, false, true, true, true, true, true, true, true, true, true, true, false, true, true, true, false, false, false, false, false, false]) (by kernel_rfl) ?_
          refine z_pure (i := 26) (v := .int .i64 t) hns rfl rfl rfl (by kernel_rfl) (by kernel_rfl) hP (y_move rfl (by kernel_rfl) (by kernel_rfl)) (fun _ => hS) rfl (L' := #[true, true, true, false, true, false, false, true, false, false, false, true, true, true, true, true, true, true, true, true, true, false, true, true, true, false, true, false, false, false, false]) (by kernel_rfl) ?_
          refine z_pure (i := 27) (v := .pointer (some ⟨wb, t, none⟩)) hns rfl rfl rfl (by kernel_rfl) (by kernel_rfl) hP (y_index rfl (by kernel_rfl) (by kernel_rfl) (by kernel_rfl) (idx38 _ t HT.out)) (fun _ => hS) rfl (L' := #[true, true, true, false, true, false, false, true, false, false, false, true, true, true, true, true, true, true, true, true, true, false, true, true, true, false, true, true, false, false, false]) (by kernel_rfl) ?_
          refine z_read (i := 28) (v := .int .u32 (ws.getD t 0 : Nat)) hns rfl (by kernel_rfl) rfl rfl (by kernel_rfl) (by kernel_rfl) hP (y_load rfl (by kernel_rfl) (by kernel_rfl) (fun w' h => load37 ((AW.out.below h AW.out.lt).cell t (by rw [HWL.out]; exact HT.out)))) rfl hS rfl (L' := #[true, true, true, false, true, false, false, true, false, false, false, true, true, true, true, true, true, true, true, true, true, false, true, true, true, false, true, true, true, false, false]) (by kernel_rfl) ?_
          refine z_call (i := 3) (f := 24) (args := #[.int .u32 (ve : Nat), .int .u32 6]) (by kernel_rfl) rfl rfl (by kernel_rfl) (enter_go rfl (by kernel_rfl) (fun w => by go_simp)) (L' := #[true, true, true, true, true, false, false, true, false, false, false, true, true, true, true, true, true, true, true, true, true, false, true, true, true, false, true, true, true, false, false]) (by kernel_rfl) ?_
          refine (refRotr_any ve 6 HE.out (by decide) _).mono ?_
          rintro e wz ⟨rfl, hwz⟩
          obtain rfl := hwz
          refine ⟨_, rfl, hS, ?_⟩
          refine z_call (i := 5) (f := 24) (args := #[.int .u32 (ve : Nat), .int .u32 11]) (by kernel_rfl) rfl rfl (by kernel_rfl) (enter_go rfl (by kernel_rfl) (fun w => by go_simp)) (L' := #[true, true, true, true, true, true, false, true, false, false, false, true, true, true, true, true, true, true, true, true, true, false, true, true, true, false, true, true, true, false, false]) (by kernel_rfl) ?_
          refine (refRotr_any ve 11 HE.out (by decide) _).mono ?_
          rintro e wz ⟨rfl, hwz⟩
          obtain rfl := hwz
          refine ⟨_, rfl, hS, ?_⟩
          simp only [List.setIfInBounds_toArray, List.set_cons_zero, List.set_cons_succ]
          refine z_pure (i := 6) (v := .int .u32 (rr 6 ve ^^^ rr 11 ve : Nat)) hns rfl rfl rfl (by kernel_rfl) (by kernel_rfl) hP (y_bin rfl (by kernel_rfl) (by kernel_rfl) (by kernel_rfl) (xor37 _ _ (rr_lt HE.out) (rr_lt HE.out))) (fun _ => hS) rfl (L' := #[true, true, true, true, true, true, true, true, false, false, false, true, true, true, true, true, true, true, true, true, true, false, true, true, true, false, true, true, true, false, false]) (by kernel_rfl) ?_
          refine z_call (i := 8) (f := 24) (args := #[.int .u32 (ve : Nat), .int .u32 25]) (by kernel_rfl) rfl rfl (by kernel_rfl) (enter_go rfl (by kernel_rfl) (fun w => by go_simp)) (L' := #[true, true, true, true, true, true, true, true, true, false, false, true, true, true, true, true, true, true, true, true, true, false, true, true, true, false, true, true, true, false, false]) (by kernel_rfl) ?_
          refine (refRotr_any ve 25 HE.out (by decide) _).mono ?_
          rintro e wz ⟨rfl, hwz⟩
          obtain rfl := hwz
          refine ⟨_, rfl, hS, ?_⟩
          refine z_pure (i := 9) (v := .int .u32 (sa1 ve : Nat)) hns rfl rfl rfl (by kernel_rfl) (by kernel_rfl) hP (y_bin rfl (by kernel_rfl) (by kernel_rfl) (by kernel_rfl) (xor37 _ _ (xor_lt (rr_lt HE.out) (rr_lt HE.out)) (rr_lt HE.out))) (fun _ => hS) rfl (L' := #[true, true, true, true, true, true, true, true, true, true, false, true, true, true, true, true, true, true, true, true, true, false, true, true, true, false, true, true, true, false, false]) (by kernel_rfl) ?_
          refine z_pure (i := 10) (v := .int .u32 (pl vh (sa1 ve) : Nat)) hns rfl rfl rfl (by kernel_rfl) (by kernel_rfl) hP (y_bin rfl (by kernel_rfl) (by kernel_rfl) (by kernel_rfl) (add37 _ _)) (fun _ => hS) rfl (L' := #[true, true, true, true, true, true, true, true, true, true, true, true, true, true, true, true, true, true, true, true, true, false, true, true, true, false, true, true, true, false, false]) (by kernel_rfl) ?_
          refine z_pure (i := 21) (v := .int .u32 (pl (pl vh (sa1 ve)) (cho ve vf vg) : Nat)) hns rfl rfl rfl (by kernel_rfl) (by kernel_rfl) hP (y_bin rfl (by kernel_rfl) (by kernel_rfl) (by kernel_rfl) (add37 _ _)) (fun _ => hS) rfl (L' := #[true, true, true, true, true, true, true, true, true, true, true, true, true, true, true, true, true, true, true, true, true, true, true, true, true, false, true, true, true, false, false]) (by kernel_rfl) ?_
          refine z_pure (i := 25) (v := .int .u32 (pl (pl (pl vh (sa1 ve)) (cho ve vf vg)) (kts.getD t 0) : Nat)) hns rfl rfl rfl (by kernel_rfl) (by kernel_rfl) hP (y_bin rfl (by kernel_rfl) (by kernel_rfl) (by kernel_rfl) (add37 _ _)) (fun _ => hS) rfl (L' := #[true, true, true, true, true, true, true, true, true, true, true, true, true, true, true, true, true, true, true, true, true, true, true, true, true, true, true, true, true, false, false]) (by kernel_rfl) ?_
          refine z_pure (i := 29) (v := .int .u32 (pl (pl (pl (pl vh (sa1 ve)) (cho ve vf vg)) (kts.getD t 0)) (ws.getD t 0) : Nat)) hns rfl rfl rfl (by kernel_rfl) (by kernel_rfl) hP (y_bin rfl (by kernel_rfl) (by kernel_rfl) (by kernel_rfl) (add37 _ _)) (fun _ => hS) rfl (L' := #[true, true, true, true, true, true, true, true, true, true, true, true, true, true, true, true, true, true, true, true, true, true, true, true, true, true, true, true, true, true, false]) (by kernel_rfl) ?_
          refine z_val (i := 30) (v := .int .u32 (pl (pl (pl (pl vh (sa1 ve)) (cho ve vf vg)) (kts.getD t 0)) (ws.getD t 0) : Nat)) (by kernel_rfl) rfl rfl (by kernel_rfl) (run_asg rfl (by kernel_rfl)) hS rfl (L' := #[true, true, true, true, true, true, true, true, true, true, true, true, true, true, true, true, true, true, true, true, true, true, true, true, true, true, true, true, true, true, true]) (by kernel_rfl) ?_
          try simp only [List.setIfInBounds_toArray, List.set_cons_zero, List.set_cons_succ]
          refine z_done (by kernel_rfl) ?_ _
          refine hN _ _ ?_
          clear hP hN hns
          clear hS
          go_upto_region 15 with fail
          refine z_open (S := fun w' => Below wr.heap.size wr w') 24 (by kernel_rfl) (by kernel_rfl) (fun _ _ _ _ _ h => h) (L := #[false, false, false, false, false, false, false, false, false, false, false, false, false, false, false, false, false, false, false, false, false, false, false, false, false]) (by kernel_rfl) ?_
          intro Q' hns hP hN
          have hS := (show Below wr.heap.size wr wr.drew.drew from (Below.refl _ _).drew.drew)
          refine z_pure (i := 0) (v := .int .u32 (va : Nat)) hns rfl rfl rfl (by kernel_rfl) (by kernel_rfl) hP (y_move rfl (by kernel_rfl) (by kernel_rfl)) (fun _ => hS) rfl (L' := #[true, false, false, false, false, false, false, false, false, false, false, false, false, false, false, false, false, false, false, false, false, false, false, false, false]) (by kernel_rfl) ?_
          refine z_pure (i := 2) (v := .int .u32 (va : Nat)) hns rfl rfl rfl (by kernel_rfl) (by kernel_rfl) hP (y_move rfl (by kernel_rfl) (by kernel_rfl)) (fun _ => hS) rfl (L' := #[true, false, true, false, false, false, false, false, false, false, false, false, false, false, false, false, false, false, false, false, false, false, false, false, false]) (by kernel_rfl) ?_
          refine z_pure (i := 5) (v := .int .u32 (va : Nat)) hns rfl rfl rfl (by kernel_rfl) (by kernel_rfl) hP (y_move rfl (by kernel_rfl) (by kernel_rfl)) (fun _ => hS) rfl (L' := #[true, false, true, false, false, true, false, false, false, false, false, false, false, false, false, false, false, false, false, false, false, false, false, false, false]) (by kernel_rfl) ?_
          refine z_pure (i := 8) (v := .int .u32 (va : Nat)) hns rfl rfl rfl (by kernel_rfl) (by kernel_rfl) hP (y_move rfl (by kernel_rfl) (by kernel_rfl)) (fun _ => hS) rfl (L' := #[true, false, true, false, false, true, false, false, true, false, false, false, false, false, false, false, false, false, false, false, false, false, false, false, false]) (by kernel_rfl) ?_
          refine z_pure (i := 9) (v := .pointer (some ⟨vb, 1, none⟩)) hns rfl rfl rfl (by kernel_rfl) (by kernel_rfl) hP (y_index rfl (by kernel_rfl) (by kernel_rfl) (by kernel_rfl) (idx40 _ 1 (by decide))) (fun _ => hS) rfl (L' := #[true, false, true, false, false, true, false, false, true, true, false, false, false, false, false, false, false, false, false, false, false, false, false, false, false]) (by kernel_rfl) ?_
          refine z_read (i := 10) (v := .int .u32 (vb0 : Nat)) hns rfl (by kernel_rfl) rfl rfl (by kernel_rfl) (by kernel_rfl) hP (y_load rfl (by kernel_rfl) (by kernel_rfl) (fun w' h => load37 ((AV.out.below h AV.out.lt).cell 1 (show 1 < 8 by decide)))) rfl hS rfl (L' := #[true, false, true, false, false, true, false, false, true, true, true, false, false, false, false, false, false, false, false, false, false, false, false, false, false]) (by kernel_rfl) ?_
          refine z_pure (i := 11) (v := .int .u32 (va &&& vb0 : Nat)) hns rfl rfl rfl (by kernel_rfl) (by kernel_rfl) hP (y_bin rfl (by kernel_rfl) (by kernel_rfl) (by kernel_rfl) (and37 _ _ HA.out HB0.out)) (fun _ => hS) rfl (L' := #[true, false, true, false, false, true, false, false, true, true, true, true, false, false, false, false, false, false, false, false, false, false, false, false, false]) (by kernel_rfl) ?_
          simp only [List.setIfInBounds_toArray, List.set_cons_zero, List.set_cons_succ]
          refine z_pure (i := 12) (v := .int .u32 (va : Nat)) hns rfl rfl rfl (by kernel_rfl) (by kernel_rfl) hP (y_move rfl (by kernel_rfl) (by kernel_rfl)) (fun _ => hS) rfl (L' := #[true, false, true, false, false, true, false, false, true, true, true, true, true, false, false, false, false, false, false, false, false, false, false, false, false]) (by kernel_rfl) ?_
          refine z_pure (i := 13) (v := .pointer (some ⟨vb, 2, none⟩)) hns rfl rfl rfl (by kernel_rfl) (by kernel_rfl) hP (y_index rfl (by kernel_rfl) (by kernel_rfl) (by kernel_rfl) (idx40 _ 2 (by decide))) (fun _ => hS) rfl (L' := #[true, false, true, false, false, true, false, false, true, true, true, true, true, true, false, false, false, false, false, false, false, false, false, false, false]) (by kernel_rfl) ?_
          refine z_read (i := 14) (v := .int .u32 (vc : Nat)) hns rfl (by kernel_rfl) rfl rfl (by kernel_rfl) (by kernel_rfl) hP (y_load rfl (by kernel_rfl) (by kernel_rfl) (fun w' h => load37 ((AV.out.below h AV.out.lt).cell 2 (show 2 < 8 by decide)))) rfl hS rfl (L' := #[true, false, true, false, false, true, false, false, true, true, true, true, true, true, true, false, false, false, false, false, false, false, false, false, false]) (by kernel_rfl) ?_
          refine z_pure (i := 15) (v := .int .u32 (va &&& vc : Nat)) hns rfl rfl rfl (by kernel_rfl) (by kernel_rfl) hP (y_bin rfl (by kernel_rfl) (by kernel_rfl) (by kernel_rfl) (and37 _ _ HA.out HC.out)) (fun _ => hS) rfl (L' := #[true, false, true, false, false, true, false, false, true, true, true, true, true, true, true, true, false, false, false, false, false, false, false, false, false]) (by kernel_rfl) ?_
          refine z_pure (i := 16) (v := .int .u32 ((va &&& vb0) ^^^ (va &&& vc) : Nat)) hns rfl rfl rfl (by kernel_rfl) (by kernel_rfl) hP (y_bin rfl (by kernel_rfl) (by kernel_rfl) (by kernel_rfl) (xor37 _ _ (and_lt HB0.out) (and_lt HC.out))) (fun _ => hS) rfl (L' := #[true, false, true, false, false, true, false, false, true, true, true, true, true, true, true, true, true, false, false, false, false, false, false, false, false]) (by kernel_rfl) ?_
          refine z_pure (i := 17) (v := .pointer (some ⟨vb, 1, none⟩)) hns rfl rfl rfl (by kernel_rfl) (by kernel_rfl) hP (y_index rfl (by kernel_rfl) (by kernel_rfl) (by kernel_rfl) (idx40 _ 1 (by decide))) (fun _ => hS) rfl (L' := #[true, false, true, false, false, true, false, false, true, true, true, true, true, true, true, true, true, true, false, false, false, false, false, false, false]) (by kernel_rfl) ?_
          refine z_read (i := 18) (v := .int .u32 (vb0 : Nat)) hns rfl (by kernel_rfl) rfl rfl (by kernel_rfl) (by kernel_rfl) hP (y_load rfl (by kernel_rfl) (by kernel_rfl) (fun w' h => load37 ((AV.out.below h AV.out.lt).cell 1 (show 1 < 8 by decide)))) rfl hS rfl (L' := #[true, false, true, false, false, true, false, false, true, true, true, true, true, true, true, true, true, true, true, false, false, false, false, false, false]) (by kernel_rfl) ?_
          refine z_pure (i := 19) (v := .pointer (some ⟨vb, 2, none⟩)) hns rfl rfl rfl (by kernel_rfl) (by kernel_rfl) hP (y_index rfl (by kernel_rfl) (by kernel_rfl) (by kernel_rfl) (idx40 _ 2 (by decide))) (fun _ => hS) rfl (L' := #[true, false, true, false, false, true, false, false, true, true, true, true, true, true, true, true, true, true, true, true, false, false, false, false, false]) (by kernel_rfl) ?_
          simp only [List.setIfInBounds_toArray, List.set_cons_zero, List.set_cons_succ]
          refine z_read (i := 20) (v := .int .u32 (vc : Nat)) hns rfl (by kernel_rfl) rfl rfl (by kernel_rfl) (by kernel_rfl) hP (y_load rfl (by kernel_rfl) (by kernel_rfl) (fun w' h => load37 ((AV.out.below h AV.out.lt).cell 2 (show 2 < 8 by decide)))) rfl hS rfl (L' := #[true, false, true, false, false, true, false, false, true, true, true, true, true, true, true, true, true, true, true, true, true, false, false, false, false]) (by kernel_rfl) ?_
          refine z_pure (i := 21) (v := .int .u32 (vb0 &&& vc : Nat)) hns rfl rfl rfl (by kernel_rfl) (by kernel_rfl) hP (y_bin rfl (by kernel_rfl) (by kernel_rfl) (by kernel_rfl) (and37 _ _ HB0.out HC.out)) (fun _ => hS) rfl (L' := #[true, false, true, false, false, true, false, false, true, true, true, true, true, true, true, true, true, true, true, true, true, true, false, false, false]) (by kernel_rfl) ?_
          refine z_pure (i := 22) (v := .int .u32 (maj va vb0 vc : Nat)) hns rfl rfl rfl (by kernel_rfl) (by kernel_rfl) hP (y_bin rfl (by kernel_rfl) (by kernel_rfl) (by kernel_rfl) (xor37 _ _ (xor_lt (and_lt HB0.out) (and_lt HC.out)) (and_lt HC.out))) (fun _ => hS) rfl (L' := #[true, false, true, false, false, true, false, false, true, true, true, true, true, true, true, true, true, true, true, true, true, true, true, false, false]) (by kernel_rfl) ?_
          refine z_call (i := 1) (f := 24) (args := #[.int .u32 (va : Nat), .int .u32 2]) (by kernel_rfl) rfl rfl (by kernel_rfl) (enter_go rfl (by kernel_rfl) (fun w => by go_simp)) (L' := #[true, true, true, false, false, true, false, false, true, true, true, true, true, true, true, true, true, true, true, true, true, true, true, false, false]) (by kernel_rfl) ?_
          refine (refRotr_any va 2 HA.out (by decide) _).mono ?_
          rintro e wz ⟨rfl, hwz⟩
          obtain rfl := hwz
          refine ⟨_, rfl, hS, ?_⟩
          refine z_call (i := 3) (f := 24) (args := #[.int .u32 (va : Nat), .int .u32 13]) (by kernel_rfl) rfl rfl (by kernel_rfl) (enter_go rfl (by kernel_rfl) (fun w => by go_simp)) (L' := #[true, true, true, true, false, true, false, false, true, true, true, true, true, true, true, true, true, true, true, true, true, true, true, false, false]) (by kernel_rfl) ?_
          refine (refRotr_any va 13 HA.out (by decide) _).mono ?_
          rintro e wz ⟨rfl, hwz⟩
          obtain rfl := hwz
          refine ⟨_, rfl, hS, ?_⟩
          refine z_pure (i := 4) (v := .int .u32 (rr 2 va ^^^ rr 13 va : Nat)) hns rfl rfl rfl (by kernel_rfl) (by kernel_rfl) hP (y_bin rfl (by kernel_rfl) (by kernel_rfl) (by kernel_rfl) (xor37 _ _ (rr_lt HA.out) (rr_lt HA.out))) (fun _ => hS) rfl (L' := #[true, true, true, true, true, true, false, false, true, true, true, true, true, true, true, true, true, true, true, true, true, true, true, false, false]) (by kernel_rfl) ?_
          refine z_call (i := 6) (f := 24) (args := #[.int .u32 (va : Nat), .int .u32 22]) (by kernel_rfl) rfl rfl (by kernel_rfl) (enter_go rfl (by kernel_rfl) (fun w => by go_simp)) (L' := #[true, true, true, true, true, true, true, false, true, true, true, true, true, true, true, true, true, true, true, true, true, true, true, false, false]) (by kernel_rfl) ?_
          refine (refRotr_any va 22 HA.out (by decide) _).mono ?_
          rintro e wz ⟨rfl, hwz⟩
          obtain rfl := hwz
          refine ⟨_, rfl, hS, ?_⟩
          refine z_pure (i := 7) (v := .int .u32 (sa0 va : Nat)) hns rfl rfl rfl (by kernel_rfl) (by kernel_rfl) hP (y_bin rfl (by kernel_rfl) (by kernel_rfl) (by kernel_rfl) (xor37 _ _ (xor_lt (rr_lt HA.out) (rr_lt HA.out)) (rr_lt HA.out))) (fun _ => hS) rfl (L' := #[true, true, true, true, true, true, true, true, true, true, true, true, true, true, true, true, true, true, true, true, true, true, true, false, false]) (by kernel_rfl) ?_
          simp only [List.setIfInBounds_toArray, List.set_cons_zero, List.set_cons_succ]
          refine z_pure (i := 23) (v := .int .u32 (pl (sa0 va) (maj va vb0 vc) : Nat)) hns rfl rfl rfl (by kernel_rfl) (by kernel_rfl) hP (y_bin rfl (by kernel_rfl) (by kernel_rfl) (by kernel_rfl) (add37 _ _)) (fun _ => hS) rfl (L' := #[true, true, true, true, true, true, true, true, true, true, true, true, true, true, true, true, true, true, true, true, true, true, true, true, false]) (by kernel_rfl) ?_
          refine z_val (i := 24) (v := .int .u32 (pl (sa0 va) (maj va vb0 vc) : Nat)) (by kernel_rfl) rfl rfl (by kernel_rfl) (run_asg rfl (by kernel_rfl)) hS rfl (L' := #[true, true, true, true, true, true, true, true, true, true, true, true, true, true, true, true, true, true, true, true, true, true, true, true, true]) (by kernel_rfl) ?_
          try simp only [List.setIfInBounds_toArray, List.set_cons_zero, List.set_cons_succ]
          refine z_done (by kernel_rfl) ?_ _
          refine hN _ _ ?_
          clear hP hN hns
          clear hS
          obtain ⟨t1, ht1⟩ : ∃ t1, t1 = pl (pl (pl (pl vh (sa1 ve)) (cho ve vf vg)) (kts.getD t 0)) (ws.getD t 0) := ⟨_, rfl⟩
          obtain ⟨t2, ht2⟩ : ∃ t2, t2 = pl (sa0 va) (maj va vb0 vc) := ⟨_, rfl⟩
          have HNX2 := HNX.out
          rw [← ht1, ← ht2] at HNX2 ⊢
          clear HNX
          go_upto_region 16 with fail
          refine wp_region_lit ?_
          refine wp_y (v := .int .u32 (t1 : Nat)) rfl rfl (y_move rfl (by kernel_rfl) (by kernel_rfl)) rfl ?_
          refine wp_y (v := .int .u32 (t2 : Nat)) rfl rfl (y_move rfl (by kernel_rfl) (by kernel_rfl)) rfl ?_
          refine wp_y (v := .int .u32 (pl t1 t2 : Nat)) rfl rfl (y_bin rfl (by kernel_rfl) (by kernel_rfl) (by kernel_rfl) (add37 _ _)) rfl ?_
          refine wp_y (v := .pointer (some ⟨vb, 0, none⟩)) rfl rfl (y_index rfl (by kernel_rfl) (by kernel_rfl) (by kernel_rfl) (idx40 _ 0 (by decide))) rfl ?_
          refine wp_y (v := .int .u32 (va : Nat)) rfl rfl (y_load rfl (by kernel_rfl) (by kernel_rfl) (fun w' h => by subst h; exact load37 ((show Ar wr.drew.drew vb 40 _ from AV.out).cell 0 (show 0 < 8 by decide)))) rfl ?_
          refine wp_y (v := .pointer (some ⟨vb, 1, none⟩)) rfl rfl (y_index rfl (by kernel_rfl) (by kernel_rfl) (by kernel_rfl) (idx40 _ 1 (by decide))) rfl ?_
          refine wp_y (v := .int .u32 (vb0 : Nat)) rfl rfl (y_load rfl (by kernel_rfl) (by kernel_rfl) (fun w' h => by subst h; exact load37 ((show Ar wr.drew.drew vb 40 _ from AV.out).cell 1 (show 1 < 8 by decide)))) rfl ?_
          refine wp_y (v := .pointer (some ⟨vb, 2, none⟩)) rfl rfl (y_index rfl (by kernel_rfl) (by kernel_rfl) (by kernel_rfl) (idx40 _ 2 (by decide))) rfl ?_
          simp only [List.setIfInBounds_toArray, List.set_cons_zero, List.set_cons_succ]
          refine wp_y (v := .int .u32 (vc : Nat)) rfl rfl (y_load rfl (by kernel_rfl) (by kernel_rfl) (fun w' h => by subst h; exact load37 ((show Ar wr.drew.drew vb 40 _ from AV.out).cell 2 (show 2 < 8 by decide)))) rfl ?_
          refine wp_y (v := .pointer (some ⟨vb, 3, none⟩)) rfl rfl (y_index rfl (by kernel_rfl) (by kernel_rfl) (by kernel_rfl) (idx40 _ 3 (by decide))) rfl ?_
          refine wp_y (v := .int .u32 (vd : Nat)) rfl rfl (y_load rfl (by kernel_rfl) (by kernel_rfl) (fun w' h => by subst h; exact load37 ((show Ar wr.drew.drew vb 40 _ from AV.out).cell 3 (show 3 < 8 by decide)))) rfl ?_
          refine wp_y (v := .int .u32 (t1 : Nat)) rfl rfl (y_move rfl (by kernel_rfl) (by kernel_rfl)) rfl ?_
          refine wp_y (v := .int .u32 (pl vd t1 : Nat)) rfl rfl (y_bin rfl (by kernel_rfl) (by kernel_rfl) (by kernel_rfl) (add37 _ _)) rfl ?_
          refine wp_y (v := .pointer (some ⟨vb, 4, none⟩)) rfl rfl (y_index rfl (by kernel_rfl) (by kernel_rfl) (by kernel_rfl) (idx40 _ 4 (by decide))) rfl ?_
          refine wp_y (v := .int .u32 (ve : Nat)) rfl rfl (y_load rfl (by kernel_rfl) (by kernel_rfl) (fun w' h => by subst h; exact load37 ((show Ar wr.drew.drew vb 40 _ from AV.out).cell 4 (show 4 < 8 by decide)))) rfl ?_
          refine wp_y (v := .pointer (some ⟨vb, 5, none⟩)) rfl rfl (y_index rfl (by kernel_rfl) (by kernel_rfl) (by kernel_rfl) (idx40 _ 5 (by decide))) rfl ?_
          simp only [List.setIfInBounds_toArray, List.set_cons_zero, List.set_cons_succ]
          refine wp_y (v := .int .u32 (vf : Nat)) rfl rfl (y_load rfl (by kernel_rfl) (by kernel_rfl) (fun w' h => by subst h; exact load37 ((show Ar wr.drew.drew vb 40 _ from AV.out).cell 5 (show 5 < 8 by decide)))) rfl ?_
          refine wp_y (v := .pointer (some ⟨vb, 6, none⟩)) rfl rfl (y_index rfl (by kernel_rfl) (by kernel_rfl) (by kernel_rfl) (idx40 _ 6 (by decide))) rfl ?_
          refine wp_y (v := .int .u32 (vg : Nat)) rfl rfl (y_load rfl (by kernel_rfl) (by kernel_rfl) (fun w' h => by subst h; exact load37 ((show Ar wr.drew.drew vb 40 _ from AV.out).cell 6 (show 6 < 8 by decide)))) rfl ?_
          refine wp_run (v := V32 [pl t1 t2, va, vb0, vc, pl vd t1, ve, vf, vg]) rfl rfl (run_buildOp rfl (by kernel_rfl) (build40 _ _ _ _ _ _ _ _ _)) rfl ?_
          refine wp_do rfl rfl (run_storeOp rfl (by kernel_rfl) (by kernel_rfl) (store40 (l := [va, vb0, vc, vd, ve, vf, vg, vh]) (l' := [pl t1 t2, va, vb0, vc, pl vd t1, ve, vf, vg]) rfl rfl (show Ar wr.drew.drew vb 40 _ from AV.out))) ?_
          try simp only [List.setIfInBounds_toArray, List.set_cons_zero, List.set_cons_succ]
          refine wp_end ?_
          have hA7 : Ar (wr.drew.drew.setRow vb (cs32 [pl t1 t2, va, vb0, vc, pl vd t1, ve, vf, vg])) vb 40 (mixN ws st (t + 1)) := by rw [← HNX2]; exact Ar.row (show Ar wr.drew.drew vb 40 _ from AV.out) _
          have hB7 : Below vb w6 (wr.drew.drew.setRow vb (cs32 [pl t1 t2, va, vb0, vc, pl vd t1, ve, vf, vg])) := below_setRow HBI.out.drew.drew (Nat.le_refl _) _
          have HA7 := hidM hA7
          have HB7 := hidM hB7
          clear hA7 hB7
          generalize wr.drew.drew.setRow vb (cs32 [pl t1 t2, va, vb0, vc, pl vd t1, ve, vf, vg]) = w7 at *
          go_wp2
          exact ⟨⟨t + 1, by omega, rfl, HA7.out, HB7.out⟩, by simp [intOf]; omega⟩
        · have ht64 : t = 64 := by omega
          subst ht64
          obtain ⟨o, ho⟩ : ∃ o, o = mixN ws st 64 := ⟨_, rfl⟩
          rw [← ho] at hAV
          have hol : o.length = 8 := by rw [ho]; exact mixN_len HL.out 64
          have HOL := hidM hol
          have HPLUS : Hid (plus st o = overN h0s P (k + 1)) := hidM (by rw [← HST.out, ho, HWS.out]; rfl)
          have AO0 := hidM hAV
          have AK0 := hidM (AK6.out.below hBi hlts.1)
          have AH0 := hidM (AH6.out.below hBi hlts.2.1)
          have RP0 := hidM (RP6.out.below' hBi hlts.2.2.1)
          have HB0 := hidM (HB6.out.trans (hBi.mono hlts.2.2.2.2))
          have HS0 : Hid (pb < wr.heap.size) := hidM (by have := hAV.lt; omega)
          clear ho hol hAV hBi hAK AK6 AH6 RP6 HB6 AV6 AW6
          go_wp2_with fail
          go_loopw [14] (fun x wj => ∃ i : Nat, i ≤ 8 ∧ x = .int .i64 i ∧ Ar wj hb 40 ((plus st o).take i ++ st.drop i) ∧ Ar wj vb 40 o ∧ Ar wj kb 38 kts ∧ Rd wj pb 0 P ∧ Below B w wj ∧ pb < wj.heap.size) (fun x _ => 8 - (intOf x).toNat)
          case atStart => exact ⟨0, Nat.zero_le _, rfl, AH0.out, AO0.out, AK0.out, RP0.out, HB0.out, HS0.out⟩
          case round =>
            clear AH0 AO0 AK0 RP0 HB0 HS0
            obtain ⟨i, hi, rfl, hAH, hAO, hAK, hRP, hBj, hsj⟩ := hrel
            by_cases hil : i < 8
            · have hil' : (i : Int) < 8 := by omega
              have hwi : IntKind.i64.wrap ((i : Int) + 1) = ((i + 1 : Nat) : Int) := by rw [IntWalk.i64_in _ ⟨by omega, by omega⟩]; omega
              have hpl := plus_len HL.out HOL.out
              obtain ⟨sh, hsh⟩ : ∃ sh, sh = (plus st o).take i ++ st.drop i := ⟨_, rfl⟩
              rw [← hsh] at hAH
              have hSL : sh.length = 8 := by rw [hsh]; simp [hpl, HL.out]; omega
              have hset := set_mid st (plus st o) i (by rw [HL.out, hpl]) (by omega)
              rw [plus_get st o i HL.out HOL.out hil, ← mid_get st (plus st o) i (by omega), ← hsh] at hset
              have HSET := hidM hset
              have HSL := hidM hSL
              have HI := hidM hil
              have AH := hidM hAH
              have AO := hidM hAO
              have AK := hidM hAK
              have RP := hidM hRP
              have HBJ := hidM hBj
              have HSJ := hidM hsj
              clear hset hSL hsh hpl hAH hAO hAK hRP hBj hsj
              go_upto_region 20 with fail
              refine z_open (S := fun w' => Below wr.heap.size wr w') 9 (by kernel_rfl) (by kernel_rfl) (fun _ _ _ _ _ h => h) (L := #[false, false, false, false, false, false, false, false, false, false]) (by kernel_rfl) ?_
              intro Q' hns hP hN
              have hS := (show Below wr.heap.size wr wr.drew from (Below.refl _ _).drew)
              refine z_pure (i := 0) (v := .int .i64 i) hns rfl rfl rfl (by kernel_rfl) (by kernel_rfl) hP (y_move rfl (by kernel_rfl) (by kernel_rfl)) (fun _ => hS) rfl (L' := #[true, false, false, false, false, false, false, false, false, false]) (by kernel_rfl) ?_
              refine z_pure (i := 1) (v := .int .i64 i) hns rfl rfl rfl (by kernel_rfl) (by kernel_rfl) hP (y_move rfl (by kernel_rfl) (by kernel_rfl)) (fun _ => hS) rfl (L' := #[true, true, false, false, false, false, false, false, false, false]) (by kernel_rfl) ?_
              refine z_pure (i := 2) (v := .pointer (some ⟨hb, i, none⟩)) hns rfl rfl rfl (by kernel_rfl) (by kernel_rfl) hP (y_index rfl (by kernel_rfl) (by kernel_rfl) (by kernel_rfl) (idx40 _ i HI.out)) (fun _ => hS) rfl (L' := #[true, true, true, false, false, false, false, false, false, false]) (by kernel_rfl) ?_
              refine z_read (i := 3) (v := .int .u32 (sh.getD i 0 : Nat)) hns rfl (by kernel_rfl) rfl rfl (by kernel_rfl) (by kernel_rfl) hP (y_load rfl (by kernel_rfl) (by kernel_rfl) (fun w' h => load37 ((AH.out.below h AH.out.lt).cell i (by rw [HSL.out]; exact HI.out)))) rfl hS rfl (L' := #[true, true, true, true, false, false, false, false, false, false]) (by kernel_rfl) ?_
              refine z_pure (i := 4) (v := .int .i64 i) hns rfl rfl rfl (by kernel_rfl) (by kernel_rfl) hP (y_move rfl (by kernel_rfl) (by kernel_rfl)) (fun _ => hS) rfl (L' := #[true, true, true, true, true, false, false, false, false, false]) (by kernel_rfl) ?_
              refine z_pure (i := 5) (v := .pointer (some ⟨vb, i, none⟩)) hns rfl rfl rfl (by kernel_rfl) (by kernel_rfl) hP (y_index rfl (by kernel_rfl) (by kernel_rfl) (by kernel_rfl) (idx40 _ i HI.out)) (fun _ => hS) rfl (L' := #[true, true, true, true, true, true, false, false, false, false]) (by kernel_rfl) ?_
              refine z_read (i := 6) (v := .int .u32 (o.getD i 0 : Nat)) hns rfl (by kernel_rfl) rfl rfl (by kernel_rfl) (by kernel_rfl) hP (y_load rfl (by kernel_rfl) (by kernel_rfl) (fun w' h => load37 ((AO.out.below h AO.out.lt).cell i (by rw [HOL.out]; exact HI.out)))) rfl hS rfl (L' := #[true, true, true, true, true, true, true, false, false, false]) (by kernel_rfl) ?_
              simp only [List.setIfInBounds_toArray, List.set_cons_zero, List.set_cons_succ]
              refine z_pure (i := 7) (v := .int .u32 (pl (sh.getD i 0) (o.getD i 0) : Nat)) hns rfl rfl rfl (by kernel_rfl) (by kernel_rfl) hP (y_bin rfl (by kernel_rfl) (by kernel_rfl) (by kernel_rfl) (add37 _ _)) (fun _ => hS) rfl (L' := #[true, true, true, true, true, true, true, true, false, false]) (by kernel_rfl) ?_
              refine z_pure (i := 8) (v := .pointer (some ⟨hb, i, none⟩)) hns rfl rfl rfl (by kernel_rfl) (by kernel_rfl) hP (y_index rfl (by kernel_rfl) (by kernel_rfl) (by kernel_rfl) (idx40 _ i HI.out)) (fun _ => hS) rfl (L' := #[true, true, true, true, true, true, true, true, true, false]) (by kernel_rfl) ?_
              refine z_last (by kernel_rfl) rfl rfl (by kernel_rfl) (run_storeOp rfl (by kernel_rfl) (by kernel_rfl) (store37 (k := i) (AH.out.below hS AH.out.lt) (by rw [HSL.out]; exact HI.out) (pl (sh.getD i 0) (o.getD i 0)))) rfl (L' := #[true, true, true, true, true, true, true, true, true, true]) (by kernel_rfl) ?_
              try simp only [List.setIfInBounds_toArray, List.set_cons_zero, List.set_cons_succ]
              refine z_done (by kernel_rfl) ?_ _
              refine hN _ _ ?_
              clear hP hN hns
              clear hS
              have hA8 : Ar (wr.drew.setCell ⟨hb, i, none⟩ (.int .u32 (pl (sh.getD i 0) (o.getD i 0) : Nat))) hb 40 ((plus st o).take (i + 1) ++ st.drop (i + 1)) := by rw [← HSET.out]; exact AH.out.drew.set _ _
              have hO8 : Ar (wr.drew.setCell ⟨hb, i, none⟩ (.int .u32 (pl (sh.getD i 0) (o.getD i 0) : Nat))) vb 40 o := (Below.heap_setCell wr.drew _ _ vb (by show vb ≠ hb; omega)).trans AO.out
              have hK8 : Ar (wr.drew.setCell ⟨hb, i, none⟩ (.int .u32 (pl (sh.getD i 0) (o.getD i 0) : Nat))) kb 38 kts := (Below.heap_setCell wr.drew _ _ kb (by show kb ≠ hb; omega)).trans AK.out
              have hR8 : Rd (wr.drew.setCell ⟨hb, i, none⟩ (.int .u32 (pl (sh.getD i 0) (o.getD i 0) : Nat))) pb 0 P := Rd.setCell RP.out.drew (by show pb ≠ hb; omega) _
              have hB8 : Below B w (wr.drew.setCell ⟨hb, i, none⟩ (.int .u32 (pl (sh.getD i 0) (o.getD i 0) : Nat))) := HBJ.out.drew.setCell (by show B ≤ hb; omega) _
              have hS8 : pb < (wr.drew.setCell ⟨hb, i, none⟩ (.int .u32 (pl (sh.getD i 0) (o.getD i 0) : Nat))).heap.size := by rw [size_setCell]; exact HSJ.out
              have HA8 := hidM hA8
              have HO8 := hidM hO8
              have HK8 := hidM hK8
              have HR8 := hidM hR8
              have HB8 := hidM hB8
              have HS8 := hidM hS8
              clear hA8 hO8 hK8 hR8 hB8 hS8
              generalize wr.drew.setCell ⟨hb, i, none⟩ (.int .u32 (pl (sh.getD i 0) (o.getD i 0) : Nat)) = w8 at *
              go_wp2
              exact ⟨⟨i + 1, by omega, rfl, HA8.out, HO8.out, HK8.out, HR8.out, HB8.out, HS8.out⟩, by simp [intOf]; omega⟩
            · have hi8 : i = 8 := by omega
              subst hi8
              rw [List.take_of_length_le (by rw [plus_len HL.out HOL.out]; omega), List.drop_of_length_le (by rw [HL.out]; omega), List.append_nil, HPLUS.out] at hAH
              have AH := hidM hAH
              have AK := hidM hAK
              have RP := hidM hRP
              have HBJ := hidM hBj
              have HSJ := hidM hsj
              clear hAH hAO hAK hRP hBj hsj
              go_wp2
              exact ⟨⟨k + 1, by omega, rfl, AK.out, AH.out, RP.out, HBJ.out, HSJ.out⟩, by simp [intOf]; omega⟩
    · have hkn : k = nb := by omega
      subst hkn
      obtain ⟨hh, hhh⟩ : ∃ hh, hh = overN h0s P k := ⟨_, rfl⟩
      rw [← hhh] at hAH hsha
      have hhl : hh.length = 8 := by rw [hhh]; exact overN_len h0s_len P k
      obtain ⟨w9, hM, hO9, hB9⟩ := make25 wr 32 (by decide)
      obtain ⟨ob, hob⟩ : ∃ ob, ob = wr.heap.size := ⟨_, rfl⟩
      rw [← hob] at hM hO9 hB9
      have hBo : B ≤ ob := by have := hBr.size; omega
      have HHO : Hid (hb < ob) := hidM (by have := hAH.lt; omega)
      have HM := hidM hM
      have HO9 := hidM hO9
      have HB9 := hidM (hBr.trans (hB9.mono hBo))
      have AH9 := hidM (hAH.below hB9 HHO.out)
      have HHL := hidM hhl
      have HSH := hidM hsha
      clear hM hO9 hB9 hhl hhh hAK hAH hRP hsz hBr hsha
      go_upto_region 21 with fail
      refine wp_region_lit ?_
      refine wp_run (v := .slice (some ⟨ob, 0, none⟩) (0) 32) rfl rfl (run_mkOp rfl (by kernel_rfl) (by kernel_rfl) HM.out) rfl ?_
      refine wp_y (v := .slice (some ⟨ob, 0, none⟩) (0) 32) rfl rfl (y_assign rfl (by kernel_rfl) (by kernel_rfl)) rfl ?_
      try simp only [List.setIfInBounds_toArray, List.set_cons_zero, List.set_cons_succ]
      refine wp_end ?_
      go_wp2_with fail
      go_loopw [16, 15] (fun x v wj => ∃ k : Nat, k ≤ 8 ∧ x = .int .i64 k ∧ v = .slice (some ⟨ob, 0, none⟩) (4 * k) 32 ∧ wj.ownsRow ob 5 1 (.slice (some ⟨ob, 0, none⟩) (4 * k) 32) (4 * k) (cells8 (outs (hh.take k))) ∧ Ar wj hb 40 hh ∧ Below B w wj) (fun x _ _ => 8 - (intOf x).toNat)
      case atStart => exact ⟨0, Nat.zero_le _, rfl, rfl, HO9.out, AH9.out, HB9.out⟩
      case round =>
        clear HM HO9 AH9 HB9
        obtain ⟨k, hk, rfl, rfl, hO, hAH, hBj⟩ := hrel
        by_cases hlt : k < 8
        · have hlt' : (k : Int) < 8 := by omega
          have hwk : IntKind.i64.wrap ((k : Int) + 1) = ((k + 1 : Nat) : Int) := by rw [IntWalk.i64_in _ ⟨by omega, by omega⟩]; omega
          have hst := outs_take hh k (by rw [HHL.out]; exact hlt)
          have hsz := (owns_cap hO).2.2.2
          obtain ⟨w10, hAP, hO2, hB2⟩ := app_in (wr := wr.drew) (outs (hh.take k)) (out4 (hh.getD k 0)) (k := 4) (show wr.drew.ownsRow ob 5 1 (.slice (some ⟨ob, 0, none⟩) (4 * k) 32) (4 * k) (cells8 (outs (hh.take k))) from hO) rfl (by omega) (Nat.le_of_lt hsz) 25
          rw [← hst] at hO2
          have HAP := hidM hAP
          have HO2 := hidM hO2
          have AH := hidM hAH
          have AH2 := hidM ((show Ar wr.drew hb 40 hh from hAH).below hB2 HHO.out)
          have HB2 := hidM (hBj.drew.trans (hB2.mono hBo))
          have HK := hidM hlt
          clear hAP hO2 hB2 hst hO hAH hBj hsz
          go_upto_region 25 with fail
          refine z_open (S := fun w' => Ar w' hb 40 hh) 22 (by kernel_rfl) (by kernel_rfl) (fun _ _ _ _ _ h => h) (L := #[false, false, false, false, false, false, false, false, false, false, false, false, false, false, false, false, false, false, false, false, false, false, false]) (by kernel_rfl) ?_
          intro Q' hns hP hN
          have hS := (show Ar wr.drew hb 40 hh from AH.out)
          have hS1 : Ar (wr.drew.alloc (.cells (cells8 (out4 (hh.getD k 0))).toArray 5)) hb 40 hh := hS.below ((Below.refl wr.drew.heap.size _).alloc (Nat.le_refl _) _) hS.lt
          refine z_pure (i := 0) (v := .slice (some ⟨ob, 0, none⟩) (4 * k) 32) hns rfl rfl rfl (by kernel_rfl) (by kernel_rfl) hP (y_move rfl (by kernel_rfl) (by kernel_rfl)) (fun _ => hS) rfl (L' := #[true, false, false, false, false, false, false, false, false, false, false, false, false, false, false, false, false, false, false, false, false, false, false]) (by kernel_rfl) ?_
          refine z_pure (i := 1) (v := .int .i64 k) hns rfl rfl rfl (by kernel_rfl) (by kernel_rfl) hP (y_move rfl (by kernel_rfl) (by kernel_rfl)) (fun _ => hS) rfl (L' := #[true, true, false, false, false, false, false, false, false, false, false, false, false, false, false, false, false, false, false, false, false, false, false]) (by kernel_rfl) ?_
          refine z_pure (i := 2) (v := .pointer (some ⟨hb, k, none⟩)) hns rfl rfl rfl (by kernel_rfl) (by kernel_rfl) hP (y_index rfl (by kernel_rfl) (by kernel_rfl) (by kernel_rfl) (idx40 _ k HK.out)) (fun _ => hS) rfl (L' := #[true, true, true, false, false, false, false, false, false, false, false, false, false, false, false, false, false, false, false, false, false, false, false]) (by kernel_rfl) ?_
          refine z_read (i := 3) (v := .int .u32 ((hh.getD k 0) : Nat)) hns rfl (by kernel_rfl) rfl rfl (by kernel_rfl) (by kernel_rfl) hP (y_load rfl (by kernel_rfl) (by kernel_rfl) (fun w' h => load37 (Ar.cell h k (by rw [HHL.out]; exact HK.out)))) rfl hS rfl (L' := #[true, true, true, true, false, false, false, false, false, false, false, false, false, false, false, false, false, false, false, false, false, false, false]) (by kernel_rfl) ?_
          refine z_pure (i := 4) (v := .int .u32 ((hh.getD k 0) / 16777216 : Nat)) hns rfl rfl rfl (by kernel_rfl) (by kernel_rfl) hP (y_bin rfl (by kernel_rfl) (by kernel_rfl) (by kernel_rfl) (shr37_24 _)) (fun _ => hS) rfl (L' := #[true, true, true, true, true, false, false, false, false, false, false, false, false, false, false, false, false, false, false, false, false, false, false]) (by kernel_rfl) ?_
          refine z_pure (i := 5) (v := .int .u8 ((hh.getD k 0) / 16777216 % 256 : Nat)) hns rfl rfl rfl (by kernel_rfl) (by kernel_rfl) hP (y_cnv rfl (by kernel_rfl) (by kernel_rfl) (cvt5 _)) (fun _ => hS) rfl (L' := #[true, true, true, true, true, true, false, false, false, false, false, false, false, false, false, false, false, false, false, false, false, false, false]) (by kernel_rfl) ?_
          refine z_pure (i := 6) (v := .int .i64 k) hns rfl rfl rfl (by kernel_rfl) (by kernel_rfl) hP (y_move rfl (by kernel_rfl) (by kernel_rfl)) (fun _ => hS) rfl (L' := #[true, true, true, true, true, true, true, false, false, false, false, false, false, false, false, false, false, false, false, false, false, false, false]) (by kernel_rfl) ?_
          simp only [List.setIfInBounds_toArray, List.set_cons_zero, List.set_cons_succ]
          refine z_pure (i := 7) (v := .pointer (some ⟨hb, k, none⟩)) hns rfl rfl rfl (by kernel_rfl) (by kernel_rfl) hP (y_index rfl (by kernel_rfl) (by kernel_rfl) (by kernel_rfl) (idx40 _ k HK.out)) (fun _ => hS) rfl (L' := #[true, true, true, true, true, true, true, true, false, false, false, false, false, false, false, false, false, false, false, false, false, false, false]) (by kernel_rfl) ?_
          refine z_read (i := 8) (v := .int .u32 ((hh.getD k 0) : Nat)) hns rfl (by kernel_rfl) rfl rfl (by kernel_rfl) (by kernel_rfl) hP (y_load rfl (by kernel_rfl) (by kernel_rfl) (fun w' h => load37 (Ar.cell h k (by rw [HHL.out]; exact HK.out)))) rfl hS rfl (L' := #[true, true, true, true, true, true, true, true, true, false, false, false, false, false, false, false, false, false, false, false, false, false, false]) (by kernel_rfl) ?_
          refine z_pure (i := 9) (v := .int .u32 ((hh.getD k 0) / 65536 : Nat)) hns rfl rfl rfl (by kernel_rfl) (by kernel_rfl) hP (y_bin rfl (by kernel_rfl) (by kernel_rfl) (by kernel_rfl) (shr37_16 _)) (fun _ => hS) rfl (L' := #[true, true, true, true, true, true, true, true, true, true, false, false, false, false, false, false, false, false, false, false, false, false, false]) (by kernel_rfl) ?_
          refine z_pure (i := 10) (v := .int .u8 ((hh.getD k 0) / 65536 % 256 : Nat)) hns rfl rfl rfl (by kernel_rfl) (by kernel_rfl) hP (y_cnv rfl (by kernel_rfl) (by kernel_rfl) (cvt5 _)) (fun _ => hS) rfl (L' := #[true, true, true, true, true, true, true, true, true, true, true, false, false, false, false, false, false, false, false, false, false, false, false]) (by kernel_rfl) ?_
          refine z_pure (i := 11) (v := .int .i64 k) hns rfl rfl rfl (by kernel_rfl) (by kernel_rfl) hP (y_move rfl (by kernel_rfl) (by kernel_rfl)) (fun _ => hS) rfl (L' := #[true, true, true, true, true, true, true, true, true, true, true, true, false, false, false, false, false, false, false, false, false, false, false]) (by kernel_rfl) ?_
          refine z_pure (i := 12) (v := .pointer (some ⟨hb, k, none⟩)) hns rfl rfl rfl (by kernel_rfl) (by kernel_rfl) hP (y_index rfl (by kernel_rfl) (by kernel_rfl) (by kernel_rfl) (idx40 _ k HK.out)) (fun _ => hS) rfl (L' := #[true, true, true, true, true, true, true, true, true, true, true, true, true, false, false, false, false, false, false, false, false, false, false]) (by kernel_rfl) ?_
          refine z_read (i := 13) (v := .int .u32 ((hh.getD k 0) : Nat)) hns rfl (by kernel_rfl) rfl rfl (by kernel_rfl) (by kernel_rfl) hP (y_load rfl (by kernel_rfl) (by kernel_rfl) (fun w' h => load37 (Ar.cell h k (by rw [HHL.out]; exact HK.out)))) rfl hS rfl (L' := #[true, true, true, true, true, true, true, true, true, true, true, true, true, true, false, false, false, false, false, false, false, false, false]) (by kernel_rfl) ?_
          refine z_pure (i := 14) (v := .int .u32 ((hh.getD k 0) / 256 : Nat)) hns rfl rfl rfl (by kernel_rfl) (by kernel_rfl) hP (y_bin rfl (by kernel_rfl) (by kernel_rfl) (by kernel_rfl) (shr37_8 _)) (fun _ => hS) rfl (L' := #[true, true, true, true, true, true, true, true, true, true, true, true, true, true, true, false, false, false, false, false, false, false, false]) (by kernel_rfl) ?_
          simp only [List.setIfInBounds_toArray, List.set_cons_zero, List.set_cons_succ]
          refine z_pure (i := 15) (v := .int .u8 ((hh.getD k 0) / 256 % 256 : Nat)) hns rfl rfl rfl (by kernel_rfl) (by kernel_rfl) hP (y_cnv rfl (by kernel_rfl) (by kernel_rfl) (cvt5 _)) (fun _ => hS) rfl (L' := #[true, true, true, true, true, true, true, true, true, true, true, true, true, true, true, true, false, false, false, false, false, false, false]) (by kernel_rfl) ?_
          refine z_pure (i := 16) (v := .int .i64 k) hns rfl rfl rfl (by kernel_rfl) (by kernel_rfl) hP (y_move rfl (by kernel_rfl) (by kernel_rfl)) (fun _ => hS) rfl (L' := #[true, true, true, true, true, true, true, true, true, true, true, true, true, true, true, true, true, false, false, false, false, false, false]) (by kernel_rfl) ?_
          refine z_pure (i := 17) (v := .pointer (some ⟨hb, k, none⟩)) hns rfl rfl rfl (by kernel_rfl) (by kernel_rfl) hP (y_index rfl (by kernel_rfl) (by kernel_rfl) (by kernel_rfl) (idx40 _ k HK.out)) (fun _ => hS) rfl (L' := #[true, true, true, true, true, true, true, true, true, true, true, true, true, true, true, true, true, true, false, false, false, false, false]) (by kernel_rfl) ?_
          refine z_read (i := 18) (v := .int .u32 ((hh.getD k 0) : Nat)) hns rfl (by kernel_rfl) rfl rfl (by kernel_rfl) (by kernel_rfl) hP (y_load rfl (by kernel_rfl) (by kernel_rfl) (fun w' h => load37 (Ar.cell h k (by rw [HHL.out]; exact HK.out)))) rfl hS rfl (L' := #[true, true, true, true, true, true, true, true, true, true, true, true, true, true, true, true, true, true, true, false, false, false, false]) (by kernel_rfl) ?_
          refine z_pure (i := 19) (v := .int .u8 ((hh.getD k 0) % 256 : Nat)) hns rfl rfl rfl (by kernel_rfl) (by kernel_rfl) hP (y_cnv rfl (by kernel_rfl) (by kernel_rfl) (cvt5 _)) (fun _ => hS) rfl (L' := #[true, true, true, true, true, true, true, true, true, true, true, true, true, true, true, true, true, true, true, true, false, false, false]) (by kernel_rfl) ?_
          refine z_val (i := 20) (v := .slice (some ⟨wr.drew.heap.size, 0, none⟩) 4 4) (by kernel_rfl) rfl rfl (by kernel_rfl) (run_bsOp rfl (by kernel_rfl) (bslice4 wr.drew (hh.getD k 0))) hS1 rfl (L' := #[true, true, true, true, true, true, true, true, true, true, true, true, true, true, true, true, true, true, true, true, true, false, false]) (by kernel_rfl) ?_
          refine z_val (i := 21) (v := .slice (some ⟨ob, 0, none⟩) (4 * k + 4) 32) (by kernel_rfl) rfl rfl (by kernel_rfl) (run_appOp rfl (by kernel_rfl) (by kernel_rfl) HAP.out) AH2.out rfl (L' := #[true, true, true, true, true, true, true, true, true, true, true, true, true, true, true, true, true, true, true, true, true, true, false]) (by kernel_rfl) ?_
          refine z_val (i := 22) (v := .slice (some ⟨ob, 0, none⟩) (4 * k + 4) 32) (by kernel_rfl) rfl rfl (by kernel_rfl) (run_asg rfl (by kernel_rfl)) AH2.out rfl (L' := #[true, true, true, true, true, true, true, true, true, true, true, true, true, true, true, true, true, true, true, true, true, true, true]) (by kernel_rfl) ?_
          try simp only [List.setIfInBounds_toArray, List.set_cons_zero, List.set_cons_succ]
          refine z_done (by kernel_rfl) ?_ _
          refine hN _ _ ?_
          clear hP hN hns
          clear hS hS1
          go_wp2
          exact ⟨⟨k + 1, by omega, rfl, rfl, HO2.out, AH2.out, HB2.out⟩, by simp [intOf]; omega⟩
        · have hk8 : k = 8 := by omega
          subst hk8
          rw [List.take_of_length_le (by rw [HHL.out]; omega)] at hO
          have HO := hidM hO
          have HBJ := hidM hBj
          have hsz := (owns_cap hO).2.2.2
          clear hO hBj hAH
          go_wp2
          go_ret
          refine ⟨ob, rfl, ?_, hsz, by rw [hBB]; exact HBJ.out⟩
          rw [HSH.out]
          exact owns_rd HO.out
end Go.Proofs.YtcjhimakbopipaaDoor
