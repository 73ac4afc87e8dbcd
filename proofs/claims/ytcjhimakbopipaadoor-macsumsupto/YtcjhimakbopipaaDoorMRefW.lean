/- The document's sixty-four constants, and the words of a block. -/
import Derived.Test.YtcjhimakbopipaaDoorMRefP
namespace Go.Proofs.YtcjhimakbopipaaDoor
open Go Go.RowKit

theorem Rd.at {w w' : World} {g o : Nat} {l : List UInt8} (h : Rd w g o l) (hB : Below w.heap.size w w') (hg : g < w.heap.size) (k : Nat) (hk : k < l.length) : w'.cell? ⟨g, o + k, none⟩ = some (.int .u8 ((l.getD k 0).toNat : Nat)) := by
  rw [hB.cell (p := ⟨g, o + k, none⟩) hg, h k hk]; rfl
theorem idx25o (g o n cap k : Nat) (h : k < n) (w : World) : (Instr.indexAt 25 (.slice (some ⟨g, o, none⟩) n cap) (.int .i64 k)).run Tryd.prog w = .ok (.pointer (some ⟨g, o + k, none⟩)) w := by
  have h1 : (k : Int) < n := by omega
  go_simp
theorem mul4 (k : Nat) (h : k < 64) (w : World) : (binOp .mul 3 (.int .i64 4) (.int .i64 k)).run Tryd.prog w = .ok (.int .i64 (4 * k : Nat)) w := by
  have h1 : IntKind.i64.wrap (4 * (k : Int)) = ((4 * k : Nat) : Int) := by rw [IntWalk.i64_in _ ⟨by omega, by omega⟩]; omega
  generalize 4 * k = m at *
  go_simp
theorem shl24 (x : Nat) (h : x < 256) (w : World) : (binOp .shl 37 (.int .u32 x) (.int .u64 24)).run Tryd.prog w = .ok (.int .u32 (x * 16777216 : Nat)) w := by
  have h1 : IntKind.u32.wrap ((x : Int) * 16777216) = ((x * 16777216 : Nat) : Int) := by rw [IntKind.wrap_u32']; omega
  generalize x * 16777216 = q at *
  go_simp
theorem shl16 (x : Nat) (h : x < 256) (w : World) : (binOp .shl 37 (.int .u32 x) (.int .u64 16)).run Tryd.prog w = .ok (.int .u32 (x * 65536 : Nat)) w := by
  have h1 : IntKind.u32.wrap ((x : Int) * 65536) = ((x * 65536 : Nat) : Int) := by rw [IntKind.wrap_u32']; omega
  generalize x * 65536 = q at *
  go_simp
theorem shl8s (x : Nat) (h : x < 256) (w : World) : (binOp .shl 37 (.int .u32 x) (.int .u64 8)).run Tryd.prog w = .ok (.int .u32 (x * 256 : Nat)) w := by
  have h1 : IntKind.u32.wrap ((x : Int) * 256) = ((x * 256 : Nat) : Int) := by rw [IntKind.wrap_u32']; omega
  generalize x * 256 = q at *
  go_simp
theorem or37 (x y : Nat) (hx : x < 4294967296) (hy : y < 4294967296) (w : World) : (binOp .or 37 (.int .u32 x) (.int .u32 y)).run Tryd.prog w = .ok (.int .u32 (x ||| y : Nat)) w := by
  have h1 := u32_or_nat x y hx hy
  generalize x ||| y = q at *
  go_simp
set_option maxHeartbeats 2000000 in
theorem refWords_any (l : List UInt8) (g o cp : Nat) (hl : l.length = 64) (w : World) (hg : Rd w g o l) (hgl : g < w.heap.size) :
    Calls Tryd.prog 23 #[.slice (some ⟨g, o, none⟩) 64 cp] w fun r w' => r = .returned (V32 (wordsOf l)) ∧ Below w.heap.size w w' := by
  have a1 : Ar ((w.alloc (.cells (cs32 z64) 38)).alloc (.cells (cs32 z64) 38)) w.heap.size 38 z64 := (laid8a w _ _ _)
  have a2 : Ar ((w.alloc (.cells (cs32 z64) 38)).alloc (.cells (cs32 z64) 38)) (w.heap.size + 1) 38 (frN l 0) := by rw [frN_zero]; exact laid8' w _ _ _
  have hB0 := bel2 w (.cells (cs32 z64) 38) (.cells (cs32 z64) 38)
  have HA1 := hidM a1
  have HA2 := hidM a2
  have HB0 := hidM hB0
  have HLL := hidM hl
  have HRD := hidM hg
  have HGL0 := hidM hgl
  clear a1 a2 hB0 hg hgl
  go_enter Tryd.func23, Tryd.ntmps23
  go_upto_region 0 with fail
  refine wp_region_lit ?_
  refine wp_alloc (alloc38 _) ?_
  dsimp only [Act.put]
  refine wp_end ?_
  go_upto_region 1 with fail
  refine wp_region_lit ?_
  refine wp_alloc (alloc38 _) ?_
  dsimp only [Act.put]
  have hs1 : (w.alloc (.cells (cs32 z64) 38)).heap.size = w.heap.size + 1 := by show (w.heap.push _).size = _; simp
  rw [hs1]
  refine wp_end ?_
  simp only [List.setIfInBounds_toArray, List.set_cons_zero, List.set_cons_succ]
  generalize hb : w.heap.size = b at *
  generalize hcc : b + 1 = c at *
  go_wp2_with fail
  go_loopw [4] (fun x wr => ∃ i : Nat, i ≤ 16 ∧ x = .int .i64 i ∧ Ar wr b 38 z64 ∧ Ar wr c 38 (frN l i) ∧ Below b w wr) (fun x _ => 16 - (intOf x).toNat)
  case atStart => exact ⟨0, Nat.zero_le _, rfl, HA1.out, HA2.out, HB0.out⟩
  case round =>
    clear HA1 HA2 HB0
    obtain ⟨i, hi, rfl, hD, hA, hBr⟩ := hrel
    have HD := hidM hD
    have HB := hidM hBr
    clear hD hBr
    by_cases hlt : i < 16
    · have hlt' : (i : Int) < 16 := by omega
      have hwk : IntKind.i64.wrap ((i : Int) + 1) = ((i + 1 : Nat) : Int) := by rw [IntWalk.i64_in _ ⟨by omega, by omega⟩]; omega
      have hst1 := frN_step l i (by omega)
      unfold be4 at hst1
      rw [← or_be4 _ _ _ _ (UInt8.toNat_lt _) (UInt8.toNat_lt _) (UInt8.toNat_lt _)] at hst1
      obtain ⟨st, hst⟩ : ∃ st, st = frN l i := ⟨_, rfl⟩
      rw [← hst] at hA hst1
      have hL : st.length = 64 := by rw [hst]; exact frN_len l i
      have q0 := (l.getD (4 * i) 0).toNat_lt
      have q1 := (l.getD (4 * i + 1) 0).toNat_lt
      have q2 := (l.getD (4 * i + 2) 0).toNat_lt
      have q3 := (l.getD (4 * i + 3) 0).toNat_lt
      have HW1 : Hid ((l.getD (4 * i) 0).toNat * 16777216 < 4294967296) := hidM (by omega)
      have HW2 : Hid ((l.getD (4 * i + 1) 0).toNat * 65536 < 4294967296) := hidM (by omega)
      have HW3 : Hid ((l.getD (4 * i + 2) 0).toNat * 256 < 4294967296) := hidM (by omega)
      have HW4 : Hid ((l.getD (4 * i + 3) 0).toNat < 4294967296) := hidM (by omega)
      clear q0 q1 q2 q3
      have hR : Rd wr g o l := HRD.out.below' HB.out (by rw [← hb]; have := HGL0.out; omega)
      have hgr : g < wr.heap.size := Nat.lt_of_lt_of_le (by have := HGL0.out; omega) HB.out.size
      have HR := hidM hR
      have HGL := hidM hgr
      have HST := hidM hst1
      have HA := hidM hA
      have HL := hidM hL
      have HK := hidM hlt
      have hbc : b ≠ c := by omega
      have HBC := hidM hbc
      clear hA hL hst hst1 hbc hR hgr
      go_upto_region 5 with fail
      refine z_open (S := fun w' => Below wr.heap.size wr w') 35 (by kernel_rfl) (by kernel_rfl) (fun _ _ _ _ _ h => h) (L := #[false, false, false, false, false, false, false, false, false, false, false, false, false, false, false, false, false, false, false, false, false, false, false, false, false, false, false, false, false, false, false, false, false, false, false, false]) (by kernel_rfl) ?_
      intro Q' hns hP hN
      have hS := (show Below wr.heap.size wr wr.drew from (Below.refl _ _).drew)
      refine z_pure (i := 0) (v := .int .i64 i) hns rfl rfl rfl (by kernel_rfl) (by kernel_rfl) hP (y_move rfl (by kernel_rfl) (by kernel_rfl)) (fun _ => hS) rfl (L' := #[true, false, false, false, false, false, false, false, false, false, false, false, false, false, false, false, false, false, false, false, false, false, false, false, false, false, false, false, false, false, false, false, false, false, false, false]) (by kernel_rfl) ?_
      refine z_pure (i := 1) (v := .slice (some ⟨g, o, none⟩) 64 cp) hns rfl rfl rfl (by kernel_rfl) (by kernel_rfl) hP (y_move rfl (by kernel_rfl) (by kernel_rfl)) (fun _ => hS) rfl (L' := #[true, true, false, false, false, false, false, false, false, false, false, false, false, false, false, false, false, false, false, false, false, false, false, false, false, false, false, false, false, false, false, false, false, false, false, false]) (by kernel_rfl) ?_
      refine z_pure (i := 2) (v := .int .i64 i) hns rfl rfl rfl (by kernel_rfl) (by kernel_rfl) hP (y_move rfl (by kernel_rfl) (by kernel_rfl)) (fun _ => hS) rfl (L' := #[true, true, true, false, false, false, false, false, false, false, false, false, false, false, false, false, false, false, false, false, false, false, false, false, false, false, false, false, false, false, false, false, false, false, false, false]) (by kernel_rfl) ?_
      refine z_pure (i := 3) (v := .int .i64 (4 * i : Nat)) hns rfl rfl rfl (by kernel_rfl) (by kernel_rfl) hP (y_bin rfl (by kernel_rfl) (by kernel_rfl) (by kernel_rfl) (mul4 i (by have := HK.out; omega))) (fun _ => hS) rfl (L' := #[true, true, true, true, false, false, false, false, false, false, false, false, false, false, false, false, false, false, false, false, false, false, false, false, false, false, false, false, false, false, false, false, false, false, false, false]) (by kernel_rfl) ?_
      refine z_pure (i := 4) (v := .pointer (some ⟨g, o + (4 * i), none⟩)) hns rfl rfl rfl (by kernel_rfl) (by kernel_rfl) hP (y_index rfl (by kernel_rfl) (by kernel_rfl) (by kernel_rfl) (idx25o g o 64 cp (4 * i) (by have := HK.out; omega))) (fun _ => hS) rfl (L' := #[true, true, true, true, true, false, false, false, false, false, false, false, false, false, false, false, false, false, false, false, false, false, false, false, false, false, false, false, false, false, false, false, false, false, false, false]) (by kernel_rfl) ?_
      refine z_read (i := 5) (v := .int .u8 ((l.getD (4 * i) 0).toNat : Nat)) hns rfl (by kernel_rfl) rfl rfl (by kernel_rfl) (by kernel_rfl) hP (y_load rfl (by kernel_rfl) (by kernel_rfl) (fun w' h => load5 (HR.out.at h HGL.out (4 * i) (by rw [HLL.out]; have := HK.out; omega)))) rfl hS rfl (L' := #[true, true, true, true, true, true, false, false, false, false, false, false, false, false, false, false, false, false, false, false, false, false, false, false, false, false, false, false, false, false, false, false, false, false, false, false]) (by kernel_rfl) ?_
      refine z_pure (i := 6) (v := .int .u32 ((l.getD (4 * i) 0).toNat : Nat)) hns rfl rfl rfl (by kernel_rfl) (by kernel_rfl) hP (y_cnv rfl (by kernel_rfl) (by kernel_rfl) (cvt37 _ (UInt8.toNat_lt _))) (fun _ => hS) rfl (L' := #[true, true, true, true, true, true, true, false, false, false, false, false, false, false, false, false, false, false, false, false, false, false, false, false, false, false, false, false, false, false, false, false, false, false, false, false]) (by kernel_rfl) ?_
      simp only [List.setIfInBounds_toArray, List.set_cons_zero, List.set_cons_succ]
      refine z_pure (i := 7) (v := .int .u32 ((l.getD (4 * i) 0).toNat * 16777216 : Nat)) hns rfl rfl rfl (by kernel_rfl) (by kernel_rfl) hP (y_bin rfl (by kernel_rfl) (by kernel_rfl) (by kernel_rfl) (shl24 _ (UInt8.toNat_lt _))) (fun _ => hS) rfl (L' := #[true, true, true, true, true, true, true, true, false, false, false, false, false, false, false, false, false, false, false, false, false, false, false, false, false, false, false, false, false, false, false, false, false, false, false, false]) (by kernel_rfl) ?_
      refine z_pure (i := 8) (v := .slice (some ⟨g, o, none⟩) 64 cp) hns rfl rfl rfl (by kernel_rfl) (by kernel_rfl) hP (y_move rfl (by kernel_rfl) (by kernel_rfl)) (fun _ => hS) rfl (L' := #[true, true, true, true, true, true, true, true, true, false, false, false, false, false, false, false, false, false, false, false, false, false, false, false, false, false, false, false, false, false, false, false, false, false, false, false]) (by kernel_rfl) ?_
      refine z_pure (i := 9) (v := .int .i64 i) hns rfl rfl rfl (by kernel_rfl) (by kernel_rfl) hP (y_move rfl (by kernel_rfl) (by kernel_rfl)) (fun _ => hS) rfl (L' := #[true, true, true, true, true, true, true, true, true, true, false, false, false, false, false, false, false, false, false, false, false, false, false, false, false, false, false, false, false, false, false, false, false, false, false, false]) (by kernel_rfl) ?_
      refine z_pure (i := 10) (v := .int .i64 (4 * i : Nat)) hns rfl rfl rfl (by kernel_rfl) (by kernel_rfl) hP (y_bin rfl (by kernel_rfl) (by kernel_rfl) (by kernel_rfl) (mul4 i (by have := HK.out; omega))) (fun _ => hS) rfl (L' := #[true, true, true, true, true, true, true, true, true, true, true, false, false, false, false, false, false, false, false, false, false, false, false, false, false, false, false, false, false, false, false, false, false, false, false, false]) (by kernel_rfl) ?_
      refine z_pure (i := 11) (v := .int .i64 (4 * i + 1 : Nat)) hns rfl rfl rfl (by kernel_rfl) (by kernel_rfl) hP (y_bin rfl (by kernel_rfl) (by kernel_rfl) (by kernel_rfl) (addK (4 * i) 1 (by have := HK.out; omega))) (fun _ => hS) rfl (L' := #[true, true, true, true, true, true, true, true, true, true, true, true, false, false, false, false, false, false, false, false, false, false, false, false, false, false, false, false, false, false, false, false, false, false, false, false]) (by kernel_rfl) ?_
      refine z_pure (i := 12) (v := .pointer (some ⟨g, o + (4 * i + 1), none⟩)) hns rfl rfl rfl (by kernel_rfl) (by kernel_rfl) hP (y_index rfl (by kernel_rfl) (by kernel_rfl) (by kernel_rfl) (idx25o g o 64 cp (4 * i + 1) (by have := HK.out; omega))) (fun _ => hS) rfl (L' := #[true, true, true, true, true, true, true, true, true, true, true, true, true, false, false, false, false, false, false, false, false, false, false, false, false, false, false, false, false, false, false, false, false, false, false, false]) (by kernel_rfl) ?_
      refine z_read (i := 13) (v := .int .u8 ((l.getD (4 * i + 1) 0).toNat : Nat)) hns rfl (by kernel_rfl) rfl rfl (by kernel_rfl) (by kernel_rfl) hP (y_load rfl (by kernel_rfl) (by kernel_rfl) (fun w' h => load5 (HR.out.at h HGL.out (4 * i + 1) (by rw [HLL.out]; have := HK.out; omega)))) rfl hS rfl (L' := #[true, true, true, true, true, true, true, true, true, true, true, true, true, true, false, false, false, false, false, false, false, false, false, false, false, false, false, false, false, false, false, false, false, false, false, false]) (by kernel_rfl) ?_
      refine z_pure (i := 14) (v := .int .u32 ((l.getD (4 * i + 1) 0).toNat : Nat)) hns rfl rfl rfl (by kernel_rfl) (by kernel_rfl) hP (y_cnv rfl (by kernel_rfl) (by kernel_rfl) (cvt37 _ (UInt8.toNat_lt _))) (fun _ => hS) rfl (L' := #[true, true, true, true, true, true, true, true, true, true, true, true, true, true, true, false, false, false, false, false, false, false, false, false, false, false, false, false, false, false, false, false, false, false, false, false]) (by kernel_rfl) ?_
      simp only [List.setIfInBounds_toArray, List.set_cons_zero, List.set_cons_succ]
      refine z_pure (i := 15) (v := .int .u32 ((l.getD (4 * i + 1) 0).toNat * 65536 : Nat)) hns rfl rfl rfl (by kernel_rfl) (by kernel_rfl) hP (y_bin rfl (by kernel_rfl) (by kernel_rfl) (by kernel_rfl) (shl16 _ (UInt8.toNat_lt _))) (fun _ => hS) rfl (L' := #[true, true, true, true, true, true, true, true, true, true, true, true, true, true, true, true, false, false, false, false, false, false, false, false, false, false, false, false, false, false, false, false, false, false, false, false]) (by kernel_rfl) ?_
      refine z_pure (i := 16) (v := .int .u32 ((l.getD (4 * i) 0).toNat * 16777216 ||| (l.getD (4 * i + 1) 0).toNat * 65536 : Nat)) hns rfl rfl rfl (by kernel_rfl) (by kernel_rfl) hP (y_bin rfl (by kernel_rfl) (by kernel_rfl) (by kernel_rfl) (or37 _ _ HW1.out HW2.out)) (fun _ => hS) rfl (L' := #[true, true, true, true, true, true, true, true, true, true, true, true, true, true, true, true, true, false, false, false, false, false, false, false, false, false, false, false, false, false, false, false, false, false, false, false]) (by kernel_rfl) ?_
      refine z_pure (i := 17) (v := .slice (some ⟨g, o, none⟩) 64 cp) hns rfl rfl rfl (by kernel_rfl) (by kernel_rfl) hP (y_move rfl (by kernel_rfl) (by kernel_rfl)) (fun _ => hS) rfl (L' := #[true, true, true, true, true, true, true, true, true, true, true, true, true, true, true, true, true, true, false, false, false, false, false, false, false, false, false, false, false, false, false, false, false, false, false, false]) (by kernel_rfl) ?_
      refine z_pure (i := 18) (v := .int .i64 i) hns rfl rfl rfl (by kernel_rfl) (by kernel_rfl) hP (y_move rfl (by kernel_rfl) (by kernel_rfl)) (fun _ => hS) rfl (L' := #[true, true, true, true, true, true, true, true, true, true, true, true, true, true, true, true, true, true, true, false, false, false, false, false, false, false, false, false, false, false, false, false, false, false, false, false]) (by kernel_rfl) ?_
      refine z_pure (i := 19) (v := .int .i64 (4 * i : Nat)) hns rfl rfl rfl (by kernel_rfl) (by kernel_rfl) hP (y_bin rfl (by kernel_rfl) (by kernel_rfl) (by kernel_rfl) (mul4 i (by have := HK.out; omega))) (fun _ => hS) rfl (L' := #[true, true, true, true, true, true, true, true, true, true, true, true, true, true, true, true, true, true, true, true, false, false, false, false, false, false, false, false, false, false, false, false, false, false, false, false]) (by kernel_rfl) ?_
      refine z_pure (i := 20) (v := .int .i64 (4 * i + 2 : Nat)) hns rfl rfl rfl (by kernel_rfl) (by kernel_rfl) hP (y_bin rfl (by kernel_rfl) (by kernel_rfl) (by kernel_rfl) (addK (4 * i) 2 (by have := HK.out; omega))) (fun _ => hS) rfl (L' := #[true, true, true, true, true, true, true, true, true, true, true, true, true, true, true, true, true, true, true, true, true, false, false, false, false, false, false, false, false, false, false, false, false, false, false, false]) (by kernel_rfl) ?_
      refine z_pure (i := 21) (v := .pointer (some ⟨g, o + (4 * i + 2), none⟩)) hns rfl rfl rfl (by kernel_rfl) (by kernel_rfl) hP (y_index rfl (by kernel_rfl) (by kernel_rfl) (by kernel_rfl) (idx25o g o 64 cp (4 * i + 2) (by have := HK.out; omega))) (fun _ => hS) rfl (L' := #[true, true, true, true, true, true, true, true, true, true, true, true, true, true, true, true, true, true, true, true, true, true, false, false, false, false, false, false, false, false, false, false, false, false, false, false]) (by kernel_rfl) ?_
      refine z_read (i := 22) (v := .int .u8 ((l.getD (4 * i + 2) 0).toNat : Nat)) hns rfl (by kernel_rfl) rfl rfl (by kernel_rfl) (by kernel_rfl) hP (y_load rfl (by kernel_rfl) (by kernel_rfl) (fun w' h => load5 (HR.out.at h HGL.out (4 * i + 2) (by rw [HLL.out]; have := HK.out; omega)))) rfl hS rfl (L' := #[true, true, true, true, true, true, true, true, true, true, true, true, true, true, true, true, true, true, true, true, true, true, true, false, false, false, false, false, false, false, false, false, false, false, false, false]) (by kernel_rfl) ?_
      simp only [List.setIfInBounds_toArray, List.set_cons_zero, List.set_cons_succ]
      refine z_pure (i := 23) (v := .int .u32 ((l.getD (4 * i + 2) 0).toNat : Nat)) hns rfl rfl rfl (by kernel_rfl) (by kernel_rfl) hP (y_cnv rfl (by kernel_rfl) (by kernel_rfl) (cvt37 _ (UInt8.toNat_lt _))) (fun _ => hS) rfl (L' := #[true, true, true, true, true, true, true, true, true, true, true, true, true, true, true, true, true, true, true, true, true, true, true, true, false, false, false, false, false, false, false, false, false, false, false, false]) (by kernel_rfl) ?_
      refine z_pure (i := 24) (v := .int .u32 ((l.getD (4 * i + 2) 0).toNat * 256 : Nat)) hns rfl rfl rfl (by kernel_rfl) (by kernel_rfl) hP (y_bin rfl (by kernel_rfl) (by kernel_rfl) (by kernel_rfl) (shl8s _ (UInt8.toNat_lt _))) (fun _ => hS) rfl (L' := #[true, true, true, true, true, true, true, true, true, true, true, true, true, true, true, true, true, true, true, true, true, true, true, true, true, false, false, false, false, false, false, false, false, false, false, false]) (by kernel_rfl) ?_
      refine z_pure (i := 25) (v := .int .u32 (((l.getD (4 * i) 0).toNat * 16777216 ||| (l.getD (4 * i + 1) 0).toNat * 65536) ||| (l.getD (4 * i + 2) 0).toNat * 256 : Nat)) hns rfl rfl rfl (by kernel_rfl) (by kernel_rfl) hP (y_bin rfl (by kernel_rfl) (by kernel_rfl) (by kernel_rfl) (or37 _ _ (or_lt HW1.out HW2.out) HW3.out)) (fun _ => hS) rfl (L' := #[true, true, true, true, true, true, true, true, true, true, true, true, true, true, true, true, true, true, true, true, true, true, true, true, true, true, false, false, false, false, false, false, false, false, false, false]) (by kernel_rfl) ?_
      refine z_pure (i := 26) (v := .slice (some ⟨g, o, none⟩) 64 cp) hns rfl rfl rfl (by kernel_rfl) (by kernel_rfl) hP (y_move rfl (by kernel_rfl) (by kernel_rfl)) (fun _ => hS) rfl (L' := #[true, true, true, true, true, true, true, true, true, true, true, true, true, true, true, true, true, true, true, true, true, true, true, true, true, true, true, false, false, false, false, false, false, false, false, false]) (by kernel_rfl) ?_
      refine z_pure (i := 27) (v := .int .i64 i) hns rfl rfl rfl (by kernel_rfl) (by kernel_rfl) hP (y_move rfl (by kernel_rfl) (by kernel_rfl)) (fun _ => hS) rfl (L' := #[true, true, true, true, true, true, true, true, true, true, true, true, true, true, true, true, true, true, true, true, true, true, true, true, true, true, true, true, false, false, false, false, false, false, false, false]) (by kernel_rfl) ?_
      refine z_pure (i := 28) (v := .int .i64 (4 * i : Nat)) hns rfl rfl rfl (by kernel_rfl) (by kernel_rfl) hP (y_bin rfl (by kernel_rfl) (by kernel_rfl) (by kernel_rfl) (mul4 i (by have := HK.out; omega))) (fun _ => hS) rfl (L' := #[true, true, true, true, true, true, true, true, true, true, true, true, true, true, true, true, true, true, true, true, true, true, true, true, true, true, true, true, true, false, false, false, false, false, false, false]) (by kernel_rfl) ?_
      refine z_pure (i := 29) (v := .int .i64 (4 * i + 3 : Nat)) hns rfl rfl rfl (by kernel_rfl) (by kernel_rfl) hP (y_bin rfl (by kernel_rfl) (by kernel_rfl) (by kernel_rfl) (addK (4 * i) 3 (by have := HK.out; omega))) (fun _ => hS) rfl (L' := #[true, true, true, true, true, true, true, true, true, true, true, true, true, true, true, true, true, true, true, true, true, true, true, true, true, true, true, true, true, true, false, false, false, false, false, false]) (by kernel_rfl) ?_
      refine z_pure (i := 30) (v := .pointer (some ⟨g, o + (4 * i + 3), none⟩)) hns rfl rfl rfl (by kernel_rfl) (by kernel_rfl) hP (y_index rfl (by kernel_rfl) (by kernel_rfl) (by kernel_rfl) (idx25o g o 64 cp (4 * i + 3) (by have := HK.out; omega))) (fun _ => hS) rfl (L' := #[true, true, true, true, true, true, true, true, true, true, true, true, true, true, true, true, true, true, true, true, true, true, true, true, true, true, true, true, true, true, true, false, false, false, false, false]) (by kernel_rfl) ?_
      simp only [List.setIfInBounds_toArray, List.set_cons_zero, List.set_cons_succ]
      refine z_read (i := 31) (v := .int .u8 ((l.getD (4 * i + 3) 0).toNat : Nat)) hns rfl (by kernel_rfl) rfl rfl (by kernel_rfl) (by kernel_rfl) hP (y_load rfl (by kernel_rfl) (by kernel_rfl) (fun w' h => load5 (HR.out.at h HGL.out (4 * i + 3) (by rw [HLL.out]; have := HK.out; omega)))) rfl hS rfl (L' := #[true, true, true, true, true, true, true, true, true, true, true, true, true, true, true, true, true, true, true, true, true, true, true, true, true, true, true, true, true, true, true, true, false, false, false, false]) (by kernel_rfl) ?_
      refine z_pure (i := 32) (v := .int .u32 ((l.getD (4 * i + 3) 0).toNat : Nat)) hns rfl rfl rfl (by kernel_rfl) (by kernel_rfl) hP (y_cnv rfl (by kernel_rfl) (by kernel_rfl) (cvt37 _ (UInt8.toNat_lt _))) (fun _ => hS) rfl (L' := #[true, true, true, true, true, true, true, true, true, true, true, true, true, true, true, true, true, true, true, true, true, true, true, true, true, true, true, true, true, true, true, true, true, false, false, false]) (by kernel_rfl) ?_
      refine z_pure (i := 33) (v := .int .u32 ((((l.getD (4 * i) 0).toNat * 16777216 ||| (l.getD (4 * i + 1) 0).toNat * 65536) ||| (l.getD (4 * i + 2) 0).toNat * 256) ||| (l.getD (4 * i + 3) 0).toNat : Nat)) hns rfl rfl rfl (by kernel_rfl) (by kernel_rfl) hP (y_bin rfl (by kernel_rfl) (by kernel_rfl) (by kernel_rfl) (or37 _ _ (or_lt (or_lt HW1.out HW2.out) HW3.out) HW4.out)) (fun _ => hS) rfl (L' := #[true, true, true, true, true, true, true, true, true, true, true, true, true, true, true, true, true, true, true, true, true, true, true, true, true, true, true, true, true, true, true, true, true, true, false, false]) (by kernel_rfl) ?_
      refine z_pure (i := 34) (v := .pointer (some ⟨c, i, none⟩)) hns rfl rfl rfl (by kernel_rfl) (by kernel_rfl) hP (y_index rfl (by kernel_rfl) (by kernel_rfl) (by kernel_rfl) (idx38 _ i (by have := HK.out; omega))) (fun _ => hS) rfl (L' := #[true, true, true, true, true, true, true, true, true, true, true, true, true, true, true, true, true, true, true, true, true, true, true, true, true, true, true, true, true, true, true, true, true, true, true, false]) (by kernel_rfl) ?_
      refine z_last (by kernel_rfl) rfl rfl (by kernel_rfl) (run_storeOp rfl (by kernel_rfl) (by kernel_rfl) (store37 (k := i) (HA.out.below hS HA.out.lt) (by rw [HL.out]; have := HK.out; omega) ((((l.getD (4 * i) 0).toNat * 16777216 ||| (l.getD (4 * i + 1) 0).toNat * 65536) ||| (l.getD (4 * i + 2) 0).toNat * 256) ||| (l.getD (4 * i + 3) 0).toNat))) rfl (L' := #[true, true, true, true, true, true, true, true, true, true, true, true, true, true, true, true, true, true, true, true, true, true, true, true, true, true, true, true, true, true, true, true, true, true, true, true]) (by kernel_rfl) ?_
      try simp only [List.setIfInBounds_toArray, List.set_cons_zero, List.set_cons_succ]
      refine z_done (by kernel_rfl) ?_ _
      refine hN _ _ ?_
      clear hP hN hns
      have hA1 : Ar (wr.drew.setCell ⟨c, i, none⟩ (.int .u32 (((((l.getD (4 * i) 0).toNat * 16777216 ||| (l.getD (4 * i + 1) 0).toNat * 65536) ||| (l.getD (4 * i + 2) 0).toNat * 256) ||| (l.getD (4 * i + 3) 0).toNat) : Nat))) c 38 (frN l (i + 1)) := by rw [← HST.out]; exact HA.out.drew.set _ _
      have hD1 : Ar (wr.drew.setCell ⟨c, i, none⟩ (.int .u32 (((((l.getD (4 * i) 0).toNat * 16777216 ||| (l.getD (4 * i + 1) 0).toNat * 65536) ||| (l.getD (4 * i + 2) 0).toNat * 256) ||| (l.getD (4 * i + 3) 0).toNat) : Nat))) b 38 z64 := (Below.heap_setCell wr.drew _ _ b HBC.out).trans HD.out
      have hB2 : Below b w (wr.drew.setCell ⟨c, i, none⟩ (.int .u32 (((((l.getD (4 * i) 0).toNat * 16777216 ||| (l.getD (4 * i + 1) 0).toNat * 65536) ||| (l.getD (4 * i + 2) 0).toNat * 256) ||| (l.getD (4 * i + 3) 0).toNat) : Nat))) := HB.out.drew.setCell (by show b ≤ c; omega) _
      have HA5 := hidM hA1
      have HD5 := hidM hD1
      have HB5 := hidM hB2
      clear hA1 hD1 hB2
      generalize wr.drew.setCell ⟨c, i, none⟩ (.int .u32 (((((l.getD (4 * i) 0).toNat * 16777216 ||| (l.getD (4 * i + 1) 0).toNat * 65536) ||| (l.getD (4 * i + 2) 0).toNat * 256) ||| (l.getD (4 * i + 3) 0).toNat) : Nat)) = w2 at *
      go_wp2
      exact ⟨⟨i + 1, by omega, rfl, HD5.out, HA5.out, HB5.out⟩, by simp [intOf]; omega⟩
    · have hi16 : i = 16 := by omega
      subst hi16
      rw [frN_all] at hA
      have HA0 := hidM hA
      have HD0 := HD
      have HB0 := HB
      clear hA HD HB
      go_wp2_with fail
      go_loopw [5, 6, 7, 8, 9] (fun x _ _ _ _ wr => ∃ n : Nat, n ≤ 48 ∧ x = .int .i64 (16 + n : Nat) ∧ Ar wr b 38 z64 ∧ Ar wr c 38 (wsN l n) ∧ Below b w wr) (fun x _ _ _ _ _ => 64 - (intOf x).toNat)
      case atStart => exact ⟨0, Nat.zero_le _, rfl, HD0.out, HA0.out, HB0.out⟩
      case round =>
        clear HA0 HD0 HB0
        obtain ⟨n, hn, rfl, hD, hA, hBr⟩ := hrel
        have HD := hidM hD
        have HB := hidM hBr
        clear hD hBr
        by_cases hlt : n < 48
        · have hlt' : ((16 + n : Nat) : Int) < 64 := by omega
          have hwk : IntKind.i64.wrap (((16 + n : Nat) : Int) + 1) = ((16 + (n + 1) : Nat) : Int) := by rw [IntWalk.i64_in _ ⟨by omega, by omega⟩]; omega
          have hst1 := wsN_step l n hlt
          unfold sched at hst1
          rw [← wsN_get l n _ (by omega), ← wsN_get l n (16 + n - 7) (by omega), ← wsN_get l n (16 + n - 15) (by omega), ← wsN_get l n (16 + n - 16) (by omega)] at hst1
          have hu := wsN_u l n
          obtain ⟨st, hst⟩ : ∃ st, st = wsN l n := ⟨_, rfl⟩
          rw [← hst] at hA hst1 hu
          have hx := hu.get (16 + n - 15)
          have hy := hu.get (16 + n - 2)
          have hL : st.length = 64 := by rw [hst]; exact wsN_len l n (by omega)
          have HST := hidM hst1
          have HX0 := hidM hx
          have HY0 := hidM hy
          have HA := hidM hA
          have HL := hidM hL
          have HK := hidM hlt
          have hbc : b ≠ c := by omega
          have HBC := hidM hbc
          clear hA hL hst hst1 hx hy hu hbc
          go_upto_region 9 with fail
          refine wp_region_lit ?_
          refine wp_y (v := .int .i64 (16 + n : Nat)) rfl rfl (y_move rfl (by kernel_rfl) (by kernel_rfl)) rfl ?_
          refine wp_y (v := .int .i64 (16 + n - 15 : Nat)) rfl rfl (y_bin rfl (by kernel_rfl) (by kernel_rfl) (by kernel_rfl) (subk (16 + n) 15 (by have := HK.out; omega) (by omega))) rfl ?_
          refine wp_y (v := .pointer (some ⟨c, (16 + n - 15), none⟩)) rfl rfl (y_index rfl (by kernel_rfl) (by kernel_rfl) (by kernel_rfl) (idx38 _ (16 + n - 15) (by have := HK.out; omega))) rfl ?_
          refine wp_y (v := .int .u32 (st.getD (16 + n - 15) 0 : Nat)) rfl rfl (y_load rfl (by kernel_rfl) (by kernel_rfl) (fun w' h => by subst h; exact load37 (HA.out.cell (16 + n - 15) (by rw [HL.out]; have := HK.out; omega)))) rfl ?_
          refine wp_y (v := .int .u32 (st.getD (16 + n - 15) 0 : Nat)) rfl rfl (y_assign rfl (by kernel_rfl) (by kernel_rfl)) rfl ?_
          try simp only [List.setIfInBounds_toArray, List.set_cons_zero, List.set_cons_succ]
          refine wp_end ?_
          go_upto_region 10 with fail
          refine wp_region_lit ?_
          refine wp_y (v := .int .i64 (16 + n : Nat)) rfl rfl (y_move rfl (by kernel_rfl) (by kernel_rfl)) rfl ?_
          refine wp_y (v := .int .i64 (16 + n - 2 : Nat)) rfl rfl (y_bin rfl (by kernel_rfl) (by kernel_rfl) (by kernel_rfl) (subk (16 + n) 2 (by have := HK.out; omega) (by omega))) rfl ?_
          refine wp_y (v := .pointer (some ⟨c, (16 + n - 2), none⟩)) rfl rfl (y_index rfl (by kernel_rfl) (by kernel_rfl) (by kernel_rfl) (idx38 _ (16 + n - 2) (by have := HK.out; omega))) rfl ?_
          refine wp_y (v := .int .u32 (st.getD (16 + n - 2) 0 : Nat)) rfl rfl (y_load rfl (by kernel_rfl) (by kernel_rfl) (fun w' h => by subst h; exact load37 (HA.out.cell (16 + n - 2) (by rw [HL.out]; have := HK.out; omega)))) rfl ?_
          refine wp_y (v := .int .u32 (st.getD (16 + n - 2) 0 : Nat)) rfl rfl (y_assign rfl (by kernel_rfl) (by kernel_rfl)) rfl ?_
          try simp only [List.setIfInBounds_toArray, List.set_cons_zero, List.set_cons_succ]
          refine wp_end ?_
          generalize st.getD (16 + n - 15) 0 = x at *
          generalize st.getD (16 + n - 2) 0 = y at *
          have HX := HX0
          have HY := HY0
          clear HX0 HY0
          go_upto_region 11 with fail
          refine wp_region_lit ?_
          refine wp_y (v := .int .u32 (x : Nat)) rfl rfl (y_move rfl (by kernel_rfl) (by kernel_rfl)) rfl ?_
          refine wp_call (f := 24) (args := #[.int .u32 (x : Nat), .int .u32 7]) (by kernel_rfl) (fun w => by go_simp) ?_
          refine (refRotr_any x 7 HX.out (by decide) _).mono ?_
          rintro e w1 ⟨rfl, hw1⟩
          obtain rfl := hw1.symm
          refine ⟨_, rfl, ?_⟩
          dsimp only [Act.put]
          refine wp_y (v := .int .u32 (x : Nat)) rfl rfl (y_move rfl (by kernel_rfl) (by kernel_rfl)) rfl ?_
          refine wp_call (f := 24) (args := #[.int .u32 (x : Nat), .int .u32 18]) (by kernel_rfl) (fun w => by go_simp) ?_
          refine (refRotr_any x 18 HX.out (by decide) _).mono ?_
          rintro e w1 ⟨rfl, hw1⟩
          obtain rfl := hw1.symm
          refine ⟨_, rfl, ?_⟩
          dsimp only [Act.put]
          refine wp_y (v := .int .u32 (rr 7 x ^^^ rr 18 x : Nat)) rfl rfl (y_bin rfl (by kernel_rfl) (by kernel_rfl) (by kernel_rfl) (xor37 _ _ (rr_lt HX.out) (rr_lt HX.out))) rfl ?_
          refine wp_y (v := .int .u32 (x : Nat)) rfl rfl (y_move rfl (by kernel_rfl) (by kernel_rfl)) rfl ?_
          refine wp_y (v := .int .u32 (x / 8 : Nat)) rfl rfl (y_bin rfl (by kernel_rfl) (by kernel_rfl) (by kernel_rfl) (shr37_3 _)) rfl ?_
          refine wp_y (v := .int .u32 (sg0 x : Nat)) rfl rfl (y_bin rfl (by kernel_rfl) (by kernel_rfl) (by kernel_rfl) (xor37 _ _ (xor_lt (rr_lt HX.out) (rr_lt HX.out)) (by have := HX.out; omega))) rfl ?_
          simp only [List.setIfInBounds_toArray, List.set_cons_zero, List.set_cons_succ]
          refine wp_y (v := .int .u32 (sg0 x : Nat)) rfl rfl (y_assign rfl (by kernel_rfl) (by kernel_rfl)) rfl ?_
          try simp only [List.setIfInBounds_toArray, List.set_cons_zero, List.set_cons_succ]
          refine wp_end ?_
          go_upto_region 12 with fail
          refine wp_region_lit ?_
          refine wp_y (v := .int .u32 (y : Nat)) rfl rfl (y_move rfl (by kernel_rfl) (by kernel_rfl)) rfl ?_
          refine wp_call (f := 24) (args := #[.int .u32 (y : Nat), .int .u32 17]) (by kernel_rfl) (fun w => by go_simp) ?_
          refine (refRotr_any y 17 HY.out (by decide) _).mono ?_
          rintro e w1 ⟨rfl, hw1⟩
          obtain rfl := hw1.symm
          refine ⟨_, rfl, ?_⟩
          dsimp only [Act.put]
          refine wp_y (v := .int .u32 (y : Nat)) rfl rfl (y_move rfl (by kernel_rfl) (by kernel_rfl)) rfl ?_
          refine wp_call (f := 24) (args := #[.int .u32 (y : Nat), .int .u32 19]) (by kernel_rfl) (fun w => by go_simp) ?_
          refine (refRotr_any y 19 HY.out (by decide) _).mono ?_
          rintro e w1 ⟨rfl, hw1⟩
          obtain rfl := hw1.symm
          refine ⟨_, rfl, ?_⟩
          dsimp only [Act.put]
          refine wp_y (v := .int .u32 (rr 17 y ^^^ rr 19 y : Nat)) rfl rfl (y_bin rfl (by kernel_rfl) (by kernel_rfl) (by kernel_rfl) (xor37 _ _ (rr_lt HY.out) (rr_lt HY.out))) rfl ?_
          refine wp_y (v := .int .u32 (y : Nat)) rfl rfl (y_move rfl (by kernel_rfl) (by kernel_rfl)) rfl ?_
          refine wp_y (v := .int .u32 (y / 1024 : Nat)) rfl rfl (y_bin rfl (by kernel_rfl) (by kernel_rfl) (by kernel_rfl) (shr37_10 _)) rfl ?_
          refine wp_y (v := .int .u32 (sg1 y : Nat)) rfl rfl (y_bin rfl (by kernel_rfl) (by kernel_rfl) (by kernel_rfl) (xor37 _ _ (xor_lt (rr_lt HY.out) (rr_lt HY.out)) (by have := HY.out; omega))) rfl ?_
          simp only [List.setIfInBounds_toArray, List.set_cons_zero, List.set_cons_succ]
          refine wp_y (v := .int .u32 (sg1 y : Nat)) rfl rfl (y_assign rfl (by kernel_rfl) (by kernel_rfl)) rfl ?_
          try simp only [List.setIfInBounds_toArray, List.set_cons_zero, List.set_cons_succ]
          refine wp_end ?_
          go_upto_region 13 with fail
          refine z_open (S := fun w' => Below wr.heap.size wr w') 15 (by kernel_rfl) (by kernel_rfl) (fun _ _ _ _ _ h => h) (L := #[false, false, false, false, false, false, false, false, false, false, false, false, false, false, false, false]) (by kernel_rfl) ?_
          intro Q' hns hP hN
          have hS := (show Below wr.heap.size wr wr.drew from (Below.refl _ _).drew)
          refine z_pure (i := 0) (v := .int .i64 (16 + n : Nat)) hns rfl rfl rfl (by kernel_rfl) (by kernel_rfl) hP (y_move rfl (by kernel_rfl) (by kernel_rfl)) (fun _ => hS) rfl (L' := #[true, false, false, false, false, false, false, false, false, false, false, false, false, false, false, false]) (by kernel_rfl) ?_
          refine z_pure (i := 1) (v := .int .u32 (sg1 y : Nat)) hns rfl rfl rfl (by kernel_rfl) (by kernel_rfl) hP (y_move rfl (by kernel_rfl) (by kernel_rfl)) (fun _ => hS) rfl (L' := #[true, true, false, false, false, false, false, false, false, false, false, false, false, false, false, false]) (by kernel_rfl) ?_
          refine z_pure (i := 2) (v := .int .i64 (16 + n : Nat)) hns rfl rfl rfl (by kernel_rfl) (by kernel_rfl) hP (y_move rfl (by kernel_rfl) (by kernel_rfl)) (fun _ => hS) rfl (L' := #[true, true, true, false, false, false, false, false, false, false, false, false, false, false, false, false]) (by kernel_rfl) ?_
          refine z_pure (i := 3) (v := .int .i64 (16 + n - 7 : Nat)) hns rfl rfl rfl (by kernel_rfl) (by kernel_rfl) hP (y_bin rfl (by kernel_rfl) (by kernel_rfl) (by kernel_rfl) (subk (16 + n) 7 (by have := HK.out; omega) (by omega))) (fun _ => hS) rfl (L' := #[true, true, true, true, false, false, false, false, false, false, false, false, false, false, false, false]) (by kernel_rfl) ?_
          refine z_pure (i := 4) (v := .pointer (some ⟨c, (16 + n - 7), none⟩)) hns rfl rfl rfl (by kernel_rfl) (by kernel_rfl) hP (y_index rfl (by kernel_rfl) (by kernel_rfl) (by kernel_rfl) (idx38 _ (16 + n - 7) (by have := HK.out; omega))) (fun _ => hS) rfl (L' := #[true, true, true, true, true, false, false, false, false, false, false, false, false, false, false, false]) (by kernel_rfl) ?_
          refine z_read (i := 5) (v := .int .u32 (st.getD (16 + n - 7) 0 : Nat)) hns rfl (by kernel_rfl) rfl rfl (by kernel_rfl) (by kernel_rfl) hP (y_load rfl (by kernel_rfl) (by kernel_rfl) (fun w' h => load37 ((HA.out.below h HA.out.lt).cell (16 + n - 7) (by rw [HL.out]; have := HK.out; omega)))) rfl hS rfl (L' := #[true, true, true, true, true, true, false, false, false, false, false, false, false, false, false, false]) (by kernel_rfl) ?_
          refine z_pure (i := 6) (v := .int .u32 (pl (sg1 y) (st.getD (16 + n - 7) 0) : Nat)) hns rfl rfl rfl (by kernel_rfl) (by kernel_rfl) hP (y_bin rfl (by kernel_rfl) (by kernel_rfl) (by kernel_rfl) (add37 _ _)) (fun _ => hS) rfl (L' := #[true, true, true, true, true, true, true, false, false, false, false, false, false, false, false, false]) (by kernel_rfl) ?_
          simp only [List.setIfInBounds_toArray, List.set_cons_zero, List.set_cons_succ]
          refine z_pure (i := 7) (v := .int .u32 (sg0 x : Nat)) hns rfl rfl rfl (by kernel_rfl) (by kernel_rfl) hP (y_move rfl (by kernel_rfl) (by kernel_rfl)) (fun _ => hS) rfl (L' := #[true, true, true, true, true, true, true, true, false, false, false, false, false, false, false, false]) (by kernel_rfl) ?_
          refine z_pure (i := 8) (v := .int .u32 (pl (pl (sg1 y) (st.getD (16 + n - 7) 0)) (sg0 x) : Nat)) hns rfl rfl rfl (by kernel_rfl) (by kernel_rfl) hP (y_bin rfl (by kernel_rfl) (by kernel_rfl) (by kernel_rfl) (add37 _ _)) (fun _ => hS) rfl (L' := #[true, true, true, true, true, true, true, true, true, false, false, false, false, false, false, false]) (by kernel_rfl) ?_
          refine z_pure (i := 9) (v := .int .i64 (16 + n : Nat)) hns rfl rfl rfl (by kernel_rfl) (by kernel_rfl) hP (y_move rfl (by kernel_rfl) (by kernel_rfl)) (fun _ => hS) rfl (L' := #[true, true, true, true, true, true, true, true, true, true, false, false, false, false, false, false]) (by kernel_rfl) ?_
          refine z_pure (i := 10) (v := .int .i64 (16 + n - 16 : Nat)) hns rfl rfl rfl (by kernel_rfl) (by kernel_rfl) hP (y_bin rfl (by kernel_rfl) (by kernel_rfl) (by kernel_rfl) (subk (16 + n) 16 (by have := HK.out; omega) (by omega))) (fun _ => hS) rfl (L' := #[true, true, true, true, true, true, true, true, true, true, true, false, false, false, false, false]) (by kernel_rfl) ?_
          refine z_pure (i := 11) (v := .pointer (some ⟨c, (16 + n - 16), none⟩)) hns rfl rfl rfl (by kernel_rfl) (by kernel_rfl) hP (y_index rfl (by kernel_rfl) (by kernel_rfl) (by kernel_rfl) (idx38 _ (16 + n - 16) (by have := HK.out; omega))) (fun _ => hS) rfl (L' := #[true, true, true, true, true, true, true, true, true, true, true, true, false, false, false, false]) (by kernel_rfl) ?_
          refine z_read (i := 12) (v := .int .u32 (st.getD (16 + n - 16) 0 : Nat)) hns rfl (by kernel_rfl) rfl rfl (by kernel_rfl) (by kernel_rfl) hP (y_load rfl (by kernel_rfl) (by kernel_rfl) (fun w' h => load37 ((HA.out.below h HA.out.lt).cell (16 + n - 16) (by rw [HL.out]; have := HK.out; omega)))) rfl hS rfl (L' := #[true, true, true, true, true, true, true, true, true, true, true, true, true, false, false, false]) (by kernel_rfl) ?_
          refine z_pure (i := 13) (v := .int .u32 (pl (pl (pl (sg1 y) (st.getD (16 + n - 7) 0)) (sg0 x)) (st.getD (16 + n - 16) 0) : Nat)) hns rfl rfl rfl (by kernel_rfl) (by kernel_rfl) hP (y_bin rfl (by kernel_rfl) (by kernel_rfl) (by kernel_rfl) (add37 _ _)) (fun _ => hS) rfl (L' := #[true, true, true, true, true, true, true, true, true, true, true, true, true, true, false, false]) (by kernel_rfl) ?_
          refine z_pure (i := 14) (v := .pointer (some ⟨c, (16 + n), none⟩)) hns rfl rfl rfl (by kernel_rfl) (by kernel_rfl) hP (y_index rfl (by kernel_rfl) (by kernel_rfl) (by kernel_rfl) (idx38 _ (16 + n) (by have := HK.out; omega))) (fun _ => hS) rfl (L' := #[true, true, true, true, true, true, true, true, true, true, true, true, true, true, true, false]) (by kernel_rfl) ?_
          simp only [List.setIfInBounds_toArray, List.set_cons_zero, List.set_cons_succ]
          refine z_last (by kernel_rfl) rfl rfl (by kernel_rfl) (run_storeOp rfl (by kernel_rfl) (by kernel_rfl) (store37 (k := 16 + n) (HA.out.below hS HA.out.lt) (by rw [HL.out]; have := HK.out; omega) (pl (pl (pl (sg1 y) (st.getD (16 + n - 7) 0)) (sg0 x)) (st.getD (16 + n - 16) 0)))) rfl (L' := #[true, true, true, true, true, true, true, true, true, true, true, true, true, true, true, true]) (by kernel_rfl) ?_
          try simp only [List.setIfInBounds_toArray, List.set_cons_zero, List.set_cons_succ]
          refine z_done (by kernel_rfl) ?_ _
          refine hN _ _ ?_
          clear hP hN hns
          have hA1 : Ar (wr.drew.setCell ⟨c, 16 + n, none⟩ (.int .u32 (pl (pl (pl (sg1 y) (st.getD (16 + n - 7) 0)) (sg0 x)) (st.getD (16 + n - 16) 0) : Nat))) c 38 (wsN l (n + 1)) := by rw [← HST.out]; exact HA.out.drew.set _ _
          have hD1 : Ar (wr.drew.setCell ⟨c, 16 + n, none⟩ (.int .u32 (pl (pl (pl (sg1 y) (st.getD (16 + n - 7) 0)) (sg0 x)) (st.getD (16 + n - 16) 0) : Nat))) b 38 z64 := (Below.heap_setCell wr.drew _ _ b HBC.out).trans HD.out
          have hB2 : Below b w (wr.drew.setCell ⟨c, 16 + n, none⟩ (.int .u32 (pl (pl (pl (sg1 y) (st.getD (16 + n - 7) 0)) (sg0 x)) (st.getD (16 + n - 16) 0) : Nat))) := HB.out.drew.setCell (by show b ≤ c; omega) _
          have HA5 := hidM hA1
          have HD5 := hidM hD1
          have HB5 := hidM hB2
          clear hA1 hD1 hB2 hS
          generalize wr.drew.setCell ⟨c, 16 + n, none⟩ (.int .u32 (pl (pl (pl (sg1 y) (st.getD (16 + n - 7) 0)) (sg0 x)) (st.getD (16 + n - 16) 0) : Nat)) = w2 at *
          go_wp2
          exact ⟨⟨n + 1, by omega, rfl, HD5.out, HA5.out, HB5.out⟩, by simp [intOf]; omega⟩
        · have hn48 : n = 48 := by omega
          subst hn48
          rw [wsN_all] at hA
          have hL := wordsOf_len l
          obtain ⟨st, hst⟩ : ∃ st, st = wordsOf l := ⟨_, rfl⟩
          rw [← hst] at hA hL
          have HSE := hidM hst
          clear hst
          have HA := hidM hA
          have HL := hidM hL
          clear hA hL
          go_upto_region 14 with fail
          refine wp_region_lit ?_
          refine wp_y (v := V32 st) rfl rfl (y_load rfl (by kernel_rfl) (by kernel_rfl) (fun w' h => by subst h; exact load38 HL.out HA.out)) rfl ?_
          refine wp_do rfl rfl (run_storeOp rfl (by kernel_rfl) (by kernel_rfl) (store38 z64_len HL.out HD.out)) ?_
          try simp only [List.setIfInBounds_toArray, List.set_cons_zero, List.set_cons_succ]
          refine wp_end ?_
          rename_i hkr
          refine hkr _ _ (wp_ret ?_)
          change bodyPost Tryd.prog Tryd.f23 _ .ret _ _
          refine ret_arr rfl rfl (by kernel_rfl) (HD.out.row st) under38 (by rw [cs32_size, HL.out]; exact size38) ⟨by rw [← HSE.out]; rfl, by rw [hb]; exact below_setRow HB.out (by omega) _⟩
end Go.Proofs.YtcjhimakbopipaaDoor
