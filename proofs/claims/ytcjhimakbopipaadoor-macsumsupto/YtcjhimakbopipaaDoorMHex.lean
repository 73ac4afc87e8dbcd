/- Hex. -/
import Derived.Test.YtcjhimakbopipaaDoorMSha
import Derived.Test.YtcjhimakbopipaaDoorMHexM
namespace Go.Proofs.YtcjhimakbopipaaDoor
open Go Go.RowKit

theorem mul2 (n : Nat) (h : n ≤ 281474976710656) (w : World) : (binOp .mul 3 (.int .i64 2) (.int .i64 n)).run Tryd.prog w = .ok (.int .i64 (2 * n : Nat)) w := by
  have h1 : IntKind.i64.wrap (2 * (n : Int)) = ((2 * n : Nat) : Int) := by rw [IntWalk.i64_in _ ⟨by omega, by omega⟩]; omega
  generalize 2 * n = q at *
  go_simp
theorem quo16 (n : Nat) (h : n < 256) (w : World) : (binOp .quo 5 (.int .u8 n) (.int .u8 16)).run Tryd.prog w = .ok (.int .u8 (n / 16 : Nat)) w := by
  have h1 : (n : Int) / 16 = ((n / 16 : Nat) : Int) := by omega
  have h2 : (n : Int).tdiv 16 = ((n / 16 : Nat) : Int) := by rw [Int.tdiv_eq_ediv_of_nonneg (by omega)]; exact h1
  have h3 : IntKind.u8.wrap ((n / 16 : Nat) : Int) = ((n / 16 : Nat) : Int) := by rw [IntKind.wrap_u8']; omega
  generalize n / 16 = q at *
  go_simp
theorem rem16 (n : Nat) (h : n < 256) (w : World) : (binOp .rem 5 (.int .u8 n) (.int .u8 16)).run Tryd.prog w = .ok (.int .u8 (n % 16 : Nat)) w := by
  have h1 : (n : Int) % 16 = ((n % 16 : Nat) : Int) := by omega
  have h2 : (n : Int).tmod 16 = ((n % 16 : Nat) : Int) := by rw [Int.tmod_eq_emod_of_nonneg (by omega)]; exact h1
  have h3 : IntKind.u8.wrap ((n % 16 : Nat) : Int) = ((n % 16 : Nat) : Int) := by rw [IntKind.wrap_u8']; omega
  generalize n % 16 = q at *
  go_simp
theorem strIdx8 (l : List UInt8) (i : Nat) (h : i < l.length) (w : World) : (Instr.index 9 (.string ⟨l.toArray⟩) (.int .u8 i)).run Tryd.prog w = .ok (.int .u8 ((l.getD i 0).toNat : Nat)) w := by
  have h1 : (i : Int) < l.length := by omega
  have h2 : (⟨l.toArray⟩ : ByteArray).size = l.length := by simp [ByteArray.size]
  have h3 : (⟨l.toArray⟩ : ByteArray)[i]'(by rw [h2]; exact h) = l.getD i 0 := by simp [List.getD, h, ByteArray.getElem_eq_getElem_data]
  go_simp
theorem dgIdx (n : Nat) (h : n < 16) (w : World) : (Instr.index 9 (.string ⟨dgs.toArray⟩) (.int .u8 n)).run Tryd.prog w = .ok (.int .u8 ((dgt n).toNat : Nat)) w :=
  strIdx8 dgs n h w
theorem bslice2 (w : World) (x y : UInt8) : (Instr.buildSlice 25 2 #[(0, .int .u8 (x.toNat : Nat)), (1, .int .u8 (y.toNat : Nat))]).run Tryd.prog w = .ok (.slice (some ⟨w.heap.size, 0, none⟩) 2 2) (w.alloc (.cells (cells8 [x, y]).toArray 5)) := by
  show _ = Result.ok _ (w.alloc (.cells #[.int .u8 (x.toNat : Nat), .int .u8 (y.toNat : Nat)] 5))
  generalize x.toNat = p at *
  generalize y.toNat = q at *
  go_simp

set_option maxHeartbeats 1000000 in
theorem hex_any (l : List UInt8) (hl : 2 * l.length ≤ 281474976710656) (w : World) :
    Calls Tryd.prog 17 #[.string ⟨l.toArray⟩] w fun e w' => e = .returned (.string ⟨(hexs l).toArray⟩) ∧ Below w.heap.size w w' := by
  have hsz : (⟨l.toArray⟩ : ByteArray).size = l.length := by simp [ByteArray.size]
  obtain ⟨w1, hM, hO, hB1⟩ := make25 w (2 * l.length) hl
  have HSZ := hidM hsz
  have HS := hidM hl
  have HM := hidM hM
  have HO1 := hidM hO
  have HB1 := hidM hB1
  clear hM hO hB1
  go_enter Tryd.func17, Tryd.ntmps17
  go_upto_region 1 with fail
  generalize hb : w.heap.size = b at *
  refine wp_region_lit ?_
  refine wp_y (v := .string ⟨l.toArray⟩) rfl rfl (y_move rfl (by kernel_rfl) (by kernel_rfl)) rfl ?_
  refine wp_y (v := .int .i64 l.length) rfl rfl (y_lenS rfl (by kernel_rfl) (by kernel_rfl) HSZ.out) rfl ?_
  refine wp_y (v := .int .i64 (2 * l.length : Nat)) rfl rfl (y_bin rfl (by kernel_rfl) (by kernel_rfl) (by kernel_rfl) (mul2 l.length (by have := HS.out; omega))) rfl ?_
  refine wp_run (v := .slice (some ⟨b, 0, none⟩) 0 (2 * l.length)) rfl rfl (run_mkOp rfl (by kernel_rfl) (by kernel_rfl) HM.out) rfl ?_
  refine wp_y (v := .slice (some ⟨b, 0, none⟩) 0 (2 * l.length)) rfl rfl (y_assign rfl (by kernel_rfl) (by kernel_rfl)) rfl ?_
  try simp only [List.setIfInBounds_toArray, List.set_cons_zero, List.set_cons_succ]
  refine wp_end ?_
  go_wp2_with fail
  go_loopw [11, 3, 4] (fun x v _ wr => ∃ k : Nat, k ≤ l.length ∧ x = .int .i64 k ∧ v = .slice (some ⟨b, 0, none⟩) (2 * k) (2 * l.length) ∧ wr.ownsRow b 5 1 (.slice (some ⟨b, 0, none⟩) (2 * k) (2 * l.length)) (2 * k) (cells8 (hexs (l.take k))) ∧ Below b w wr ∧ b < wr.heap.size) (fun x _ _ _ => l.length - (intOf x).toNat)
  case atStart => exact ⟨0, Nat.zero_le _, rfl, rfl, HO1.out, HB1.out, (HO1.out.lt _ rfl).2⟩
  case round =>
    clear HM HO1 HB1
    obtain ⟨k, hk, rfl, rfl, hO, hBr, hs⟩ := hrel
    have HB := hidM hBr
    have HSB := hidM hs
    clear hBr hs
    by_cases hlt : k < l.length
    · have hlt' : (k : Int) < (l.length : Int) := by omega
      have hwk : IntKind.i64.wrap ((k : Int) + 1) = ((k + 1 : Nat) : Int) := by rw [IntWalk.i64_in _ ⟨by omega, by omega⟩]; omega
      have hst := hexs_take l k hlt
      obtain ⟨w2, hAP, hO2, hB2⟩ : ∃ w2, ((Builtin.append_ #[25, 25] 25 #[.slice (some ⟨b, 0, none⟩) (2 * k) (2 * l.length), .slice (some ⟨wr.heap.size, 0, none⟩) 2 2]).run Tryd.prog (wr.drew.alloc (.cells (cells8 (hex1 (l.getD k 0))).toArray 5)) = .ok (.slice (some ⟨b, 0, none⟩) (2 * k + 2) (2 * l.length)) w2) ∧
          w2.ownsRow b 5 1 (.slice (some ⟨b, 0, none⟩) (2 * k + 2) (2 * l.length)) (2 * k + 2) (cells8 (hexs (l.take (k + 1)))) ∧ Below b wr.drew w2 := by
        obtain ⟨w2, h1, h2, h3⟩ := app_in (wr := wr.drew) (hexs (l.take k)) (hex1 (l.getD k 0)) (k := 2) hO rfl (by omega) (by have := HSB.out; show b ≤ wr.heap.size; omega) 25
        exact ⟨w2, h1, by rw [hst]; exact h2, h3⟩
      have HAP := hidM hAP
      have HO2 := hidM hO2
      have HB2 := hidM hB2
      have HK := hidM hlt
      clear hAP hO2 hB2 hst hO
      go_upto_region 5 with fail
      refine z_open (S := fun _ => True) 13 (by kernel_rfl) (by kernel_rfl) (fun _ _ _ _ _ h => h) (L := #[false, false, false, false, false, false, false, false, false, false, false, false, false, false]) (by kernel_rfl) ?_
      intro Q' hns hP hN
      have hS := trivial
      refine z_pure (i := 0) (v := .slice (some ⟨b, 0, none⟩) (2 * k) (2 * l.length)) hns rfl rfl rfl (by kernel_rfl) (by kernel_rfl) hP (y_move rfl (by kernel_rfl) (by kernel_rfl)) (fun _ => hS) rfl (L' := #[true, false, false, false, false, false, false, false, false, false, false, false, false, false]) (by kernel_rfl) ?_
      refine z_pure (i := 1) (v := .string ⟨l.toArray⟩) hns rfl rfl rfl (by kernel_rfl) (by kernel_rfl) hP (y_move rfl (by kernel_rfl) (by kernel_rfl)) (fun _ => hS) rfl (L' := #[true, true, false, false, false, false, false, false, false, false, false, false, false, false]) (by kernel_rfl) ?_
      refine z_pure (i := 2) (v := .int .i64 k) hns rfl rfl rfl (by kernel_rfl) (by kernel_rfl) hP (y_move rfl (by kernel_rfl) (by kernel_rfl)) (fun _ => hS) rfl (L' := #[true, true, true, false, false, false, false, false, false, false, false, false, false, false]) (by kernel_rfl) ?_
      refine z_pure (i := 3) (v := .int .u8 ((l.getD k 0).toNat : Nat)) hns rfl rfl rfl (by kernel_rfl) (by kernel_rfl) hP (y_idx rfl (by kernel_rfl) (by kernel_rfl) (by kernel_rfl) (strIdx l k HK.out)) (fun _ => hS) rfl (L' := #[true, true, true, true, false, false, false, false, false, false, false, false, false, false]) (by kernel_rfl) ?_
      refine z_pure (i := 4) (v := .int .u8 ((l.getD k 0).toNat / 16 : Nat)) hns rfl rfl rfl (by kernel_rfl) (by kernel_rfl) hP (y_bin rfl (by kernel_rfl) (by kernel_rfl) (by kernel_rfl) (quo16 _ (l.getD k 0).toNat_lt)) (fun _ => hS) rfl (L' := #[true, true, true, true, true, false, false, false, false, false, false, false, false, false]) (by kernel_rfl) ?_
      refine z_pure (i := 5) (v := .int .u8 ((dgt ((l.getD k 0).toNat / 16)).toNat : Nat)) hns rfl rfl rfl (by kernel_rfl) (by kernel_rfl) hP (y_idx rfl (by kernel_rfl) (by kernel_rfl) (by kernel_rfl) (dgIdx _ (by have := (l.getD k 0).toNat_lt; omega))) (fun _ => hS) rfl (L' := #[true, true, true, true, true, true, false, false, false, false, false, false, false, false]) (by kernel_rfl) ?_
      refine z_pure (i := 6) (v := .string ⟨l.toArray⟩) hns rfl rfl rfl (by kernel_rfl) (by kernel_rfl) hP (y_move rfl (by kernel_rfl) (by kernel_rfl)) (fun _ => hS) rfl (L' := #[true, true, true, true, true, true, true, false, false, false, false, false, false, false]) (by kernel_rfl) ?_
      simp only [List.setIfInBounds_toArray, List.set_cons_zero, List.set_cons_succ]
      refine z_pure (i := 7) (v := .int .i64 k) hns rfl rfl rfl (by kernel_rfl) (by kernel_rfl) hP (y_move rfl (by kernel_rfl) (by kernel_rfl)) (fun _ => hS) rfl (L' := #[true, true, true, true, true, true, true, true, false, false, false, false, false, false]) (by kernel_rfl) ?_
      refine z_pure (i := 8) (v := .int .u8 ((l.getD k 0).toNat : Nat)) hns rfl rfl rfl (by kernel_rfl) (by kernel_rfl) hP (y_idx rfl (by kernel_rfl) (by kernel_rfl) (by kernel_rfl) (strIdx l k HK.out)) (fun _ => hS) rfl (L' := #[true, true, true, true, true, true, true, true, true, false, false, false, false, false]) (by kernel_rfl) ?_
      refine z_pure (i := 9) (v := .int .u8 ((l.getD k 0).toNat % 16 : Nat)) hns rfl rfl rfl (by kernel_rfl) (by kernel_rfl) hP (y_bin rfl (by kernel_rfl) (by kernel_rfl) (by kernel_rfl) (rem16 _ (l.getD k 0).toNat_lt)) (fun _ => hS) rfl (L' := #[true, true, true, true, true, true, true, true, true, true, false, false, false, false]) (by kernel_rfl) ?_
      refine z_pure (i := 10) (v := .int .u8 ((dgt ((l.getD k 0).toNat % 16)).toNat : Nat)) hns rfl rfl rfl (by kernel_rfl) (by kernel_rfl) hP (y_idx rfl (by kernel_rfl) (by kernel_rfl) (by kernel_rfl) (dgIdx _ (by omega))) (fun _ => hS) rfl (L' := #[true, true, true, true, true, true, true, true, true, true, true, false, false, false]) (by kernel_rfl) ?_
      refine z_val (i := 11) (v := .slice (some ⟨wr.heap.size, 0, none⟩) 2 2) (by kernel_rfl) rfl rfl (by kernel_rfl) (run_bsOp rfl (by kernel_rfl) (bslice2 wr.drew (dgt ((l.getD k 0).toNat / 16)) (dgt ((l.getD k 0).toNat % 16)))) trivial rfl (L' := #[true, true, true, true, true, true, true, true, true, true, true, true, false, false]) (by kernel_rfl) ?_
      refine z_val (i := 12) (v := .slice (some ⟨b, 0, none⟩) (2 * k + 2) (2 * l.length)) (by kernel_rfl) rfl rfl (by kernel_rfl) (run_appOp rfl (by kernel_rfl) (by kernel_rfl) HAP.out) trivial rfl (L' := #[true, true, true, true, true, true, true, true, true, true, true, true, true, false]) (by kernel_rfl) ?_
      refine z_val (i := 13) (v := .slice (some ⟨b, 0, none⟩) (2 * k + 2) (2 * l.length)) (by kernel_rfl) rfl rfl (by kernel_rfl) (run_asg rfl (by kernel_rfl)) trivial rfl (L' := #[true, true, true, true, true, true, true, true, true, true, true, true, true, true]) (by kernel_rfl) ?_
      try simp only [List.setIfInBounds_toArray, List.set_cons_zero, List.set_cons_succ]
      refine z_done (by kernel_rfl) ?_ _
      refine hN _ _ ?_
      clear hP hN hns
      go_wp2
      exact ⟨⟨k + 1, by omega, rfl, rfl, HO2.out, HB.out.drew.trans HB2.out, Nat.lt_of_lt_of_le HSB.out HB2.out.size⟩, by simp [intOf]; omega⟩
    · have hkl : k = l.length := by omega
      subst hkl
      rw [List.take_of_length_le (Nat.le_refl _)] at hO
      have hlen := hexs_len l
      have hsl := Sl.mk (cap := 2 * l.length) (owns_rd (l := hexs l) hO) (by omega)
      rw [hlen] at hsl
      have hcv := conv_sl hsl
      clear hO hsl
      go_wp2
      go_ret
      exact ⟨rfl, by rw [hb]; exact HB.out⟩

set_option maxHeartbeats 1000000 in
theorem refHex_any (l : List UInt8) (hl : 2 * l.length ≤ 281474976710656) (w : World) :
    Calls Tryd.prog 18 #[.string ⟨l.toArray⟩] w fun e w' => e = .returned (.string ⟨(hexs l).toArray⟩) ∧ Below w.heap.size w w' := by
  have hsz : (⟨l.toArray⟩ : ByteArray).size = l.length := by simp [ByteArray.size]
  obtain ⟨w1, hM, hO, hB1⟩ := make25 w (2 * l.length) hl
  have HSZ := hidM hsz
  have HS := hidM hl
  have HM := hidM hM
  have HO1 := hidM hO
  have HB1 := hidM hB1
  clear hM hO hB1
  go_enter Tryd.func18, Tryd.ntmps18
  go_upto_region 2 with fail
  generalize hb : w.heap.size = b at *
  change (Code.region 2 _ _).wp Tryd.prog _ ⟨#[.string ⟨l.toArray⟩, undef, .string ⟨#[]⟩, .string ⟨dgs.toArray⟩, undef, undef, undef, undef, undef, undef, undef, undef, undef, undef, undef, undef, undef, undef, undef, undef, undef, undef, undef, undef, undef, undef, undef, undef, undef, undef, undef, undef, undef], []⟩ w
  refine wp_region_lit ?_
  refine wp_y (v := .string ⟨l.toArray⟩) rfl rfl (y_move rfl (by kernel_rfl) (by kernel_rfl)) rfl ?_
  refine wp_y (v := .int .i64 l.length) rfl rfl (y_lenS rfl (by kernel_rfl) (by kernel_rfl) HSZ.out) rfl ?_
  refine wp_y (v := .int .i64 (2 * l.length : Nat)) rfl rfl (y_bin rfl (by kernel_rfl) (by kernel_rfl) (by kernel_rfl) (mul2 l.length (by have := HS.out; omega))) rfl ?_
  refine wp_run (v := .slice (some ⟨b, 0, none⟩) 0 (2 * l.length)) rfl rfl (run_mkOp rfl (by kernel_rfl) (by kernel_rfl) HM.out) rfl ?_
  refine wp_y (v := .slice (some ⟨b, 0, none⟩) 0 (2 * l.length)) rfl rfl (y_assign rfl (by kernel_rfl) (by kernel_rfl)) rfl ?_
  try simp only [List.setIfInBounds_toArray, List.set_cons_zero, List.set_cons_succ]
  refine wp_end ?_
  go_wp2_with fail
  go_loopw [5, 4] (fun x v wr => ∃ k : Nat, k ≤ l.length ∧ x = .int .i64 k ∧ v = .slice (some ⟨b, 0, none⟩) (2 * k) (2 * l.length) ∧ wr.ownsRow b 5 1 (.slice (some ⟨b, 0, none⟩) (2 * k) (2 * l.length)) (2 * k) (cells8 (hexs (l.take k))) ∧ Below b w wr ∧ b < wr.heap.size) (fun x _ _ => l.length - (intOf x).toNat)
  case atStart => exact ⟨0, Nat.zero_le _, rfl, rfl, HO1.out, HB1.out, (HO1.out.lt _ rfl).2⟩
  case round =>
    clear HM HO1 HB1
    obtain ⟨k, hk, rfl, rfl, hO, hBr, hs⟩ := hrel
    have HB := hidM hBr
    have HSB := hidM hs
    clear hBr hs
    by_cases hlt : k < l.length
    · have hlt' : (k : Int) < (l.length : Int) := by omega
      have hwk : IntKind.i64.wrap ((k : Int) + 1) = ((k + 1 : Nat) : Int) := by rw [IntWalk.i64_in _ ⟨by omega, by omega⟩]; omega
      have hst := hexs_take l k hlt
      obtain ⟨w2, hAP, hO2, hB2⟩ : ∃ w2, ((Builtin.append_ #[25, 25] 25 #[.slice (some ⟨b, 0, none⟩) (2 * k) (2 * l.length), .slice (some ⟨wr.heap.size, 0, none⟩) 2 2]).run Tryd.prog (wr.drew.alloc (.cells (cells8 (hex1 (l.getD k 0))).toArray 5)) = .ok (.slice (some ⟨b, 0, none⟩) (2 * k + 2) (2 * l.length)) w2) ∧
          w2.ownsRow b 5 1 (.slice (some ⟨b, 0, none⟩) (2 * k + 2) (2 * l.length)) (2 * k + 2) (cells8 (hexs (l.take (k + 1)))) ∧ Below b wr.drew w2 := by
        obtain ⟨w2, h1, h2, h3⟩ := app_in (wr := wr.drew) (hexs (l.take k)) (hex1 (l.getD k 0)) (k := 2) hO rfl (by omega) (by have := HSB.out; show b ≤ wr.heap.size; omega) 25
        exact ⟨w2, h1, by rw [hst]; exact h2, h3⟩
      have HAP := hidM hAP
      have HO2 := hidM hO2
      have HB2 := hidM hB2
      have HK := hidM hlt
      clear hAP hO2 hB2 hst hO
      go_upto_region 6 with fail
      refine z_open (S := fun _ => True) 15 (by kernel_rfl) (by kernel_rfl) (fun _ _ _ _ _ h => h) (L := #[false, false, false, false, false, false, false, false, false, false, false, false, false, false, false, false]) (by kernel_rfl) ?_
      intro Q' hns hP hN
      have hS := trivial
      refine z_pure (i := 0) (v := .slice (some ⟨b, 0, none⟩) (2 * k) (2 * l.length)) hns rfl rfl rfl (by kernel_rfl) (by kernel_rfl) hP (y_move rfl (by kernel_rfl) (by kernel_rfl)) (fun _ => hS) rfl (L' := #[true, false, false, false, false, false, false, false, false, false, false, false, false, false, false, false]) (by kernel_rfl) ?_
      refine z_pure (i := 1) (v := .string ⟨dgs.toArray⟩) hns rfl rfl rfl (by kernel_rfl) (by kernel_rfl) hP (y_move rfl (by kernel_rfl) (by kernel_rfl)) (fun _ => hS) rfl (L' := #[true, true, false, false, false, false, false, false, false, false, false, false, false, false, false, false]) (by kernel_rfl) ?_
      refine z_pure (i := 2) (v := .string ⟨l.toArray⟩) hns rfl rfl rfl (by kernel_rfl) (by kernel_rfl) hP (y_move rfl (by kernel_rfl) (by kernel_rfl)) (fun _ => hS) rfl (L' := #[true, true, true, false, false, false, false, false, false, false, false, false, false, false, false, false]) (by kernel_rfl) ?_
      refine z_pure (i := 3) (v := .int .i64 k) hns rfl rfl rfl (by kernel_rfl) (by kernel_rfl) hP (y_move rfl (by kernel_rfl) (by kernel_rfl)) (fun _ => hS) rfl (L' := #[true, true, true, true, false, false, false, false, false, false, false, false, false, false, false, false]) (by kernel_rfl) ?_
      refine z_pure (i := 4) (v := .int .u8 ((l.getD k 0).toNat : Nat)) hns rfl rfl rfl (by kernel_rfl) (by kernel_rfl) hP (y_idx rfl (by kernel_rfl) (by kernel_rfl) (by kernel_rfl) (strIdx l k HK.out)) (fun _ => hS) rfl (L' := #[true, true, true, true, true, false, false, false, false, false, false, false, false, false, false, false]) (by kernel_rfl) ?_
      refine z_pure (i := 5) (v := .int .u8 ((l.getD k 0).toNat / 16 : Nat)) hns rfl rfl rfl (by kernel_rfl) (by kernel_rfl) hP (y_bin rfl (by kernel_rfl) (by kernel_rfl) (by kernel_rfl) (quo16 _ (l.getD k 0).toNat_lt)) (fun _ => hS) rfl (L' := #[true, true, true, true, true, true, false, false, false, false, false, false, false, false, false, false]) (by kernel_rfl) ?_
      refine z_pure (i := 6) (v := .int .u8 ((dgt ((l.getD k 0).toNat / 16)).toNat : Nat)) hns rfl rfl rfl (by kernel_rfl) (by kernel_rfl) hP (y_idx rfl (by kernel_rfl) (by kernel_rfl) (by kernel_rfl) (dgIdx _ (by have := (l.getD k 0).toNat_lt; omega))) (fun _ => hS) rfl (L' := #[true, true, true, true, true, true, true, false, false, false, false, false, false, false, false, false]) (by kernel_rfl) ?_
      simp only [List.setIfInBounds_toArray, List.set_cons_zero, List.set_cons_succ]
      refine z_pure (i := 7) (v := .string ⟨dgs.toArray⟩) hns rfl rfl rfl (by kernel_rfl) (by kernel_rfl) hP (y_move rfl (by kernel_rfl) (by kernel_rfl)) (fun _ => hS) rfl (L' := #[true, true, true, true, true, true, true, true, false, false, false, false, false, false, false, false]) (by kernel_rfl) ?_
      refine z_pure (i := 8) (v := .string ⟨l.toArray⟩) hns rfl rfl rfl (by kernel_rfl) (by kernel_rfl) hP (y_move rfl (by kernel_rfl) (by kernel_rfl)) (fun _ => hS) rfl (L' := #[true, true, true, true, true, true, true, true, true, false, false, false, false, false, false, false]) (by kernel_rfl) ?_
      refine z_pure (i := 9) (v := .int .i64 k) hns rfl rfl rfl (by kernel_rfl) (by kernel_rfl) hP (y_move rfl (by kernel_rfl) (by kernel_rfl)) (fun _ => hS) rfl (L' := #[true, true, true, true, true, true, true, true, true, true, false, false, false, false, false, false]) (by kernel_rfl) ?_
      refine z_pure (i := 10) (v := .int .u8 ((l.getD k 0).toNat : Nat)) hns rfl rfl rfl (by kernel_rfl) (by kernel_rfl) hP (y_idx rfl (by kernel_rfl) (by kernel_rfl) (by kernel_rfl) (strIdx l k HK.out)) (fun _ => hS) rfl (L' := #[true, true, true, true, true, true, true, true, true, true, true, false, false, false, false, false]) (by kernel_rfl) ?_
      refine z_pure (i := 11) (v := .int .u8 ((l.getD k 0).toNat % 16 : Nat)) hns rfl rfl rfl (by kernel_rfl) (by kernel_rfl) hP (y_bin rfl (by kernel_rfl) (by kernel_rfl) (by kernel_rfl) (rem16 _ (l.getD k 0).toNat_lt)) (fun _ => hS) rfl (L' := #[true, true, true, true, true, true, true, true, true, true, true, true, false, false, false, false]) (by kernel_rfl) ?_
      refine z_pure (i := 12) (v := .int .u8 ((dgt ((l.getD k 0).toNat % 16)).toNat : Nat)) hns rfl rfl rfl (by kernel_rfl) (by kernel_rfl) hP (y_idx rfl (by kernel_rfl) (by kernel_rfl) (by kernel_rfl) (dgIdx _ (by omega))) (fun _ => hS) rfl (L' := #[true, true, true, true, true, true, true, true, true, true, true, true, true, false, false, false]) (by kernel_rfl) ?_
      refine z_val (i := 13) (v := .slice (some ⟨wr.heap.size, 0, none⟩) 2 2) (by kernel_rfl) rfl rfl (by kernel_rfl) (run_bsOp rfl (by kernel_rfl) (bslice2 wr.drew (dgt ((l.getD k 0).toNat / 16)) (dgt ((l.getD k 0).toNat % 16)))) trivial rfl (L' := #[true, true, true, true, true, true, true, true, true, true, true, true, true, true, false, false]) (by kernel_rfl) ?_
      refine z_val (i := 14) (v := .slice (some ⟨b, 0, none⟩) (2 * k + 2) (2 * l.length)) (by kernel_rfl) rfl rfl (by kernel_rfl) (run_appOp rfl (by kernel_rfl) (by kernel_rfl) HAP.out) trivial rfl (L' := #[true, true, true, true, true, true, true, true, true, true, true, true, true, true, true, false]) (by kernel_rfl) ?_
      simp only [List.setIfInBounds_toArray, List.set_cons_zero, List.set_cons_succ]
      refine z_val (i := 15) (v := .slice (some ⟨b, 0, none⟩) (2 * k + 2) (2 * l.length)) (by kernel_rfl) rfl rfl (by kernel_rfl) (run_asg rfl (by kernel_rfl)) trivial rfl (L' := #[true, true, true, true, true, true, true, true, true, true, true, true, true, true, true, true]) (by kernel_rfl) ?_
      try simp only [List.setIfInBounds_toArray, List.set_cons_zero, List.set_cons_succ]
      refine z_done (by kernel_rfl) ?_ _
      refine hN _ _ ?_
      clear hP hN hns
      go_wp2
      exact ⟨⟨k + 1, by omega, rfl, rfl, HO2.out, HB.out.drew.trans HB2.out, Nat.lt_of_lt_of_le HSB.out HB2.out.size⟩, by simp [intOf]; omega⟩
    · have hkl : k = l.length := by omega
      subst hkl
      rw [List.take_of_length_le (Nat.le_refl _)] at hO
      have hlen := hexs_len l
      have hsl := Sl.mk (cap := 2 * l.length) (owns_rd (l := hexs l) hO) (by omega)
      rw [hlen] at hsl
      have hcv := conv_sl hsl
      clear hO hsl
      go_wp2
      go_ret
      exact ⟨rfl, by rw [hb]; exact HB.out⟩
end Go.Proofs.YtcjhimakbopipaaDoor
