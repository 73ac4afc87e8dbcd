/- The words of a block. -/
import Derived.Test.YtcjhimakbopipaaDoorMMix
import Derived.Test.YtcjhimakbopipaaDoorMWMath
namespace Go.Proofs.YtcjhimakbopipaaDoor
open Go Go.RowKit

theorem quo4 (i : Nat) (h : i < 64) (w : World) : (binOp .quo 3 (.int .i64 i) (.int .i64 4)).run Tryd.prog w = .ok (.int .i64 (i / 4 : Nat)) w := by
  have h1 : (i : Int) / 4 = ((i / 4 : Nat) : Int) := by omega
  generalize i / 4 = q at *
  have h2 : (i : Int).tdiv 4 = q := by rw [Int.tdiv_eq_ediv_of_nonneg (by omega)]; exact h1
  have h3 : IntKind.i64.wrap (q : Int) = q := IntWalk.i64_in _ ⟨by omega, by omega⟩
  go_simp
theorem subk (t k : Nat) (h : t < 64) (hk : k ≤ t) (w : World) : (binOp .sub 3 (.int .i64 (t : Nat)) (.int .i64 (k : Nat))).run Tryd.prog w = .ok (.int .i64 (t - k : Nat)) w := by
  have h1 : IntKind.i64.wrap ((t : Int) - (k : Int)) = ((t - k : Nat) : Int) := by rw [IntWalk.i64_in _ ⟨by omega, by omega⟩]; omega
  generalize t - k = q at *
  go_simp
theorem shl8 (x : Nat) (w : World) : (binOp .shl 37 (.int .u32 x) (.int .u64 8)).run Tryd.prog w = .ok (.int .u32 (x * 256 % 4294967296 : Nat)) w := by
  have h1 : IntKind.u32.wrap ((x : Int) * 256) = ((x * 256 % 4294967296 : Nat) : Int) := by rw [IntKind.wrap_u32']; omega
  generalize x * 256 % 4294967296 = q at *
  go_simp
theorem shr37_3 (x : Nat) (w : World) : (binOp .shr 37 (.int .u32 x) (.int .u64 3)).run Tryd.prog w = .ok (.int .u32 (x / 8 : Nat)) w := by
  have h1 : (x : Int) / 8 = ((x / 8 : Nat) : Int) := by omega
  generalize x / 8 = q at *
  go_simp
theorem shr37_10 (x : Nat) (w : World) : (binOp .shr 37 (.int .u32 x) (.int .u64 10)).run Tryd.prog w = .ok (.int .u32 (x / 1024 : Nat)) w := by
  have h1 : (x : Int) / 1024 = ((x / 1024 : Nat) : Int) := by omega
  generalize x / 1024 = q at *
  go_simp
theorem xor37 (x y : Nat) (hx : x < 4294967296) (hy : y < 4294967296) (w : World) : (binOp .xor 37 (.int .u32 x) (.int .u32 y)).run Tryd.prog w = .ok (.int .u32 (x ^^^ y : Nat)) w := by
  have h1 := u32_xor_nat x y hx hy
  generalize x ^^^ y = q at *
  go_simp
theorem or37b (x c : Nat) (hx : x < 16777216) (hc : c < 256) (w : World) : (binOp .or 37 (.int .u32 (x * 256 % 4294967296 : Nat)) (.int .u32 c)).run Tryd.prog w = .ok (.int .u32 (x * 256 + c : Nat)) w := by
  have h1 := u32_or_nat (x * 256 % 4294967296) c (by omega) (by omega)
  rw [or_byte x c hx hc] at h1
  generalize x * 256 % 4294967296 = p at *
  generalize x * 256 + c = q at *
  go_simp
theorem strIdx (l : List UInt8) (i : Nat) (h : i < l.length) (w : World) : (Instr.index 9 (.string ⟨l.toArray⟩) (.int .i64 i)).run Tryd.prog w = .ok (.int .u8 ((l.getD i 0).toNat : Nat)) w := by
  have h1 : (i : Int) < l.length := by omega
  have h2 : (⟨l.toArray⟩ : ByteArray).size = l.length := by simp [ByteArray.size]
  have h3 : (⟨l.toArray⟩ : ByteArray)[i]'(by rw [h2]; exact h) = l.getD i 0 := by simp [List.getD, h, ByteArray.getElem_eq_getElem_data]
  go_simp
theorem cvt37 (x : Nat) (h : x < 256) (w : World) : (convert 5 37 (.int .u8 x)).run Tryd.prog w = .ok (.int .u32 x) w := by
  have h1 : IntKind.u32.wrap (x : Int) = x := by rw [IntKind.wrap_u32']; omega
  go_simp
theorem run_asg {o : Oper} {a : Act} {x : Operand} {v : Value} {w : World} (hop : o.op = .assign x) (hv : a.eval x = v) : (execOp a.eval o).run Tryd.prog w = .ok (.value v) w := by
  unfold execOp; rw [hop]; simp only [hv, Sem.run_pure]
def z64 : List Nat := List.replicate 64 0
theorem z64_len : z64.length = 64 := by simp [z64]
theorem alloc38 (w : World) : (Instr.alloc 38 true (.tuple #[])).run Tryd.prog w = .ok (.pointer (some ⟨w.heap.size, 0, none⟩)) (w.alloc (.cells (cs32 z64) 38)) := by
  have hz : (zeroValue 38).run Tryd.prog w = .ok (.agg (cs32 z64)) w := (zero_of_info (n := 64) (by kernel_rfl)).1 w
  simp only [Instr.alloc, Sem.run_bind, hz, Result.andThen_ok]
  rfl
set_option maxHeartbeats 2000000 in
theorem words_any (l : List UInt8) (hl : l.length = 64) (w : World) :
    Calls Tryd.prog 38 #[.string ⟨l.toArray⟩] w fun r w' => r = .returned (V32 (wordsOf l)) ∧ Below w.heap.size w w' := by
  have a1 : Ar ((w.alloc (.cells (cs32 z64) 38)).alloc (.cells (cs32 z64) 38)) w.heap.size 38 z64 := (laid8a w _ _ _)
  have a2 : Ar ((w.alloc (.cells (cs32 z64) 38)).alloc (.cells (cs32 z64) 38)) (w.heap.size + 1) 38 (stN l 0) := by rw [stN_zero]; exact laid8' w _ _ _
  have hB0 := bel2 w (.cells (cs32 z64) 38) (.cells (cs32 z64) 38)
  have hsz : (⟨l.toArray⟩ : ByteArray).size = 64 := by simp [ByteArray.size, hl]
  have HA1 := hidM a1
  have HA2 := hidM a2
  have HB0 := hidM hB0
  have HLL := hidM hl
  clear a1 a2 hB0
  go_enter Tryd.func38, Tryd.ntmps38
  go_upto_region 0 with fail
  refine wp_region_lit ?_
  refine wp_alloc (alloc38 _) ?_
  dsimp only [Act.put]
  refine wp_end ?_
  go_upto_region 1 with fail
  refine wp_region_lit ?_
  refine wp_alloc (alloc38 _) ?_
  dsimp only [Act.put]
  have hs1 : (w.alloc (.cells (cs32 z64) 38)).heap.size = w.heap.size + 1 := by show (w.heap.push _).size = _; simp
  rw [hs1]
  refine wp_end ?_
  simp only [List.setIfInBounds_toArray, List.set_cons_zero, List.set_cons_succ]
  generalize hb : w.heap.size = b at *
  generalize hcc : b + 1 = c at *
  go_wp2_with fail
  go_loopw [12, 4] (fun x _ wr => ∃ i : Nat, i ≤ 64 ∧ x = .int .i64 i ∧ Ar wr b 38 z64 ∧ Ar wr c 38 (stN l i) ∧ Below b w wr) (fun x _ _ => 64 - (intOf x).toNat)
  case atStart => exact ⟨0, Nat.zero_le _, rfl, HA1.out, HA2.out, HB0.out⟩
  case round =>
    clear HA1 HA2 HB0
    obtain ⟨i, hi, rfl, hD, hA, hBr⟩ := hrel
    have HD := hidM hD
    have HB := hidM hBr
    clear hD hBr
    by_cases hlt : i < 64
    · have hlt' : (i : Int) < 64 := by omega
      have hwk : IntKind.i64.wrap ((i : Int) + 1) = ((i + 1 : Nat) : Int) := by rw [IntWalk.i64_in _ ⟨by omega, by omega⟩]; omega
      have hst1 := stN_step l i hlt
      have hx := stN_lt l i hlt
      obtain ⟨st, hst⟩ : ∃ st, st = stN l i := ⟨_, rfl⟩
      rw [← hst] at hA hst1 hx
      have hL : st.length = 64 := by rw [hst]; exact stN_len l i
      have HST := hidM hst1
      have HX := hidM hx
      have HA := hidM hA
      have HL := hidM hL
      have HK := hidM hlt
      have hbc : b ≠ c := by omega
      have HBC := hidM hbc
      clear hA hL hst hst1 hx hbc
      go_upto_region 5 with fail
      refine z_open (S := fun w' => Below wr.heap.size wr w') 13 (by kernel_rfl) (by kernel_rfl) (fun _ _ _ _ _ h => h) (L := #[false, false, false, false, false, false, false, false, false, false, false, false, false, false]) (by kernel_rfl) ?_
      intro Q' hns hP hN
      have hS := (show Below wr.heap.size wr wr.drew from (Below.refl _ _).drew)
      refine z_pure (i := 0) (v := .int .i64 i) hns rfl rfl rfl (by kernel_rfl) (by kernel_rfl) hP (y_move rfl (by kernel_rfl) (by kernel_rfl)) (fun _ => hS) rfl (L' := #[true, false, false, false, false, false, false, false, false, false, false, false, false, false]) (by kernel_rfl) ?_
      refine z_pure (i := 1) (v := .int .i64 (i / 4 : Nat)) hns rfl rfl rfl (by kernel_rfl) (by kernel_rfl) hP (y_bin rfl (by kernel_rfl) (by kernel_rfl) (by kernel_rfl) (quo4 i HK.out)) (fun _ => hS) rfl (L' := #[true, true, false, false, false, false, false, false, false, false, false, false, false, false]) (by kernel_rfl) ?_
      refine z_pure (i := 2) (v := .int .i64 i) hns rfl rfl rfl (by kernel_rfl) (by kernel_rfl) hP (y_move rfl (by kernel_rfl) (by kernel_rfl)) (fun _ => hS) rfl (L' := #[true, true, true, false, false, false, false, false, false, false, false, false, false, false]) (by kernel_rfl) ?_
      refine z_pure (i := 3) (v := .int .i64 (i / 4 : Nat)) hns rfl rfl rfl (by kernel_rfl) (by kernel_rfl) hP (y_bin rfl (by kernel_rfl) (by kernel_rfl) (by kernel_rfl) (quo4 i HK.out)) (fun _ => hS) rfl (L' := #[true, true, true, true, false, false, false, false, false, false, false, false, false, false]) (by kernel_rfl) ?_
      refine z_pure (i := 4) (v := .pointer (some ⟨c, (i / 4), none⟩)) hns rfl rfl rfl (by kernel_rfl) (by kernel_rfl) hP (y_index rfl (by kernel_rfl) (by kernel_rfl) (by kernel_rfl) (idx38 _ (i / 4) (by have := HK.out; omega))) (fun _ => hS) rfl (L' := #[true, true, true, true, true, false, false, false, false, false, false, false, false, false]) (by kernel_rfl) ?_
      refine z_read (i := 5) (v := .int .u32 (st.getD (i / 4) 0 : Nat)) hns rfl (by kernel_rfl) rfl rfl (by kernel_rfl) (by kernel_rfl) hP (y_load rfl (by kernel_rfl) (by kernel_rfl) (fun w' h => load37 ((HA.out.below h HA.out.lt).cell (i / 4) (by rw [HL.out]; have := HK.out; omega)))) rfl hS rfl (L' := #[true, true, true, true, true, true, false, false, false, false, false, false, false, false]) (by kernel_rfl) ?_
      refine z_pure (i := 6) (v := .int .u32 (st.getD (i / 4) 0 * 256 % 4294967296 : Nat)) hns rfl rfl rfl (by kernel_rfl) (by kernel_rfl) hP (y_bin rfl (by kernel_rfl) (by kernel_rfl) (by kernel_rfl) (shl8 _)) (fun _ => hS) rfl (L' := #[true, true, true, true, true, true, true, false, false, false, false, false, false, false]) (by kernel_rfl) ?_
      simp only [List.setIfInBounds_toArray, List.set_cons_zero, List.set_cons_succ]
      refine z_pure (i := 7) (v := .string ⟨l.toArray⟩) hns rfl rfl rfl (by kernel_rfl) (by kernel_rfl) hP (y_move rfl (by kernel_rfl) (by kernel_rfl)) (fun _ => hS) rfl (L' := #[true, true, true, true, true, true, true, true, false, false, false, false, false, false]) (by kernel_rfl) ?_
      refine z_pure (i := 8) (v := .int .i64 i) hns rfl rfl rfl (by kernel_rfl) (by kernel_rfl) hP (y_move rfl (by kernel_rfl) (by kernel_rfl)) (fun _ => hS) rfl (L' := #[true, true, true, true, true, true, true, true, true, false, false, false, false, false]) (by kernel_rfl) ?_
      refine z_pure (i := 9) (v := .int .u8 ((l.getD i 0).toNat : Nat)) hns rfl rfl rfl (by kernel_rfl) (by kernel_rfl) hP (y_idx rfl (by kernel_rfl) (by kernel_rfl) (by kernel_rfl) (strIdx l i (by rw [HLL.out]; exact HK.out))) (fun _ => hS) rfl (L' := #[true, true, true, true, true, true, true, true, true, true, false, false, false, false]) (by kernel_rfl) ?_
      refine z_pure (i := 10) (v := .int .u32 ((l.getD i 0).toNat : Nat)) hns rfl rfl rfl (by kernel_rfl) (by kernel_rfl) hP (y_cnv rfl (by kernel_rfl) (by kernel_rfl) (cvt37 _ (l.getD i 0).toNat_lt)) (fun _ => hS) rfl (L' := #[true, true, true, true, true, true, true, true, true, true, true, false, false, false]) (by kernel_rfl) ?_
      refine z_pure (i := 11) (v := .int .u32 (st.getD (i / 4) 0 * 256 + (l.getD i 0).toNat : Nat)) hns rfl rfl rfl (by kernel_rfl) (by kernel_rfl) hP (y_bin rfl (by kernel_rfl) (by kernel_rfl) (by kernel_rfl) (or37b _ _ HX.out (l.getD i 0).toNat_lt)) (fun _ => hS) rfl (L' := #[true, true, true, true, true, true, true, true, true, true, true, true, false, false]) (by kernel_rfl) ?_
      refine z_pure (i := 12) (v := .pointer (some ⟨c, (i / 4), none⟩)) hns rfl rfl rfl (by kernel_rfl) (by kernel_rfl) hP (y_index rfl (by kernel_rfl) (by kernel_rfl) (by kernel_rfl) (idx38 _ (i / 4) (by have := HK.out; omega))) (fun _ => hS) rfl (L' := #[true, true, true, true, true, true, true, true, true, true, true, true, true, false]) (by kernel_rfl) ?_
      refine z_last (by kernel_rfl) rfl rfl (by kernel_rfl) (run_storeOp rfl (by kernel_rfl) (by kernel_rfl) (store37 (k := i / 4) (HA.out.below hS HA.out.lt) (by rw [HL.out]; have := HK.out; omega) (st.getD (i / 4) 0 * 256 + (l.getD i 0).toNat))) rfl (L' := #[true, true, true, true, true, true, true, true, true, true, true, true, true, true]) (by kernel_rfl) ?_
      try simp only [List.setIfInBounds_toArray, List.set_cons_zero, List.set_cons_succ]
      refine z_done (by kernel_rfl) ?_ _
      refine hN _ _ ?_
      clear hP hN hns
      have hA1 : Ar (wr.drew.setCell ⟨c, i / 4, none⟩ (.int .u32 (st.getD (i / 4) 0 * 256 + (l.getD i 0).toNat : Nat))) c 38 (stN l (i + 1)) := by rw [← HST.out]; exact HA.out.drew.set _ _
      have hD1 : Ar (wr.drew.setCell ⟨c, i / 4, none⟩ (.int .u32 (st.getD (i / 4) 0 * 256 + (l.getD i 0).toNat : Nat))) b 38 z64 := (Below.heap_setCell wr.drew _ _ b HBC.out).trans HD.out
      have hB2 : Below b w (wr.drew.setCell ⟨c, i / 4, none⟩ (.int .u32 (st.getD (i / 4) 0 * 256 + (l.getD i 0).toNat : Nat))) := HB.out.drew.setCell (by show b ≤ c; omega) _
      have HA5 := hidM hA1
      have HD5 := hidM hD1
      have HB5 := hidM hB2
      clear hA1 hD1 hB2
      generalize wr.drew.setCell ⟨c, i / 4, none⟩ (.int .u32 (st.getD (i / 4) 0 * 256 + (l.getD i 0).toNat : Nat)) = w2 at *
      go_wp2
      exact ⟨⟨i + 1, by omega, rfl, HD5.out, HA5.out, HB5.out⟩, by simp [intOf]; omega⟩
    · have hi64 : i = 64 := by omega
      subst hi64
      rw [stN_all] at hA
      have HA0 := hidM hA
      have HD0 := HD
      have HB0 := HB
      clear hA HD HB
      go_wp2_with fail
      go_loopw [5, 6, 7, 8, 9] (fun x _ _ _ _ wr => ∃ n : Nat, n ≤ 48 ∧ x = .int .i64 (16 + n : Nat) ∧ Ar wr b 38 z64 ∧ Ar wr c 38 (wsN l n) ∧ Below b w wr) (fun x _ _ _ _ _ => 64 - (intOf x).toNat)
      case atStart => exact ⟨0, Nat.zero_le _, rfl, HD0.out, HA0.out, HB0.out⟩
      case round =>
        clear HA0 HD0 HB0
        obtain ⟨n, hn, rfl, hD, hA, hBr⟩ := hrel
        have HD := hidM hD
        have HB := hidM hBr
        clear hD hBr
        by_cases hlt : n < 48
        · have hlt' : ((16 + n : Nat) : Int) < 64 := by omega
          have hwk : IntKind.i64.wrap (((16 + n : Nat) : Int) + 1) = ((16 + (n + 1) : Nat) : Int) := by rw [IntWalk.i64_in _ ⟨by omega, by omega⟩]; omega
          have hst1 := wsN_step l n hlt
          unfold sched at hst1
          rw [← wsN_get l n _ (by omega), ← wsN_get l n (16 + n - 7) (by omega), ← wsN_get l n (16 + n - 15) (by omega), ← wsN_get l n (16 + n - 16) (by omega)] at hst1
          have hu := wsN_u l n
          obtain ⟨st, hst⟩ : ∃ st, st = wsN l n := ⟨_, rfl⟩
          rw [← hst] at hA hst1 hu
          have hx := hu.get (16 + n - 15)
          have hy := hu.get (16 + n - 2)
          have hL : st.length = 64 := by rw [hst]; exact wsN_len l n (by omega)
          have HST := hidM hst1
          have HX0 := hidM hx
          have HY0 := hidM hy
          have HA := hidM hA
          have HL := hidM hL
          have HK := hidM hlt
          have hbc : b ≠ c := by omega
          have HBC := hidM hbc
          clear hA hL hst hst1 hx hy hu hbc
          go_upto_region 10 with fail
          refine z_open (S := fun w' => Below wr.heap.size wr w') 9 (by kernel_rfl) (by kernel_rfl) (fun _ _ _ _ _ h => h) (L := #[false, false, false, false, false, false, false, false, false, false]) (by kernel_rfl) ?_
          intro Q' hns hP hN
          have hS := (show Below wr.heap.size wr wr.drew from (Below.refl _ _).drew)
          refine z_pure (i := 0) (v := .int .i64 (16 + n : Nat)) hns rfl rfl rfl (by kernel_rfl) (by kernel_rfl) hP (y_move rfl (by kernel_rfl) (by kernel_rfl)) (fun _ => hS) rfl (L' := #[true, false, false, false, false, false, false, false, false, false]) (by kernel_rfl) ?_
          refine z_pure (i := 1) (v := .int .i64 (16 + n - 15 : Nat)) hns rfl rfl rfl (by kernel_rfl) (by kernel_rfl) hP (y_bin rfl (by kernel_rfl) (by kernel_rfl) (by kernel_rfl) (subk (16 + n) 15 (by have := HK.out; omega) (by omega))) (fun _ => hS) rfl (L' := #[true, true, false, false, false, false, false, false, false, false]) (by kernel_rfl) ?_
          refine z_pure (i := 2) (v := .pointer (some ⟨c, (16 + n - 15), none⟩)) hns rfl rfl rfl (by kernel_rfl) (by kernel_rfl) hP (y_index rfl (by kernel_rfl) (by kernel_rfl) (by kernel_rfl) (idx38 _ (16 + n - 15) (by have := HK.out; omega))) (fun _ => hS) rfl (L' := #[true, true, true, false, false, false, false, false, false, false]) (by kernel_rfl) ?_
          refine z_read (i := 3) (v := .int .u32 (st.getD (16 + n - 15) 0 : Nat)) hns rfl (by kernel_rfl) rfl rfl (by kernel_rfl) (by kernel_rfl) hP (y_load rfl (by kernel_rfl) (by kernel_rfl) (fun w' h => load37 ((HA.out.below h HA.out.lt).cell (16 + n - 15) (by rw [HL.out]; have := HK.out; omega)))) rfl hS rfl (L' := #[true, true, true, true, false, false, false, false, false, false]) (by kernel_rfl) ?_
          refine z_pure (i := 4) (v := .int .i64 (16 + n : Nat)) hns rfl rfl rfl (by kernel_rfl) (by kernel_rfl) hP (y_move rfl (by kernel_rfl) (by kernel_rfl)) (fun _ => hS) rfl (L' := #[true, true, true, true, true, false, false, false, false, false]) (by kernel_rfl) ?_
          refine z_pure (i := 5) (v := .int .i64 (16 + n - 2 : Nat)) hns rfl rfl rfl (by kernel_rfl) (by kernel_rfl) hP (y_bin rfl (by kernel_rfl) (by kernel_rfl) (by kernel_rfl) (subk (16 + n) 2 (by have := HK.out; omega) (by omega))) (fun _ => hS) rfl (L' := #[true, true, true, true, true, true, false, false, false, false]) (by kernel_rfl) ?_
          refine z_pure (i := 6) (v := .pointer (some ⟨c, (16 + n - 2), none⟩)) hns rfl rfl rfl (by kernel_rfl) (by kernel_rfl) hP (y_index rfl (by kernel_rfl) (by kernel_rfl) (by kernel_rfl) (idx38 _ (16 + n - 2) (by have := HK.out; omega))) (fun _ => hS) rfl (L' := #[true, true, true, true, true, true, true, false, false, false]) (by kernel_rfl) ?_
          simp only [List.setIfInBounds_toArray, List.set_cons_zero, List.set_cons_succ]
          refine z_read (i := 7) (v := .int .u32 (st.getD (16 + n - 2) 0 : Nat)) hns rfl (by kernel_rfl) rfl rfl (by kernel_rfl) (by kernel_rfl) hP (y_load rfl (by kernel_rfl) (by kernel_rfl) (fun w' h => load37 ((HA.out.below h HA.out.lt).cell (16 + n - 2) (by rw [HL.out]; have := HK.out; omega)))) rfl hS rfl (L' := #[true, true, true, true, true, true, true, true, false, false]) (by kernel_rfl) ?_
          refine z_pure (i := 8) (v := .int .u32 (st.getD (16 + n - 15) 0 : Nat)) hns rfl rfl rfl (by kernel_rfl) (by kernel_rfl) hP (y_assign rfl (by kernel_rfl) (by kernel_rfl)) (fun _ => hS) rfl (L' := #[true, true, true, true, true, true, true, true, true, false]) (by kernel_rfl) ?_
          refine z_val (i := 9) (v := .int .u32 (st.getD (16 + n - 2) 0 : Nat)) (by kernel_rfl) rfl rfl (by kernel_rfl) (run_asg rfl (by kernel_rfl)) hS rfl (L' := #[true, true, true, true, true, true, true, true, true, true]) (by kernel_rfl) ?_
          try simp only [List.setIfInBounds_toArray, List.set_cons_zero, List.set_cons_succ]
          refine z_done (by kernel_rfl) ?_ _
          refine hN _ _ ?_
          clear hP hN hns
          clear hS
          generalize st.getD (16 + n - 15) 0 = x at *
          generalize st.getD (16 + n - 2) 0 = y at *
          have HX := HX0
          have HY := HY0
          clear HX0 HY0
          go_upto_region 11 with fail
          refine wp_region_lit ?_
          refine wp_y (v := .int .u32 (x : Nat)) rfl rfl (y_move rfl (by kernel_rfl) (by kernel_rfl)) rfl ?_
          refine wp_call (f := 46) (args := #[.int .u32 (x : Nat), .int .i64 7]) (by kernel_rfl) (fun w => by go_simp) ?_
          refine (rotr_any x 7 HX.out (by decide) (by decide) _).mono ?_
          rintro e w1 ⟨rfl, rfl⟩
          refine ⟨_, rfl, ?_⟩
          dsimp only [Act.put]
          refine wp_y (v := .int .u32 (x : Nat)) rfl rfl (y_move rfl (by kernel_rfl) (by kernel_rfl)) rfl ?_
          refine wp_call (f := 46) (args := #[.int .u32 (x : Nat), .int .i64 18]) (by kernel_rfl) (fun w => by go_simp) ?_
          refine (rotr_any x 18 HX.out (by decide) (by decide) _).mono ?_
          rintro e w1 ⟨rfl, rfl⟩
          refine ⟨_, rfl, ?_⟩
          dsimp only [Act.put]
          refine wp_y (v := .int .u32 (rr 7 x ^^^ rr 18 x : Nat)) rfl rfl (y_bin rfl (by kernel_rfl) (by kernel_rfl) (by kernel_rfl) (xor37 _ _ (rr_lt HX.out) (rr_lt HX.out))) rfl ?_
          refine wp_y (v := .int .u32 (x : Nat)) rfl rfl (y_move rfl (by kernel_rfl) (by kernel_rfl)) rfl ?_
          refine wp_y (v := .int .u32 (x / 8 : Nat)) rfl rfl (y_bin rfl (by kernel_rfl) (by kernel_rfl) (by kernel_rfl) (shr37_3 _)) rfl ?_
          refine wp_y (v := .int .u32 (sg0 x : Nat)) rfl rfl (y_bin rfl (by kernel_rfl) (by kernel_rfl) (by kernel_rfl) (xor37 _ _ (xor_lt (rr_lt HX.out) (rr_lt HX.out)) (by have := HX.out; omega))) rfl ?_
          simp only [List.setIfInBounds_toArray, List.set_cons_zero, List.set_cons_succ]
          refine wp_y (v := .int .u32 (sg0 x : Nat)) rfl rfl (y_assign rfl (by kernel_rfl) (by kernel_rfl)) rfl ?_
          simp only [List.setIfInBounds_toArray, List.set_cons_zero, List.set_cons_succ]
          refine wp_end ?_
          go_upto_region 12 with fail
          refine wp_region_lit ?_
          refine wp_y (v := .int .u32 (y : Nat)) rfl rfl (y_move rfl (by kernel_rfl) (by kernel_rfl)) rfl ?_
          refine wp_call (f := 46) (args := #[.int .u32 (y : Nat), .int .i64 17]) (by kernel_rfl) (fun w => by go_simp) ?_
          refine (rotr_any y 17 HY.out (by decide) (by decide) _).mono ?_
          rintro e w1 ⟨rfl, rfl⟩
          refine ⟨_, rfl, ?_⟩
          dsimp only [Act.put]
          refine wp_y (v := .int .u32 (y : Nat)) rfl rfl (y_move rfl (by kernel_rfl) (by kernel_rfl)) rfl ?_
          refine wp_call (f := 46) (args := #[.int .u32 (y : Nat), .int .i64 19]) (by kernel_rfl) (fun w => by go_simp) ?_
          refine (rotr_any y 19 HY.out (by decide) (by decide) _).mono ?_
          rintro e w1 ⟨rfl, rfl⟩
          refine ⟨_, rfl, ?_⟩
          dsimp only [Act.put]
          refine wp_y (v := .int .u32 (rr 17 y ^^^ rr 19 y : Nat)) rfl rfl (y_bin rfl (by kernel_rfl) (by kernel_rfl) (by kernel_rfl) (xor37 _ _ (rr_lt HY.out) (rr_lt HY.out))) rfl ?_
          refine wp_y (v := .int .u32 (y : Nat)) rfl rfl (y_move rfl (by kernel_rfl) (by kernel_rfl)) rfl ?_
          refine wp_y (v := .int .u32 (y / 1024 : Nat)) rfl rfl (y_bin rfl (by kernel_rfl) (by kernel_rfl) (by kernel_rfl) (shr37_10 _)) rfl ?_
          refine wp_y (v := .int .u32 (sg1 y : Nat)) rfl rfl (y_bin rfl (by kernel_rfl) (by kernel_rfl) (by kernel_rfl) (xor37 _ _ (xor_lt (rr_lt HY.out) (rr_lt HY.out)) (by have := HY.out; omega))) rfl ?_
          simp only [List.setIfInBounds_toArray, List.set_cons_zero, List.set_cons_succ]
          refine wp_y (v := .int .u32 (sg1 y : Nat)) rfl rfl (y_assign rfl (by kernel_rfl) (by kernel_rfl)) rfl ?_
          simp only [List.setIfInBounds_toArray, List.set_cons_zero, List.set_cons_succ]
          refine wp_end ?_
          go_upto_region 13 with fail
          refine z_open (S := fun w' => Below wr.heap.size wr w') 15 (by kernel_rfl) (by kernel_rfl) (fun _ _ _ _ _ h => h) (L := #[false, false, false, false, false, false, false, false, false, false, false, false, false, false, false, false]) (by kernel_rfl) ?_
          intro Q' hns hP hN
          have hS := (show Below wr.heap.size wr wr.drew.drew from (Below.refl _ _).drew.drew)
          refine z_pure (i := 0) (v := .int .i64 (16 + n : Nat)) hns rfl rfl rfl (by kernel_rfl) (by kernel_rfl) hP (y_move rfl (by kernel_rfl) (by kernel_rfl)) (fun _ => hS) rfl (L' := #[true, false, false, false, false, false, false, false, false, false, false, false, false, false, false, false]) (by kernel_rfl) ?_
          refine z_pure (i := 1) (v := .int .u32 (sg1 y : Nat)) hns rfl rfl rfl (by kernel_rfl) (by kernel_rfl) hP (y_move rfl (by kernel_rfl) (by kernel_rfl)) (fun _ => hS) rfl (L' := #[true, true, false, false, false, false, false, false, false, false, false, false, false, false, false, false]) (by kernel_rfl) ?_
          refine z_pure (i := 2) (v := .int .i64 (16 + n : Nat)) hns rfl rfl rfl (by kernel_rfl) (by kernel_rfl) hP (y_move rfl (by kernel_rfl) (by kernel_rfl)) (fun _ => hS) rfl (L' := #[true, true, true, false, false, false, false, false, false, false, false, false, false, false, false, false]) (by kernel_rfl) ?_
          refine z_pure (i := 3) (v := .int .i64 (16 + n - 7 : Nat)) hns rfl rfl rfl (by kernel_rfl) (by kernel_rfl) hP (y_bin rfl (by kernel_rfl) (by kernel_rfl) (by kernel_rfl) (subk (16 + n) 7 (by have := HK.out; omega) (by omega))) (fun _ => hS) rfl (L' := #[true, true, true, true, false, false, false, false, false, false, false, false, false, false, false, false]) (by kernel_rfl) ?_
          refine z_pure (i := 4) (v := .pointer (some ⟨c, (16 + n - 7), none⟩)) hns rfl rfl rfl (by kernel_rfl) (by kernel_rfl) hP (y_index rfl (by kernel_rfl) (by kernel_rfl) (by kernel_rfl) (idx38 _ (16 + n - 7) (by have := HK.out; omega))) (fun _ => hS) rfl (L' := #[true, true, true, true, true, false, false, false, false, false, false, false, false, false, false, false]) (by kernel_rfl) ?_
          refine z_read (i := 5) (v := .int .u32 (st.getD (16 + n - 7) 0 : Nat)) hns rfl (by kernel_rfl) rfl rfl (by kernel_rfl) (by kernel_rfl) hP (y_load rfl (by kernel_rfl) (by kernel_rfl) (fun w' h => load37 ((HA.out.below h HA.out.lt).cell (16 + n - 7) (by rw [HL.out]; have := HK.out; omega)))) rfl hS rfl (L' := #[true, true, true, true, true, true, false, false, false, false, false, false, false, false, false, false]) (by kernel_rfl) ?_
          refine z_pure (i := 6) (v := .int .u32 (pl (sg1 y) (st.getD (16 + n - 7) 0) : Nat)) hns rfl rfl rfl (by kernel_rfl) (by kernel_rfl) hP (y_bin rfl (by kernel_rfl) (by kernel_rfl) (by kernel_rfl) (add37 _ _)) (fun _ => hS) rfl (L' := #[true, true, true, true, true, true, true, false, false, false, false, false, false, false, false, false]) (by kernel_rfl) ?_
          simp only [List.setIfInBounds_toArray, List.set_cons_zero, List.set_cons_succ]
          refine z_pure (i := 7) (v := .int .u32 (sg0 x : Nat)) hns rfl rfl rfl (by kernel_rfl) (by kernel_rfl) hP (y_move rfl (by kernel_rfl) (by kernel_rfl)) (fun _ => hS) rfl (L' := #[true, true, true, true, true, true, true, true, false, false, false, false, false, false, false, false]) (by kernel_rfl) ?_
          refine z_pure (i := 8) (v := .int .u32 (pl (pl (sg1 y) (st.getD (16 + n - 7) 0)) (sg0 x) : Nat)) hns rfl rfl rfl (by kernel_rfl) (by kernel_rfl) hP (y_bin rfl (by kernel_rfl) (by kernel_rfl) (by kernel_rfl) (add37 _ _)) (fun _ => hS) rfl (L' := #[true, true, true, true, true, true, true, true, true, false, false, false, false, false, false, false]) (by kernel_rfl) ?_
          refine z_pure (i := 9) (v := .int .i64 (16 + n : Nat)) hns rfl rfl rfl (by kernel_rfl) (by kernel_rfl) hP (y_move rfl (by kernel_rfl) (by kernel_rfl)) (fun _ => hS) rfl (L' := #[true, true, true, true, true, true, true, true, true, true, false, false, false, false, false, false]) (by kernel_rfl) ?_
          refine z_pure (i := 10) (v := .int .i64 (16 + n - 16 : Nat)) hns rfl rfl rfl (by kernel_rfl) (by kernel_rfl) hP (y_bin rfl (by kernel_rfl) (by kernel_rfl) (by kernel_rfl) (subk (16 + n) 16 (by have := HK.out; omega) (by omega))) (fun _ => hS) rfl (L' := #[true, true, true, true, true, true, true, true, true, true, true, false, false, false, false, false]) (by kernel_rfl) ?_
          refine z_pure (i := 11) (v := .pointer (some ⟨c, (16 + n - 16), none⟩)) hns rfl rfl rfl (by kernel_rfl) (by kernel_rfl) hP (y_index rfl (by kernel_rfl) (by kernel_rfl) (by kernel_rfl) (idx38 _ (16 + n - 16) (by have := HK.out; omega))) (fun _ => hS) rfl (L' := #[true, true, true, true, true, true, true, true, true, true, true, true, false, false, false, false]) (by kernel_rfl) ?_
          refine z_read (i := 12) (v := .int .u32 (st.getD (16 + n - 16) 0 : Nat)) hns rfl (by kernel_rfl) rfl rfl (by kernel_rfl) (by kernel_rfl) hP (y_load rfl (by kernel_rfl) (by kernel_rfl) (fun w' h => load37 ((HA.out.below h HA.out.lt).cell (16 + n - 16) (by rw [HL.out]; have := HK.out; omega)))) rfl hS rfl (L' := #[true, true, true, true, true, true, true, true, true, true, true, true, true, false, false, false]) (by kernel_rfl) ?_
          refine z_pure (i := 13) (v := .int .u32 (pl (pl (pl (sg1 y) (st.getD (16 + n - 7) 0)) (sg0 x)) (st.getD (16 + n - 16) 0) : Nat)) hns rfl rfl rfl (by kernel_rfl) (by kernel_rfl) hP (y_bin rfl (by kernel_rfl) (by kernel_rfl) (by kernel_rfl) (add37 _ _)) (fun _ => hS) rfl (L' := #[true, true, true, true, true, true, true, true, true, true, true, true, true, true, false, false]) (by kernel_rfl) ?_
          refine z_pure (i := 14) (v := .pointer (some ⟨c, (16 + n), none⟩)) hns rfl rfl rfl (by kernel_rfl) (by kernel_rfl) hP (y_index rfl (by kernel_rfl) (by kernel_rfl) (by kernel_rfl) (idx38 _ (16 + n) (by have := HK.out; omega))) (fun _ => hS) rfl (L' := #[true, true, true, true, true, true, true, true, true, true, true, true, true, true, true, false]) (by kernel_rfl) ?_
          simp only [List.setIfInBounds_toArray, List.set_cons_zero, List.set_cons_succ]
          refine z_last (by kernel_rfl) rfl rfl (by kernel_rfl) (run_storeOp rfl (by kernel_rfl) (by kernel_rfl) (store37 (k := 16 + n) (HA.out.below hS HA.out.lt) (by rw [HL.out]; have := HK.out; omega) (pl (pl (pl (sg1 y) (st.getD (16 + n - 7) 0)) (sg0 x)) (st.getD (16 + n - 16) 0)))) rfl (L' := #[true, true, true, true, true, true, true, true, true, true, true, true, true, true, true, true]) (by kernel_rfl) ?_
          try simp only [List.setIfInBounds_toArray, List.set_cons_zero, List.set_cons_succ]
          refine z_done (by kernel_rfl) ?_ _
          refine hN _ _ ?_
          clear hP hN hns
          have hA1 : Ar (wr.drew.drew.setCell ⟨c, 16 + n, none⟩ (.int .u32 (pl (pl (pl (sg1 y) (st.getD (16 + n - 7) 0)) (sg0 x)) (st.getD (16 + n - 16) 0) : Nat))) c 38 (wsN l (n + 1)) := by rw [← HST.out]; exact HA.out.drew.drew.set _ _
          have hD1 : Ar (wr.drew.drew.setCell ⟨c, 16 + n, none⟩ (.int .u32 (pl (pl (pl (sg1 y) (st.getD (16 + n - 7) 0)) (sg0 x)) (st.getD (16 + n - 16) 0) : Nat))) b 38 z64 := (Below.heap_setCell wr.drew.drew _ _ b HBC.out).trans HD.out
          have hB2 : Below b w (wr.drew.drew.setCell ⟨c, 16 + n, none⟩ (.int .u32 (pl (pl (pl (sg1 y) (st.getD (16 + n - 7) 0)) (sg0 x)) (st.getD (16 + n - 16) 0) : Nat))) := HB.out.drew.drew.setCell (by show b ≤ c; omega) _
          have HA5 := hidM hA1
          have HD5 := hidM hD1
          have HB5 := hidM hB2
          clear hA1 hD1 hB2 hS
          generalize wr.drew.drew.setCell ⟨c, 16 + n, none⟩ (.int .u32 (pl (pl (pl (sg1 y) (st.getD (16 + n - 7) 0)) (sg0 x)) (st.getD (16 + n - 16) 0) : Nat)) = w2 at *
          go_wp2
          exact ⟨⟨n + 1, by omega, rfl, HD5.out, HA5.out, HB5.out⟩, by simp [intOf]; omega⟩
        · have hn48 : n = 48 := by omega
          subst hn48
          rw [wsN_all] at hA
          have hL := wordsOf_len l
          obtain ⟨st, hst⟩ : ∃ st, st = wordsOf l := ⟨_, rfl⟩
          rw [← hst] at hA hL
          have HSE := hidM hst
          clear hst
          have HA := hidM hA
          have HL := hidM hL
          clear hA hL
          go_upto_region 14 with fail
          refine wp_region_lit ?_
          refine wp_y (v := V32 st) rfl rfl (y_load rfl (by kernel_rfl) (by kernel_rfl) (fun w' h => by subst h; exact load38 HL.out HA.out)) rfl ?_
          refine wp_do rfl rfl (run_storeOp rfl (by kernel_rfl) (by kernel_rfl) (store38 z64_len HL.out HD.out)) ?_
          simp only [List.setIfInBounds_toArray, List.set_cons_zero, List.set_cons_succ]
          refine wp_end ?_
          rename_i hkr
          refine hkr _ _ (wp_ret ?_)
          change bodyPost Tryd.prog Tryd.f38 _ .ret _ _
          refine ret_arr rfl rfl (by kernel_rfl) (HD.out.row st) under38 (by rw [cs32_size, HL.out]; exact size38) ⟨by rw [← HSE.out]; rfl, by rw [hb]; exact below_setRow HB.out (by omega) _⟩
end Go.Proofs.YtcjhimakbopipaaDoor
