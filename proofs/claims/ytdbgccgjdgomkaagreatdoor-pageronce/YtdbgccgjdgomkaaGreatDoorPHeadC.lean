/- A state's head: (state).head. -/
import Derived.Test.YtdbgccgjdgomkaaGreatDoorPStateC
import Derived.Lib.BufferWrite
namespace Go.Proofs.YtdbgccgjdgomkaaGreatDoor
open Go Go.RowKit

theorem run_copySOp {o : Oper} {a : Act} {w w1 : World} {t u : TypeId} {x y : Operand} {p q v : Value} (hop : o.op = .call { callee := .builtin .copy, args := #[x, y], argTypes := #[t, u] }) (hx : a.eval x = p) (hy : a.eval y = q) (hr : (Builtin.copy_ #[t, u] o.type #[p, q]).run Tryz.prog w = .ok v w1) :
    (execOp a.eval o).run Tryz.prog w = .ok (.value v) w1 := by
  unfold execOp
  simp only [hop, resolve, invoke, builtin, Sem.run_bind, Sem.run_pure, Result.andThen_ok, List.map_toArray, List.map_cons, List.map_nil, hx, hy, hr]
theorem copy_sgn {w : World} {g o n cap : Nat} {h : List UInt8} (hg : Rw w g 70 h) (hn : 16 ≤ n) (ho : o + 16 ≤ h.length) (ty : TypeId) :
    (Builtin.copy_ #[49, 9] ty #[.slice (some ⟨g, o, none⟩) n cap, .string { data := #[117, 115, 97, 110, 99, 101, 58, 32, 97, 32, 112, 97, 103, 101, 114, 10] }]).run Tryz.prog w = .ok (goInt 16) (w.setRow g (cells8 (h.take o ++ sgn ++ h.drop (o + 16))).toArray) := by
  have hsz : (Tryz.prog.info? 5).map (·.size) = some 1 := by kernel_rfl
  have := Lib.run_copy_row_string (P := Tryz.prog) w 49 9 ty 5 g o n cap { data := #[117, 115, 97, 110, 99, 101, 58, 32, 97, 32, 112, 97, 103, 101, 114, 10] } _ _ Tryz.underlying49 hsz hg hn (by rw [cells8_size]; exact ho)
  refine this.trans (congrArg (fun c => Result.ok (goInt 16) (w.setRow g c)) ?_)
  show (List.take o (cells8 h) ++ cells8 sgn ++ List.drop (o + 16) (cells8 h)).toArray = _
  simp only [cells8, List.map_append, List.map_take, List.map_drop]
theorem head_made (n r : Nat) : (((((List.take 208 (List.take 0 z224 ++ sgn ++ List.drop (0 + 16) z224) ++ sgn ++ List.drop (208 + 16) (List.take 0 z224 ++ sgn ++ List.drop (0 + 16) z224)).set 16 (UInt8.ofNat (n / 256))).set (16 + 1) (UInt8.ofNat n)).set 18 (UInt8.ofNat (r / 256))).set (18 + 1) (UInt8.ofNat r)) = hd0 n r := by kernel_rfl
theorem qquo8 (k : Nat) (hk : k < 65536) (w : World) : (binOp .quo 3 (.int .i64 k) (.int .i64 8)).run Tryz.prog w = .ok (.int .i64 ((k / 8 : Nat) : Int)) w := by
  rw [binOp_quo]
  unfold Op.intDiv
  rw [if_neg (by decide)]
  show Result.ok (Value.int .i64 (IntKind.i64.wrap ((k : Int).tdiv 8))) w = _
  rw [Int.tdiv_eq_ediv_of_nonneg (by omega), IntWalk.i64_in _ ⟨by omega, by omega⟩]
  rfl
theorem qrem8 (k : Nat) (w : World) : (binOp .rem 3 (.int .i64 k) (.int .i64 8)).run Tryz.prog w = .ok (.int .i64 ((k % 8 : Nat) : Int)) w := by
  rw [binOp_rem]
  unfold Op.intDiv
  rw [if_neg (by decide)]
  show Result.ok (Value.int .i64 ((k : Int).tmod 8)) w = _
  rw [Int.tmod_eq_emod_of_nonneg (by omega)]
  rfl
theorem qshlU (b : Bool) (k : Nat) (hk : k < 8) (w : World) : (binOp .shl 5 (cb (b2u b)) (.int .i64 k)).run Tryz.prog w = .ok (cb (b2u b <<< UInt8.ofNat k)) w := by
  have e : IntKind.u8.wrap (((b2u b).toNat : Int) * 2 ^ k) = ((b2u b <<< UInt8.ofNat k).toNat : Nat) := by
    have h : ∀ (b : Bool) (k : Fin 8), IntKind.u8.wrap (((b2u b).toNat : Int) * 2 ^ k.val) = ((b2u b <<< UInt8.ofNat k.val).toNat : Nat) := by decide +kernel
    exact h b ⟨k, hk⟩
  unfold cb
  rw [← e]
  go_simp
theorem qorU (x y : UInt8) (w : World) : (binOp .or 5 (cb x) (cb y)).run Tryz.prog w = .ok (cb (x ||| y)) w := by
  have e := u8_or_nat x.toNat y.toNat x.toNat_lt y.toNat_lt
  unfold cb
  rw [UInt8.toNat_or, ← e]
  go_simp
set_option maxRecDepth 100000 in
set_option maxHeartbeats 4000000 in
theorem head_state (l : List Bool) (kl kr : Int) (hl : l.length ≤ 1023) (r : Nat) (hr : kr + 1 = (r : Int)) (hr2 : r < 65536) (w : World) :
    Calls Tryz.prog 84 #[St l kl kr] w fun e w' => e = .returned (V8 (hdOf l r)) ∧ Below w.heap.size w w' := by
  obtain ⟨g0, hg0⟩ : ∃ g, w.heap.size = g := ⟨_, rfl⟩
  have hbx := pbox76 w l kl kr
  have hB1 : Below w.heap.size w (w.alloc (.cells (stC l kl kr).toArray 76)) := (Below.refl _ _).alloc (Nat.le_refl _) _
  have hS1 : Sb (w.alloc (.cells (stC l kl kr).toArray 76)) w.heap.size l kl kr := heap_alloc_last w _
  have hz1 : (w.alloc (.cells (stC l kl kr).toArray 76)).heap.size = w.heap.size + 1 := by show (w.heap.push _).size = _; simp
  generalize hw1 : w.alloc (.cells (stC l kl kr).toArray 76) = w1 at *
  obtain ⟨g1, hg1⟩ : ∃ g, w1.heap.size = g := ⟨_, rfl⟩
  have hal := palloc70 w1
  have hB2 : Below w1.heap.size w1 (w1.alloc (.cells (cells8 z224).toArray 70)) := (Below.refl _ _).alloc (Nat.le_refl _) _
  have hR2 : Rw (w1.alloc (.cells (cells8 z224).toArray 70)) w1.heap.size 70 z224 := heap_alloc_last w1 _
  have hz2 : (w1.alloc (.cells (cells8 z224).toArray 70)).heap.size = w1.heap.size + 1 := by show (w1.heap.push _).size = _; simp
  generalize hw2 : w1.alloc (.cells (cells8 z224).toArray 70) = w2 at *
  obtain ⟨g2, hg2⟩ : ∃ g, w2.heap.size = g := ⟨_, rfl⟩
  have hal2 := palloc70 w2
  have hB3 : Below w2.heap.size w2 (w2.alloc (.cells (cells8 z224).toArray 70)) := (Below.refl _ _).alloc (Nat.le_refl _) _
  have hR3 : Rw (w2.alloc (.cells (cells8 z224).toArray 70)) w2.heap.size 70 z224 := heap_alloc_last w2 _
  generalize hw3 : w2.alloc (.cells (cells8 z224).toArray 70) = w3 at *
  rw [hg0] at hbx hS1 hz1 hB1
  rw [hg1] at hal hR2 hz2 hB2 hz1
  rw [hg2] at hal2 hR3 hB3 hz2
  have hzl := z224_len
  have hc1 := copy_sgn (n := 224) (cap := 224) hR3 (by decide) (by rw [hzl]; decide : 0 + 16 ≤ z224.length) 3
  have hR4 := hR3.row (List.take 0 z224 ++ sgn ++ List.drop (0 + 16) z224)
  have hF4 := Fr.setRow w3 g2 (cells8 (List.take 0 z224 ++ sgn ++ List.drop (0 + 16) z224)).toArray
  have hl4 : (List.take 0 z224 ++ sgn ++ List.drop (0 + 16) z224).length = 224 := by kernel_rfl
  obtain ⟨h4, hh4⟩ : ∃ h4, h4 = List.take 0 z224 ++ sgn ++ List.drop (0 + 16) z224 := ⟨_, rfl⟩
  rw [← hh4] at hc1 hR4 hF4 hl4
  generalize w3.setRow g2 (cells8 h4).toArray = w4 at *
  have hc2 := copy_sgn (n := 16) (cap := 16) hR4 (by decide) (by rw [hl4]; decide : 208 + 16 ≤ h4.length) 3
  have hR5 := hR4.row (List.take 208 h4 ++ sgn ++ List.drop (208 + 16) h4)
  have hF5 := Fr.setRow w4 g2 (cells8 (List.take 208 h4 ++ sgn ++ List.drop (208 + 16) h4)).toArray
  have hl5 : (List.take 208 h4 ++ sgn ++ List.drop (208 + 16) h4).length = 224 := by rw [hh4]; kernel_rfl
  obtain ⟨h5, hh5⟩ : ∃ h5, h5 = List.take 208 h4 ++ sgn ++ List.drop (208 + 16) h4 := ⟨_, rfl⟩
  rw [← hh5] at hc2 hR5 hF5 hl5
  generalize w4.setRow g2 (cells8 h5).toArray = w5 at *
  have hF35 : Fr [g2] w3 w5 := hF4.trans hF5 (fun x hx => .inl hx)
  have hS3 : Sb w3 g0 l kl kr := (hS1.below hB2 (by omega)).below hB3 (by omega)
  have hR23 : Rw w3 g1 70 z224 := hR2.below hB3 (by omega)
  have hS5 : Sb w5 g0 l kl kr := hS3.fr hF35 (by simp; omega)
  have hR25 : Rw w5 g1 70 z224 := hF35.at hR23 (by simp; omega)
  have hB5 : Below g0 w w5 := (hB1.trans ((hB2.mono (by omega)).trans (hB3.mono (by omega)))).trans (hF35.below (by have := hB3.size; have := heap_lt hR3; omega) (by simp; omega))
  have HBX := hid hbx
  have HAL := hid hal
  have HAL2 := hid hal2
  have HC1 := hid hc1
  have HC2 := hid hc2
  have HN1 := hid (load1 Tryz.isAgg3 hS5.c0)
  have H5 := hid (And.intro hS5 (And.intro hR25 (And.intro hB5 (And.intro hR5 (And.intro hl5 (show g0 < g1 ∧ g1 < g2 from ⟨by omega, by omega⟩))))))
  have HH := hid (And.intro hh4 hh5)
  have HL := hid hl
  have HRR := hid (And.intro hr hr2)
  have HG0 := hid hg0
  clear hbx hal hal2 hc1 hc2 hS1 hS3 hS5 hR2 hR3 hR4 hR5 hR23 hR25 hB1 hB2 hB3 hB5 hF4 hF5 hF35 hl4 hl5 hz1 hz2 hg1 hg2 hw1 hw2 hw3 hh4 hh5 hzl hl hr hr2 hg0
  go_enter Tryz.func84, Tryz.ntmps84
  go_upto_region 0 with fail
  refine wp_region_lit ?_
  refine wp_run (v := .pointer (some ⟨g0, 0, none⟩)) rfl rfl (run_boxOp rfl (by kernel_rfl) HBX.out) rfl ?_
  refine wp_run (v := .pointer (some ⟨g1, 0, none⟩)) rfl rfl (run_alOp rfl HAL.out) rfl ?_
  try simp only [List.setIfInBounds_toArray, List.set_cons_zero, List.set_cons_succ]
  refine wp_end ?_
  go_upto_region 1 with fail
  refine wp_region_lit ?_
  refine wp_run (v := .pointer (some ⟨g2, 0, none⟩)) rfl rfl (run_alOp rfl HAL2.out) rfl ?_
  try simp only [List.setIfInBounds_toArray, List.set_cons_zero, List.set_cons_succ]
  refine wp_end ?_
  go_upto_region 2 with fail
  refine wp_region_lit ?_
  refine wp_y (v := .slice (some ⟨g2, 0, none⟩) 224 224) rfl rfl (y_slice rfl (by kernel_rfl) (by kernel_rfl) (by kernel_rfl) (by kernel_rfl) (by kernel_rfl) (sl70 g2)) rfl ?_
  refine wp_run (v := goInt 16) rfl rfl (run_copySOp rfl (by kernel_rfl) (by kernel_rfl) HC1.out) rfl ?_
  try simp only [List.setIfInBounds_toArray, List.set_cons_zero, List.set_cons_succ]
  refine wp_end ?_
  go_upto_region 3 with fail
  refine wp_region_lit ?_
  refine wp_y (v := .slice (some ⟨g2, 208, none⟩) 16 16) rfl rfl (y_slice rfl (by kernel_rfl) (by kernel_rfl) (by kernel_rfl) (by kernel_rfl) (by kernel_rfl) (sl70b g2)) rfl ?_
  refine wp_run (v := goInt 16) rfl rfl (run_copySOp rfl (by kernel_rfl) (by kernel_rfl) HC2.out) rfl ?_
  try simp only [List.setIfInBounds_toArray, List.set_cons_zero, List.set_cons_succ]
  refine wp_end ?_
  clear HBX HAL HAL2 HC1 HC2
  have h0 := H5.out.1.c0
  generalize hn : l.length = n at *
  have hnl := HL.out
  go_wp2_with fail
  refine (putNumber_any H5.out.2.2.2.1 H5.out.2.2.2.2.1 16 n (by decide)).mono ?_
  rintro e w6 ⟨rfl, hR6, hF6⟩
  have h5 := H5.out
  have H6 := hid (And.intro (h5.1.fr hF6 (by simp; omega)) (And.intro (hF6.at h5.2.1 (by simp; omega)) (And.intro (h5.2.2.1.trans (hF6.below (by have := h5.2.2.1.size; have := HG0.out; omega) (by simp; omega))) (And.intro hR6 h5.2.2.2.2))))
  clear h5 hR6 hF6 H5 h0 HN1
  have hw7 : IntKind.i64.wrap (kr + 1) = ((r : Nat) : Int) := by
    have := HRR.out
    rw [IntWalk.i64_in _ ⟨by omega, by omega⟩]; omega
  have h2 := H6.out.1.c2
  go_wp2_with fail
  refine (putNumber_any H6.out.2.2.2.1 (by rw [List.length_set, List.length_set]; exact H6.out.2.2.2.2.1) 18 r (by decide)).mono ?_
  rintro e w7 ⟨rfl, hR7, hF7⟩
  have h6 := H6.out
  have hmade : ((((h5.set 16 (UInt8.ofNat (n / 256))).set (16 + 1) (UInt8.ofNat n)).set 18 (UInt8.ofNat (r / 256))).set (18 + 1) (UInt8.ofNat r)) = hd0 n r := by
    rw [HH.out.2, HH.out.1]; exact head_made n r
  rw [hmade] at hR7
  have H7 : Hid (Sb w7 g0 l kl kr ∧ Rw w7 g1 70 z224 ∧ Below g0 w w7 ∧ Rw w7 g2 70 (hd0 n r) ∧ g0 < g1 ∧ g1 < g2) := hid ⟨h6.1.fr hF7 (by simp; omega), hF7.at h6.2.1 (by simp; omega), h6.2.2.1.trans (hF7.below (by have := h6.2.2.1.size; have := HG0.out; omega) (by simp; omega)), hR7, h6.2.2.2.2.2⟩
  clear h6 hR7 hF7 H6 h2 hw7 hmade HH
  have h0 := H7.out.1.c0
  rw [hn] at h0
  go_wp2_with fail
  go_loopw [18, 4] (fun y _ wr => ∃ k : Nat, k ≤ n ∧ y = .int .i64 k ∧ Sb wr g0 l kl kr ∧ Rw wr g1 70 z224 ∧ Below g0 w wr ∧ Rw wr g2 70 (hbits l k (hd0 n r))) (fun y _ _ => n - (intOf y).toNat)
  case atStart => exact ⟨0, Nat.zero_le _, rfl, H7.out.1, H7.out.2.1, H7.out.2.2.1, H7.out.2.2.2.1⟩
  case round =>
    have HGG := hid H7.out.2.2.2.2
    clear H7 h0
    obtain ⟨k, hk, rfl, hS, hR1, hB, hR⟩ := hrel
    have hwk : IntKind.i64.wrap ((k : Int) + 1) = ((k + 1 : Nat) : Int) := by rw [IntWalk.i64_in _ ⟨by omega, by omega⟩]; omega
    have hhl : (hbits l k (hd0 n r)).length = 224 := by rw [hbits_len, hd0_len]
    by_cases hlt : k < n
    · have hlt' : (k : Int) < (n : Int) := by omega
      have hix : 20 + k / 8 < 224 := by omega
      obtain ⟨hh, hhe⟩ : ∃ hh, hh = hbits l k (hd0 n r) := ⟨_, rfl⟩
      obtain ⟨bk, hbk⟩ : ∃ bk, bk = l.getD k false := ⟨_, rfl⟩
      rw [← hhe] at hR hhl
      have hRd : Rw wr.drew g2 70 hh := hR
      have hSd : Sb wr.drew g0 l kl kr := hS
      have HS9 := hid (And.intro hRd hSd)
      have HLD1 : Hid (∀ w', Rw w' g2 70 hh → (Instr.loadAt 5 (.pointer (some ⟨g2, 20 + k / 8, none⟩))).run Tryz.prog w' = .ok (cb (hh.getD (20 + k / 8) 0)) w') := hid (fun w' h' => by
        have hc := h'.rd (20 + k / 8) (by omega)
        rw [Nat.zero_add] at hc
        exact load1 Tryz.isAgg5 hc)
      have HLD2 : Hid (∀ w', Sb w' g0 l kl kr → (Instr.loadAt 73 (.pointer (some ⟨g0, 3 + k, none⟩))).run Tryz.prog w' = .ok (cb (b2u bk)) w') := hid (fun w' h' => by
        have hc := h'.cu (by omega) k (by omega)
        rw [at8, useB_get l k (by omega), ← hbk] at hc
        exact load1 Tryz.isAgg73 hc)
      have HST := hid (store5r hRd (by omega : 20 + k / 8 < hh.length) (hh.getD (20 + k / 8) 0 ||| b2u bk <<< UInt8.ofNat (k % 8)))
      have hR2 := hRd.set (20 + k / 8) (hh.getD (20 + k / 8) 0 ||| b2u bk <<< UInt8.ofNat (k % 8))
      have hF : Fr [g2] wr _ := ((Fr.drew wr).mono (Y := [g2]) (by simp)).trans (Fr.setCell wr.drew g2 (20 + k / 8) (cb (hh.getD (20 + k / 8) 0 ||| b2u bk <<< UInt8.ofNat (k % 8)))) (fun x hx => .inl hx)
      have hG := HGG.out
      have he : hh.set (20 + k / 8) (hh.getD (20 + k / 8) 0 ||| b2u bk <<< UInt8.ofNat (k % 8)) = hbits l (k + 1) (hd0 n r) := by rw [hhe, hbk]; rfl
      rw [he] at hR2
      have HZ := hid (And.intro (hS.fr hF (by simp; omega)) (And.intro (hF.at hR1 (by simp; omega)) (And.intro (hB.trans (hF.below (by have := hB.size; have := HG0.out; omega) (by simp; omega))) hR2)))
      have HIX := hid hix
      have HLT := hid hlt
      have HAD : Hid (IntKind.i64.wrap (20 + ((k / 8 : Nat) : Int)) = ((20 + k / 8 : Nat) : Int)) := hid (by rw [IntWalk.i64_in _ ⟨by omega, by omega⟩]; omega)
      clear hS hR1 hB hR hSd hRd hR2 hF hG hhe hbk hhl hix hlt hk he
      go_wp2_with fail
      refine z_open (S := fun w' => Rw w' g2 70 hh ∧ Sb w' g0 l kl kr) 14 (by kernel_rfl) (by kernel_rfl) (fun _ _ _ _ _ h => h) (L := #[false, false, false, false, false, false, false, false, false, false, false, false, false, false, false]) (by kernel_rfl) ?_
      intro Q' hns hP hN
      have hS := HS9.out
      refine z_pure (i := 0) (v := .int .i64 k) hns rfl rfl rfl (by kernel_rfl) (by kernel_rfl) hP (y_move rfl (by kernel_rfl) (by kernel_rfl)) (fun _ => hS) rfl (L' := #[true, false, false, false, false, false, false, false, false, false, false, false, false, false, false]) (by kernel_rfl) ?_
      refine z_pure (i := 1) (v := .int .i64 ((k / 8 : Nat) : Int)) hns rfl rfl rfl (by kernel_rfl) (by kernel_rfl) hP (y_bin (k := .i64) (k' := .i64) (m := k) (n := 8) rfl (by kernel_rfl) (by kernel_rfl) (by kernel_rfl) (qquo8 k (by have := HLT.out; omega))) (fun _ => hS) rfl (L' := #[true, true, false, false, false, false, false, false, false, false, false, false, false, false, false]) (by kernel_rfl) ?_
      refine z_pure (i := 2) (v := .int .i64 ((20 + k / 8 : Nat) : Int)) hns rfl rfl rfl (by kernel_rfl) (by kernel_rfl) hP (y_bin (k := .i64) (k' := .i64) (m := 20) (n := ((k / 8 : Nat) : Int)) rfl (by kernel_rfl) (by kernel_rfl) (by kernel_rfl) (qadd _ _ _ HAD.out)) (fun _ => hS) rfl (L' := #[true, true, true, false, false, false, false, false, false, false, false, false, false, false, false]) (by kernel_rfl) ?_
      refine z_pure (i := 3) (v := .pointer (some ⟨g2, 20 + k / 8, none⟩)) hns rfl rfl rfl (by kernel_rfl) (by kernel_rfl) hP (y_index rfl (by kernel_rfl) (by kernel_rfl) (by kernel_rfl) (ix70 g2 (20 + k / 8) HIX.out)) (fun _ => hS) rfl (L' := #[true, true, true, true, false, false, false, false, false, false, false, false, false, false, false]) (by kernel_rfl) ?_
      refine z_read (i := 4) (v := cb (hh.getD (20 + k / 8) 0)) hns rfl (by kernel_rfl) rfl rfl (by kernel_rfl) (by kernel_rfl) hP (y_load rfl (by kernel_rfl) (by kernel_rfl) (fun w' h => HLD1.out w' h.1)) rfl hS rfl (L' := #[true, true, true, true, true, false, false, false, false, false, false, false, false, false, false]) (by kernel_rfl) ?_
      refine z_pure (i := 5) (v := .int .i64 k) hns rfl rfl rfl (by kernel_rfl) (by kernel_rfl) hP (y_move rfl (by kernel_rfl) (by kernel_rfl)) (fun _ => hS) rfl (L' := #[true, true, true, true, true, true, false, false, false, false, false, false, false, false, false]) (by kernel_rfl) ?_
      refine z_pure (i := 6) (v := .pointer (some ⟨g0, 3, none⟩)) hns rfl rfl rfl (by kernel_rfl) (by kernel_rfl) hP (y_faddr rfl (by kernel_rfl) (by kernel_rfl) (fg76_3 (g0) (0))) (fun _ => hS) rfl (L' := #[true, true, true, true, true, true, true, false, false, false, false, false, false, false, false]) (by kernel_rfl) ?_
      try simp only [List.setIfInBounds_toArray, List.set_cons_zero, List.set_cons_succ]
      refine z_pure (i := 7) (v := .pointer (some ⟨g0, 3 + k, none⟩)) hns rfl rfl rfl (by kernel_rfl) (by kernel_rfl) hP (y_index rfl (by kernel_rfl) (by kernel_rfl) (by kernel_rfl) (ix74 g0 3 k (by have := HLT.out; omega))) (fun _ => hS) rfl (L' := #[true, true, true, true, true, true, true, true, false, false, false, false, false, false, false]) (by kernel_rfl) ?_
      refine z_read (i := 8) (v := cb (b2u bk)) hns rfl (by kernel_rfl) rfl rfl (by kernel_rfl) (by kernel_rfl) hP (y_load rfl (by kernel_rfl) (by kernel_rfl) (fun w' h => HLD2.out w' h.2)) rfl hS rfl (L' := #[true, true, true, true, true, true, true, true, true, false, false, false, false, false, false]) (by kernel_rfl) ?_
      refine z_pure (i := 9) (v := .int .i64 k) hns rfl rfl rfl (by kernel_rfl) (by kernel_rfl) hP (y_move rfl (by kernel_rfl) (by kernel_rfl)) (fun _ => hS) rfl (L' := #[true, true, true, true, true, true, true, true, true, true, false, false, false, false, false]) (by kernel_rfl) ?_
      refine z_pure (i := 10) (v := .int .i64 ((k % 8 : Nat) : Int)) hns rfl rfl rfl (by kernel_rfl) (by kernel_rfl) hP (y_bin (k := .i64) (k' := .i64) (m := k) (n := 8) rfl (by kernel_rfl) (by kernel_rfl) (by kernel_rfl) (qrem8 k)) (fun _ => hS) rfl (L' := #[true, true, true, true, true, true, true, true, true, true, true, false, false, false, false]) (by kernel_rfl) ?_
      refine z_pure (i := 11) (v := cb (b2u bk <<< UInt8.ofNat (k % 8))) hns rfl rfl rfl (by kernel_rfl) (by kernel_rfl) hP (y_bin (k := .u8) (k' := .i64) (m := (b2u bk).toNat) (n := ((k % 8 : Nat) : Int)) rfl (by kernel_rfl) (by kernel_rfl) (by kernel_rfl) (qshlU bk (k % 8) (Nat.mod_lt _ (by decide)))) (fun _ => hS) rfl (L' := #[true, true, true, true, true, true, true, true, true, true, true, true, false, false, false]) (by kernel_rfl) ?_
      refine z_pure (i := 12) (v := cb (hh.getD (20 + k / 8) 0 ||| b2u bk <<< UInt8.ofNat (k % 8))) hns rfl rfl rfl (by kernel_rfl) (by kernel_rfl) hP (y_bin (k := .u8) (k' := .u8) (m := (hh.getD (20 + k / 8) 0).toNat) (n := (b2u bk <<< UInt8.ofNat (k % 8)).toNat) rfl (by kernel_rfl) (by kernel_rfl) (by kernel_rfl) (qorU _ _)) (fun _ => hS) rfl (L' := #[true, true, true, true, true, true, true, true, true, true, true, true, true, false, false]) (by kernel_rfl) ?_
      refine z_pure (i := 13) (v := .pointer (some ⟨g2, 20 + k / 8, none⟩)) hns rfl rfl rfl (by kernel_rfl) (by kernel_rfl) hP (y_index rfl (by kernel_rfl) (by kernel_rfl) (by kernel_rfl) (ix70 g2 (20 + k / 8) HIX.out)) (fun _ => hS) rfl (L' := #[true, true, true, true, true, true, true, true, true, true, true, true, true, true, false]) (by kernel_rfl) ?_
      refine z_last (by kernel_rfl) rfl rfl (by kernel_rfl) (run_storeOp rfl (by kernel_rfl) (by kernel_rfl) HST.out) rfl (L' := #[true, true, true, true, true, true, true, true, true, true, true, true, true, true, true]) (by kernel_rfl) ?_
      try simp only [List.setIfInBounds_toArray, List.set_cons_zero, List.set_cons_succ]
      refine z_done (by kernel_rfl) ?_ _
      refine hN _ _ ?_
      clear hP hN hns
      clear hS HS9
      go_wp2_with fail
      exact ⟨⟨k + 1, HLT.out, rfl, HZ.out⟩, by have := HLT.out; simp [intOf]; omega⟩
    · obtain rfl : k = n := by omega
      have hlt' : ¬ (k : Int) < (k : Int) := by omega
      have he : hbits l k (hd0 k r) = hdOf l r := by rw [hdOf, hn]
      rw [he] at hR hhl
      obtain ⟨hd, hhd⟩ : ∃ hd, hdOf l r = hd := ⟨_, rfl⟩
      rw [hhd] at hR hhl
      have HHD := hid hhd
      have HL3 := hid (pload70 hhl hR)
      have HST := hid (pstore70 z224_len hhl hR1)
      have HLR := hid (pload70 hhl (hR1.row hd))
      have HZ : Hid (Below w.heap.size w (wr.setRow g1 (cells8 hd).toArray)) := hid (by
        rw [HG0.out]
        exact hB.trans ((Fr.setRow wr g1 _).below (by have := hB.size; have := HG0.out; omega) (by simp; have := HGG.out; omega)))
      clear hS hR1 hB hR hhl hk hlt he hhd
      go_upto_region 11 with fail
      refine wp_region_lit ?_
      refine wp_y (v := V8 hd) rfl rfl (y_load rfl (by kernel_rfl) (by kernel_rfl) (fun w' h => by rw [h]; exact HL3.out)) rfl ?_
      refine wp_do rfl rfl (run_storeOp rfl (by kernel_rfl) (by kernel_rfl) HST.out) ?_
      try simp only [List.setIfInBounds_toArray, List.set_cons_zero, List.set_cons_succ]
      refine wp_end ?_
      go_wp2_with fail
      exact ret_cell rfl rfl rfl HLR.out ⟨by rw [HHD.out], HZ.out⟩
end Go.Proofs.YtdbgccgjdgomkaaGreatDoor
