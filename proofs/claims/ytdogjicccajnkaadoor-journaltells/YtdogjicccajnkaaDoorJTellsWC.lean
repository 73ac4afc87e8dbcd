/- The walk of JournalTells. -/
import Derived.Test.YtdogjicccajnkaaDoorJTellsMC
import Derived.Test.YtdogjicccajnkaaDoorJRefWrite2C
import Derived.Test.YtdogjicccajnkaaDoorJHasC
import Derived.Test.YtdogjicccajnkaaDoorJGh
namespace Go.Proofs.YtdogjicccajnkaaDoor
open Go Go.RowKit

theorem idxP (b o n cap k : Nat) (h : k < n) (w : World) : (Instr.indexAt 22 (.slice (some ⟨b, o, none⟩) n cap) (.int .i64 k)).run Tryd.prog w = .ok (.pointer (some ⟨b, o + k * 4, none⟩)) w := by
  have h1 : (k : Int) < n := by omega
  go_simp
theorem addP (a b r : Int) (h : IntKind.i64.wrap (a + b) = r) (w : World) : (binOp .add 3 (.int .i64 a) (.int .i64 b)).run Tryd.prog w = .ok (.int .i64 r) w := by subst h; go_simp
/-- A script's call at a place in memory. -/
def OpAt (w : World) (b o : Nat) (x : OpV6) : Prop := w.cell? ⟨b, o, none⟩ = some (.int .i64 x.kd) ∧ w.cell? ⟨b, o + 1, none⟩ = some x.va ∧ w.cell? ⟨b, o + 2, none⟩ = some (.int .u8 x.by_) ∧ w.cell? ⟨b, o + 3, none⟩ = some (.int .i64 x.raw)
theorem OpAt.load {w : World} {b o : Nat} {x : OpV6} (h : OpAt w b o x) : (Instr.loadAt 45 (.pointer (some ⟨b, o, none⟩))).run Tryd.prog w = .ok (.agg #[.int .i64 x.kd, x.va, .int .u8 x.by_, .int .i64 x.raw]) w := by
  obtain ⟨h0, h1, h2, h3⟩ := h
  go_simp
theorem OpAt.below {w w' : World} {b o : Nat} {x : OpV6} (h : OpAt w b o x) (hB : Below w.heap.size w w') : OpAt w' b o x := by
  have hb : b < w.heap.size := World.block_lt_of_cell? w _ h.1
  exact ⟨(hB.cell (p := ⟨b, o, none⟩) hb).trans h.1, (hB.cell (p := ⟨b, o + 1, none⟩) hb).trans h.2.1, (hB.cell (p := ⟨b, o + 2, none⟩) hb).trans h.2.2.1, (hB.cell (p := ⟨b, o + 3, none⟩) hb).trans h.2.2.2⟩
theorem Ops6.at {W : World} {a : Option Addr} {len : Nat} {xs : List OpV6} (h : Ops6 W a len xs) {i : Nat} {x : OpV6} (hx : xs[i]? = some x) : ∃ b o, a = some ⟨b, o, none⟩ ∧ OpAt W b (o + i * 4) x := by
  obtain ⟨b, o, e, k0, k1, k2, k3⟩ := h.2 i x hx
  exact ⟨b, o, e, k0, by rw [Nat.add_assoc]; exact k1, by rw [Nat.add_assoc]; exact k2, by rw [Nat.add_assoc]; exact k3⟩
theorem bits_xor_u8_nat (a b : Nat) (ha : a < 256) (hb : b < 256) : bits .xor .u8 (a : Int) (b : Int) = ((a ^^^ b : Nat) : Int) := by
  have hx : a ^^^ b < 2 ^ 8 := Nat.xor_lt_two_pow (by omega) (by omega)
  have h1 : (BitVec.ofInt 8 (a : Int)).toNat = a := by
    rw [BitVec.ofInt_natCast, BitVec.toNat_ofNat]; exact Nat.mod_eq_of_lt (by omega)
  have h2 : (BitVec.ofInt 8 (b : Int)).toNat = b := by
    rw [BitVec.ofInt_natCast, BitVec.toNat_ofNat]; exact Nat.mod_eq_of_lt (by omega)
  show IntKind.u8.wrap ((BitVec.ofInt 8 (a : Int) ^^^ BitVec.ofInt 8 (b : Int)).toNat : Int) = _
  rw [BitVec.toNat_xor, h1, h2, IntKind.wrap_u8]
  omega
theorem xor_u8 (y : UInt8) (b : Int) (h0 : 0 ≤ b) (h1 : b ≤ 255) : ∃ x : UInt8, bits .xor .u8 ((y.toNat : Nat) : Int) b = ((x.toNat : Nat) : Int) ∧ (b = 0 → x = y) := by
  obtain ⟨m, rfl⟩ : ∃ m : Nat, b = (m : Int) := ⟨b.toNat, by omega⟩
  have hy := y.toNat_lt
  have hx : y.toNat ^^^ m < 256 := Nat.xor_lt_two_pow (n := 8) (by omega) (by omega)
  refine ⟨UInt8.ofNat (y.toNat ^^^ m), ?_, fun e => ?_⟩
  · rw [bits_xor_u8_nat _ _ (by omega) (by omega), UInt8.toNat_ofNat']
    congr 1
    omega
  · obtain rfl : m = 0 := by omega
    rw [Nat.xor_zero]
    exact UInt8.ofNat_toNat
set_option maxRecDepth 100000 in
set_option maxHeartbeats 16000000 in
theorem journalTells_walk (c at_ pl by_ : Int) (a : Option Addr) (N cap : Nat) (xs : List OpV6) (W : World) (ht : Tab W) (hc : -9223372036854775808 ≤ c ∧ c ≤ 9223372036854775807) (hs : Ops6 W a N xs) (hF : ∀ x ∈ xs, OpF6 W x) (hN : N ≤ 9223372036854775807) (hat : -9223372036854775808 ≤ at_ ∧ at_ ≤ 9223372036854775807) (hpl : -9223372036854775808 ≤ pl ∧ pl ≤ 9223372036854775807) (hby : 0 ≤ by_ ∧ by_ ≤ 255) :
    Calls Tryd.prog 5 #[.int .i64 c, .slice a N cap, .int .i64 at_, .int .i64 pl, .int .u8 by_] W fun e w' => e = .returned (.bool true) ∧ Below W.heap.size W w' := by
  have HNN := hid (sizeOf6_le c)
  have HSZ := hid (fun w => size_any c hc.1 hc.2 w)
  generalize sizeOf6 c = n at *
  have HT := hid ht
  have HTL := hid (tab_lt ht)
  have HS := hid hs
  have HF := hid hF
  have HNL := hid hN
  have HPA := hid (fun w => pick_any at_ n hat.1 hat.2 (by have := HNN.out; omega) w)
  have HKA := hid (pk_lt at_ (n := n) (by have := HNN.out; omega))
  generalize pk at_ n = ka at *
  have HPB := hid (fun w => pick_any pl 128 hpl.1 hpl.2 (by decide) w)
  have HKB := hid (pk_lt pl (n := 128) (by decide))
  generalize pk pl 128 = qa at *
  have HBY := hid hby
  have HNB : Hid (nbOf n ≠ 0 ∧ nbOf n ≤ 1000000) := hid (by have := HNN.out; unfold nbOf; omega)
  have HNB2 : Hid (nbOf n ≤ 45) := hid (by have := HNN.out; unfold nbOf; omega)
  clear ht hs hF hN hc hat hpl hby
  obtain ⟨ab, hab⟩ : ∃ ab, W.heap.size = ab := ⟨_, rfl⟩
  have HAB := hid hab
  rw [hab] at HTL ⊢
  have HW0 : Hid (ab ≤ W.heap.size) := hid (Nat.le_of_eq hab.symm)
  go_enter Tryd.func5, Tryd.ntmps5
  go_wp2_with fail
  refine (shown_any W HT.out).mono ?_
  rintro e w1 ⟨rfl, hB1⟩
  rw [hab] at hB1
  have HB1 : Hid (Below ab W w1) := hid hB1
  clear hB1 hab
  go_wp2_with fail
  refine (HSZ.out _).mono ?_
  rintro e wz ⟨rfl, hwz⟩
  obtain rfl := hwz.symm
  go_wp2_with fail
  refine (begun_any n HNN.out.1 (by have := HNN.out; omega) w1 (HT.out.belowB HB1.out HTL.out)).mono ?_
  intro e w2 hbg
  obtain ⟨p, j, r, X, s, rfl, hJ2, hsn, hso, hR2, hrb, hB2⟩ := hbg.js
  have hab1 : ab ≤ w1.heap.size := Nat.le_trans HW0.out HB1.out.size
  generalize hnb : nbOf n = nb at *
  have H9 := hid (And.intro (show Js ab w2 j p X s 0 0 (zeros nb) from ⟨hJ2.jr, hJ2.cut, fun k hk => Nat.le_trans hab1 (hJ2.lo k hk), Nat.le_trans hab1 hJ2.jlo⟩) (And.intro hR2 (HB1.out.trans (hB2.mono hab1))))
  have HRR : Hid (ab ≤ r) := hid (Nat.le_trans hab1 hrb)
  have HSN6 := hid (And.intro hsn hso)
  clear hJ2 hsn hso hR2 hrb hB2 hbg hab1 HB1
  go_wp2_with fail
  go_loopw [16, 17, 18] (fun v16 _ _ wv => ∃ (i : Nat) (X : List Nat) (s : DS) (sq cnt : Nat) (bl : List (List UInt8)), i ≤ N ∧ i ≤ 20 ∧ v16 = .int .i64 i ∧ Js ab wv j p X s sq cnt bl ∧ Rj wv (r + 1) r bl (sq : Nat) ∧ Below ab W wv ∧ s.n = n ∧ sq ≤ i ∧ s.ops ≤ ((2 * nb + 3 + 100 * i : Nat) : Int)) (fun v16 _ _ _ => N - (intOf v16).toNat)
  case atStart => exact ⟨0, X, s, 0, 0, _, Nat.zero_le _, Nat.zero_le _, rfl, H9.out.1, H9.out.2.1, H9.out.2.2, HSN6.out.1, Nat.le_refl _, by rw [HSN6.out.2]; omega⟩
  case round =>
  clear H9 HSN6
  rename World => wq
  obtain ⟨i, X, s, sq, cnt, bl, hi1, hi2, rfl, hJ, hR, hWo, hsn, hsq, hops⟩ := hrel
  have hwi : IntKind.i64.wrap ((i : Int) + 1) = ((i + 1 : Nat) : Int) := by rw [IntWalk.i64_in _ ⟨by omega, by omega⟩]; omega
  have hbl : bl.length = nb := by rw [hJ.jr.sett.con.len, hsn, hnb]
  have hnb2 := HNB2.out
  by_cases hlt : i < N ∧ i < 20
  · have hb1 : (i : Int) < (N : Int) := by omega
    have hb2 : (i : Int) < 20 := by omega
    obtain ⟨o, ho⟩ : ∃ o, xs[i]? = some o := ⟨_, List.getElem?_eq_getElem (by have := HS.out.1; omega)⟩
    obtain ⟨bo, oo, rfl, hat⟩ := HS.out.at ho
    have HOF := hid (HF.out o (List.mem_of_getElem? ho))
    have HIN : Hid (i < N) := hid hlt.1
    have HI : Hid (i + 1 ≤ N ∧ i + 1 ≤ 20) := hid ⟨hlt.1, hlt.2⟩
    have hd : Below wq.heap.size wq wq.drew := (Below.refl _ _).drew
    have hWd : Below ab W wq.drew := hWo.trans (hd.mono (Nat.le_trans HW0.out hWo.size))
    obtain ⟨vr, hr, hor⟩ := hR
    obtain ⟨ar, cr, rfl⟩ : ∃ a cap, vr = .slice a nb cap := by
      rcases hor.2 with ⟨e, h0⟩ | ⟨g, cap, cur, e, _⟩
      · exact ⟨none, 0, by rw [e, ← hbl, h0]⟩
      · exact ⟨_, cap, by rw [e, hbl]⟩
    have HS24 : Hid (OpAt wq.drew bo (oo + i * 4) o ∧ wq.drew.heap[r]? = some (.cells #[.slice ar nb cr, .int .i64 (sq : Nat)] 51 (0, 0)) ∧ Iz wq.drew o.va o.zs) := hid ⟨hat.below (by rw [HAB.out]; exact hWd), below_at hd hr (heap_lt hr), HOF.out.1.below (by rw [HAB.out]; exact hWd)⟩
    have HPD := hid (And.intro (hJ.below hd) (And.intro ((show Rj wq (r + 1) r bl (sq : Nat) from ⟨_, hr, hor⟩).below hd) hWd))
    have HOB := hid (And.intro hsn (And.intro hsq (And.intro hops hnb2)))
    clear hJ hsn hsq hops hWo hat ho hd hWd hr hor hi1 hi2 hlt hbl hnb2
    go_wp2_with fail
    refine z_open (S := fun w' => OpAt w' bo (oo + i * 4) o ∧ w'.heap[r]? = some (.cells #[.slice ar nb cr, .int .i64 (sq : Nat)] 51 (0, 0)) ∧ Iz w' o.va o.zs) 13 (by kernel_rfl) (by kernel_rfl) (fun _ _ _ _ _ h => h) (L := #[false, false, false, false, false, false, false, false, false, false, false, false, false, false, false]) (by kernel_rfl) ?_
    intro Q' hns hP hN
    have hS := HS24.out
    refine z_pure (i := 0) (v := .slice (some ⟨bo, oo, none⟩) N cap) hns rfl rfl rfl (by kernel_rfl) (by kernel_rfl) hP (y_move rfl (by kernel_rfl) (by kernel_rfl)) (fun _ => hS) rfl (L' := #[true, false, false, false, false, false, false, false, false, false, false, false, false, false, false]) (by kernel_rfl) ?_
    refine z_pure (i := 1) (v := .int .i64 i) hns rfl rfl rfl (by kernel_rfl) (by kernel_rfl) hP (y_move rfl (by kernel_rfl) (by kernel_rfl)) (fun _ => hS) rfl (L' := #[true, true, false, false, false, false, false, false, false, false, false, false, false, false, false]) (by kernel_rfl) ?_
    refine z_pure (i := 2) (v := .pointer (some ⟨bo, oo + i * 4, none⟩)) hns rfl rfl rfl (by kernel_rfl) (by kernel_rfl) hP (y_index rfl (by kernel_rfl) (by kernel_rfl) (by kernel_rfl) (idxP bo oo N cap i HIN.out)) (fun _ => hS) rfl (L' := #[true, true, true, false, false, false, false, false, false, false, false, false, false, false, false]) (by kernel_rfl) ?_
    refine z_read (i := 3) (v := .agg #[.int .i64 o.kd, o.va, .int .u8 o.by_, .int .i64 o.raw]) hns rfl (by kernel_rfl) rfl rfl (by kernel_rfl) (by kernel_rfl) hP (y_load rfl (by kernel_rfl) (by kernel_rfl) (fun w' h => h.1.load)) rfl hS rfl (L' := #[true, true, true, true, false, false, false, false, false, false, false, false, false, false, false]) (by kernel_rfl) ?_
    refine z_pure (i := 4) (v := .pointer (some ⟨r, 0, none⟩)) hns rfl rfl rfl (by kernel_rfl) (by kernel_rfl) hP (y_move rfl (by kernel_rfl) (by kernel_rfl)) (fun _ => hS) rfl (L' := #[true, true, true, true, true, false, false, false, false, false, false, false, false, false, false]) (by kernel_rfl) ?_
    refine z_pure (i := 5) (v := .pointer (some ⟨r, 0, none⟩)) hns rfl rfl rfl (by kernel_rfl) (by kernel_rfl) hP (y_nil rfl (by kernel_rfl) (by kernel_rfl)) (fun _ => hS) rfl (L' := #[true, true, true, true, true, true, false, false, false, false, false, false, false, false, false]) (by kernel_rfl) ?_
    refine z_pure (i := 6) (v := .pointer (some ⟨r, 0, none⟩)) hns rfl rfl rfl (by kernel_rfl) (by kernel_rfl) hP (y_faddr rfl (by kernel_rfl) (by kernel_rfl) (fa51_0 (r))) (fun _ => hS) rfl (L' := #[true, true, true, true, true, true, true, false, false, false, false, false, false, false, false]) (by kernel_rfl) ?_
    simp only [List.setIfInBounds_toArray, List.set_cons_zero, List.set_cons_succ]
    refine z_read (i := 7) (v := .slice ar nb cr) hns rfl (by kernel_rfl) rfl rfl (by kernel_rfl) (by kernel_rfl) hP (y_load rfl (by kernel_rfl) (by kernel_rfl) (fun w' h => load1 Tryd.isAgg49 (cell_at h.2.1 0 rfl))) rfl hS rfl (L' := #[true, true, true, true, true, true, true, true, false, false, false, false, false, false, false]) (by kernel_rfl) ?_
    refine z_pure (i := 8) (v := .int .i64 (nb : Nat)) hns rfl rfl rfl (by kernel_rfl) (by kernel_rfl) hP (y_lenT len49 (p := ar) (c := cr) rfl (by kernel_rfl) (by kernel_rfl)) (fun _ => hS) rfl (L' := #[true, true, true, true, true, true, true, true, true, false, false, false, false, false, false]) (by kernel_rfl) ?_
    refine z_call (i := 9) (f := 22) (args := #[.agg #[.int .i64 o.kd, o.va, .int .u8 o.by_, .int .i64 o.raw], .int .i64 nb]) (by kernel_rfl) rfl rfl (by kernel_rfl) (enter_go rfl (by kernel_rfl) (fun w => by go_simp)) (L' := #[true, true, true, true, true, true, true, true, true, true, false, false, false, false, false]) (by kernel_rfl) ?_
    refine (blocks_any nb HNB.out.1 HNB.out.2 hS.2.2 HOF.out.2.1 HOF.out.2.2.1 HOF.out.2.2.2.1 HOF.out.2.2.2.2.1).mono ?_
    rintro e w6 ⟨v1, v2, zs, qs, rfl, hA6, hK6, hz6, hq6, _, hB6⟩
    have hS6 : _ ∧ _ ∧ _ := And.intro (hS.1.below hB6) (And.intro (below_at hB6 hS.2.1 (heap_lt hS.2.1)) (hS.2.2.below hB6))
    refine ⟨_, rfl, hS6, ?_⟩
    refine z_pure (i := 10) (v := .tuple #[v1, v2]) hns rfl rfl rfl (by kernel_rfl) (by kernel_rfl) hP (y_move rfl (by kernel_rfl) (by kernel_rfl)) (fun _ => hS6) rfl (L' := #[true, true, true, true, true, true, true, true, true, true, true, false, false, false, false]) (by kernel_rfl) ?_
    refine z_pure (i := 11) (v := v1) hns rfl rfl rfl (by kernel_rfl) (by kernel_rfl) hP (y_ext rfl (by kernel_rfl) (by kernel_rfl) (ext2_0 v1 v2)) (fun _ => hS6) rfl (L' := #[true, true, true, true, true, true, true, true, true, true, true, true, false, false, false]) (by kernel_rfl) ?_
    refine z_pure (i := 12) (v := v2) hns rfl rfl rfl (by kernel_rfl) (by kernel_rfl) hP (y_ext rfl (by kernel_rfl) (by kernel_rfl) (ext2_1 v1 v2)) (fun _ => hS6) rfl (L' := #[true, true, true, true, true, true, true, true, true, true, true, true, true, false, false]) (by kernel_rfl) ?_
    refine z_val (i := 13) (v := v1) (by kernel_rfl) rfl rfl (by kernel_rfl) (run_asg rfl (by kernel_rfl)) hS6 rfl (L' := #[true, true, true, true, true, true, true, true, true, true, true, true, true, true, false]) (by kernel_rfl) ?_
    refine z_pure (i := 14) (v := v2) hns rfl rfl rfl (by kernel_rfl) (by kernel_rfl) hP (y_assign rfl (by kernel_rfl) (by kernel_rfl)) (fun _ => hS6) rfl (L' := #[true, true, true, true, true, true, true, true, true, true, true, true, true, true, true]) (by kernel_rfl) ?_
    try simp only [List.setIfInBounds_toArray, List.set_cons_zero, List.set_cons_succ]
    refine z_done (by kernel_rfl) ?_ _
    refine hN _ _ ?_
    clear hP hN hns
    clear hS HS24 hS6
    have hpd := HPD.out
    have hob := HOB.out
    have hW6 : Below ab W w6 := hpd.2.2.trans (hB6.mono (Nat.le_trans HW0.out hpd.2.2.size))
    have hJ6 := hpd.1.below hB6
    have hR6 := hpd.2.1.below hB6
    have hb16 : ab ≤ w6.heap.size := by have := hJ6.lt j (by simp); have := hJ6.jlo; omega
    have hnbs : nbOf s.n = nb := by rw [hob.1, hnb]
    have HWR := hid (hJ6.wr hb16 (by have := HI.out; omega) hA6.iz hK6.bz (by omega) (by rw [hnbs]; have := HI.out; omega))
    have H6 := hid (And.intro hR6 (And.intro hA6 (And.intro hK6 hW6)))
    have HZL := hid (And.intro hz6 hq6)
    clear hpd hob hW6 hJ6 hR6 hb16 hnbs hA6 hK6 hz6 hq6 hB6 HPD
    go_wp2_with fail
    refine HWR.out.mono ?_
    rintro e w7a ⟨rfl, s', X', cnt', hJ7, hn7, ho7, ho7', _, _, _, hB7, hK7⟩
    have h6 := H6.out
    have hob := HOB.out
    have hW7 : Below ab W w7a := h6.2.2.2.trans (hB7)
    have hR7 := hK7.rj h6.1
    have hA7 := hK7.ats h6.2.1
    have hQ7 := hK7.bks h6.2.2.1
    have HRW := hid (hR7.wr (Nat.lt_succ_self r) hA7 hQ7 (by have := HZL.out; omega) (by have := HI.out; omega))
    obtain ⟨vb7, hr7, _⟩ := hR7
    have H7 := hid (show Js ab w7a j p X' s' (refW sq bl zs (qs.map ql)).1 cnt' (refW sq bl zs (qs.map ql)).2 ∧ Below ab W w7a ∧ w7a.heap[r]? = some (.cells #[vb7, .int .i64 (sq : Nat)] 51 (0, 0)) from ⟨hJ7, hW7, hr7⟩)
    have HS7 : Hid (s'.n = n ∧ s'.ops ≤ ((2 * nb + 3 + 100 * (i + 1) : Nat) : Int) ∧ (refW sq bl zs (qs.map ql)).1 ≤ i + 1) := hid ⟨hn7.trans hob.1, by have := HZL.out; omega, by have := (refW_seq sq bl zs (qs.map ql)).2; omega⟩
    clear h6 hob hW7 hA7 hQ7 hJ7 hn7 ho7 ho7' hB7 hK7 HWR H6 hr7
    go_wp2_with fail
    refine HRW.out.mono ?_
    rintro e w8a ⟨rfl, hR8, hfr⟩
    have h7 := H7.out
    have h8 : Js ab w8a j p X' s' (refW sq bl zs (qs.map ql)).1 cnt' (refW sq bl zs (qs.map ql)).2 ∧ Below ab W w8a := by
      rcases hfr with hB | ⟨g, cg, hg, hbg, hF⟩
      · exact ⟨h7.1.below hB, h7.2.1.trans (hB.mono (Nat.le_trans HW0.out h7.2.1.size))⟩
      · have hW8 : Below ab W w8a := h7.2.1.trans (hF.below (Nat.le_trans HW0.out h7.2.1.size) (fun x hx => by
          have h1 := HRR.out
          simp only [List.mem_cons, List.not_mem_nil, or_false] at hx
          rcases hx with rfl | rfl <;> omega))
        refine ⟨h7.1.fr hF (fun k hk hm => ?_) (HT.out.belowB hW8 HTL.out), hW8⟩
        simp only [List.mem_cons, List.not_mem_nil, or_false] at hm
        rcases hm with rfl | rfl
        · exact h7.1.not h7.2.2 (by decide) (by decide) (by decide) hk
        · exact h7.1.not hg (by decide) (by decide) (by decide) hk
    have HZ := hid (And.intro h8.1 (And.intro hR8 (And.intro h8.2 (And.intro HS7.out.1 (And.intro HS7.out.2.2 HS7.out.2.1)))))
    clear h7 h8 hR8 hfr H7 HRW HS7
    go_wp2_with fail
    exact ⟨⟨i + 1, _, _, _, _, _, HI.out.1, HI.out.2, rfl, HZ.out⟩, by have := HI.out; simp [intOf]; omega⟩
  · have HLT := hid hlt
    have HIL := hid hi2
    obtain ⟨l, hl⟩ : ∃ l, s.now[ka]? = some l := ⟨_, List.getElem?_eq_getElem (by rw [hJ.jr.sett.len, hsn]; exact HKA.out)⟩
    have hll : l.length = 128 := hJ.jr.disk.ok.nowLens l (List.mem_of_getElem? hl)
    have HRD := hid (read_d hJ.jr.disk hJ.jr.sett.gone ka l hl)
    have HJ := hid (And.intro hJ (And.intro hR (And.intro hWo (And.intro hsn (And.intro hbl (And.intro hl (And.intro hll hops)))))))
    clear hJ hR hWo hsn hsq hops hbl hi1 hi2 hlt hl hll hnb2
    by_cases hN : i < N
    · have hb1 : (i : Int) < (N : Int) := by omega
      have hb2 : ¬ (i : Int) < 20 := by have := HLT.out; omega
      clear hN hwi
      go_wp2_with fail
      refine (HPA.out _).mono ?_
      rintro e wz ⟨rfl, hwz⟩
      obtain rfl := hwz.symm
      go_wp2_with fail
      refine (HPB.out _).mono ?_
      rintro e wz ⟨rfl, hwz⟩
      obtain rfl := hwz.symm
      go_wp2_with fail
      refine HRD.out.mono ?_
      rintro e wr1 ⟨rfl, hwr⟩
      have hj := HJ.out
      have hB1 : Below wq.heap.size wq wr1 := by rw [hwr]; exact (Below.refl _ _).alloc (Nat.le_refl _) _
      have hrow : wr1.heap[wq.heap.size]? = some (.cells (cells8 l).toArray 104 (0, 0)) := by rw [hwr]; exact heap_alloc_last wq _
      have hJ1 := hj.1.below hB1
      have hW1 : Below ab W wr1 := hj.2.2.1.trans (hB1.mono (Nat.le_trans HW0.out hj.2.2.1.size))
      have hce : wr1.cell? ⟨wq.heap.size, qa, none⟩ = some (cb (l.getD qa 0)) := cell_at hrow qa (by rw [List.getElem?_toArray]; exact cells8_get _ qa (by rw [hj.2.2.2.2.2.2.1]; exact HKB.out))
      unfold cb at hce
      obtain ⟨x, hx, hx0⟩ := xor_u8 (l.getD qa 0) by_ HBY.out.1 HBY.out.2
      have HPO := hid (poke_d hJ1.jr.disk (i := ka) (q := qa) x (by rw [hj.2.2.2.1]; exact HKA.out) HKB.out)
      have HSH := hid (poke_shape hj.1.jr.sett HKB.out x hj.2.2.2.2.2.1 hj.2.2.2.2.2.2.1)
      have HX0 := hid hx0
      have H1 := hid (And.intro hJ1 (And.intro (hj.2.1.below hB1) (And.intro hW1 (And.intro hj.2.2.2.1 (And.intro hj.2.2.2.2.1 hj.2.2.2.2.2.2.2)))))
      have HI20 : Hid (i ≤ 20) := HIL
      have hqa : (qa : Int) < 128 := by have := HKB.out; omega
      generalize ((l.getD qa 0).toNat : Int) = y0 at hce hx
      clear hj hB1 hrow hJ1 hW1 hwr hx0 HRD HJ
      generalize wq.heap.size = gr at *
      go_wp2_with fail
      refine HPO.out.mono ?_
      rintro e w3 ⟨rfl, hD3, hF3⟩
      have h1 := H1.out
      have hW3 : Below ab W w3 := h1.2.2.1.trans (hF3.below (Nat.le_trans HW0.out h1.2.2.1.size) h1.1.lo)
      have hR3 := (Kp.of_frX h1.1.jr.disk hF3).rj h1.2.1
      have hT3 := HT.out.belowB hW3 HTL.out
      have hcr3 : 0 ∉ X := fun hm => by have h2 := h1.1.lo _ hm; have h3 := HTL.out; omega
      have hpn : (s.poke ka qa x).n = n := h1.2.2.2.1
      clear hx hce hqa HPO
      by_cases hS : Sett (s.poke ka qa x) sq cnt bl
      · have HO := hid (open_rest hD3 hT3 hS.gone hS.n32 (show s.cut = -1 from h1.1.cut) hS.loose hS.same hS.con (by rw [hpn, hnb]; have := HNB2.out; have h2 := h1.2.2.2.2.2; show s.ops + _ ≤ _; have := HI20.out; omega) hcr3)
        have H3 := hid (And.intro hD3 (And.intro hR3 (And.intro hW3 (And.intro h1.1.lo h1.2.2.2.2.1))))
        clear h1 hW3 hR3 hT3 hcr3 hpn hS hD3 hF3 HSH HX0 H1
        go_wp2_with fail
        refine HO.out.mono ?_
        rintro e w4 ⟨j4, s4, X4, hj4, rfl, hJ4, _, _, _, _, _, hF4⟩
        have h3 := H3.out
        have hW4 : Below ab W w4 := h3.2.2.1.trans (hF4.below (Nat.le_trans HW0.out h3.2.2.1.size) h3.2.2.2.1)
        have hR4 := (Kp.of_frX h3.1 hF4).rj h3.2.1
        have hbl := h3.2.2.2.2
        obtain ⟨vr, hr, hor⟩ := hR4
        obtain ⟨g2, c2, rfl⟩ : ∃ g cap, vr = .slice (some ⟨g, 0, none⟩) bl.length cap := by
          rcases hor.2 with ⟨_, h0⟩ | ⟨g, cap, cur, e, _⟩
          · have := HNB.out.1; omega
          · exact ⟨g, cap, e⟩
        have HCE : Hid (∀ k b, bl[k]? = some b → w4.cell? ⟨g2, k, none⟩ = some (strV b)) := hid (fun k b hb => rj_cell hor hb)
        rw [hbl] at hr
        have hd : Below w4.heap.size w4 w4.drew := (Below.refl _ _).drew
        have HS23 := hid (And.intro (below_at hd hJ4.jn (heap_lt hJ4.jn)) (below_at hd hr (heap_lt hr)))
        have HBB : Hid ((((sq : Nat) : Int) != ((sq : Nat) : Int)) = false) := hid (by simp)
        have H4 := hid (And.intro hJ4 (And.intro hr (And.intro hW4 hbl)))
        clear h3 hj4 hJ4 hF4 hW4 hr hor hbl hd HO H3
        go_wp2_with fail
        refine h_openL (S := fun w' => Jn w' j4 p (nbOf s4.n) (sq : Nat) 0 ∧ w'.heap[r]? = some (.cells #[.slice (some ⟨g2, 0, none⟩) nb c2, .int .i64 (sq : Nat)] 51 (0, 0))) (by kernel_rfl) (by kernel_rfl) (fun _ _ _ _ _ h => h) (L := #[false, false, false, false, false, false, false]) (by kernel_rfl) ?_
        intro Q' hns hP hN
        have hS := HS23.out
        refine h_takeL (i := 0) (v := .pointer (some ⟨j4, 0, none⟩)) hns rfl rfl (by kernel_rfl) (by kernel_rfl) hP (y_move rfl (by kernel_rfl) (by kernel_rfl)) hS rfl (L' := #[true, false, false, false, false, false, false]) (by kernel_rfl) ?_
        refine h_takeL (i := 2) (v := .pointer (some ⟨r, 0, none⟩)) hns rfl rfl (by kernel_rfl) (by kernel_rfl) hP (y_move rfl (by kernel_rfl) (by kernel_rfl)) hS rfl (L' := #[true, false, true, false, false, false, false]) (by kernel_rfl) ?_
        refine h_takeL (i := 3) (v := .pointer (some ⟨r, 0, none⟩)) hns rfl rfl (by kernel_rfl) (by kernel_rfl) hP (y_nil rfl (by kernel_rfl) (by kernel_rfl)) hS rfl (L' := #[true, false, true, true, false, false, false]) (by kernel_rfl) ?_
        refine h_takeL (i := 4) (v := .pointer (some ⟨r, 1, none⟩)) hns rfl rfl (by kernel_rfl) (by kernel_rfl) hP (y_faddr rfl (by kernel_rfl) (by kernel_rfl) (fa51_1 (r))) hS rfl (L' := #[true, false, true, true, true, false, false]) (by kernel_rfl) ?_
        refine h_takeL (i := 5) (v := .int .i64 (sq : Nat)) hns rfl rfl (by kernel_rfl) (by kernel_rfl) hP (y_load rfl (by kernel_rfl) (by kernel_rfl) (fun w' h => load1 Tryd.isAgg2 (cell_at h.2 1 rfl))) hS rfl (L' := #[true, false, true, true, true, true, false]) (by kernel_rfl) ?_
        refine h_callL (i := 1) (f := 17) (args := #[.pointer (some ⟨j4, 0, none⟩)]) (by kernel_rfl) rfl rfl (by kernel_rfl) (enter_go rfl (by kernel_rfl) (fun w => by go_simp)) (L' := #[true, true, true, true, true, true, false]) (by kernel_rfl) ?_
        refine (jseq_any hS.1).mono ?_
        rintro e wz ⟨rfl, hwz⟩
        obtain rfl := hwz.symm
        refine ⟨_, rfl, hS, ?_⟩
        refine h_takeL (i := 6) (v := .bool false) hns rfl rfl (by kernel_rfl) (by kernel_rfl) hP (y_bin (k := .i64) (k' := .i64) (m := (sq : Nat)) (n := (sq : Nat)) rfl (by kernel_rfl) (by kernel_rfl) (by kernel_rfl) (neqL _ _ _ HBB.out)) hS rfl (L' := #[true, true, true, true, true, true, true]) (by kernel_rfl) ?_
        simp only [List.setIfInBounds_toArray, List.set_cons_zero, List.set_cons_succ]
        refine wpAnyH_done (by kernel_rfl) ?_ _
        refine hN _ _ ?_
        clear hP hN hns
        clear hS HS23 HBB
        have HB0 : Hid (Below w4.heap.size w4 w4.drew) := hid (Below.refl _ _).drew
        generalize w4.drew = w5 at *
        go_wp2_with fail
        go_loopw [26, 27, 28] (fun v26 _ _ wv => ∃ k : Nat, k ≤ nb ∧ v26 = .int .i64 k ∧ Below w4.heap.size w4 wv) (fun v26 _ _ _ => nb - (intOf v26).toNat)
        case atStart => exact ⟨0, Nat.zero_le _, rfl, HB0.out⟩
        case round =>
        obtain ⟨k, hk, rfl, hBk⟩ := hrel
        have hnb2 := HNB2.out
        have hwk : IntKind.i64.wrap ((k : Int) + 1) = ((k + 1 : Nat) : Int) := by rw [IntWalk.i64_in _ ⟨by omega, by omega⟩]; omega
        have h4 := H4.out
        have hrk := below_at hBk h4.2.1 (heap_lt h4.2.1)
        have hc0 : wr.cell? ⟨r, 0, none⟩ = some (.slice (some ⟨g2, 0, none⟩) nb c2) := cell_at hrk 0 rfl
        by_cases hlt : k < nb
        · have hlt2 : (k : Int) < (nb : Int) := by omega
          obtain ⟨b, hb⟩ : ∃ b, bl[k]? = some b := ⟨_, List.getElem?_eq_getElem (by rw [h4.2.2.2]; exact hlt)⟩
          have HRD := hid ((h4.1.below hBk).readS hb)
          have hce := HCE.out k b hb
          have hgl := World.block_lt_of_cell? w4 _ hce
          have HKN := hid hlt
          have HBK := hid hBk
          clear hb hBk hk hlt hrk hnb2
          go_wp2_with fail
          refine HRD.out.mono ?_
          rintro e wg ⟨hBg, g, f, hg, rfl, hf, hfl, hft, hsl⟩
          have hBg2 : Below w4.heap.size w4 wg := HBK.out.trans (hBg.mono HBK.out.size)
          have hdr : Below wg.heap.size wg wg.drew := (Below.refl _ _).drew
          have hBd : Below w4.heap.size w4 wg.drew := hBg2.trans (hdr.mono hBg2.size)
          have HS31 : Hid (wg.drew.heap[r]? = some (.cells #[.slice (some ⟨g2, 0, none⟩) nb c2, .int .i64 (sq : Nat)] 51 (0, 0)) ∧ wg.drew.cell? ⟨g2, k, none⟩ = some (strV b) ∧ Sl wg.drew (.slice (some ⟨g, 0, none⟩) 112 112) b) := hid ⟨below_at hBd h4.2.1 (heap_lt h4.2.1), by rw [hBd.cell (p := ⟨g2, k, none⟩) hgl]; exact hce, hsl.below hdr⟩
          have HBD := hid hBd
          have HNEB : Hid (decide (b ≠ b) = false) := hid (by simp)
          clear hBg hg hf hfl hft hsl hBg2 hdr hBd hgl hce HRD hc0 h4
          go_wp2_with fail
          refine h_openL (S := fun w' => w'.heap[r]? = some (.cells #[.slice (some ⟨g2, 0, none⟩) nb c2, .int .i64 (sq : Nat)] 51 (0, 0)) ∧ w'.cell? ⟨g2, k, none⟩ = some (strV b) ∧ Sl w' (.slice (some ⟨g, 0, none⟩) 112 112) b) (by kernel_rfl) (by kernel_rfl) (fun _ _ _ _ _ h => h) (L := #[false, false, false, false, false, false, false, false, false, false, false, false, false, false]) (by kernel_rfl) ?_
          intro Q' hns hP hN
          have hS := HS31.out
          refine h_takeL (i := 0) (v := .int .i64 0) hns rfl rfl (by kernel_rfl) (by kernel_rfl) hP (y_move rfl (by kernel_rfl) (by kernel_rfl)) hS rfl (L' := #[true, false, false, false, false, false, false, false, false, false, false, false, false, false]) (by kernel_rfl) ?_
          refine h_takeL (i := 1) (v := .bool false) hns rfl rfl (by kernel_rfl) (by kernel_rfl) hP (y_bin (k := .i64) (k' := .i64) (m := 0) (n := 0) rfl (by kernel_rfl) (by kernel_rfl) (by kernel_rfl) (neqE _ _ _ rfl)) hS rfl (L' := #[true, true, false, false, false, false, false, false, false, false, false, false, false, false]) (by kernel_rfl) ?_
          refine h_takeL (i := 2) (v := .bool false) hns rfl rfl (by kernel_rfl) (by kernel_rfl) hP (y_move rfl (by kernel_rfl) (by kernel_rfl)) hS rfl (L' := #[true, true, true, false, false, false, false, false, false, false, false, false, false, false]) (by kernel_rfl) ?_
          refine h_takeL (i := 3) (v := .slice (some ⟨g, 0, none⟩) 112 112) hns rfl rfl (by kernel_rfl) (by kernel_rfl) hP (y_move rfl (by kernel_rfl) (by kernel_rfl)) hS rfl (L' := #[true, true, true, true, false, false, false, false, false, false, false, false, false, false]) (by kernel_rfl) ?_
          refine h_takeL (i := 4) (v := strV b) hns rfl rfl (by kernel_rfl) (by kernel_rfl) hP (y_convS rfl (by kernel_rfl) (by kernel_rfl) (fun w' h => conv_sl h.2.2)) hS rfl (L' := #[true, true, true, true, true, false, false, false, false, false, false, false, false, false]) (by kernel_rfl) ?_
          refine h_takeL (i := 5) (v := .pointer (some ⟨r, 0, none⟩)) hns rfl rfl (by kernel_rfl) (by kernel_rfl) hP (y_move rfl (by kernel_rfl) (by kernel_rfl)) hS rfl (L' := #[true, true, true, true, true, true, false, false, false, false, false, false, false, false]) (by kernel_rfl) ?_
          refine h_takeL (i := 6) (v := .pointer (some ⟨r, 0, none⟩)) hns rfl rfl (by kernel_rfl) (by kernel_rfl) hP (y_nil rfl (by kernel_rfl) (by kernel_rfl)) hS rfl (L' := #[true, true, true, true, true, true, true, false, false, false, false, false, false, false]) (by kernel_rfl) ?_
          simp only [List.setIfInBounds_toArray, List.set_cons_zero, List.set_cons_succ]
          refine h_takeL (i := 7) (v := .pointer (some ⟨r, 0, none⟩)) hns rfl rfl (by kernel_rfl) (by kernel_rfl) hP (y_faddr rfl (by kernel_rfl) (by kernel_rfl) (fa51_0 (r))) hS rfl (L' := #[true, true, true, true, true, true, true, true, false, false, false, false, false, false]) (by kernel_rfl) ?_
          refine h_takeL (i := 8) (v := .slice (some ⟨g2, 0, none⟩) nb c2) hns rfl rfl (by kernel_rfl) (by kernel_rfl) hP (y_load rfl (by kernel_rfl) (by kernel_rfl) (fun w' h => load1 Tryd.isAgg49 (cell_at h.1 0 rfl))) hS rfl (L' := #[true, true, true, true, true, true, true, true, true, false, false, false, false, false]) (by kernel_rfl) ?_
          refine h_takeL (i := 9) (v := .int .i64 k) hns rfl rfl (by kernel_rfl) (by kernel_rfl) hP (y_move rfl (by kernel_rfl) (by kernel_rfl)) hS rfl (L' := #[true, true, true, true, true, true, true, true, true, true, false, false, false, false]) (by kernel_rfl) ?_
          refine h_takeL (i := 10) (v := .pointer (some ⟨g2, k, none⟩)) hns rfl rfl (by kernel_rfl) (by kernel_rfl) hP (y_index rfl (by kernel_rfl) (by kernel_rfl) (by kernel_rfl) (idx49 g2 nb c2 k HKN.out)) hS rfl (L' := #[true, true, true, true, true, true, true, true, true, true, true, false, false, false]) (by kernel_rfl) ?_
          refine h_takeL (i := 11) (v := strV b) hns rfl rfl (by kernel_rfl) (by kernel_rfl) hP (y_load rfl (by kernel_rfl) (by kernel_rfl) (fun w' h => load1 Tryd.isAgg9 h.2.1)) hS rfl (L' := #[true, true, true, true, true, true, true, true, true, true, true, true, false, false]) (by kernel_rfl) ?_
          refine h_takeL (i := 12) (v := .bool false) hns rfl rfl (by kernel_rfl) (by kernel_rfl) hP (y_neqS (l := b) (m := b) rfl (by kernel_rfl) (by kernel_rfl) (by kernel_rfl) HNEB.out) hS rfl (L' := #[true, true, true, true, true, true, true, true, true, true, true, true, true, false]) (by kernel_rfl) ?_
          refine h_takeL (i := 13) (v := .bool false) hns rfl rfl (by kernel_rfl) (by kernel_rfl) hP (y_pick (b := false) rfl (by kernel_rfl) (by kernel_rfl) (by kernel_rfl)) hS rfl (L' := #[true, true, true, true, true, true, true, true, true, true, true, true, true, true]) (by kernel_rfl) ?_
          simp only [List.setIfInBounds_toArray, List.set_cons_zero, List.set_cons_succ]
          refine wpAnyH_done (by kernel_rfl) ?_ _
          refine hN _ _ ?_
          clear hP hN hns
          clear hS HS31 HNEB
          generalize strV b = sb at *
          generalize wg.drew = wd at *
          go_wp2_with fail
          exact ⟨⟨k + 1, HKN.out, rfl, HBD.out⟩, by have := HKN.out; simp [intOf]; omega⟩
        · obtain rfl : k = nb := by omega
          have hlt2 : ¬ (k : Int) < (k : Int) := by omega
          have HBF : Hid (Below ab W wr) := hid (h4.2.2.1.trans (hBk.mono (Nat.le_trans HW0.out h4.2.2.1.size)))
          clear hBk hk hlt hrk h4 hnb2
          go_wp2
          go_ret
          exact ⟨rfl, HBF.out⟩
      · have h62 : (s.poke ka qa x).openR.1 = 62 := HSH.out.2.resolve_left hS
        have hb0 : by_ ≠ 0 := fun e => hS (HSH.out.1 (HX0.out e))
        have hop := open_any hD3 hT3 (show s.gone = false from h1.1.jr.sett.gone) (by rw [hpn]; exact HNN.out.1)
        have HO := hid hop
        have H3 := hid (And.intro hW3 (And.intro h1.1.lo h62))
        have hbn : (by_ == 0) = false := by rw [beq_eq_false_iff_ne]; exact hb0
        clear h1 hW3 hR3 hT3 hcr3 hpn hS hD3 hF3 HSH HX0 H1 h62 hop hb0
        go_wp2_with fail
        refine HO.out.mono ?_
        rintro e w4 ⟨_, hF4, hr4⟩
        have h3 := H3.out
        have HW4 : Hid (Below ab W w4) := hid (h3.1.trans (hF4.below (Nat.le_trans HW0.out h3.1.size) h3.2.1))
        obtain rfl : e = .returned (.tuple #[.pointer none, .int .i64 62]) := by
          rcases hr4 with ⟨_, he⟩ | ⟨h9, _⟩
          · rw [h3.2.2] at he; exact he
          · rw [h3.2.2] at h9; exact absurd h9 (by decide)
        clear h3 hF4 hr4 HO H3
        go_wp2
        go_ret
        exact ⟨rfl, HW4.out⟩
    · have hb1 : ¬ (i : Int) < (N : Int) := by omega
      clear hN hwi
      go_wp2_with fail
      refine (HPA.out _).mono ?_
      rintro e wz ⟨rfl, hwz⟩
      obtain rfl := hwz.symm
      go_wp2_with fail
      refine (HPB.out _).mono ?_
      rintro e wz ⟨rfl, hwz⟩
      obtain rfl := hwz.symm
      go_wp2_with fail
      refine HRD.out.mono ?_
      rintro e wr1 ⟨rfl, hwr⟩
      have hj := HJ.out
      have hB1 : Below wq.heap.size wq wr1 := by rw [hwr]; exact (Below.refl _ _).alloc (Nat.le_refl _) _
      have hrow : wr1.heap[wq.heap.size]? = some (.cells (cells8 l).toArray 104 (0, 0)) := by rw [hwr]; exact heap_alloc_last wq _
      have hJ1 := hj.1.below hB1
      have hW1 : Below ab W wr1 := hj.2.2.1.trans (hB1.mono (Nat.le_trans HW0.out hj.2.2.1.size))
      have hce : wr1.cell? ⟨wq.heap.size, qa, none⟩ = some (cb (l.getD qa 0)) := cell_at hrow qa (by rw [List.getElem?_toArray]; exact cells8_get _ qa (by rw [hj.2.2.2.2.2.2.1]; exact HKB.out))
      unfold cb at hce
      obtain ⟨x, hx, hx0⟩ := xor_u8 (l.getD qa 0) by_ HBY.out.1 HBY.out.2
      have HPO := hid (poke_d hJ1.jr.disk (i := ka) (q := qa) x (by rw [hj.2.2.2.1]; exact HKA.out) HKB.out)
      have HSH := hid (poke_shape hj.1.jr.sett HKB.out x hj.2.2.2.2.2.1 hj.2.2.2.2.2.2.1)
      have HX0 := hid hx0
      have H1 := hid (And.intro hJ1 (And.intro (hj.2.1.below hB1) (And.intro hW1 (And.intro hj.2.2.2.1 (And.intro hj.2.2.2.2.1 hj.2.2.2.2.2.2.2)))))
      have HI20 : Hid (i ≤ 20) := HIL
      have hqa : (qa : Int) < 128 := by have := HKB.out; omega
      generalize ((l.getD qa 0).toNat : Int) = y0 at hce hx
      clear hj hB1 hrow hJ1 hW1 hwr hx0 HRD HJ
      generalize wq.heap.size = gr at *
      go_wp2_with fail
      refine HPO.out.mono ?_
      rintro e w3 ⟨rfl, hD3, hF3⟩
      have h1 := H1.out
      have hW3 : Below ab W w3 := h1.2.2.1.trans (hF3.below (Nat.le_trans HW0.out h1.2.2.1.size) h1.1.lo)
      have hR3 := (Kp.of_frX h1.1.jr.disk hF3).rj h1.2.1
      have hT3 := HT.out.belowB hW3 HTL.out
      have hcr3 : 0 ∉ X := fun hm => by have h2 := h1.1.lo _ hm; have h3 := HTL.out; omega
      have hpn : (s.poke ka qa x).n = n := h1.2.2.2.1
      clear hx hce hqa HPO
      by_cases hS : Sett (s.poke ka qa x) sq cnt bl
      · have HO := hid (open_rest hD3 hT3 hS.gone hS.n32 (show s.cut = -1 from h1.1.cut) hS.loose hS.same hS.con (by rw [hpn, hnb]; have := HNB2.out; have h2 := h1.2.2.2.2.2; show s.ops + _ ≤ _; have := HI20.out; omega) hcr3)
        have H3 := hid (And.intro hD3 (And.intro hR3 (And.intro hW3 (And.intro h1.1.lo h1.2.2.2.2.1))))
        clear h1 hW3 hR3 hT3 hcr3 hpn hS hD3 hF3 HSH HX0 H1
        go_wp2_with fail
        refine HO.out.mono ?_
        rintro e w4 ⟨j4, s4, X4, hj4, rfl, hJ4, _, _, _, _, _, hF4⟩
        have h3 := H3.out
        have hW4 : Below ab W w4 := h3.2.2.1.trans (hF4.below (Nat.le_trans HW0.out h3.2.2.1.size) h3.2.2.2.1)
        have hR4 := (Kp.of_frX h3.1 hF4).rj h3.2.1
        have hbl := h3.2.2.2.2
        obtain ⟨vr, hr, hor⟩ := hR4
        obtain ⟨g2, c2, rfl⟩ : ∃ g cap, vr = .slice (some ⟨g, 0, none⟩) bl.length cap := by
          rcases hor.2 with ⟨_, h0⟩ | ⟨g, cap, cur, e, _⟩
          · have := HNB.out.1; omega
          · exact ⟨g, cap, e⟩
        have HCE : Hid (∀ k b, bl[k]? = some b → w4.cell? ⟨g2, k, none⟩ = some (strV b)) := hid (fun k b hb => rj_cell hor hb)
        rw [hbl] at hr
        have hd : Below w4.heap.size w4 w4.drew := (Below.refl _ _).drew
        have HS23 := hid (And.intro (below_at hd hJ4.jn (heap_lt hJ4.jn)) (below_at hd hr (heap_lt hr)))
        have HBB : Hid ((((sq : Nat) : Int) != ((sq : Nat) : Int)) = false) := hid (by simp)
        have H4 := hid (And.intro hJ4 (And.intro hr (And.intro hW4 hbl)))
        clear h3 hj4 hJ4 hF4 hW4 hr hor hbl hd HO H3
        go_wp2_with fail
        refine h_openL (S := fun w' => Jn w' j4 p (nbOf s4.n) (sq : Nat) 0 ∧ w'.heap[r]? = some (.cells #[.slice (some ⟨g2, 0, none⟩) nb c2, .int .i64 (sq : Nat)] 51 (0, 0))) (by kernel_rfl) (by kernel_rfl) (fun _ _ _ _ _ h => h) (L := #[false, false, false, false, false, false, false]) (by kernel_rfl) ?_
        intro Q' hns hP hN
        have hS := HS23.out
        refine h_takeL (i := 0) (v := .pointer (some ⟨j4, 0, none⟩)) hns rfl rfl (by kernel_rfl) (by kernel_rfl) hP (y_move rfl (by kernel_rfl) (by kernel_rfl)) hS rfl (L' := #[true, false, false, false, false, false, false]) (by kernel_rfl) ?_
        refine h_takeL (i := 2) (v := .pointer (some ⟨r, 0, none⟩)) hns rfl rfl (by kernel_rfl) (by kernel_rfl) hP (y_move rfl (by kernel_rfl) (by kernel_rfl)) hS rfl (L' := #[true, false, true, false, false, false, false]) (by kernel_rfl) ?_
        refine h_takeL (i := 3) (v := .pointer (some ⟨r, 0, none⟩)) hns rfl rfl (by kernel_rfl) (by kernel_rfl) hP (y_nil rfl (by kernel_rfl) (by kernel_rfl)) hS rfl (L' := #[true, false, true, true, false, false, false]) (by kernel_rfl) ?_
        refine h_takeL (i := 4) (v := .pointer (some ⟨r, 1, none⟩)) hns rfl rfl (by kernel_rfl) (by kernel_rfl) hP (y_faddr rfl (by kernel_rfl) (by kernel_rfl) (fa51_1 (r))) hS rfl (L' := #[true, false, true, true, true, false, false]) (by kernel_rfl) ?_
        refine h_takeL (i := 5) (v := .int .i64 (sq : Nat)) hns rfl rfl (by kernel_rfl) (by kernel_rfl) hP (y_load rfl (by kernel_rfl) (by kernel_rfl) (fun w' h => load1 Tryd.isAgg2 (cell_at h.2 1 rfl))) hS rfl (L' := #[true, false, true, true, true, true, false]) (by kernel_rfl) ?_
        refine h_callL (i := 1) (f := 17) (args := #[.pointer (some ⟨j4, 0, none⟩)]) (by kernel_rfl) rfl rfl (by kernel_rfl) (enter_go rfl (by kernel_rfl) (fun w => by go_simp)) (L' := #[true, true, true, true, true, true, false]) (by kernel_rfl) ?_
        refine (jseq_any hS.1).mono ?_
        rintro e wz ⟨rfl, hwz⟩
        obtain rfl := hwz.symm
        refine ⟨_, rfl, hS, ?_⟩
        refine h_takeL (i := 6) (v := .bool false) hns rfl rfl (by kernel_rfl) (by kernel_rfl) hP (y_bin (k := .i64) (k' := .i64) (m := (sq : Nat)) (n := (sq : Nat)) rfl (by kernel_rfl) (by kernel_rfl) (by kernel_rfl) (neqL _ _ _ HBB.out)) hS rfl (L' := #[true, true, true, true, true, true, true]) (by kernel_rfl) ?_
        simp only [List.setIfInBounds_toArray, List.set_cons_zero, List.set_cons_succ]
        refine wpAnyH_done (by kernel_rfl) ?_ _
        refine hN _ _ ?_
        clear hP hN hns
        clear hS HS23 HBB
        have HB0 : Hid (Below w4.heap.size w4 w4.drew) := hid (Below.refl _ _).drew
        generalize w4.drew = w5 at *
        go_wp2_with fail
        go_loopw [26, 27, 28] (fun v26 _ _ wv => ∃ k : Nat, k ≤ nb ∧ v26 = .int .i64 k ∧ Below w4.heap.size w4 wv) (fun v26 _ _ _ => nb - (intOf v26).toNat)
        case atStart => exact ⟨0, Nat.zero_le _, rfl, HB0.out⟩
        case round =>
        obtain ⟨k, hk, rfl, hBk⟩ := hrel
        have hnb2 := HNB2.out
        have hwk : IntKind.i64.wrap ((k : Int) + 1) = ((k + 1 : Nat) : Int) := by rw [IntWalk.i64_in _ ⟨by omega, by omega⟩]; omega
        have h4 := H4.out
        have hrk := below_at hBk h4.2.1 (heap_lt h4.2.1)
        have hc0 : wr.cell? ⟨r, 0, none⟩ = some (.slice (some ⟨g2, 0, none⟩) nb c2) := cell_at hrk 0 rfl
        by_cases hlt : k < nb
        · have hlt2 : (k : Int) < (nb : Int) := by omega
          obtain ⟨b, hb⟩ : ∃ b, bl[k]? = some b := ⟨_, List.getElem?_eq_getElem (by rw [h4.2.2.2]; exact hlt)⟩
          have HRD := hid ((h4.1.below hBk).readS hb)
          have hce := HCE.out k b hb
          have hgl := World.block_lt_of_cell? w4 _ hce
          have HKN := hid hlt
          have HBK := hid hBk
          clear hb hBk hk hlt hrk hnb2
          go_wp2_with fail
          refine HRD.out.mono ?_
          rintro e wg ⟨hBg, g, f, hg, rfl, hf, hfl, hft, hsl⟩
          have hBg2 : Below w4.heap.size w4 wg := HBK.out.trans (hBg.mono HBK.out.size)
          have hdr : Below wg.heap.size wg wg.drew := (Below.refl _ _).drew
          have hBd : Below w4.heap.size w4 wg.drew := hBg2.trans (hdr.mono hBg2.size)
          have HS31 : Hid (wg.drew.heap[r]? = some (.cells #[.slice (some ⟨g2, 0, none⟩) nb c2, .int .i64 (sq : Nat)] 51 (0, 0)) ∧ wg.drew.cell? ⟨g2, k, none⟩ = some (strV b) ∧ Sl wg.drew (.slice (some ⟨g, 0, none⟩) 112 112) b) := hid ⟨below_at hBd h4.2.1 (heap_lt h4.2.1), by rw [hBd.cell (p := ⟨g2, k, none⟩) hgl]; exact hce, hsl.below hdr⟩
          have HBD := hid hBd
          have HNEB : Hid (decide (b ≠ b) = false) := hid (by simp)
          clear hBg hg hf hfl hft hsl hBg2 hdr hBd hgl hce HRD hc0 h4
          go_wp2_with fail
          refine h_openL (S := fun w' => w'.heap[r]? = some (.cells #[.slice (some ⟨g2, 0, none⟩) nb c2, .int .i64 (sq : Nat)] 51 (0, 0)) ∧ w'.cell? ⟨g2, k, none⟩ = some (strV b) ∧ Sl w' (.slice (some ⟨g, 0, none⟩) 112 112) b) (by kernel_rfl) (by kernel_rfl) (fun _ _ _ _ _ h => h) (L := #[false, false, false, false, false, false, false, false, false, false, false, false, false, false]) (by kernel_rfl) ?_
          intro Q' hns hP hN
          have hS := HS31.out
          refine h_takeL (i := 0) (v := .int .i64 0) hns rfl rfl (by kernel_rfl) (by kernel_rfl) hP (y_move rfl (by kernel_rfl) (by kernel_rfl)) hS rfl (L' := #[true, false, false, false, false, false, false, false, false, false, false, false, false, false]) (by kernel_rfl) ?_
          refine h_takeL (i := 1) (v := .bool false) hns rfl rfl (by kernel_rfl) (by kernel_rfl) hP (y_bin (k := .i64) (k' := .i64) (m := 0) (n := 0) rfl (by kernel_rfl) (by kernel_rfl) (by kernel_rfl) (neqE _ _ _ rfl)) hS rfl (L' := #[true, true, false, false, false, false, false, false, false, false, false, false, false, false]) (by kernel_rfl) ?_
          refine h_takeL (i := 2) (v := .bool false) hns rfl rfl (by kernel_rfl) (by kernel_rfl) hP (y_move rfl (by kernel_rfl) (by kernel_rfl)) hS rfl (L' := #[true, true, true, false, false, false, false, false, false, false, false, false, false, false]) (by kernel_rfl) ?_
          refine h_takeL (i := 3) (v := .slice (some ⟨g, 0, none⟩) 112 112) hns rfl rfl (by kernel_rfl) (by kernel_rfl) hP (y_move rfl (by kernel_rfl) (by kernel_rfl)) hS rfl (L' := #[true, true, true, true, false, false, false, false, false, false, false, false, false, false]) (by kernel_rfl) ?_
          refine h_takeL (i := 4) (v := strV b) hns rfl rfl (by kernel_rfl) (by kernel_rfl) hP (y_convS rfl (by kernel_rfl) (by kernel_rfl) (fun w' h => conv_sl h.2.2)) hS rfl (L' := #[true, true, true, true, true, false, false, false, false, false, false, false, false, false]) (by kernel_rfl) ?_
          refine h_takeL (i := 5) (v := .pointer (some ⟨r, 0, none⟩)) hns rfl rfl (by kernel_rfl) (by kernel_rfl) hP (y_move rfl (by kernel_rfl) (by kernel_rfl)) hS rfl (L' := #[true, true, true, true, true, true, false, false, false, false, false, false, false, false]) (by kernel_rfl) ?_
          refine h_takeL (i := 6) (v := .pointer (some ⟨r, 0, none⟩)) hns rfl rfl (by kernel_rfl) (by kernel_rfl) hP (y_nil rfl (by kernel_rfl) (by kernel_rfl)) hS rfl (L' := #[true, true, true, true, true, true, true, false, false, false, false, false, false, false]) (by kernel_rfl) ?_
          simp only [List.setIfInBounds_toArray, List.set_cons_zero, List.set_cons_succ]
          refine h_takeL (i := 7) (v := .pointer (some ⟨r, 0, none⟩)) hns rfl rfl (by kernel_rfl) (by kernel_rfl) hP (y_faddr rfl (by kernel_rfl) (by kernel_rfl) (fa51_0 (r))) hS rfl (L' := #[true, true, true, true, true, true, true, true, false, false, false, false, false, false]) (by kernel_rfl) ?_
          refine h_takeL (i := 8) (v := .slice (some ⟨g2, 0, none⟩) nb c2) hns rfl rfl (by kernel_rfl) (by kernel_rfl) hP (y_load rfl (by kernel_rfl) (by kernel_rfl) (fun w' h => load1 Tryd.isAgg49 (cell_at h.1 0 rfl))) hS rfl (L' := #[true, true, true, true, true, true, true, true, true, false, false, false, false, false]) (by kernel_rfl) ?_
          refine h_takeL (i := 9) (v := .int .i64 k) hns rfl rfl (by kernel_rfl) (by kernel_rfl) hP (y_move rfl (by kernel_rfl) (by kernel_rfl)) hS rfl (L' := #[true, true, true, true, true, true, true, true, true, true, false, false, false, false]) (by kernel_rfl) ?_
          refine h_takeL (i := 10) (v := .pointer (some ⟨g2, k, none⟩)) hns rfl rfl (by kernel_rfl) (by kernel_rfl) hP (y_index rfl (by kernel_rfl) (by kernel_rfl) (by kernel_rfl) (idx49 g2 nb c2 k HKN.out)) hS rfl (L' := #[true, true, true, true, true, true, true, true, true, true, true, false, false, false]) (by kernel_rfl) ?_
          refine h_takeL (i := 11) (v := strV b) hns rfl rfl (by kernel_rfl) (by kernel_rfl) hP (y_load rfl (by kernel_rfl) (by kernel_rfl) (fun w' h => load1 Tryd.isAgg9 h.2.1)) hS rfl (L' := #[true, true, true, true, true, true, true, true, true, true, true, true, false, false]) (by kernel_rfl) ?_
          refine h_takeL (i := 12) (v := .bool false) hns rfl rfl (by kernel_rfl) (by kernel_rfl) hP (y_neqS (l := b) (m := b) rfl (by kernel_rfl) (by kernel_rfl) (by kernel_rfl) HNEB.out) hS rfl (L' := #[true, true, true, true, true, true, true, true, true, true, true, true, true, false]) (by kernel_rfl) ?_
          refine h_takeL (i := 13) (v := .bool false) hns rfl rfl (by kernel_rfl) (by kernel_rfl) hP (y_pick (b := false) rfl (by kernel_rfl) (by kernel_rfl) (by kernel_rfl)) hS rfl (L' := #[true, true, true, true, true, true, true, true, true, true, true, true, true, true]) (by kernel_rfl) ?_
          simp only [List.setIfInBounds_toArray, List.set_cons_zero, List.set_cons_succ]
          refine wpAnyH_done (by kernel_rfl) ?_ _
          refine hN _ _ ?_
          clear hP hN hns
          clear hS HS31 HNEB
          generalize strV b = sb at *
          generalize wg.drew = wd at *
          go_wp2_with fail
          exact ⟨⟨k + 1, HKN.out, rfl, HBD.out⟩, by have := HKN.out; simp [intOf]; omega⟩
        · obtain rfl : k = nb := by omega
          have hlt2 : ¬ (k : Int) < (k : Int) := by omega
          have HBF : Hid (Below ab W wr) := hid (h4.2.2.1.trans (hBk.mono (Nat.le_trans HW0.out h4.2.2.1.size)))
          clear hBk hk hlt hrk h4 hnb2
          go_wp2
          go_ret
          exact ⟨rfl, HBF.out⟩
      · have h62 : (s.poke ka qa x).openR.1 = 62 := HSH.out.2.resolve_left hS
        have hb0 : by_ ≠ 0 := fun e => hS (HSH.out.1 (HX0.out e))
        have hop := open_any hD3 hT3 (show s.gone = false from h1.1.jr.sett.gone) (by rw [hpn]; exact HNN.out.1)
        have HO := hid hop
        have H3 := hid (And.intro hW3 (And.intro h1.1.lo h62))
        have hbn : (by_ == 0) = false := by rw [beq_eq_false_iff_ne]; exact hb0
        clear h1 hW3 hR3 hT3 hcr3 hpn hS hD3 hF3 HSH HX0 H1 h62 hop hb0
        go_wp2_with fail
        refine HO.out.mono ?_
        rintro e w4 ⟨_, hF4, hr4⟩
        have h3 := H3.out
        have HW4 : Hid (Below ab W w4) := hid (h3.1.trans (hF4.below (Nat.le_trans HW0.out h3.1.size) h3.2.1))
        obtain rfl : e = .returned (.tuple #[.pointer none, .int .i64 62]) := by
          rcases hr4 with ⟨_, he⟩ | ⟨h9, _⟩
          · rw [h3.2.2] at he; exact he
          · rw [h3.2.2] at h9; exact absurd h9 (by decide)
        clear h3 hF4 hr4 HO H3
        go_wp2
        go_ret
        exact ⟨rfl, HW4.out⟩
end Go.Proofs.YtdogjicccajnkaaDoor
