/- The walk of DiskFlushes. -/
import Derived.Test.YtkfomolglangdaaKPlays
namespace Go.Proofs.Ytkfomolglangdaa
open Go Go.RowKit

theorem ints_later {w w' : World} {a : Option Addr} {len : Nat} {zs : List Int} (h : Ints w.heap.size w a len zs) (hB : Below w.heap.size w w') : Ints w'.heap.size w' a len zs :=
  h.fr (Fr.of_below (X := []) hB) (by simp)
theorem layOne_other {L : List (Nat × List UInt8)} {k : Nat} (h : ∀ x ∈ L, x.1 ≠ k) (ss : List (List UInt8)) (z : Int) : (layOne L ss z)[k]? = ss[k]? := by
  unfold layOne
  split
  · rename_i x hx
    split at hx
    · exact List.getElem?_set_ne (h x (List.mem_of_getElem? hx))
    · cases hx
  · rfl
theorem crashed_other {L : List (Nat × List UInt8)} {k : Nat} (h : ∀ x ∈ L, x.1 ≠ k) (kept : List (List UInt8)) (zs : List Int) : (crashed kept L zs)[k]? = kept[k]? := by
  unfold crashed
  generalize sorted zs = ks
  induction ks generalizing kept with
  | nil => rfl
  | cons z r ih => rw [List.foldl_cons, ih, layOne_other h]

set_option maxRecDepth 100000 in
set_option maxHeartbeats 4000000 in
theorem diskFlushes_walk (a0 : Option Addr) (len0 cap0 : Nat) (xs : List OpV) (n1 c : Int) (a3 : Option Addr) (len3 cap3 : Nat) (z3 : List Int) (a4 : Option Addr) (len4 cap4 : Nat) (z1 : List Int) (w : World)
    (hs : Ops w a0 len0 xs) (hl0 : len0 ≤ 9223372036854775807) (hn1 : i64 n1) (hc0 : 0 ≤ c) (hc1 : c ≤ 255) (hI3 : Ints w.heap.size w a3 len3 z3) (hz3 : ∀ z ∈ z3, i64 z) (hl3 : len3 ≤ 9223372036854775807) (hI4 : Ints w.heap.size w a4 len4 z1) (h4 : len4 * 8 ≤ 140737488351232) :
    Calls Try.prog 5 #[.slice a0 len0 cap0, .int .i64 n1, .int .u8 c, .slice a3 len3 cap3, .slice a4 len4 cap4] w fun e w' => e = .returned (.bool true) ∧ Below w.heap.size w w' := by
  obtain ⟨lc, hlc⟩ : ∃ l, l = List.replicate 128 (UInt8.ofNat c.toNat) := ⟨_, rfl⟩
  have hlc128 : lc.length = 128 := by rw [hlc]; simp
  have HS := hid hs
  have HI3 := hid hI3
  have HZ3 := hid hz3
  have HI4 := hid hI4
  clear hs hI3 hz3 hI4
  go_enter Try.func5, Try.ntmps5
  go_wp2_with fail
  refine (shown_any w).mono ?_
  rintro e w1 ⟨rfl, hB1⟩
  have HB1 := hid hB1
  clear hB1
  go_wp2_with fail
  refine (plays_any w1 a0 len0 cap0 xs (HS.out.below HB1.out) hl0).mono ?_
  rintro e w2 ⟨p, X, s, v2, rfl, hD, hn, hcut, hgone, hops, hX, _, hB2⟩
  have hops0 := hD.ok.o0
  have hnl : s.now.length = 8 := by rw [hD.ok.nowLen, hn]
  have hlo : lost s.cut s.ops = false := by rw [hcut]; exact lost_neg _
  have hX' : ∀ k ∈ X, w.heap.size ≤ k := fun k hk => Nat.le_trans HB1.out.size (hX k hk)
  have HH := hid (And.intro hD (And.intro hX' (Below.next HB1.out hB2)))
  clear hD hX hX' hB2 HB1 HS
  go_wp2_with fail
  refine (pick_any n1 8 hn1.1 hn1.2 (by omega) w2).mono ?_
  rintro e w2 ⟨rfl, rfl⟩
  have hk8 := pk_lt n1 (show (8 : Nat) ≠ 0 by omega)
  generalize pk n1 8 = k at *
  go_wp2_with fail
  refine (of_int c hc0 hc1 w2).mono ?_
  rintro e w3 ⟨rfl, hbt, hB3⟩
  rw [← hlc] at hbt
  have HH3 := hid (And.intro (HH.out.1.below hB3) (And.intro HH.out.2.1 (And.intro (Below.next HH.out.2.2 hB3) hbt.sl)))
  clear HH hB3 hbt
  generalize Value.slice (some ⟨w2.heap.size, 0, none⟩) 128 128 = v3 at *
  go_wp2_with fail
  refine (write_d HH3.out.1 k HH3.out.2.2.2).mono ?_
  rintro e w4 ⟨rfl, hD4, hF4⟩
  rw [DS.wr_ok hlo (by rw [hn]; exact hk8) hlc128 (by omega)] at hD4 ⊢
  have HH4 := hid (And.intro hD4 (And.intro HH3.out.2.1 (HH3.out.2.2.1.trans (hF4.below HH3.out.2.2.1.size HH3.out.2.1))))
  clear hD4 hF4 HH3
  go_wp2_with fail
  refine (flush_d HH4.out.1).mono ?_
  rintro e w5 ⟨rfl, X5, hD5, hX5, hF5⟩
  rw [DS.fl_ok (by show lost s.cut (s.ops + 1) = false; rw [hcut]; exact lost_neg _) (by show s.ops + 1 < 1048576; omega)] at hD5 ⊢
  have hX5' : ∀ k ∈ X5, w.heap.size ≤ k := fun k hk => by rcases hX5 k hk with h | h; exact HH4.out.2.1 k h; exact Nat.le_trans HH4.out.2.2.size h
  have hkept : (s.now.set k lc)[k]? = some lc := List.getElem?_set_self (by rw [hnl]; exact hk8)
  have HH5 := hid (And.intro hD5 (And.intro hX5' (HH4.out.2.2.trans (hF5.below HH4.out.2.2.size HH4.out.2.1))))
  clear hD5 hX5 hX5' hF5 HH4
  go_upto_region 9 with fail
  go_loopw [18, 19] (fun x _ wr => ∃ (j : Nat) (X : List Nat) (s : DS), j ≤ len3 ∧ j ≤ 50 ∧ x = .int .i64 j ∧ Disk wr p X s ∧ s.n = 8 ∧ s.cut = -1 ∧ s.gone = false ∧ s.ops ≤ 102 + j ∧ s.kept[k]? = some lc ∧ (∀ x ∈ s.loose, x.1 ≠ k) ∧ (∀ k ∈ X, w.heap.size ≤ k) ∧ Below w.heap.size w wr) (fun x _ _ => 50 - (intOf x).toNat)
  case atStart => exact ⟨0, X5, _, by omega, by omega, rfl, HH5.out.1, hn, hcut, rfl, by show s.ops + 1 + 1 ≤ 102 + ((0 : Nat) : Int); omega, hkept, by simp, HH5.out.2.1, HH5.out.2.2⟩
  case round =>
    obtain ⟨j, Xr, s3, hj, hj1, rfl, hDr, hn3, hcut3, hgone3, hops3, hkept3, hloose3, hXr, hBr⟩ := hrel
    have hops03 := hDr.ok.o0
    have hlo3 : lost s3.cut s3.ops = false := by rw [hcut3]; exact lost_neg _
    have HWk := hid (show IntKind.i64.wrap ((j : Int) + 1) = ((j + 1 : Nat) : Int) by rw [IntWalk.i64_in _ ⟨by omega, by omega⟩]; omega)
    clear hkept
    by_cases hlt : j < len3 ∧ j < 50
    · obtain ⟨hlt, hlt2⟩ := hlt
      have hlt' : decide ((j : Int) < (len3 : Int)) = true := decide_eq_true (by omega)
      have hlt2' : decide ((j : Int) < 50) = true := decide_eq_true (by omega)
      have hmes : 50 - ((j + 1 : Nat) : Int).toNat < 50 - (j : Int).toNat := by omega
      have ho1 : s3.ops ≤ 102 + ((j + 1 : Nat) : Int) := by omega
      have ho2 : s3.ops + 1 ≤ 102 + ((j + 1 : Nat) : Int) := by omega
      obtain ⟨b3, off3, rfl, hb3, hcs⟩ := HI3.out.2 (by omega)
      have hzl := HI3.out.1
      have hcx := (hBr.cell (p := ⟨b3, off3 + j, none⟩) hb3).trans (hcs j (by omega))
      have hzi : i64 (z3[j]?.getD 0) := by
        rw [List.getElem?_eq_getElem (by omega)]
        exact HZ3.out _ (List.getElem_mem _)
      have HH := hid (And.intro hDr (And.intro hXr (And.intro hBr (And.intro hkept3 hloose3))))
      clear hDr hXr hBr hcs hkept3 hloose3
      generalize z3[j]?.getD 0 = z at *
      go_wp2_with fail
      refine (pick_any z 8 hzi.1 hzi.2 (by omega) wr).mono ?_
      rintro e wr ⟨rfl, rfl⟩
      have hi8 := pk_lt z (show (8 : Nat) ≠ 0 by omega)
      generalize pk z 8 = i at *
      by_cases hik : i = k
      · subst hik
        go_upto_region 10 with fail
        refine wp_region_lit ?_
        refine wp_move (v := .int .i64 j) (by kernel_rfl) ?_
        refine wp_addi (z := ((j + 1 : Nat) : Int)) (by kernel_rfl) (by kernel_rfl) HWk.out ?_
        refine wp_assign (v := .int .i64 (j + 1 : Nat)) (by kernel_rfl) ?_
        dsimp only [Act.put]
        simp only [List.setIfInBounds_toArray, List.set_cons_zero, List.set_cons_succ]
        refine wp_end ?_
        go_wp2_with fail
        go_roundw
        case rel => exact ⟨j + 1, Xr, s3, hlt, hlt2, rfl, HH.out.1, hn3, hcut3, hgone3, ho1, HH.out.2.2.2.1, HH.out.2.2.2.2, HH.out.2.1, HH.out.2.2.1⟩
        case measure => exact hmes
      · have hne : ((i : Int) == (k : Int)) = false := by rw [beq_eq_false_iff_ne]; omega
        have hcw : 0 ≤ (c + 1) % 256 := by omega
        have hcw1 : (c + 1) % 256 ≤ 255 := by omega
        have hcv : IntKind.u8.wrap (c + 1) = (c + 1) % 256 := by simp [IntKind.wrap, IntKind.bits, IntKind.signed]
        generalize (c + 1) % 256 = c' at *
        go_wp2_with fail
        refine (of_int c' hcw hcw1 wr).mono ?_
        rintro e w6 ⟨rfl, hbt, hB6⟩
        have hb128 : (List.replicate 128 (UInt8.ofNat c'.toNat)).length = 128 := by simp
        generalize List.replicate 128 (UInt8.ofNat c'.toNat) = lb at *
        have HH6 := hid (And.intro (HH.out.1.below hB6) (And.intro HH.out.2.1 (And.intro (Below.next HH.out.2.2.1 hB6) (And.intro hbt.sl HH.out.2.2.2))))
        have hw8 : i < s3.n := by rw [hn3]; exact hi8
        have hw9 : s3.ops < 1048576 := by omega
        clear HH hbt hB6
        generalize Value.slice (some ⟨wr.heap.size, 0, none⟩) 128 128 = v6 at *
        go_wp2_with fail
        refine (write_d HH6.out.1 i HH6.out.2.2.2.1).mono ?_
        rintro e w7 ⟨rfl, hD7, hF7⟩
        rw [DS.wr_ok hlo3 hw8 hb128 hw9] at hD7 ⊢
        have HH7 := hid (And.intro hD7 (And.intro HH6.out.2.1 (And.intro (HH6.out.2.2.1.trans (hF7.below HH6.out.2.2.1.size HH6.out.2.1)) HH6.out.2.2.2.2)))
        clear hD7 hF7 HH6
        go_upto_region 10 with fail
        refine wp_region_lit ?_
        refine wp_move (v := .int .i64 j) (by kernel_rfl) ?_
        refine wp_addi (z := ((j + 1 : Nat) : Int)) (by kernel_rfl) (by kernel_rfl) HWk.out ?_
        refine wp_assign (v := .int .i64 (j + 1 : Nat)) (by kernel_rfl) ?_
        dsimp only [Act.put]
        simp only [List.setIfInBounds_toArray, List.set_cons_zero, List.set_cons_succ]
        refine wp_end ?_
        go_wp2_with fail
        go_roundw
        case rel =>
          refine ⟨j + 1, Xr, _, hlt, hlt2, rfl, HH7.out.1, hn3, hcut3, rfl, ho2, HH7.out.2.2.2.1, ?_, HH7.out.2.1, HH7.out.2.2.1⟩
          intro y hy
          rcases List.mem_append.1 hy with hy | hy
          · exact HH7.out.2.2.2.2 y hy
          · obtain rfl : y = (i, lb) := by simpa using hy
            exact hik
        case measure => exact hmes
    · skip
      have h8 : s3.n = 8 := hn3
      have hcr : (s3.cr z1).now[k]? = some lc := by
        show (crashed s3.kept s3.loose z1)[k]? = some lc
        rw [crashed_other hloose3]; exact hkept3
      have HH := hid (And.intro hDr (And.intro hXr hBr))
      clear hDr hXr hBr hkept3 hloose3
      by_cases h1 : j < len3
      · have h2 : ¬ j < 50 := fun h => hlt ⟨h1, h⟩
        have e1 : decide ((j : Int) < (len3 : Int)) = true := decide_eq_true (by omega)
        have e2 : decide ((j : Int) < 50) = false := decide_eq_false (by omega)
        clear hlt
        go_wp2_with fail
        refine (crash_d HH.out.1 (ints_later HI4.out HH.out.2.2) h4).mono ?_
        rintro e w8 ⟨p1, X1, rfl, hD8, hX8, hB8⟩
        have HH8 := hid (And.intro hD8 (Below.next HH.out.2.2 hB8))
        clear hD8 hX8 hB8 HH
        go_wp2_with fail
        refine (read_d HH8.out.1 rfl k lc hcr).mono ?_
        rintro e W ⟨rfl, hW⟩
        have hBW : Below w8.heap.size w8 W := by rw [hW]; exact (Below.refl _ _).alloc (Nat.le_refl _) _
        have HS1 : Hid (Sl W (.slice (some ⟨w8.heap.size, 0, none⟩) 128 128) lc) := by rw [hW]; exact hid (alloc_sl w8 lc hlc128 _)
        have HDx := hid (HH8.out.1.below hBW)
        have HBw := hid (Below.next HH8.out.2 hBW)
        clear HH8 hBW hW
        generalize Value.slice (some ⟨w8.heap.size, 0, none⟩) 128 128 = vb at *
        go_wp2_with fail
        refine h_openL (S := fun w' => Below W.heap.size W w') (by kernel_rfl) (by kernel_rfl) (fun _ _ _ _ _ h => h) (L := #[false, false, false, false, false, false, false, false, false, false, false, false, false, false, false, false, false, false, false, false, false, false, false, false, false, false]) (by kernel_rfl) ?_
        intro Q' hns hP hN
        have hS := (show Below W.heap.size W W.drew from (Below.refl _ _).drew)
        refine h_takeL (i := 0) (v := (.int .i64 0)) hns rfl rfl (by kernel_rfl) (by kernel_rfl) hP (y_move rfl (by kernel_rfl) (by kernel_rfl)) hS rfl (L' := #[true, false, false, false, false, false, false, false, false, false, false, false, false, false, false, false, false, false, false, false, false, false, false, false, false, false]) (by kernel_rfl) ?_
        refine h_takeL (i := 1) (v := (.bool true)) hns rfl rfl (by kernel_rfl) (by kernel_rfl) hP (y_eqi (t := 25) (x := 0) (y := 0) (.inr rfl) rfl (by kernel_rfl) (by kernel_rfl) (by kernel_rfl) rfl) hS rfl (L' := #[true, true, false, false, false, false, false, false, false, false, false, false, false, false, false, false, false, false, false, false, false, false, false, false, false, false]) (by kernel_rfl) ?_
        refine h_takeL (i := 2) (v := (.bool true)) hns rfl rfl (by kernel_rfl) (by kernel_rfl) hP (y_move rfl (by kernel_rfl) (by kernel_rfl)) hS rfl (L' := #[true, true, true, false, false, false, false, false, false, false, false, false, false, false, false, false, false, false, false, false, false, false, false, false, false, false]) (by kernel_rfl) ?_
        refine h_takeL (i := 3) (v := (.int .i64 0)) hns rfl rfl (by kernel_rfl) (by kernel_rfl) hP (y_move rfl (by kernel_rfl) (by kernel_rfl)) hS rfl (L' := #[true, true, true, true, false, false, false, false, false, false, false, false, false, false, false, false, false, false, false, false, false, false, false, false, false, false]) (by kernel_rfl) ?_
        refine h_takeL (i := 4) (v := (.bool true)) hns rfl rfl (by kernel_rfl) (by kernel_rfl) hP (y_eqi (t := 25) (x := 0) (y := 0) (.inr rfl) rfl (by kernel_rfl) (by kernel_rfl) (by kernel_rfl) rfl) hS rfl (L' := #[true, true, true, true, true, false, false, false, false, false, false, false, false, false, false, false, false, false, false, false, false, false, false, false, false, false]) (by kernel_rfl) ?_
        refine h_takeL (i := 5) (v := (.bool true)) hns rfl rfl (by kernel_rfl) (by kernel_rfl) hP (y_pick (b := true) rfl (by kernel_rfl) (by kernel_rfl) (by kernel_rfl)) hS rfl (L' := #[true, true, true, true, true, true, false, false, false, false, false, false, false, false, false, false, false, false, false, false, false, false, false, false, false, false]) (by kernel_rfl) ?_
        refine h_takeL (i := 6) (v := (.bool true)) hns rfl rfl (by kernel_rfl) (by kernel_rfl) hP (y_move rfl (by kernel_rfl) (by kernel_rfl)) hS rfl (L' := #[true, true, true, true, true, true, true, false, false, false, false, false, false, false, false, false, false, false, false, false, false, false, false, false, false, false]) (by kernel_rfl) ?_
        simp only [List.setIfInBounds_toArray, List.set_cons_zero, List.set_cons_succ]
        refine h_takeL (i := 7) (v := (.int .i64 0)) hns rfl rfl (by kernel_rfl) (by kernel_rfl) hP (y_move rfl (by kernel_rfl) (by kernel_rfl)) hS rfl (L' := #[true, true, true, true, true, true, true, true, false, false, false, false, false, false, false, false, false, false, false, false, false, false, false, false, false, false]) (by kernel_rfl) ?_
        refine h_takeL (i := 8) (v := (.bool true)) hns rfl rfl (by kernel_rfl) (by kernel_rfl) hP (y_eqi (t := 25) (x := 0) (y := 0) (.inr rfl) rfl (by kernel_rfl) (by kernel_rfl) (by kernel_rfl) rfl) hS rfl (L' := #[true, true, true, true, true, true, true, true, true, false, false, false, false, false, false, false, false, false, false, false, false, false, false, false, false, false]) (by kernel_rfl) ?_
        refine h_takeL (i := 9) (v := (.bool true)) hns rfl rfl (by kernel_rfl) (by kernel_rfl) hP (y_pick (b := true) rfl (by kernel_rfl) (by kernel_rfl) (by kernel_rfl)) hS rfl (L' := #[true, true, true, true, true, true, true, true, true, true, false, false, false, false, false, false, false, false, false, false, false, false, false, false, false, false]) (by kernel_rfl) ?_
        refine h_takeL (i := 10) (v := (.bool true)) hns rfl rfl (by kernel_rfl) (by kernel_rfl) hP (y_move rfl (by kernel_rfl) (by kernel_rfl)) hS rfl (L' := #[true, true, true, true, true, true, true, true, true, true, true, false, false, false, false, false, false, false, false, false, false, false, false, false, false, false]) (by kernel_rfl) ?_
        refine h_takeL (i := 11) (v := vb) hns rfl rfl (by kernel_rfl) (by kernel_rfl) hP (y_move rfl (by kernel_rfl) (by kernel_rfl)) hS rfl (L' := #[true, true, true, true, true, true, true, true, true, true, true, true, false, false, false, false, false, false, false, false, false, false, false, false, false, false]) (by kernel_rfl) ?_
        refine h_takeL (i := 12) (v := .string ⟨lc.toArray⟩) hns rfl rfl (by kernel_rfl) (by kernel_rfl) hP (y_conv rfl (by kernel_rfl) (by kernel_rfl) (fun w' hw => conv_sl (HS1.out.below hw))) hS rfl (L' := #[true, true, true, true, true, true, true, true, true, true, true, true, true, false, false, false, false, false, false, false, false, false, false, false, false, false]) (by kernel_rfl) ?_
        refine h_takeL (i := 13) (v := .int .u8 c) hns rfl rfl (by kernel_rfl) (by kernel_rfl) hP (y_move rfl (by kernel_rfl) (by kernel_rfl)) hS rfl (L' := #[true, true, true, true, true, true, true, true, true, true, true, true, true, true, false, false, false, false, false, false, false, false, false, false, false, false]) (by kernel_rfl) ?_
        refine h_callL (i := 14) (f := 20) (args := #[.int .u8 c]) (by kernel_rfl) rfl rfl (by kernel_rfl) (enter_go rfl (by kernel_rfl) (fun w => by go_simp)) (L' := #[true, true, true, true, true, true, true, true, true, true, true, true, true, true, true, false, false, false, false, false, false, false, false, false, false, false]) (by kernel_rfl) ?_
        refine (of_int c hc0 hc1 _).mono ?_
        rintro e wx ⟨rfl, hsx, hBx⟩
        have hsx := hsx.sl
        rw [← hlc] at hsx
        have hS2 : Below W.heap.size W wx := Below.next hS hBx
        refine ⟨_, rfl, hS2, ?_⟩
        clear hS hBx
        have hS := hS2
        clear hS2
        generalize Value.slice _ 128 128 = vx at hsx ⊢
        simp only [List.setIfInBounds_toArray, List.set_cons_zero, List.set_cons_succ]
        refine h_valL (i := 15) (v := .string ⟨lc.toArray⟩) (by kernel_rfl) rfl rfl (by kernel_rfl) (run_conv rfl (by kernel_rfl) (conv_sl hsx)) hS rfl (L' := #[true, true, true, true, true, true, true, true, true, true, true, true, true, true, true, true, false, false, false, false, false, false, false, false, false, false]) (by kernel_rfl) ?_
        refine h_takeL (i := 16) (v := (.bool true)) hns rfl rfl (by kernel_rfl) (by kernel_rfl) hP (y_eqlT (s := ⟨lc.toArray⟩) (t := ⟨lc.toArray⟩) (beq_self_eq_true _) rfl (by kernel_rfl) (by kernel_rfl) (by kernel_rfl)) hS rfl (L' := #[true, true, true, true, true, true, true, true, true, true, true, true, true, true, true, true, true, false, false, false, false, false, false, false, false, false]) (by kernel_rfl) ?_
        refine h_takeL (i := 17) (v := (.bool true)) hns rfl rfl (by kernel_rfl) (by kernel_rfl) hP (y_pick (b := true) rfl (by kernel_rfl) (by kernel_rfl) (by kernel_rfl)) hS rfl (L' := #[true, true, true, true, true, true, true, true, true, true, true, true, true, true, true, true, true, true, false, false, false, false, false, false, false, false]) (by kernel_rfl) ?_
        refine h_takeL (i := 18) (v := (.bool true)) hns rfl rfl (by kernel_rfl) (by kernel_rfl) hP (y_move rfl (by kernel_rfl) (by kernel_rfl)) hS rfl (L' := #[true, true, true, true, true, true, true, true, true, true, true, true, true, true, true, true, true, true, true, false, false, false, false, false, false, false]) (by kernel_rfl) ?_
        refine h_takeL (i := 19) (v := .pointer (some ⟨p1, 0, none⟩)) hns rfl rfl (by kernel_rfl) (by kernel_rfl) hP (y_move rfl (by kernel_rfl) (by kernel_rfl)) hS rfl (L' := #[true, true, true, true, true, true, true, true, true, true, true, true, true, true, true, true, true, true, true, true, false, false, false, false, false, false]) (by kernel_rfl) ?_
        refine h_takeL (i := 20) (v := .slice a4 len4 cap4) hns rfl rfl (by kernel_rfl) (by kernel_rfl) hP (y_move rfl (by kernel_rfl) (by kernel_rfl)) hS rfl (L' := #[true, true, true, true, true, true, true, true, true, true, true, true, true, true, true, true, true, true, true, true, true, false, false, false, false, false]) (by kernel_rfl) ?_
        refine h_callL (i := 21) (f := 16) (args := #[.pointer (some ⟨p1, 0, none⟩), .slice a4 len4 cap4]) (by kernel_rfl) rfl rfl (by kernel_rfl) (enter_go rfl (by kernel_rfl) (fun w => by go_simp)) (L' := #[true, true, true, true, true, true, true, true, true, true, true, true, true, true, true, true, true, true, true, true, true, true, false, false, false, false]) (by kernel_rfl) ?_
        refine (crash_d (HDx.out.below hS) (ints_later HI4.out (Below.next HBw.out hS)) h4).mono ?_
        rintro e wy ⟨p2, X2, rfl, hD2, _, hBy⟩
        have hS2 : Below W.heap.size W wy := Below.next hS hBy
        refine ⟨.pointer (some ⟨p2, 0, none⟩), rfl, hS2, ?_⟩
        clear hS hBy hsx
        have hS := hS2
        clear hS2
        refine h_callL (i := 22) (f := 22) (args := #[.pointer (some ⟨p2, 0, none⟩)]) (by kernel_rfl) rfl rfl (by kernel_rfl) (enter_go rfl (by kernel_rfl) (fun w => by go_simp)) (L' := #[true, true, true, true, true, true, true, true, true, true, true, true, true, true, true, true, true, true, true, true, true, true, true, false, false, false]) (by kernel_rfl) ?_
        refine (sectors_d hD2).mono ?_
        rintro e wz ⟨rfl, hwz⟩
        subst hwz
        rw [show ((s3.cr z1).cr z1).n = 8 from h8]
        refine ⟨_, rfl, hS, ?_⟩
        simp only [List.setIfInBounds_toArray, List.set_cons_zero, List.set_cons_succ]
        refine h_takeL (i := 23) (v := (.bool true)) hns rfl rfl (by kernel_rfl) (by kernel_rfl) hP (y_eqi (t := 3) (x := 8) (y := 8) (.inl rfl) rfl (by kernel_rfl) (by kernel_rfl) (by kernel_rfl) rfl) hS rfl (L' := #[true, true, true, true, true, true, true, true, true, true, true, true, true, true, true, true, true, true, true, true, true, true, true, true, false, false]) (by kernel_rfl) ?_
        refine h_takeL (i := 24) (v := (.bool true)) hns rfl rfl (by kernel_rfl) (by kernel_rfl) hP (y_pick (b := true) rfl (by kernel_rfl) (by kernel_rfl) (by kernel_rfl)) hS rfl (L' := #[true, true, true, true, true, true, true, true, true, true, true, true, true, true, true, true, true, true, true, true, true, true, true, true, true, false]) (by kernel_rfl) ?_
        refine h_takeL (i := 25) (v := (.bool true)) hns rfl rfl (by kernel_rfl) (by kernel_rfl) hP (y_assign rfl (by kernel_rfl) (by kernel_rfl)) hS rfl (L' := #[true, true, true, true, true, true, true, true, true, true, true, true, true, true, true, true, true, true, true, true, true, true, true, true, true, true]) (by kernel_rfl) ?_
        simp only [List.setIfInBounds_toArray, List.set_cons_zero, List.set_cons_succ]
        refine wpAnyH_done (by kernel_rfl) ?_ _
        refine hN _ _ ?_
        clear hP hN hns
        go_wp2
        go_ret
        exact ⟨rfl, Below.next HBw.out hS⟩
      · have e1 : decide ((j : Int) < (len3 : Int)) = false := decide_eq_false (by omega)
        clear hlt
        go_wp2_with fail
        refine (crash_d HH.out.1 (ints_later HI4.out HH.out.2.2) h4).mono ?_
        rintro e w8 ⟨p1, X1, rfl, hD8, hX8, hB8⟩
        have HH8 := hid (And.intro hD8 (Below.next HH.out.2.2 hB8))
        clear hD8 hX8 hB8 HH
        go_wp2_with fail
        refine (read_d HH8.out.1 rfl k lc hcr).mono ?_
        rintro e W ⟨rfl, hW⟩
        have hBW : Below w8.heap.size w8 W := by rw [hW]; exact (Below.refl _ _).alloc (Nat.le_refl _) _
        have HS1 : Hid (Sl W (.slice (some ⟨w8.heap.size, 0, none⟩) 128 128) lc) := by rw [hW]; exact hid (alloc_sl w8 lc hlc128 _)
        have HDx := hid (HH8.out.1.below hBW)
        have HBw := hid (Below.next HH8.out.2 hBW)
        clear HH8 hBW hW
        generalize Value.slice (some ⟨w8.heap.size, 0, none⟩) 128 128 = vb at *
        go_wp2_with fail
        refine h_openL (S := fun w' => Below W.heap.size W w') (by kernel_rfl) (by kernel_rfl) (fun _ _ _ _ _ h => h) (L := #[false, false, false, false, false, false, false, false, false, false, false, false, false, false, false, false, false, false, false, false, false, false, false, false, false, false]) (by kernel_rfl) ?_
        intro Q' hns hP hN
        have hS := (show Below W.heap.size W W.drew from (Below.refl _ _).drew)
        refine h_takeL (i := 0) (v := (.int .i64 0)) hns rfl rfl (by kernel_rfl) (by kernel_rfl) hP (y_move rfl (by kernel_rfl) (by kernel_rfl)) hS rfl (L' := #[true, false, false, false, false, false, false, false, false, false, false, false, false, false, false, false, false, false, false, false, false, false, false, false, false, false]) (by kernel_rfl) ?_
        refine h_takeL (i := 1) (v := (.bool true)) hns rfl rfl (by kernel_rfl) (by kernel_rfl) hP (y_eqi (t := 25) (x := 0) (y := 0) (.inr rfl) rfl (by kernel_rfl) (by kernel_rfl) (by kernel_rfl) rfl) hS rfl (L' := #[true, true, false, false, false, false, false, false, false, false, false, false, false, false, false, false, false, false, false, false, false, false, false, false, false, false]) (by kernel_rfl) ?_
        refine h_takeL (i := 2) (v := (.bool true)) hns rfl rfl (by kernel_rfl) (by kernel_rfl) hP (y_move rfl (by kernel_rfl) (by kernel_rfl)) hS rfl (L' := #[true, true, true, false, false, false, false, false, false, false, false, false, false, false, false, false, false, false, false, false, false, false, false, false, false, false]) (by kernel_rfl) ?_
        refine h_takeL (i := 3) (v := (.int .i64 0)) hns rfl rfl (by kernel_rfl) (by kernel_rfl) hP (y_move rfl (by kernel_rfl) (by kernel_rfl)) hS rfl (L' := #[true, true, true, true, false, false, false, false, false, false, false, false, false, false, false, false, false, false, false, false, false, false, false, false, false, false]) (by kernel_rfl) ?_
        refine h_takeL (i := 4) (v := (.bool true)) hns rfl rfl (by kernel_rfl) (by kernel_rfl) hP (y_eqi (t := 25) (x := 0) (y := 0) (.inr rfl) rfl (by kernel_rfl) (by kernel_rfl) (by kernel_rfl) rfl) hS rfl (L' := #[true, true, true, true, true, false, false, false, false, false, false, false, false, false, false, false, false, false, false, false, false, false, false, false, false, false]) (by kernel_rfl) ?_
        refine h_takeL (i := 5) (v := (.bool true)) hns rfl rfl (by kernel_rfl) (by kernel_rfl) hP (y_pick (b := true) rfl (by kernel_rfl) (by kernel_rfl) (by kernel_rfl)) hS rfl (L' := #[true, true, true, true, true, true, false, false, false, false, false, false, false, false, false, false, false, false, false, false, false, false, false, false, false, false]) (by kernel_rfl) ?_
        refine h_takeL (i := 6) (v := (.bool true)) hns rfl rfl (by kernel_rfl) (by kernel_rfl) hP (y_move rfl (by kernel_rfl) (by kernel_rfl)) hS rfl (L' := #[true, true, true, true, true, true, true, false, false, false, false, false, false, false, false, false, false, false, false, false, false, false, false, false, false, false]) (by kernel_rfl) ?_
        simp only [List.setIfInBounds_toArray, List.set_cons_zero, List.set_cons_succ]
        refine h_takeL (i := 7) (v := (.int .i64 0)) hns rfl rfl (by kernel_rfl) (by kernel_rfl) hP (y_move rfl (by kernel_rfl) (by kernel_rfl)) hS rfl (L' := #[true, true, true, true, true, true, true, true, false, false, false, false, false, false, false, false, false, false, false, false, false, false, false, false, false, false]) (by kernel_rfl) ?_
        refine h_takeL (i := 8) (v := (.bool true)) hns rfl rfl (by kernel_rfl) (by kernel_rfl) hP (y_eqi (t := 25) (x := 0) (y := 0) (.inr rfl) rfl (by kernel_rfl) (by kernel_rfl) (by kernel_rfl) rfl) hS rfl (L' := #[true, true, true, true, true, true, true, true, true, false, false, false, false, false, false, false, false, false, false, false, false, false, false, false, false, false]) (by kernel_rfl) ?_
        refine h_takeL (i := 9) (v := (.bool true)) hns rfl rfl (by kernel_rfl) (by kernel_rfl) hP (y_pick (b := true) rfl (by kernel_rfl) (by kernel_rfl) (by kernel_rfl)) hS rfl (L' := #[true, true, true, true, true, true, true, true, true, true, false, false, false, false, false, false, false, false, false, false, false, false, false, false, false, false]) (by kernel_rfl) ?_
        refine h_takeL (i := 10) (v := (.bool true)) hns rfl rfl (by kernel_rfl) (by kernel_rfl) hP (y_move rfl (by kernel_rfl) (by kernel_rfl)) hS rfl (L' := #[true, true, true, true, true, true, true, true, true, true, true, false, false, false, false, false, false, false, false, false, false, false, false, false, false, false]) (by kernel_rfl) ?_
        refine h_takeL (i := 11) (v := vb) hns rfl rfl (by kernel_rfl) (by kernel_rfl) hP (y_move rfl (by kernel_rfl) (by kernel_rfl)) hS rfl (L' := #[true, true, true, true, true, true, true, true, true, true, true, true, false, false, false, false, false, false, false, false, false, false, false, false, false, false]) (by kernel_rfl) ?_
        refine h_takeL (i := 12) (v := .string ⟨lc.toArray⟩) hns rfl rfl (by kernel_rfl) (by kernel_rfl) hP (y_conv rfl (by kernel_rfl) (by kernel_rfl) (fun w' hw => conv_sl (HS1.out.below hw))) hS rfl (L' := #[true, true, true, true, true, true, true, true, true, true, true, true, true, false, false, false, false, false, false, false, false, false, false, false, false, false]) (by kernel_rfl) ?_
        refine h_takeL (i := 13) (v := .int .u8 c) hns rfl rfl (by kernel_rfl) (by kernel_rfl) hP (y_move rfl (by kernel_rfl) (by kernel_rfl)) hS rfl (L' := #[true, true, true, true, true, true, true, true, true, true, true, true, true, true, false, false, false, false, false, false, false, false, false, false, false, false]) (by kernel_rfl) ?_
        refine h_callL (i := 14) (f := 20) (args := #[.int .u8 c]) (by kernel_rfl) rfl rfl (by kernel_rfl) (enter_go rfl (by kernel_rfl) (fun w => by go_simp)) (L' := #[true, true, true, true, true, true, true, true, true, true, true, true, true, true, true, false, false, false, false, false, false, false, false, false, false, false]) (by kernel_rfl) ?_
        refine (of_int c hc0 hc1 _).mono ?_
        rintro e wx ⟨rfl, hsx, hBx⟩
        have hsx := hsx.sl
        rw [← hlc] at hsx
        have hS2 : Below W.heap.size W wx := Below.next hS hBx
        refine ⟨_, rfl, hS2, ?_⟩
        clear hS hBx
        have hS := hS2
        clear hS2
        generalize Value.slice _ 128 128 = vx at hsx ⊢
        simp only [List.setIfInBounds_toArray, List.set_cons_zero, List.set_cons_succ]
        refine h_valL (i := 15) (v := .string ⟨lc.toArray⟩) (by kernel_rfl) rfl rfl (by kernel_rfl) (run_conv rfl (by kernel_rfl) (conv_sl hsx)) hS rfl (L' := #[true, true, true, true, true, true, true, true, true, true, true, true, true, true, true, true, false, false, false, false, false, false, false, false, false, false]) (by kernel_rfl) ?_
        refine h_takeL (i := 16) (v := (.bool true)) hns rfl rfl (by kernel_rfl) (by kernel_rfl) hP (y_eqlT (s := ⟨lc.toArray⟩) (t := ⟨lc.toArray⟩) (beq_self_eq_true _) rfl (by kernel_rfl) (by kernel_rfl) (by kernel_rfl)) hS rfl (L' := #[true, true, true, true, true, true, true, true, true, true, true, true, true, true, true, true, true, false, false, false, false, false, false, false, false, false]) (by kernel_rfl) ?_
        refine h_takeL (i := 17) (v := (.bool true)) hns rfl rfl (by kernel_rfl) (by kernel_rfl) hP (y_pick (b := true) rfl (by kernel_rfl) (by kernel_rfl) (by kernel_rfl)) hS rfl (L' := #[true, true, true, true, true, true, true, true, true, true, true, true, true, true, true, true, true, true, false, false, false, false, false, false, false, false]) (by kernel_rfl) ?_
        refine h_takeL (i := 18) (v := (.bool true)) hns rfl rfl (by kernel_rfl) (by kernel_rfl) hP (y_move rfl (by kernel_rfl) (by kernel_rfl)) hS rfl (L' := #[true, true, true, true, true, true, true, true, true, true, true, true, true, true, true, true, true, true, true, false, false, false, false, false, false, false]) (by kernel_rfl) ?_
        refine h_takeL (i := 19) (v := .pointer (some ⟨p1, 0, none⟩)) hns rfl rfl (by kernel_rfl) (by kernel_rfl) hP (y_move rfl (by kernel_rfl) (by kernel_rfl)) hS rfl (L' := #[true, true, true, true, true, true, true, true, true, true, true, true, true, true, true, true, true, true, true, true, false, false, false, false, false, false]) (by kernel_rfl) ?_
        refine h_takeL (i := 20) (v := .slice a4 len4 cap4) hns rfl rfl (by kernel_rfl) (by kernel_rfl) hP (y_move rfl (by kernel_rfl) (by kernel_rfl)) hS rfl (L' := #[true, true, true, true, true, true, true, true, true, true, true, true, true, true, true, true, true, true, true, true, true, false, false, false, false, false]) (by kernel_rfl) ?_
        refine h_callL (i := 21) (f := 16) (args := #[.pointer (some ⟨p1, 0, none⟩), .slice a4 len4 cap4]) (by kernel_rfl) rfl rfl (by kernel_rfl) (enter_go rfl (by kernel_rfl) (fun w => by go_simp)) (L' := #[true, true, true, true, true, true, true, true, true, true, true, true, true, true, true, true, true, true, true, true, true, true, false, false, false, false]) (by kernel_rfl) ?_
        refine (crash_d (HDx.out.below hS) (ints_later HI4.out (Below.next HBw.out hS)) h4).mono ?_
        rintro e wy ⟨p2, X2, rfl, hD2, _, hBy⟩
        have hS2 : Below W.heap.size W wy := Below.next hS hBy
        refine ⟨.pointer (some ⟨p2, 0, none⟩), rfl, hS2, ?_⟩
        clear hS hBy hsx
        have hS := hS2
        clear hS2
        refine h_callL (i := 22) (f := 22) (args := #[.pointer (some ⟨p2, 0, none⟩)]) (by kernel_rfl) rfl rfl (by kernel_rfl) (enter_go rfl (by kernel_rfl) (fun w => by go_simp)) (L' := #[true, true, true, true, true, true, true, true, true, true, true, true, true, true, true, true, true, true, true, true, true, true, true, false, false, false]) (by kernel_rfl) ?_
        refine (sectors_d hD2).mono ?_
        rintro e wz ⟨rfl, hwz⟩
        subst hwz
        rw [show ((s3.cr z1).cr z1).n = 8 from h8]
        refine ⟨_, rfl, hS, ?_⟩
        simp only [List.setIfInBounds_toArray, List.set_cons_zero, List.set_cons_succ]
        refine h_takeL (i := 23) (v := (.bool true)) hns rfl rfl (by kernel_rfl) (by kernel_rfl) hP (y_eqi (t := 3) (x := 8) (y := 8) (.inl rfl) rfl (by kernel_rfl) (by kernel_rfl) (by kernel_rfl) rfl) hS rfl (L' := #[true, true, true, true, true, true, true, true, true, true, true, true, true, true, true, true, true, true, true, true, true, true, true, true, false, false]) (by kernel_rfl) ?_
        refine h_takeL (i := 24) (v := (.bool true)) hns rfl rfl (by kernel_rfl) (by kernel_rfl) hP (y_pick (b := true) rfl (by kernel_rfl) (by kernel_rfl) (by kernel_rfl)) hS rfl (L' := #[true, true, true, true, true, true, true, true, true, true, true, true, true, true, true, true, true, true, true, true, true, true, true, true, true, false]) (by kernel_rfl) ?_
        refine h_takeL (i := 25) (v := (.bool true)) hns rfl rfl (by kernel_rfl) (by kernel_rfl) hP (y_assign rfl (by kernel_rfl) (by kernel_rfl)) hS rfl (L' := #[true, true, true, true, true, true, true, true, true, true, true, true, true, true, true, true, true, true, true, true, true, true, true, true, true, true]) (by kernel_rfl) ?_
        simp only [List.setIfInBounds_toArray, List.set_cons_zero, List.set_cons_succ]
        refine wpAnyH_done (by kernel_rfl) ?_ _
        refine hN _ _ ?_
        clear hP hN hns
        go_wp2
        go_ret
        exact ⟨rfl, Below.next HBw.out hS⟩
end Go.Proofs.Ytkfomolglangdaa
