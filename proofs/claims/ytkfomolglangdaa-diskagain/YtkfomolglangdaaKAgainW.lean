/- The walk of DiskAgain. -/
import Derived.Test.YtkfomolglangdaaKKeepsW
import Derived.Test.YtkfomolglangdaaKPoke
namespace Go.Proofs.Ytkfomolglangdaa
open Go Go.RowKit

theorem Disk.belowB {B : Nat} {w w' : World} {p : Nat} {X : List Nat} {s : DS} (h : Disk w p X s) (hB : Below B w w') (hX : ∀ k ∈ X, k < B) : Disk w' p X s := by
  obtain ⟨a, ca, b, cb, m, rfl, hD, hA, hBr, hM, r⟩ := h
  exact ⟨a, ca, b, cb, m, rfl, below_at hB hD (hX _ (by simp)), hA.below hB (hX _ (by simp)), hBr.below hB (hX _ (by simp)), below_at hB hM (hX _ (by simp)), r⟩
theorem crashed_noloose (kept : List (List UInt8)) (zs : List Int) : crashed kept [] zs = kept := by
  unfold crashed
  generalize sorted zs = ks
  induction ks generalizing kept with
  | nil => rfl
  | cons z r ih => rw [List.foldl_cons, layOne_out (by simp; omega), ih]
/-- Flushed once; flushed twice. -/
def s1 (s : DS) : DS := { s with gone := false, kept := s.now, loose := [], ops := s.ops + 1 }
def s2 (s : DS) : DS := { s with gone := false, kept := s.now, loose := [], ops := s.ops + 1 + 1 }

set_option maxRecDepth 100000 in
set_option maxHeartbeats 8000000 in
theorem diskAgain_walk (a0 : Option Addr) (len0 cap0 : Nat) (xs : List OpV) (a1 : Option Addr) (len1 cap1 : Nat) (z1 : List Int) (a2 : Option Addr) (len2 cap2 : Nat) (z2 : List Int) (w : World)
    (hs : Ops w a0 len0 xs) (hl0 : len0 ≤ 9223372036854775807) (hI1 : Ints w.heap.size w a1 len1 z1) (h1 : len1 * 8 ≤ 140737488351232) (hI2 : Ints w.heap.size w a2 len2 z2) (hz2 : ∀ z ∈ z2, i64 z) (_hl2 : len2 ≤ 9223372036854775807) (h2 : len2 * 8 ≤ 140737488351232) :
    Calls Try.prog 6 #[.slice a0 len0 cap0, .slice a1 len1 cap1, .slice a2 len2 cap2] w fun e w' => e = .returned (.bool true) ∧ Below w.heap.size w w' := by
  have HS := hid hs
  have HI1 := hid hI1
  have HI2 := hid hI2
  have HZ2 := hid hz2
  clear hs hI1 hI2 hz2
  go_enter Try.func6, Try.ntmps6
  go_wp2_with fail
  refine (shown_any w).mono ?_
  rintro e w1 ⟨rfl, hB1⟩
  have HB1 := hid hB1
  clear hB1
  go_wp2_with fail
  refine (plays_any w1 a0 len0 cap0 xs (HS.out.below HB1.out) hl0).mono ?_
  rintro e w2 ⟨p, X, s, v2, rfl, hD, hn, hcut, hgone, hops, hX, hLO, hB2⟩
  obtain ⟨av, cv, rfl⟩ := hLO.shape
  have hops0 := hD.ok.o0
  have hnl : s.now.length = 8 := by rw [hD.ok.nowLen, hn]
  have hlo : lost s.cut s.ops = false := by rw [hcut]; exact lost_neg _
  have HX := hid (show ∀ k ∈ X, w.heap.size ≤ k from fun k hk => Nat.le_trans HB1.out.size (hX k hk))
  have HD := hid (And.intro hD (Below.next HB1.out hB2))
  clear hD hX hB2 HB1 HS hLO
  go_wp2_with fail
  refine (crash_d HD.out.1 (ints_later HI1.out HD.out.2) h1).mono ?_
  rintro e w3 ⟨p1, X1, rfl, hD1, _, hB3⟩
  have HD3 := hid (And.intro (HD.out.1.below hB3) (And.intro hD1 (Below.next HD.out.2 hB3)))
  clear hD1 hB3 HD
  go_wp2_with fail
  refine (crash_d HD3.out.2.1 (ints_later HI2.out HD3.out.2.2) h2).mono ?_
  rintro e w4 ⟨p2, X2, rfl, hD2, _, hB4⟩
  have HD4 := hid (And.intro (HD3.out.1.below hB4) (And.intro (HD3.out.2.1.below hB4) (And.intro hD2 (Below.next HD3.out.2.2 hB4))))
  clear hD2 hB4 HD3
  go_wp2_with fail
  refine (crash_d HD4.out.1 (ints_later HI1.out HD4.out.2.2.2) h1).mono ?_
  rintro e w5 ⟨p3, X3, rfl, hD3, hX3, hB5⟩
  have HLT := hid (And.intro HD4.out.1.lt (And.intro HD4.out.2.1.lt HD4.out.2.2.1.lt))
  have hBsz : w.heap.size ≤ w4.heap.size := HD4.out.2.2.2.size
  have hB45 : w4.heap.size ≤ w5.heap.size := hB5.size
  have HD5 := hid (And.intro (HD4.out.1.below hB5) (And.intro (HD4.out.2.1.below hB5) (HD4.out.2.2.1.below hB5)))
  have HB5 := hid (Below.next HD4.out.2.2.2 hB5)
  have HZ5 := hid (And.intro hD3 hX3)
  clear hD3 hX3 hB5 HD4
  generalize w4.heap.size = B at *
  go_upto_region 9 with fail
  go_loopw [14, 15, 16, 17] (fun x _ _ _ wr => ∃ (j : Nat) (Xz : List Nat) (sz : DS), j ≤ len2 ∧ j ≤ 20 ∧ x = .int .i64 j ∧ Disk wr p3 Xz sz ∧ sz.n = 8 ∧ sz.cut = -1 ∧ sz.gone = false ∧ sz.ops ≤ 2 * j ∧ (∀ k ∈ Xz, B ≤ k) ∧ Below B w5 wr) (fun x _ _ _ _ => 20 - (intOf x).toNat)
  case atStart => exact ⟨0, X3, s.cr z1, by omega, by omega, rfl, HZ5.out.1, hn, rfl, rfl, Int.le_refl _, HZ5.out.2, Below.refl _ _⟩
  case round =>
    obtain ⟨j, Xz, sz, hj, hj1, rfl, hDz, hnz, hcz, hgz, hoz, hXz, hBz⟩ := hrel
    have ho0 := hDz.ok.o0
    have hloz : lost sz.cut sz.ops = false := by rw [hcz]; exact lost_neg _
    have hloz' : lost sz.cut (sz.ops + 1) = false := by rw [hcz]; exact lost_neg _
    have HWk := hid (inc_ok (k := j) (by omega))
    by_cases hltj : j < len2 ∧ j < 20
    · have hlt1 : j < len2 := hltj.1
      have hlt2 : j < 20 := hltj.2
      have hlt' : decide ((j : Int) < (len2 : Int)) = true := decide_eq_true (by omega)
      have hlt2' : decide ((j : Int) < 20) = true := decide_eq_true (by omega)
      have hmes : 20 - ((j + 1 : Nat) : Int).toNat < 20 - (j : Int).toNat := by omega
      have ho2 : sz.ops + 1 + 1 ≤ 2 * ((j + 1 : Nat) : Int) := by omega
      have hzl := HI2.out.1
      obtain ⟨bs, os, rfl, hbs, hcs⟩ := HI2.out.2 (by omega)
      have hBw : Below w.heap.size w wr := HB5.out.trans (hBz.mono hBsz)
      have hcx := cell_below hBw (hcs j (by omega))
      have hzi : i64 (z2[j]?.getD 0) := by
        rw [List.getElem?_eq_getElem (by omega)]
        exact HZ2.out _ (List.getElem_mem _)
      have HH := hid (And.intro hDz (And.intro hXz hBz))
      have HCX := hid (And.intro hbs (hcs j (by omega)))
      clear hDz hXz hBz hcs hBw
      generalize z2[j]?.getD 0 = z at *
      go_wp2_with fail
      refine (pick_any z 8 hzi.1 hzi.2 (by omega) wr).mono ?_
      rintro e wr ⟨rfl, rfl⟩
      have hi8 := pk_lt z (show (8 : Nat) ≠ 0 by omega)
      have hpkz : pk z 8 = pk z 8 := rfl
      go_wp2_with fail
      refine (of_int (j : Int) (by omega) (by omega) wr).mono ?_
      rintro e w6 ⟨rfl, hbt, hB6⟩
      have hb128 : (List.replicate 128 (UInt8.ofNat (j : Int).toNat)).length = 128 := by simp
      generalize List.replicate 128 (UInt8.ofNat (j : Int).toNat) = lb at *
      have HH6 := hid (And.intro (HH.out.1.below hB6) (And.intro HH.out.2.1 (And.intro (HH.out.2.2.trans (hB6.mono (Nat.le_trans hB45 HH.out.2.2.size))) hbt.sl)))
      have hw8 : pk z 8 < sz.n := by rw [hnz]; exact hi8
      have hw9 : sz.ops < 1048576 := by omega
      have hw10 : sz.ops + 1 < 1048576 := by omega
      clear HH hbt hB6 hcx
      generalize Value.slice (some ⟨wr.heap.size, 0, none⟩) 128 128 = v6 at *
      go_wp2_with fail
      refine (write_d HH6.out.1 (pk z 8) HH6.out.2.2.2).mono ?_
      rintro e w7 ⟨rfl, hD7, hF7⟩
      rw [DS.wr_ok hloz hw8 hb128 hw9] at hD7 ⊢
      have HH7 := hid (And.intro hD7 (And.intro HH6.out.2.1 (HH6.out.2.2.1.trans (hF7.below (Nat.le_trans hB45 HH6.out.2.2.1.size) HH6.out.2.1))))
      clear hD7 hF7 HH6
      go_wp2_with fail
      refine (flush_d HH7.out.1).mono ?_
      rintro e w8 ⟨rfl, X8, hD8, hX8, hF8⟩
      rw [DS.fl_ok hloz' hw10] at hD8 ⊢
      have hX8' : ∀ k ∈ X8, B ≤ k := fun k hk => by rcases hX8 k hk with h | h; exact HH7.out.2.1 k h; exact Nat.le_trans (Nat.le_trans hB45 HH7.out.2.2.size) h
      have hB8 : Below B w5 w8 := HH7.out.2.2.trans (hF8.below (Nat.le_trans hB45 HH7.out.2.2.size) HH7.out.2.1)
      have hcx := cell_below (HB5.out.trans (hB8.mono hBsz)) HCX.out.2
      have HH8 := hid (And.intro hD8 (And.intro hX8' hB8))
      clear hD8 hX8 hF8 hX8' hB8 HH7
      go_wp2_with fail
      refine (pick_any z 8 hzi.1 hzi.2 (by omega) w8).mono ?_
      rintro e w8 ⟨rfl, rfl⟩
      clear hcx
      go_wp2_with fail
      refine (poke_d HH8.out.1 (q := 5) 99 (i := pk z 8) hw8 (by omega)).mono ?_
      rintro e w9 ⟨rfl, hD9, hF9⟩
      have HH9 := hid (And.intro hD9 (And.intro HH8.out.2.1 (HH8.out.2.2.trans (hF9.below (Nat.le_trans hB45 HH8.out.2.2.size) HH8.out.2.1))))
      clear hD9 hF9 HH8
      go_upto_region 10 with fail
      refine wp_region_lit ?_
      refine wp_move (v := .int .i64 j) (by kernel_rfl) ?_
      refine wp_addi (z := ((j + 1 : Nat) : Int)) (by kernel_rfl) (by kernel_rfl) HWk.out ?_
      refine wp_assign (v := .int .i64 (j + 1 : Nat)) (by kernel_rfl) ?_
      dsimp only [Act.put]
      simp only [List.setIfInBounds_toArray, List.set_cons_zero, List.set_cons_succ]
      refine wp_end ?_
      go_wp2_with fail
      go_roundw
      case rel => exact ⟨j + 1, X8, _, hlt1, hlt2, rfl, HH9.out.1, hnz, hcz, rfl, ho2, HH9.out.2.1, HH9.out.2.2⟩
      case measure => exact hmes
    · have HH := hid (And.intro hDz (And.intro hXz hBz))
      clear hDz hXz hBz HWk
      by_cases h3 : j < len2
      · have h4 : ¬ j < 20 := fun h => hltj ⟨h3, h⟩
        have e1 : decide ((j : Int) < (len2 : Int)) = true := decide_eq_true (by omega)
        have e2 : decide ((j : Int) < 20) = false := decide_eq_false (by omega)
        clear hltj
        · skip
          obtain ⟨hDz, hXz, hBz⟩ := HH.out
          have hBw : Below w.heap.size w wr := HB5.out.trans (hBz.mono hBsz)
          have HQ := hid (And.intro (HD5.out.1.belowB hBz HLT.out.1) (And.intro (HD5.out.2.1.belowB hBz HLT.out.2.1) (And.intro (HD5.out.2.2.belowB hBz HLT.out.2.2) hBw)))
          clear HH hDz hXz hBz hBw HLT HD5 HB5 hBsz
          go_wp2_with fail
          refine (loose_d HQ.out.1).mono ?_
          rintro e wr ⟨rfl, rfl⟩
          go_wp2_with fail
          refine (crash_d HQ.out.1 (ints_later HI1.out HQ.out.2.2.2) h1).mono ?_
          rintro e w6 ⟨p4, X4, rfl, hD4, _, hB6⟩
          have HR := hid (And.intro (HQ.out.1.below hB6) (And.intro (HQ.out.2.1.below hB6) (And.intro (HQ.out.2.2.1.below hB6) (And.intro hD4 (Below.next HQ.out.2.2.2 hB6)))))
          clear hD4 hB6 HQ
          go_upto_region 20 with fail
          go_loopw [19, 20, 21, 22, 23, 24, 25] (fun x _ _ _ _ _ _ wr => ∃ t : Nat, t ≤ 8 ∧ x = .int .i64 t ∧ Disk wr p X s ∧ Disk wr p1 X1 (s.cr z1) ∧ Disk wr p2 X2 ((s.cr z1).cr z2) ∧ Disk wr p4 X4 (s.cr z1) ∧ Below w.heap.size w wr) (fun x _ _ _ _ _ _ _ => 8 - (intOf x).toNat)
          case atStart => exact ⟨0, by omega, rfl, HR.out.1, HR.out.2.1, HR.out.2.2.1, HR.out.2.2.2.1, HR.out.2.2.2.2⟩
          case round =>
            obtain ⟨t, ht, rfl, hD, hD1, hD2, hD4, hB0⟩ := hrel
            have HWt := hid (inc_ok (k := t) (by omega))
            by_cases ht8 : t < 8
            · have ht8' : (t : Int) < 8 := by omega
              have hmest : 8 - ((t + 1 : Nat) : Int).toNat < 8 - (t : Int).toNat := by omega
              obtain ⟨v, hv⟩ : ∃ v, (s.cr z1).now[t]? = some v := ⟨_, List.getElem?_eq_getElem (by rw [hD1.ok.nowLen]; show t < s.n; omega)⟩
              have hv128 := hD1.ok.nowLens v (List.mem_of_getElem? hv)
              have hv2 : ((s.cr z1).cr z2).now[t]? = some v := by show (crashed _ _ _)[t]? = _; rw [show (s.cr z1).loose = [] from rfl, crashed_noloose]; exact hv
              have HH := hid (And.intro hD (And.intro hD1 (And.intro hD2 (And.intro hD4 hB0))))
              clear hD hD1 hD2 hD4 hB0
              go_wp2_with fail
              refine (read_d HH.out.2.1 rfl t v hv).mono ?_
              rintro e wa ⟨rfl, hw⟩
              have hB : Below wr.heap.size wr wa := by rw [hw]; exact (Below.refl _ _).alloc (Nat.le_refl _) _
              have sa : Sl wa (.slice (some ⟨wr.heap.size, 0, none⟩) 128 128) v := by rw [hw]; exact alloc_sl wr v hv128 _
              clear hw
              have HA := hid (And.intro (HH.out.1.below hB) (And.intro (HH.out.2.1.below hB) (And.intro (HH.out.2.2.1.below hB) (And.intro (HH.out.2.2.2.1.below hB) (And.intro (Below.next HH.out.2.2.2.2 hB) sa)))))
              clear HH hB sa
              generalize Value.slice (some ⟨wr.heap.size, 0, none⟩) 128 128 = va at *
              go_wp2_with fail
              refine (read_d HA.out.2.2.1 rfl t v hv2).mono ?_
              rintro e wb ⟨rfl, hw⟩
              have hB : Below wa.heap.size wa wb := by rw [hw]; exact (Below.refl _ _).alloc (Nat.le_refl _) _
              have sb : Sl wb (.slice (some ⟨wa.heap.size, 0, none⟩) 128 128) v := by rw [hw]; exact alloc_sl wa v hv128 _
              clear hw
              have HBB := hid (And.intro (HA.out.1.below hB) (And.intro (HA.out.2.1.below hB) (And.intro (HA.out.2.2.1.below hB) (And.intro (HA.out.2.2.2.1.below hB) (And.intro (Below.next HA.out.2.2.2.2.1 hB) (And.intro (HA.out.2.2.2.2.2.below hB) sb))))))
              clear HA hB sb
              generalize Value.slice (some ⟨wa.heap.size, 0, none⟩) 128 128 = vb at *
              go_wp2_with fail
              refine (read_d HBB.out.2.2.2.1 rfl t v hv).mono ?_
              rintro e wc ⟨rfl, hw⟩
              have hB : Below wb.heap.size wb wc := by rw [hw]; exact (Below.refl _ _).alloc (Nat.le_refl _) _
              have sc : Sl wc (.slice (some ⟨wb.heap.size, 0, none⟩) 128 128) v := by rw [hw]; exact alloc_sl wb v hv128 _
              clear hw
              have HC := hid (And.intro (HBB.out.1.below hB) (And.intro (HBB.out.2.1.below hB) (And.intro (HBB.out.2.2.1.below hB) (And.intro (HBB.out.2.2.2.1.below hB) (Below.next HBB.out.2.2.2.2.1 hB)))))
              have cv1 := conv_sl (HBB.out.2.2.2.2.2.1.below hB)
              have cv2 := conv_sl (HBB.out.2.2.2.2.2.2.below hB)
              have cv3 := conv_sl sc
              clear HBB hB sc
              generalize Value.slice (some ⟨wb.heap.size, 0, none⟩) 128 128 = vc at *
              go_upto_region 21 with fail
              refine wp_region_lit ?_
              refine wp_move (v := .int .i64 t) (by kernel_rfl) ?_
              refine wp_addi (z := ((t + 1 : Nat) : Int)) (by kernel_rfl) (by kernel_rfl) HWt.out ?_
              refine wp_assign (v := .int .i64 (t + 1 : Nat)) (by kernel_rfl) ?_
              dsimp only [Act.put]
              simp only [List.setIfInBounds_toArray, List.set_cons_zero, List.set_cons_succ]
              refine wp_end ?_
              go_wp2_with fail
              go_roundw
              case rel => exact ⟨t + 1, ht8, rfl, HC.out.1, HC.out.2.1, HC.out.2.2.1, HC.out.2.2.2.1, HC.out.2.2.2.2⟩
              case measure => exact hmest
            · obtain rfl : t = 8 := by omega
              have ht8' : ¬ ((8 : Nat) : Int) < 8 := by omega
              have HF := hid (And.intro hD hB0)
              clear hD hD1 hD2 hD4 hB0 HR HWt ht8
              go_wp2_with fail
              refine (flush_d HF.out.1).mono ?_
              rintro e w7 ⟨rfl, X7, hD7, hX7, hF7⟩
              rw [DS.fl_ok hlo (by omega)] at hD7 ⊢
              have hX7' : ∀ k ∈ X7, w.heap.size ≤ k := fun k hk => by rcases hX7 k hk with h | h; exact HX.out k h; exact Nat.le_trans HF.out.2.size h
              have HG := hid (And.intro hD7 (And.intro hX7' (HF.out.2.trans (hF7.below HF.out.2.size HX.out))))
              clear hD7 hX7 hX7' hF7 HF
              go_wp2_with fail
              refine (crash_d HG.out.1 (ints_later HI1.out HG.out.2.2) h1).mono ?_
              rintro e w8 ⟨p5, X5, rfl, hD5, hX5, hB8⟩
              have hlt7 := HG.out.1.lt
              have HK := hid (And.intro (HG.out.1.below hB8) (And.intro HG.out.2.1 (And.intro hD5 (And.intro (Below.next HG.out.2.2 hB8) (show ∀ k ∈ X5, k ∉ X7 from fun k hk hk2 => by have := hX5 k hk; have := hlt7 k hk2; omega)))))
              clear hD5 hX5 hB8 hlt7 HG
              go_wp2_with fail
              refine (flush_d HK.out.1).mono ?_
              rintro e w9 ⟨rfl, X9, hD9, hX9, hF9⟩
              rw [DS.fl_ok (by show lost s.cut (s.ops + 1) = false; rw [hcut]; exact lost_neg _) (by show s.ops + 1 < 1048576; omega)] at hD9 ⊢
              have HM := hid (And.intro hD9 (And.intro (HK.out.2.2.1.fr hF9 HK.out.2.2.2.2) (HK.out.2.2.2.1.trans (hF9.below HK.out.2.2.2.1.size HK.out.2.1))))
              clear hD9 hX9 hF9 HK
              go_upto_region 31 with fail
              go_loopw [29, 30, 31, 32, 33, 34, 35] (fun x _ _ _ _ _ _ wr => ∃ t : Nat, t ≤ 8 ∧ x = .int .i64 t ∧ Disk wr p X9 (s2 s) ∧ Disk wr p5 X5 ((s1 s).cr z1) ∧ Below w.heap.size w wr) (fun x _ _ _ _ _ _ _ => 8 - (intOf x).toNat)
              case atStart => exact ⟨0, by omega, rfl, HM.out.1, HM.out.2.1, HM.out.2.2⟩
              case round =>
                obtain ⟨t, ht, rfl, hD, hD5, hB0⟩ := hrel
                have HWt := hid (inc_ok (k := t) (by omega))
                by_cases ht8 : t < 8
                · have ht8' : (t : Int) < 8 := by omega
                  have hmest : 8 - ((t + 1 : Nat) : Int).toNat < 8 - (t : Int).toNat := by omega
                  obtain ⟨v, hv⟩ : ∃ v, s.now[t]? = some v := ⟨_, List.getElem?_eq_getElem (by omega)⟩
                  have hv128 := hD.ok.nowLens v (List.mem_of_getElem? (show (s2 s).now[t]? = some v from hv))
                  have hv5 : ((s1 s).cr z1).now[t]? = some v := by show (crashed s.now [] z1)[t]? = _; rw [crashed_noloose]; exact hv
                  have hv6 : ((s2 s).cr z2).now[t]? = some v := by show (crashed s.now [] z2)[t]? = _; rw [crashed_noloose]; exact hv
                  have hv7 : (s2 s).now[t]? = some v := hv
                  have HH := hid (And.intro hD (And.intro hD5 hB0))
                  clear hD hD5 hB0 hv
                  go_wp2_with fail
                  refine (read_d HH.out.2.1 rfl t v hv5).mono ?_
                  rintro e wa ⟨rfl, hw⟩
                  have hB : Below wr.heap.size wr wa := by rw [hw]; exact (Below.refl _ _).alloc (Nat.le_refl _) _
                  have sa : Sl wa (.slice (some ⟨wr.heap.size, 0, none⟩) 128 128) v := by rw [hw]; exact alloc_sl wr v hv128 _
                  clear hw
                  have HA := hid (And.intro (HH.out.1.below hB) (And.intro (HH.out.2.1.below hB) (And.intro (Below.next HH.out.2.2 hB) sa)))
                  clear HH hB sa
                  generalize Value.slice (some ⟨wr.heap.size, 0, none⟩) 128 128 = va at *
                  go_wp2_with fail
                  refine (read_d HA.out.1 rfl t v hv7).mono ?_
                  rintro e wb ⟨rfl, hw⟩
                  have hB : Below wa.heap.size wa wb := by rw [hw]; exact (Below.refl _ _).alloc (Nat.le_refl _) _
                  have sb : Sl wb (.slice (some ⟨wa.heap.size, 0, none⟩) 128 128) v := by rw [hw]; exact alloc_sl wa v hv128 _
                  clear hw
                  have HBB := hid (And.intro (HA.out.1.below hB) (And.intro (HA.out.2.1.below hB) (And.intro (Below.next HA.out.2.2.1 hB) (And.intro (HA.out.2.2.2.below hB) sb))))
                  clear HA hB sb
                  generalize Value.slice (some ⟨wa.heap.size, 0, none⟩) 128 128 = vb at *
                  go_wp2_with fail
                  refine (crash_d HBB.out.1 (ints_later HI2.out HBB.out.2.2.1) h2).mono ?_
                  rintro e wc' ⟨p6, X6, rfl, hD6, _, hB6⟩
                  have HC := hid (And.intro (HBB.out.1.below hB6) (And.intro (HBB.out.2.1.below hB6) (And.intro (Below.next HBB.out.2.2.1 hB6) (And.intro (HBB.out.2.2.2.1.below hB6) (And.intro (HBB.out.2.2.2.2.below hB6) hD6)))))
                  clear HBB hD6 hB6
                  go_wp2_with fail
                  refine (read_d HC.out.2.2.2.2.2 rfl t v hv6).mono ?_
                  rintro e wd ⟨rfl, hw⟩
                  have hB : Below wc'.heap.size wc' wd := by rw [hw]; exact (Below.refl _ _).alloc (Nat.le_refl _) _
                  have sc : Sl wd (.slice (some ⟨wc'.heap.size, 0, none⟩) 128 128) v := by rw [hw]; exact alloc_sl wc' v hv128 _
                  clear hw
                  have HE := hid (And.intro (HC.out.1.below hB) (And.intro (HC.out.2.1.below hB) (Below.next HC.out.2.2.1 hB)))
                  have cv1 := conv_sl (HC.out.2.2.2.1.below hB)
                  have cv2 := conv_sl (HC.out.2.2.2.2.1.below hB)
                  have cv3 := conv_sl sc
                  clear HC hB sc
                  generalize Value.slice (some ⟨wc'.heap.size, 0, none⟩) 128 128 = vc at *
                  go_upto_region 32 with fail
                  refine wp_region_lit ?_
                  refine wp_move (v := .int .i64 t) (by kernel_rfl) ?_
                  refine wp_addi (z := ((t + 1 : Nat) : Int)) (by kernel_rfl) (by kernel_rfl) HWt.out ?_
                  refine wp_assign (v := .int .i64 (t + 1 : Nat)) (by kernel_rfl) ?_
                  dsimp only [Act.put]
                  simp only [List.setIfInBounds_toArray, List.set_cons_zero, List.set_cons_succ]
                  refine wp_end ?_
                  go_wp2_with fail
                  go_roundw
                  case rel => exact ⟨t + 1, ht8, rfl, HE.out.1, HE.out.2.1, HE.out.2.2⟩
                  case measure => exact hmest
                · obtain rfl : t = 8 := by omega
                  have ht8' : ¬ ((8 : Nat) : Int) < 8 := by omega
                  have HE := hid (And.intro hD hB0)
                  clear hD hD5 hB0 HM HWt ht8
                  go_wp2_with fail
                  refine (loose_d HE.out.1).mono ?_
                  rintro e wr ⟨rfl, rfl⟩
                  rw [show (s2 s).loose.length = 0 from rfl]
                  go_wp2
                  go_ret
                  exact ⟨rfl, HE.out.2⟩
      · have e1 : decide ((j : Int) < (len2 : Int)) = false := decide_eq_false (by omega)
        clear hltj
        · skip
          obtain ⟨hDz, hXz, hBz⟩ := HH.out
          have hBw : Below w.heap.size w wr := HB5.out.trans (hBz.mono hBsz)
          have HQ := hid (And.intro (HD5.out.1.belowB hBz HLT.out.1) (And.intro (HD5.out.2.1.belowB hBz HLT.out.2.1) (And.intro (HD5.out.2.2.belowB hBz HLT.out.2.2) hBw)))
          clear HH hDz hXz hBz hBw HLT HD5 HB5 hBsz
          go_wp2_with fail
          refine (loose_d HQ.out.1).mono ?_
          rintro e wr ⟨rfl, rfl⟩
          go_wp2_with fail
          refine (crash_d HQ.out.1 (ints_later HI1.out HQ.out.2.2.2) h1).mono ?_
          rintro e w6 ⟨p4, X4, rfl, hD4, _, hB6⟩
          have HR := hid (And.intro (HQ.out.1.below hB6) (And.intro (HQ.out.2.1.below hB6) (And.intro (HQ.out.2.2.1.below hB6) (And.intro hD4 (Below.next HQ.out.2.2.2 hB6)))))
          clear hD4 hB6 HQ
          go_upto_region 20 with fail
          go_loopw [19, 20, 21, 22, 23, 24, 25] (fun x _ _ _ _ _ _ wr => ∃ t : Nat, t ≤ 8 ∧ x = .int .i64 t ∧ Disk wr p X s ∧ Disk wr p1 X1 (s.cr z1) ∧ Disk wr p2 X2 ((s.cr z1).cr z2) ∧ Disk wr p4 X4 (s.cr z1) ∧ Below w.heap.size w wr) (fun x _ _ _ _ _ _ _ => 8 - (intOf x).toNat)
          case atStart => exact ⟨0, by omega, rfl, HR.out.1, HR.out.2.1, HR.out.2.2.1, HR.out.2.2.2.1, HR.out.2.2.2.2⟩
          case round =>
            obtain ⟨t, ht, rfl, hD, hD1, hD2, hD4, hB0⟩ := hrel
            have HWt := hid (inc_ok (k := t) (by omega))
            by_cases ht8 : t < 8
            · have ht8' : (t : Int) < 8 := by omega
              have hmest : 8 - ((t + 1 : Nat) : Int).toNat < 8 - (t : Int).toNat := by omega
              obtain ⟨v, hv⟩ : ∃ v, (s.cr z1).now[t]? = some v := ⟨_, List.getElem?_eq_getElem (by rw [hD1.ok.nowLen]; show t < s.n; omega)⟩
              have hv128 := hD1.ok.nowLens v (List.mem_of_getElem? hv)
              have hv2 : ((s.cr z1).cr z2).now[t]? = some v := by show (crashed _ _ _)[t]? = _; rw [show (s.cr z1).loose = [] from rfl, crashed_noloose]; exact hv
              have HH := hid (And.intro hD (And.intro hD1 (And.intro hD2 (And.intro hD4 hB0))))
              clear hD hD1 hD2 hD4 hB0
              go_wp2_with fail
              refine (read_d HH.out.2.1 rfl t v hv).mono ?_
              rintro e wa ⟨rfl, hw⟩
              have hB : Below wr.heap.size wr wa := by rw [hw]; exact (Below.refl _ _).alloc (Nat.le_refl _) _
              have sa : Sl wa (.slice (some ⟨wr.heap.size, 0, none⟩) 128 128) v := by rw [hw]; exact alloc_sl wr v hv128 _
              clear hw
              have HA := hid (And.intro (HH.out.1.below hB) (And.intro (HH.out.2.1.below hB) (And.intro (HH.out.2.2.1.below hB) (And.intro (HH.out.2.2.2.1.below hB) (And.intro (Below.next HH.out.2.2.2.2 hB) sa)))))
              clear HH hB sa
              generalize Value.slice (some ⟨wr.heap.size, 0, none⟩) 128 128 = va at *
              go_wp2_with fail
              refine (read_d HA.out.2.2.1 rfl t v hv2).mono ?_
              rintro e wb ⟨rfl, hw⟩
              have hB : Below wa.heap.size wa wb := by rw [hw]; exact (Below.refl _ _).alloc (Nat.le_refl _) _
              have sb : Sl wb (.slice (some ⟨wa.heap.size, 0, none⟩) 128 128) v := by rw [hw]; exact alloc_sl wa v hv128 _
              clear hw
              have HBB := hid (And.intro (HA.out.1.below hB) (And.intro (HA.out.2.1.below hB) (And.intro (HA.out.2.2.1.below hB) (And.intro (HA.out.2.2.2.1.below hB) (And.intro (Below.next HA.out.2.2.2.2.1 hB) (And.intro (HA.out.2.2.2.2.2.below hB) sb))))))
              clear HA hB sb
              generalize Value.slice (some ⟨wa.heap.size, 0, none⟩) 128 128 = vb at *
              go_wp2_with fail
              refine (read_d HBB.out.2.2.2.1 rfl t v hv).mono ?_
              rintro e wc ⟨rfl, hw⟩
              have hB : Below wb.heap.size wb wc := by rw [hw]; exact (Below.refl _ _).alloc (Nat.le_refl _) _
              have sc : Sl wc (.slice (some ⟨wb.heap.size, 0, none⟩) 128 128) v := by rw [hw]; exact alloc_sl wb v hv128 _
              clear hw
              have HC := hid (And.intro (HBB.out.1.below hB) (And.intro (HBB.out.2.1.below hB) (And.intro (HBB.out.2.2.1.below hB) (And.intro (HBB.out.2.2.2.1.below hB) (Below.next HBB.out.2.2.2.2.1 hB)))))
              have cv1 := conv_sl (HBB.out.2.2.2.2.2.1.below hB)
              have cv2 := conv_sl (HBB.out.2.2.2.2.2.2.below hB)
              have cv3 := conv_sl sc
              clear HBB hB sc
              generalize Value.slice (some ⟨wb.heap.size, 0, none⟩) 128 128 = vc at *
              go_upto_region 21 with fail
              refine wp_region_lit ?_
              refine wp_move (v := .int .i64 t) (by kernel_rfl) ?_
              refine wp_addi (z := ((t + 1 : Nat) : Int)) (by kernel_rfl) (by kernel_rfl) HWt.out ?_
              refine wp_assign (v := .int .i64 (t + 1 : Nat)) (by kernel_rfl) ?_
              dsimp only [Act.put]
              simp only [List.setIfInBounds_toArray, List.set_cons_zero, List.set_cons_succ]
              refine wp_end ?_
              go_wp2_with fail
              go_roundw
              case rel => exact ⟨t + 1, ht8, rfl, HC.out.1, HC.out.2.1, HC.out.2.2.1, HC.out.2.2.2.1, HC.out.2.2.2.2⟩
              case measure => exact hmest
            · obtain rfl : t = 8 := by omega
              have ht8' : ¬ ((8 : Nat) : Int) < 8 := by omega
              have HF := hid (And.intro hD hB0)
              clear hD hD1 hD2 hD4 hB0 HR HWt ht8
              go_wp2_with fail
              refine (flush_d HF.out.1).mono ?_
              rintro e w7 ⟨rfl, X7, hD7, hX7, hF7⟩
              rw [DS.fl_ok hlo (by omega)] at hD7 ⊢
              have hX7' : ∀ k ∈ X7, w.heap.size ≤ k := fun k hk => by rcases hX7 k hk with h | h; exact HX.out k h; exact Nat.le_trans HF.out.2.size h
              have HG := hid (And.intro hD7 (And.intro hX7' (HF.out.2.trans (hF7.below HF.out.2.size HX.out))))
              clear hD7 hX7 hX7' hF7 HF
              go_wp2_with fail
              refine (crash_d HG.out.1 (ints_later HI1.out HG.out.2.2) h1).mono ?_
              rintro e w8 ⟨p5, X5, rfl, hD5, hX5, hB8⟩
              have hlt7 := HG.out.1.lt
              have HK := hid (And.intro (HG.out.1.below hB8) (And.intro HG.out.2.1 (And.intro hD5 (And.intro (Below.next HG.out.2.2 hB8) (show ∀ k ∈ X5, k ∉ X7 from fun k hk hk2 => by have := hX5 k hk; have := hlt7 k hk2; omega)))))
              clear hD5 hX5 hB8 hlt7 HG
              go_wp2_with fail
              refine (flush_d HK.out.1).mono ?_
              rintro e w9 ⟨rfl, X9, hD9, hX9, hF9⟩
              rw [DS.fl_ok (by show lost s.cut (s.ops + 1) = false; rw [hcut]; exact lost_neg _) (by show s.ops + 1 < 1048576; omega)] at hD9 ⊢
              have HM := hid (And.intro hD9 (And.intro (HK.out.2.2.1.fr hF9 HK.out.2.2.2.2) (HK.out.2.2.2.1.trans (hF9.below HK.out.2.2.2.1.size HK.out.2.1))))
              clear hD9 hX9 hF9 HK
              go_upto_region 31 with fail
              go_loopw [29, 30, 31, 32, 33, 34, 35] (fun x _ _ _ _ _ _ wr => ∃ t : Nat, t ≤ 8 ∧ x = .int .i64 t ∧ Disk wr p X9 (s2 s) ∧ Disk wr p5 X5 ((s1 s).cr z1) ∧ Below w.heap.size w wr) (fun x _ _ _ _ _ _ _ => 8 - (intOf x).toNat)
              case atStart => exact ⟨0, by omega, rfl, HM.out.1, HM.out.2.1, HM.out.2.2⟩
              case round =>
                obtain ⟨t, ht, rfl, hD, hD5, hB0⟩ := hrel
                have HWt := hid (inc_ok (k := t) (by omega))
                by_cases ht8 : t < 8
                · have ht8' : (t : Int) < 8 := by omega
                  have hmest : 8 - ((t + 1 : Nat) : Int).toNat < 8 - (t : Int).toNat := by omega
                  obtain ⟨v, hv⟩ : ∃ v, s.now[t]? = some v := ⟨_, List.getElem?_eq_getElem (by omega)⟩
                  have hv128 := hD.ok.nowLens v (List.mem_of_getElem? (show (s2 s).now[t]? = some v from hv))
                  have hv5 : ((s1 s).cr z1).now[t]? = some v := by show (crashed s.now [] z1)[t]? = _; rw [crashed_noloose]; exact hv
                  have hv6 : ((s2 s).cr z2).now[t]? = some v := by show (crashed s.now [] z2)[t]? = _; rw [crashed_noloose]; exact hv
                  have hv7 : (s2 s).now[t]? = some v := hv
                  have HH := hid (And.intro hD (And.intro hD5 hB0))
                  clear hD hD5 hB0 hv
                  go_wp2_with fail
                  refine (read_d HH.out.2.1 rfl t v hv5).mono ?_
                  rintro e wa ⟨rfl, hw⟩
                  have hB : Below wr.heap.size wr wa := by rw [hw]; exact (Below.refl _ _).alloc (Nat.le_refl _) _
                  have sa : Sl wa (.slice (some ⟨wr.heap.size, 0, none⟩) 128 128) v := by rw [hw]; exact alloc_sl wr v hv128 _
                  clear hw
                  have HA := hid (And.intro (HH.out.1.below hB) (And.intro (HH.out.2.1.below hB) (And.intro (Below.next HH.out.2.2 hB) sa)))
                  clear HH hB sa
                  generalize Value.slice (some ⟨wr.heap.size, 0, none⟩) 128 128 = va at *
                  go_wp2_with fail
                  refine (read_d HA.out.1 rfl t v hv7).mono ?_
                  rintro e wb ⟨rfl, hw⟩
                  have hB : Below wa.heap.size wa wb := by rw [hw]; exact (Below.refl _ _).alloc (Nat.le_refl _) _
                  have sb : Sl wb (.slice (some ⟨wa.heap.size, 0, none⟩) 128 128) v := by rw [hw]; exact alloc_sl wa v hv128 _
                  clear hw
                  have HBB := hid (And.intro (HA.out.1.below hB) (And.intro (HA.out.2.1.below hB) (And.intro (Below.next HA.out.2.2.1 hB) (And.intro (HA.out.2.2.2.below hB) sb))))
                  clear HA hB sb
                  generalize Value.slice (some ⟨wa.heap.size, 0, none⟩) 128 128 = vb at *
                  go_wp2_with fail
                  refine (crash_d HBB.out.1 (ints_later HI2.out HBB.out.2.2.1) h2).mono ?_
                  rintro e wc' ⟨p6, X6, rfl, hD6, _, hB6⟩
                  have HC := hid (And.intro (HBB.out.1.below hB6) (And.intro (HBB.out.2.1.below hB6) (And.intro (Below.next HBB.out.2.2.1 hB6) (And.intro (HBB.out.2.2.2.1.below hB6) (And.intro (HBB.out.2.2.2.2.below hB6) hD6)))))
                  clear HBB hD6 hB6
                  go_wp2_with fail
                  refine (read_d HC.out.2.2.2.2.2 rfl t v hv6).mono ?_
                  rintro e wd ⟨rfl, hw⟩
                  have hB : Below wc'.heap.size wc' wd := by rw [hw]; exact (Below.refl _ _).alloc (Nat.le_refl _) _
                  have sc : Sl wd (.slice (some ⟨wc'.heap.size, 0, none⟩) 128 128) v := by rw [hw]; exact alloc_sl wc' v hv128 _
                  clear hw
                  have HE := hid (And.intro (HC.out.1.below hB) (And.intro (HC.out.2.1.below hB) (Below.next HC.out.2.2.1 hB)))
                  have cv1 := conv_sl (HC.out.2.2.2.1.below hB)
                  have cv2 := conv_sl (HC.out.2.2.2.2.1.below hB)
                  have cv3 := conv_sl sc
                  clear HC hB sc
                  generalize Value.slice (some ⟨wc'.heap.size, 0, none⟩) 128 128 = vc at *
                  go_upto_region 32 with fail
                  refine wp_region_lit ?_
                  refine wp_move (v := .int .i64 t) (by kernel_rfl) ?_
                  refine wp_addi (z := ((t + 1 : Nat) : Int)) (by kernel_rfl) (by kernel_rfl) HWt.out ?_
                  refine wp_assign (v := .int .i64 (t + 1 : Nat)) (by kernel_rfl) ?_
                  dsimp only [Act.put]
                  simp only [List.setIfInBounds_toArray, List.set_cons_zero, List.set_cons_succ]
                  refine wp_end ?_
                  go_wp2_with fail
                  go_roundw
                  case rel => exact ⟨t + 1, ht8, rfl, HE.out.1, HE.out.2.1, HE.out.2.2⟩
                  case measure => exact hmest
                · obtain rfl : t = 8 := by omega
                  have ht8' : ¬ ((8 : Nat) : Int) < 8 := by omega
                  have HE := hid (And.intro hD hB0)
                  clear hD hD5 hB0 HM HWt ht8
                  go_wp2_with fail
                  refine (loose_d HE.out.1).mono ?_
                  rintro e wr ⟨rfl, rfl⟩
                  rw [show (s2 s).loose.length = 0 from rfl]
                  go_wp2
                  go_ret
                  exact ⟨rfl, HE.out.2⟩
end Go.Proofs.Ytkfomolglangdaa
