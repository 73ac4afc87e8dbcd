/- The walks of what num's Parse stands on: digits, and the reader of the places behind the point. -/
import Derived.Test.YtehpnhmghfpjpaaDoorParsePlain
import Derived.Test.YtehpnhmghfpjpaaDoorBase
import Derived.Deep.RegionWith
namespace Go.Proofs.YtehpnhmghfpjpaaDoor
open Go.RowKit

set_option maxHeartbeats 400000 in
theorem digit_any (c : Int) (w : World) (h0 : 48 ≤ c) (h1 : c ≤ 57) :
    Calls Tryd.prog 46 #[.int .u8 c] w fun e w' => e = .returned (.int .i64 (c - 48)) ∧ w' = w := by
  go_enter Tryd.func46, Tryd.ntmps46
  go_wp2
  go_ret
  exact ⟨rfl, rfl⟩

theorem all_take_succ (l : List UInt8) (k : Nat) (h : k < l.length) : (l.take (k + 1)).all isD = ((l.take k).all isD && isD l[k]) := by
  rw [List.take_succ_eq_append_getElem h, List.all_append]; simp only [List.all_cons, List.all_nil, Bool.and_true]

set_option maxHeartbeats 800000 in
theorem isDigits_any (s : ByteArray) (most : Nat) (w : World) (hs : s.size ≤ maxLen) :
    Calls Tryd.prog 35 #[.string s, .int .i64 most] w fun e w' => e = .returned (.bool (isDigL s.data.toList most)) ∧ w' = w := by
  unfold maxLen at hs
  have hsz : s.data.toList.length = s.size := by rw [Array.length_toList]; rfl
  by_cases h1 : s.size < 1
  · have HE : Hid (isDigL s.data.toList most = false) := by show isDigL _ _ = false; unfold isDigL; rw [hsz]; simp [show ¬ 1 ≤ s.size by omega]
    have d1 : decide ((s.size : Int) < 1) = true := decide_eq_true (by omega)
    clear hsz
    go_enter Tryd.func35, Tryd.ntmps35
    go_wp2
    go_ret
    exact ⟨by rw [HE.out]; rfl, rfl⟩
  · have d1 : decide ((s.size : Int) < 1) = false := decide_eq_false (by omega)
    by_cases h2 : most < s.size
    · have HE : Hid (isDigL s.data.toList most = false) := by show isDigL _ _ = false; unfold isDigL; rw [hsz]; simp [show ¬ s.size ≤ most by omega]
      clear hsz
      go_enter Tryd.func35, Tryd.ntmps35
      go_wp2
      go_ret
      exact ⟨by rw [HE.out]; rfl, rfl⟩
    · have HE : Hid (isDigL s.data.toList most = s.data.toList.all isD) := by show isDigL _ _ = _; unfold isDigL; rw [hsz]; simp [show s.size ≤ most by omega, show 1 ≤ s.size by omega]
      have HSZ : Hid (s.data.toList.length = s.size) := hsz
      clear hsz
      go_enter Tryd.func35, Tryd.ntmps35
      go_wp2
      go_loop [17] (fun i => ∃ k : Nat, k ≤ s.size ∧ i = .int .i64 k ∧ (s.data.toList.take k).all isD = true) (fun i => s.size - (intOf i).toNat)
      case atStart => exact ⟨0, Nat.zero_le _, rfl, by simp⟩
      case round =>
        obtain ⟨k, hk, rfl, hall⟩ := hrel
        have HA : Hid ((s.data.toList.take k).all isD = true) := hall
        clear hall d1 h1 h2
        by_cases hlt : k < s.size
        · have hb : (s[k].toNat : Int) < 256 := by have := s[k].toNat_lt; omega
          have HS : Hid ((s.data.toList.take (k + 1)).all isD = ((s.data.toList.take k).all isD && isD s[k])) := all_take_succ _ _ (by rw [HSZ.out]; exact hlt)
          by_cases c1 : s[k].toNat < 48
          · have HF : Hid (s.data.toList.all isD = false) := by
              show s.data.toList.all isD = false
              cases h : s.data.toList.all isD
              · rfl
              · have := take_all h (k + 1)
                rw [HS.out] at this
                simp [isD] at this; omega
            have d2 : decide ((s[k].toNat : Int) < 48) = true := decide_eq_true (by omega)
            go_wp2
            go_ret
            exact ⟨by rw [HE.out, HF.out]; rfl, rfl⟩
          · have d2 : decide ((s[k].toNat : Int) < 48) = false := decide_eq_false (by omega)
            by_cases c2 : 57 < s[k].toNat
            · have HF : Hid (s.data.toList.all isD = false) := by
                show s.data.toList.all isD = false
                cases h : s.data.toList.all isD
                · rfl
                · have := take_all h (k + 1)
                  rw [HS.out] at this
                  simp [isD] at this; omega
              have d3 : decide (57 < (s[k].toNat : Int)) = true := decide_eq_true (by omega)
              go_wp2
              go_ret
              exact ⟨by rw [HE.out, HF.out]; rfl, rfl⟩
            · have d3 : decide (57 < (s[k].toNat : Int)) = false := decide_eq_false (by omega)
              have HN : Hid ((s.data.toList.take (k + 1)).all isD = true) := by
                show (s.data.toList.take (k + 1)).all isD = true
                rw [HS.out, HA.out]; simp [isD]; omega
              go_wp2
              go_round
              case rel => exact ⟨k + 1, by omega, by go_num, HN.out⟩
              case measure => simp [intOf]; omega
        · go_wp2
          go_ret
          refine ⟨?_, rfl⟩
          have h := HA.out
          rw [List.take_of_length_le (by rw [HSZ.out]; omega)] at h
          rw [HE.out, h]
          rfl

theorem getD_head (s : ByteArray) (h : 0 < s.size) : s.data.toList[0]?.getD 0 = s[0]'h := by
  rw [List.getElem?_eq_getElem (by rw [Array.length_toList]; exact h)]; rfl

set_option maxHeartbeats 400000 in
theorem isWhole_any (s : ByteArray) (w : World) (hs : s.size ≤ maxLen) :
    Calls Tryd.prog 34 #[.string s] w fun e w' => e = .returned (.bool (isWhL s.data.toList)) ∧ w' = w := by
  have HD : Hid (∀ w : World, Calls Tryd.prog 35 #[.string s, .int .i64 10] w fun e w' => e = .returned (.bool (isDigL s.data.toList 10)) ∧ w' = w) := fun w => isDigits_any s 10 w hs
  unfold maxLen at hs
  have hsz : s.data.toList.length = s.size := by rw [Array.length_toList]; rfl
  cases hd : isDigL s.data.toList 10
  · have HE : Hid (isWhL s.data.toList = false) := by show isWhL _ = _; unfold isWhL; rw [hd]; rfl
    rw [hd] at HD
    clear hsz hd
    go_enter Tryd.func34, Tryd.ntmps34
    go_wp2_with (go_at_call 35; refine (HD.out _).mono ?_; rintro e w ⟨rfl, rfl⟩)
    go_ret
    exact ⟨by rw [HE.out]; rfl, rfl⟩
  · have hp : 0 < s.size := by unfold isDigL at hd; rw [hsz] at hd; simp at hd; omega
    have HE : Hid (isWhL s.data.toList = (decide (s[0]'hp ≠ 48) || decide (s.size = 1))) := by show isWhL _ = _; unfold isWhL; rw [hd, getD_head s hp, hsz]; rfl
    rw [hd] at HD
    have hpi : (0 : Int) < (s.size : Int) := by omega
    clear hsz hd
    by_cases c1 : s[0]'hp = 48
    · have d1 : (((s[0]'hp).toNat : Int) != 48) = false := by rw [c1]; rfl
      by_cases c2 : s.size = 1
      · have d2 : ((s.size : Int) == 1) = true := by rw [c2]; rfl
        have HF : Hid (isWhL s.data.toList = true) := by show isWhL _ = _; rw [HE.out]; simp [c2]
        clear c1 c2
        go_enter Tryd.func34, Tryd.ntmps34
        go_wp2_with (go_at_call 35; refine (HD.out _).mono ?_; rintro e w ⟨rfl, rfl⟩)
        go_ret
        exact ⟨by rw [HF.out]; rfl, rfl⟩
      · have d2 : ((s.size : Int) == 1) = false := by simp; omega
        have HF : Hid (isWhL s.data.toList = false) := by show isWhL _ = _; rw [HE.out]; simp [c1, c2]
        clear c1
        go_enter Tryd.func34, Tryd.ntmps34
        go_wp2_with (go_at_call 35; refine (HD.out _).mono ?_; rintro e w ⟨rfl, rfl⟩)
        go_ret
        exact ⟨by rw [HF.out]; rfl, rfl⟩
    · have d1 : (((s[0]'hp).toNat : Int) != 48) = true := by
        have : (s[0]'hp).toNat ≠ 48 := fun h => c1 (UInt8.toNat_inj.1 h)
        simp; omega
      have HF : Hid (isWhL s.data.toList = true) := by show isWhL _ = _; rw [HE.out]; simp [c1]
      clear c1
      go_enter Tryd.func34, Tryd.ntmps34
      go_wp2_with (go_at_call 35; refine (HD.out _).mono ?_; rintro e w ⟨rfl, rfl⟩)
      go_ret
      exact ⟨by rw [HF.out]; rfl, rfl⟩

/-- The reader's two cells, and that they may be written. -/
def RdIs (p : Nat) (d : ByteArray) (n : Int) (w : World) : Prop :=
  w.cell? ⟨p, 0, none⟩ = some (.string d) ∧ w.cell? ⟨p, 1, none⟩ = some (.int .i64 n) ∧ w.frozen? ⟨p, 1, none⟩ = false
theorem RdIs.drew {p : Nat} {d : ByteArray} {n : Int} {w : World} (h : RdIs p d n w) : RdIs p d n w.drew := h
theorem RdIs.set {p : Nat} {d : ByteArray} {n : Int} {w : World} (h : RdIs p d n w) (u : Int) : RdIs p d u (w.setCell ⟨p, 1, none⟩ (.int .i64 u)) := by
  obtain ⟨a, b, c⟩ := h
  exact ⟨(World.cell?_setCell_other _ _ _ _ (by simp)).trans a, World.cell?_setCell_same _ _ _ b, by simpa using c⟩

theorem getD_at (d : ByteArray) (k : Nat) (h : k < d.size) : d.data.toList[k]?.getD 48 = d[k] := by
  rw [List.getElem?_eq_getElem (by rw [Array.length_toList]; exact h)]; rfl
theorem isD_at {d : ByteArray} (h : d.data.toList.all isD = true) (k : Nat) (hk : k < d.size) : isD d[k] = true := by
  have := List.all_eq_true.1 h d.data.toList[k] (List.getElem_mem (by rw [Array.length_toList]; exact hk))
  exact this

set_option maxHeartbeats 800000 in
theorem take_any (p k n : Nat) (d : ByteArray) (w : World) (hr : RdIs p d n w) (hd : d.data.toList.all isD = true) (hn : n < 100000000000000000) (hk : k ≤ 6) :
    Calls Tryd.prog 47 #[.pointer (some ⟨p, 0, none⟩), .int .i64 k] w fun e w' => e = .returned (.tuple #[]) ∧ RdIs p d ((n * 10 + dv (d.data.toList[k]?.getD 48) : Nat) : Int) w' ∧ Below p w w' := by
  generalize hV : ((n * 10 + dv (d.data.toList[k]?.getD 48) : Nat) : Int) = V
  have hr1 := hr.set ((n : Int) * 10)
  obtain ⟨c0, c1, f1⟩ := hr
  have hb1 : Below p w (w.setCell ⟨p, 1, none⟩ (.int .i64 ((n : Int) * 10))) := Below.setCell (B := p) (Below.refl p w) (p := ⟨p, 1, none⟩) (Nat.le_refl p) _
  by_cases hlt : k < d.size
  · have hD := isD_at hd k hlt
    rw [isD_iff] at hD
    have b0 : (48 : Int) ≤ (d[k].toNat : Int) := by omega
    have b1 : (d[k].toNat : Int) ≤ 57 := by omega
    have HE : Hid (V = (n : Int) * 10 + ((d[k].toNat : Int) - 48)) := by
      show V = _
      rw [← hV, getD_at d k hlt]; unfold dv; omega
    have HW : Hid (RdIs p d ((n : Int) * 10 + ((d[k].toNat : Int) - 48)) ((w.setCell ⟨p, 1, none⟩ (.int .i64 ((n : Int) * 10))).setCell ⟨p, 1, none⟩ (.int .i64 ((n : Int) * 10 + ((d[k].toNat : Int) - 48))))) := hr1.set _
    have HB : Hid (Below p w ((w.setCell ⟨p, 1, none⟩ (.int .i64 ((n : Int) * 10))).setCell ⟨p, 1, none⟩ (.int .i64 ((n : Int) * 10 + ((d[k].toNat : Int) - 48))))) := Below.setCell hb1 (p := ⟨p, 1, none⟩) (Nat.le_refl p) _
    obtain ⟨e0, e1, e2⟩ := hr1
    have hli : (k : Int) < (d.size : Int) := by omega
    have hki : (0 : Int) ≤ (k : Int) := by omega
    go_enter Tryd.func47, Tryd.ntmps47
    have hni : (n : Int) < 100000000000000000 := by omega
    have hwr : IntKind.i64.wrap ((n : Int) * 10 + ((d[k].toNat : Int) - 48)) = (n : Int) * 10 + ((d[k].toNat : Int) - 48) := IntWalk.i64_in _ ⟨by omega, by omega⟩
    clear hd hn hk hD hb1 hV
    go_wp2_with fail
    clear c0 c1 f1
    generalize w.setCell ⟨p, 1, none⟩ (.int .i64 ((n : Int) * 10)) = W at *
    go_region_with (go_at_call 46; refine (digit_any _ _ b0 b1).mono ?_; rintro e w' ⟨rfl, rfl⟩)
    all_goals
      go_end0
      rw [HE.out]
      exact ⟨rfl, HW.out.drew, HB.out.drew⟩
  · have HE : Hid (V = (n : Int) * 10) := by
      show V = _
      rw [← hV, List.getElem?_eq_none (by rw [Array.length_toList]; exact Nat.le_of_not_lt hlt)]; simp [dv]
    have HW : Hid (RdIs p d ((n : Int) * 10) (w.setCell ⟨p, 1, none⟩ (.int .i64 ((n : Int) * 10)))) := hr1
    have HB : Hid (Below p w (w.setCell ⟨p, 1, none⟩ (.int .i64 ((n : Int) * 10)))) := hb1
    obtain ⟨e0, e1, e2⟩ := hr1
    have hni : (n : Int) < 100000000000000000 := by omega
    have hli : ¬ ((k : Int) < (d.size : Int)) := by omega
    clear hd hn hk hb1 hlt hV
    go_enter Tryd.func47, Tryd.ntmps47
    go_wp2
    go_end0
    rw [HE.out]
    exact ⟨rfl, HW.out, HB.out⟩

set_option maxHeartbeats 400000 in
theorem place_take (p n : Nat) (d : ByteArray) (w : World) (hr : RdIs p d n w) (hd : d.data.toList.all isD = true) (hn : n < 10000000000) :
    Calls Tryd.prog 39 #[.func (.func 47) #[.pointer (some ⟨p, 0, none⟩)] #[]] w fun e w' => e = .returned (.tuple #[]) ∧ RdIs p d (frac d.data.toList n 6 : Int) w' ∧ Below p w w' := by
  go_enter Tryd.func39, Tryd.ntmps39
  go_wp2
  go_loopw [3] (fun i wr => ∃ k : Nat, k ≤ 6 ∧ i = .int .i64 k ∧ RdIs p d (frac d.data.toList n k : Int) wr ∧ Below p w wr) (fun i _ => 6 - (intOf i).toNat)
  case atStart => exact ⟨0, by omega, rfl, hr, Below.refl _ _⟩
  case round =>
    obtain ⟨k, hk, rfl, hst, hbel⟩ := hrel
    by_cases hlt : k < 6
    · have hb := frac_lt6 hd hn k hk
      have HP : Hid (Calls Tryd.prog 47 #[.pointer (some ⟨p, 0, none⟩), .int .i64 k] wr fun e w' => e = .returned (.tuple #[]) ∧ RdIs p d (frac d.data.toList n (k + 1) : Int) w' ∧ Below p wr w') := take_any p k (frac d.data.toList n k) d wr hst hd (by omega) hk
      clear hst hb hd hn hr
      go_wp2_with (go_at_call 47; refine HP.out.mono ?_; rintro e w2 ⟨rfl, hst2, hbel2⟩)
      go_roundw
      case rel => exact ⟨k + 1, by omega, by go_num, hst2, hbel.trans hbel2⟩
      case measure => simp [intOf]; omega
    · obtain rfl : k = 6 := by omega
      have HX : Hid (RdIs p d (frac d.data.toList n 6 : Int) wr ∧ Below p w wr) := ⟨hst, hbel⟩
      clear hst hbel hd hn hr hlt
      go_wp2
      go_end0
      exact ⟨rfl, HX.out.1, HX.out.2⟩
end Go.Proofs.YtehpnhmghfpjpaaDoor
