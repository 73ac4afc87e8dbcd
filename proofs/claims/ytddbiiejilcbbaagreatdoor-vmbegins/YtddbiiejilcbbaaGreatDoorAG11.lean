/- texts put together: DRef -/
import Derived.Test.YtddbiiejilcbbaaGreatDoorAG10
namespace Go.Proofs.YtddbiiejilcbbaaGreatDoor
open Go Go.RowKit

set_option maxHeartbeats 400000 in
theorem rleap_any (y : Nat) (h : y ≤ 10000) (w : World) :
    Calls Tryz.prog 183 #[.int .i64 y] w fun e w' => e = .returned (.bool (decide (lpN y = 1))) ∧ w' = w := by
  by_cases h4 : y % 4 = 0
  · by_cases h100 : y % 100 = 0
    · by_cases h400 : y % 400 = 0
      · go_enter Tryz.func183, Tryz.ntmps183
        go_wp2
        go_ret
        refine ⟨ret_bool ?_, rfl⟩
        unfold lpN; rw [if_pos (by omega)]; simp; omega
      · go_enter Tryz.func183, Tryz.ntmps183
        go_wp2
        go_ret
        refine ⟨ret_bool ?_, rfl⟩
        unfold lpN; rw [if_neg (by omega)]; simp; omega
    · go_enter Tryz.func183, Tryz.ntmps183
      go_wp2
      go_ret
      refine ⟨ret_bool ?_, rfl⟩
      unfold lpN; rw [if_pos (by omega)]; rfl
  · go_enter Tryz.func183, Tryz.ntmps183
    go_wp2
    go_ret
    refine ⟨ret_bool ?_, rfl⟩
    unfold lpN; rw [if_neg (by omega)]; rfl

set_option maxHeartbeats 800000 in
theorem rlength_any (y m : Nat) (h : y ≤ 5000) (hm : m < 12) (w : World) :
    Calls Tryz.prog 138 #[.int .i64 y, .int .i64 ((m : Int) + 1)] w fun e w' => e = .returned (.int .i64 (ml y m : Nat)) ∧ Below w.heap.size w w' := by
  have HL := hid (rleap_any y (by omega))
  have hl := lpN_le y
  by_cases hm1 : m = 1
  · subst hm1
    by_cases h1 : lpN y = 1
    · rw [decide_eq_true h1] at HL
      go_enter Tryz.func138, Tryz.ntmps138
      go_wp2_with fail
      refine (HL.out _).mono ?_
      rintro e w1 ⟨rfl, rfl⟩
      go_wp2
      go_ret
      refine ⟨ret_intD ?_, ?_⟩
      · unfold ml; simp [h1]
      · exact (Below.refl _ _).alloc (Nat.le_refl _) _
    · rw [decide_eq_false h1] at HL
      go_enter Tryz.func138, Tryz.ntmps138
      go_wp2_with fail
      refine (HL.out _).mono ?_
      rintro e w1 ⟨rfl, rfl⟩
      go_wp2
      go_ret
      refine ⟨ret_intD ?_, (Below.refl _ _).alloc (Nat.le_refl _) _⟩
      have h0 : lpN y = 0 := by omega
      unfold ml; simp [h0]
  · go_enter Tryz.func138, Tryz.ntmps138
    go_wp2_with fail
    refine (HL.out _).mono ?_
    rintro e w1 ⟨rfl, rfl⟩
    go_wp2
    go_ret
    have hcase : m = 0 ∨ m = 2 ∨ m = 3 ∨ m = 4 ∨ m = 5 ∨ m = 6 ∨ m = 7 ∨ m = 8 ∨ m = 9 ∨ m = 10 ∨ m = 11 := by omega
    rcases hcase with rfl | rfl | rfl | rfl | rfl | rfl | rfl | rfl | rfl | rfl | rfl <;> exact ⟨rfl, (Below.refl _ _).alloc (Nat.le_refl _) _⟩

theorem ofV_yes {y m d : Nat} (h : Dt y m d) : ofV (1900 + (y : Int)) ((m : Int) + 1) (d : Int) = .tuple #[.int .i64 (dn y m d : Nat), .int .i64 0] := by
  have e1 : (1900 + (y : Int) - 1900).toNat = y := by omega
  have e2 : ((m : Int) + 1 - 1).toNat = m := by omega
  have e3 : ((d : Int)).toNat = d := by omega
  unfold ofV
  rw [if_pos ⟨by omega, by omega, by omega, by rw [e1, e2, e3]; exact h⟩, e1, e2, e3]
theorem ofV_no {y m d : Int} (h : ¬ Valid y m d) : ofV y m d = .tuple #[.int .i64 0, .int .i64 30] := by unfold ofV; rw [if_neg h]
theorem valid_iff {y m d : Nat} : Valid (1900 + (y : Int)) ((m : Int) + 1) (d : Int) ↔ Dt y m d := by
  unfold Valid
  rw [show (1900 + (y : Int) - 1900).toNat = y by omega, show ((m : Int) + 1 - 1).toNat = m by omega, show ((d : Int)).toNat = d by omega]
  constructor
  · exact fun h => h.2.2.2
  · exact fun h => ⟨by omega, by omega, by omega, h⟩

set_option maxRecDepth 100000 in
set_option maxHeartbeats 800000 in
theorem rof_any (y m d : Int) (w : World) :
    Calls Tryz.prog 137 #[.int .i64 y, .int .i64 m, .int .i64 d] w fun e w' => e = .returned (ofV y m d) ∧ Below w.heap.size w w' := by
  by_cases hc : 1900 ≤ y ∧ y ≤ 2099 ∧ 1 ≤ m ∧ m ≤ 12 ∧ 1 ≤ d
  · obtain ⟨h0, h1, h2, h3, h4⟩ := hc
    obtain ⟨y', hy⟩ := Int.eq_ofNat_of_zero_le (a := y - 1900) (by omega)
    obtain ⟨m', hm'⟩ := Int.eq_ofNat_of_zero_le (a := m - 1) (by omega)
    obtain ⟨d', rfl⟩ := Int.eq_ofNat_of_zero_le (a := d) (by omega)
    obtain rfl : y = 1900 + (y' : Int) := by omega
    obtain rfl : m = (m' : Int) + 1 := by omega
    have hml := ml_le (1900 + y') (m := m') (by omega)
    have HL := hid (rlength_any (1900 + y') m' (by omega) (by omega))
    rw [show ((1900 + y' : Nat) : Int) = 1900 + (y' : Int) by omega] at HL
    clear hy hm'
    have hy2 : y' < 200 := by omega
    have hm2 : m' < 12 := by omega
    have q1 : ¬ (1900 + (y' : Int) < 1900) := by omega
    have q2 : ¬ ((2099 : Int) < 1900 + (y' : Int)) := by omega
    have q3 : ¬ ((m' : Int) + 1 < 1) := by omega
    have q4 : ¬ ((12 : Int) < (m' : Int) + 1) := by omega
    have q5 : ¬ ((d' : Int) < 1) := by omega
    have hof : ofV (1900 + (y' : Int)) ((m' : Int) + 1) (d' : Int) = if d' ≤ ml (1900 + y') m' then .tuple #[.int .i64 (dn y' m' d' : Nat), .int .i64 0] else .tuple #[.int .i64 0, .int .i64 30] := by
      by_cases hd : d' ≤ ml (1900 + y') m'
      · rw [if_pos hd, ofV_yes ⟨hy2, hm2, by omega, hd⟩]
      · rw [if_neg hd, ofV_no (fun h => hd (valid_iff.1 h).2.2.2)]
    rw [hof]
    have HLE := hid (fun (k : Nat) (hk : k < 200) => rleap_any (1900 + k) (by omega))
    have HLN := hid (fun (k : Nat) (hk : k < 12) => rlength_any (1900 + y') k (by omega) hk)
    simp only [show ∀ k : Nat, ((1900 + k : Nat) : Int) = 1900 + (k : Int) from fun k => by omega] at HLE HLN
    clear hof h0 h1 h2 h3
    by_cases hd : d' ≤ ml (1900 + y') m'
    · rw [if_pos hd]
      have hdf : ¬ ml (1900 + y') m' < d' := by omega
      go_enter Tryz.func137, Tryz.ntmps137
      go_wp2_with fail
      refine (HL.out _).mono ?_
      rintro e w1 ⟨rfl, hB1⟩
      go_wp2_with fail
      go_loop [8, 9] (fun a b => ∃ k : Nat, k ≤ y' ∧ a = .int .i64 (yd k : Nat) ∧ b = .int .i64 (1900 + (k : Int))) (fun _ b => 5000 - (intOf b).toNat)
      case atStart => exact ⟨0, by omega, rfl, rfl⟩
      case round =>
        obtain ⟨k, hk, rfl, rfl⟩ := hrel
        have hyk := yd_le (n := k) (by omega)
        have hst := yd_step k
        have hlk := lpN_le (1900 + k)
        unfold yl at hst
        by_cases hlt : k < y'
        · by_cases hlp : lpN (1900 + k) = 1
          · have HE := hid (HLE.out k (by omega))
            rw [decide_eq_true hlp] at HE
            go_wp2_with fail
            refine (HE.out _).mono ?_
            rintro e w1 ⟨rfl, rfl⟩
            go_wp2
            go_round
            case rel => exact ⟨k + 1, by omega, by congr 1; omega, by congr 1⟩
            case measure => simp [intOf]; omega
          · have HE := hid (HLE.out k (by omega))
            rw [decide_eq_false hlp] at HE
            go_wp2_with fail
            refine (HE.out _).mono ?_
            rintro e w1 ⟨rfl, rfl⟩
            go_wp2
            go_round
            case rel => exact ⟨k + 1, by omega, by congr 1; omega, by congr 1⟩
            case measure => simp [intOf]; omega
        · have : k = y' := by omega
          subst this
          clear hst hlk
          go_wp2_with fail
          go_loopw [8, 11] (fun a b wr => ∃ j : Nat, j ≤ m' ∧ a = .int .i64 ((yd k : Int) + (md (1900 + k) j : Int)) ∧ b = .int .i64 ((j : Int) + 1) ∧ Below w.heap.size w wr) (fun _ b _ => 5000 - (intOf b).toNat)
          case atStart => exact ⟨0, by omega, by simp [md], rfl, hB1⟩
          case round =>
            obtain ⟨j, hj, rfl, rfl, hB⟩ := hrel
            have hmd := md_le (1900 + k) (m := j) (by omega)
            have hyl := yl_le (1900 + k)
            clear hB1
            by_cases hlt2 : j < m'
            · have hmj := ml_le (1900 + k) (m := j) (by omega)
              have hms := md_step (1900 + k) j
              go_wp2_with fail
              refine (HLN.out j (by omega) _).mono ?_
              rintro e w2 ⟨rfl, hB2⟩
              have hB2 := Below.next hB hB2
              go_wp2
              go_roundw
              case rel => exact ⟨j + 1, by omega, by congr 1; omega, by congr 1, hB2⟩
              case measure => simp [intOf]; omega
            · have : j = m' := by omega
              subst this
              go_wp2
              go_ret2
              refine ⟨?_, hB⟩
              have e : ((dn k j d' : Nat) : Int) = (yd k : Int) + (md (1900 + k) j : Int) + (d' : Int) - 1 := by unfold dn; omega
              rw [e]
              rfl
    · rw [if_neg hd]
      go_enter Tryz.func137, Tryz.ntmps137
      go_wp2_with fail
      refine (HL.out _).mono ?_
      rintro e w1 ⟨rfl, hB1⟩
      go_wp2
      go_ret2
      exact ⟨rfl, hB1⟩
  · have hof : ofV y m d = .tuple #[.int .i64 0, .int .i64 30] := by
      refine ofV_no (fun h => hc ?_)
      obtain ⟨h0, h1, h2, h3, h4, h5, _⟩ := h
      omega
    rw [hof]
    clear hof
    by_cases c1 : y < 1900
    · go_enter Tryz.func137, Tryz.ntmps137
      go_wp2
      go_ret2
      exact ⟨rfl, Below.refl _ _⟩
    · by_cases c2 : 2099 < y
      · go_enter Tryz.func137, Tryz.ntmps137
        go_wp2
        go_ret2
        exact ⟨rfl, Below.refl _ _⟩
      · by_cases c3 : m < 1
        · go_enter Tryz.func137, Tryz.ntmps137
          go_wp2
          go_ret2
          exact ⟨rfl, Below.refl _ _⟩
        · by_cases c4 : 12 < m
          · go_enter Tryz.func137, Tryz.ntmps137
            go_wp2
            go_ret2
            exact ⟨rfl, Below.refl _ _⟩
          · have c5 : d < 1 := by omega
            go_enter Tryz.func137, Tryz.ntmps137
            go_wp2
            go_ret2
            exact ⟨rfl, Below.refl _ _⟩

set_option maxRecDepth 100000 in
set_option maxHeartbeats 800000 in
theorem rparts_yes (n : Nat) (hn : n ≤ 73048) (w : World) :
    Calls Tryz.prog 136 #[.int .i64 n] w fun e w' => ∃ y m d : Nat, Dt y m d ∧ dn y m d = n ∧ e = .returned (.tuple #[.int .i64 (1900 + (y : Int)), .int .i64 ((m : Int) + 1), .int .i64 d, .int .i64 0]) ∧ Below w.heap.size w w' := by
  have HL := hid (fun (y m : Nat) (hy : y < 200) (hm : m < 12) => rlength_any (1900 + y) m (by omega) hm)
  simp only [show ∀ k : Nat, ((1900 + k : Nat) : Int) = 1900 + (k : Int) from fun k => by omega] at HL
  go_enter Tryz.func136, Tryz.ntmps136
  go_wp2_with fail
  go_loopw [0, 6, 7] (fun a b c wr => ∃ y m l : Nat, y ≤ 200 ∧ m < 12 ∧ a = .int .i64 l ∧ b = .int .i64 (1900 + (y : Int)) ∧ c = .int .i64 ((m : Int) + 1) ∧ yd y + md (1900 + y) m + l = n ∧ Below w.heap.size w wr) (fun a _ _ _ => (intOf a).toNat)
  case atStart => exact ⟨0, 0, n, by omega, by omega, rfl, rfl, rfl, by simp [yd, md], Below.refl _ _⟩
  case round =>
    obtain ⟨y, m, l, hy, hm, rfl, rfl, rfl, hk, hB⟩ := hrel
    have hy2 : y < 200 := by
      rcases Nat.lt_or_ge y 200 with h | h
      · exact h
      · have : y = 200 := by omega
        subst this
        rw [yd_all] at hk; omega
    have hml := ml_le (1900 + y) hm
    have hmg := ml_ge (1900 + y) hm
    have hl : l ≤ 73048 := by omega
    have HK := hid hk
    clear hk hy
    by_cases hlt : ml (1900 + y) m ≤ l
    · go_wp2_with fail
      refine (HL.out y m hy2 hm _).mono ?_
      rintro e w1 ⟨rfl, hB1⟩
      have hB1 := Below.next hB hB1
      clear hB
      go_wp2_with fail
      refine (HL.out y m hy2 hm _).mono ?_
      rintro e w2 ⟨rfl, hB2⟩
      have hB2 := Below.next hB1 hB2
      clear hB1
      by_cases h12 : m = 11
      · subst h12
        have h13 : ((11 : Nat) : Int) + 1 + 1 = 13 := by omega
        go_wp2
        go_roundw
        case rel =>
          refine ⟨y + 1, 0, l - ml (1900 + y) 11, by omega, by omega, ?_, ?_, rfl, ?_, hB2⟩
          · congr 1 <;> omega
          · congr 1 <;> omega
          · have h1 := HK.out
            have h2 := md_twelve (1900 + y)
            rw [md_step] at h2
            rw [yd_step]
            show yd y + yl (1900 + y) + 0 + _ = n
            omega
        case measure =>
          simp [intOf]; omega
      · have h13 : ¬ (m : Int) + 1 + 1 = 13 := by omega
        go_wp2
        go_roundw
        case rel =>
          refine ⟨y, m + 1, l - ml (1900 + y) m, by omega, by omega, ?_, rfl, ?_, ?_, hB2⟩
          · congr 1 <;> omega
          · congr 1 <;> omega
          · have h1 := HK.out
            rw [md_step]
            omega
        case measure =>
          simp [intOf]; omega
    · go_wp2_with fail
      refine (HL.out y m hy2 hm _).mono ?_
      rintro e w1 ⟨rfl, hB1⟩
      have hB1 := Below.next hB hB1
      clear hB
      go_wp2
      go_returns
      exact ⟨y, m, l + 1, ⟨hy2, hm, by omega, by omega⟩, by have := HK.out; unfold dn; omega, by rfl, hB1⟩

end Go.Proofs.YtddbiiejilcbbaaGreatDoor
