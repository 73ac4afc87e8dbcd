/- The walk of DateMonths. -/
import Derived.Test.YtdjncmcmplnnhaaDoorDDaysW
import Derived.Test.YtdjncmcmplnnhaaDoorDMonthsMath
namespace Go.Proofs.YtdjncmcmplnnhaaDoor
open Go Go.RowKit

set_option maxRecDepth 100000 in
set_option maxHeartbeats 6000000 in
theorem dateMonths_walk (n k a b : Int) (w : World) (ht : Tab w) (_n0 : -9223372036854775808 ≤ n) (_n1 : n ≤ 9223372036854775807) (_k0 : -9223372036854775808 ≤ k) (_k1 : k ≤ 9223372036854775807) (_a0 : -9223372036854775808 ≤ a) (_a1 : a ≤ 9223372036854775807) (_b0 : -9223372036854775808 ≤ b) (_b1 : b ≤ 9223372036854775807) :
    Calls Tryd.prog 8 #[.int .i64 n, .int .i64 k, .int .i64 a, .int .i64 b] w fun e w' => e = .returned (.bool true) ∧ Below w.heap.size w w' := by
  have HT := hid ht
  clear ht
  go_enter Tryd.func8, Tryd.ntmps8
  go_wp2_with fail
  refine (shown_any w HT.out).mono ?_
  rintro e w1 ⟨rfl, hB1⟩
  by_cases r1 : a < -2000
  · go_wp2
    go_ret
    exact ⟨rfl, hB1⟩
  by_cases r2 : 2000 < a
  · go_wp2
    go_ret
    exact ⟨rfl, hB1⟩
  by_cases r3 : b < -2000
  · go_wp2
    go_ret
    exact ⟨rfl, hB1⟩
  by_cases r4 : 2000 < b
  · go_wp2
    go_ret
    exact ⟨rfl, hB1⟩
  by_cases r5 : n < 0
  · go_wp2
    go_ret
    exact ⟨rfl, hB1⟩
  by_cases r6 : 73048 < n
  · go_wp2
    go_ret
    exact ⟨rfl, hB1⟩
  by_cases r7 : k < 0
  · go_wp2
    go_ret
    exact ⟨rfl, hB1⟩
  by_cases r8 : 73048 < k
  · go_wp2
    go_ret
    exact ⟨rfl, hB1⟩
  obtain ⟨n', rfl⟩ := Int.eq_ofNat_of_zero_le (a := n) (by omega)
  obtain ⟨k', rfl⟩ := Int.eq_ofNat_of_zero_le (a := k) (by omega)
  have hn : n' ≤ 73048 := by omega
  have hk : k' ≤ 73048 := by omega
  by_cases hsw : k' < n'
  · have hle : k' ≤ n' := by omega
    go_wp2_with fail
    refine (parts_yes k' hk _ (HT.out.below hB1)).mono ?_
    rintro e w2 ⟨y, m, d, hd, hdn, rfl, hB2⟩
    have hB2 := Below.next hB1 hB2
    have HD := hid (show Dt y m d ∧ dn y m d = k' from ⟨hd, hdn⟩)
    have hd31 := hd.dle
    clear hd hdn
    go_wp2_with fail
    refine (months_any (k' : Int) a _ (HT.out.below hB2)).mono ?_
    rintro e w3 ⟨t1, t2, t3, g1, g2, rfl, hB3⟩
    have hB3 := Below.next hB2 hB3
    rw [clampD_in hk] at g2
    obtain ⟨rfl, rfl, rfl⟩ := dn_inj HD.out.1 g1 (by rw [HD.out.2, g2])
    clear g1 g2 hB2
    have hMl := monV_le y m d a HD.out.1
    go_wp2_with fail
    refine (months_any ((monV y m d a : Nat) : Int) b _ (HT.out.below hB3)).mono ?_
    rintro e w4 ⟨u1, u2, u3, g1, g2, rfl, hB4⟩
    have hB4 := Below.next hB3 hB4
    rw [clampD_in hMl] at g2
    have hEl := monV_le u1 u2 u3 b g1
    have HU := hid (show Dt u1 u2 u3 ∧ dn u1 u2 u3 = monV y m d a from ⟨g1, g2⟩)
    clear g1 g2 hB3
    have HADD := hid (show d ≤ 28 → (0 : Int) < ((monV y m d a : Nat) : Int) → ((monV y m d a : Nat) : Int) < 73017 → (0 : Int) < ((monV u1 u2 u3 b : Nat) : Int) → ((monV u1 u2 u3 b : Nat) : Int) < 73017 → ((monV u1 u2 u3 b : Nat) : Int) = ((monV y m d (a + b) : Nat) : Int) from fun h28 h1 h2 h3 h4 => by
      rw [monV_add (y := y) (m := m) (d := d) (a := a) (b := b) (by omega) (by omega) HD.out.1 h28 HU.out.1 HU.out.2 (by omega) (by omega) (by omega) (by omega)])
    have HMON := hid (show ∀ y' m' d' : Nat, Dt y' m' d' → dn y' m' d' = n' → ((monV y m d a : Nat) : Int) ≤ ((monV y' m' d' a : Nat) : Int) from fun y' m' d' h' he => Int.ofNat_le.2 (monV_mono (n := a) (y := y) (m := m) (d := d) (by omega) HD.out.1 h' (by rw [HD.out.2, he]; omega)))
    have HPM := hid (plusV_mono hle hn a)
    generalize hMM : ((monV y m d a : Nat) : Int) = M at *
    generalize hEE : ((monV u1 u2 u3 b : Nat) : Int) = E at *
    have HME := hid (⟨hMM, hEE⟩ : ((monV y m d a : Nat) : Int) = M ∧ ((monV u1 u2 u3 b : Nat) : Int) = E)
    clear hMM hEE hMl hEl
    have HPL := hid (plus_any (k' : Int) a)
    have HPH := hid (plus_any (n' : Int) a)
    generalize plusV (k' : Int) a = PL at *
    generalize plusV (n' : Int) a = PH at *
    have hPLH : PL ≤ PH := HPM.out
    have hPI : (PL : Int) ≤ (PH : Int) := by omega
    by_cases i1 : 0 < M
    · by_cases i2 : M < 73017
      · by_cases i3 : 0 < E
        · by_cases i4 : E < 73017
          · by_cases i5 : 28 < d
            · skip
              skip
              go_wp2_with fail
              refine (HPL.out _).mono ?_
              rintro e w5 ⟨rfl, rfl⟩
              go_wp2_with fail
              refine (HPH.out _).mono ?_
              rintro e w5 ⟨rfl, rfl⟩
              go_wp2_with fail
              refine (months_any (k' : Int) a _ (HT.out.below hB4)).mono ?_
              rintro e w6 ⟨t1, t2, t3, g1, g2, rfl, hB6⟩
              have hB6 := Below.next hB4 hB6
              rw [clampD_in hk] at g2
              obtain ⟨rfl, rfl, rfl⟩ := dn_inj HD.out.1 g1 (by rw [HD.out.2, g2])
              rw [HME.out.1]
              clear g1 g2
              go_wp2_with fail
              refine (months_any (n' : Int) a _ (HT.out.below hB6)).mono ?_
              rintro e w7 ⟨t1, t2, t3, g1, g2, rfl, hB7⟩
              have hB7 := Below.next hB6 hB7
              rw [clampD_in hn] at g2
              have hmo := HMON.out t1 t2 t3 g1 g2
              generalize ((monV t1 t2 t3 a : Nat) : Int) = MH at *
              clear g1 g2 hB6
              go_wp2
              all_goals
                go_ret
                exact ⟨rfl, hB7⟩
            · skip
              skip
              go_wp2_with fail
              refine (HPL.out _).mono ?_
              rintro e w5 ⟨rfl, rfl⟩
              go_wp2_with fail
              refine (HPH.out _).mono ?_
              rintro e w5 ⟨rfl, rfl⟩
              go_wp2_with fail
              refine (months_any (k' : Int) a _ (HT.out.below hB4)).mono ?_
              rintro e w6 ⟨t1, t2, t3, g1, g2, rfl, hB6⟩
              have hB6 := Below.next hB4 hB6
              rw [clampD_in hk] at g2
              obtain ⟨rfl, rfl, rfl⟩ := dn_inj HD.out.1 g1 (by rw [HD.out.2, g2])
              rw [HME.out.1]
              clear g1 g2
              go_wp2_with fail
              refine (months_any (n' : Int) a _ (HT.out.below hB6)).mono ?_
              rintro e w7 ⟨t1, t2, t3, g1, g2, rfl, hB7⟩
              have hB7 := Below.next hB6 hB7
              rw [clampD_in hn] at g2
              have hmo := HMON.out t1 t2 t3 g1 g2
              generalize ((monV t1 t2 t3 a : Nat) : Int) = MH at *
              clear g1 g2 hB6
              have i5' : ¬ ((28 : Int) < (d : Int)) := by omega
              have hadd := HADD.out (by omega) i1 i2 i3 i4
              go_wp2_with fail
              refine (months_any (k' : Int) (a + b) _ (HT.out.below hB7)).mono ?_
              rintro e w8 ⟨t4, t5, t6, g1, g2, rfl, hB8⟩
              have hB8 := Below.next hB7 hB8
              rw [clampD_in hk] at g2
              obtain ⟨rfl, rfl, rfl⟩ := dn_inj HD.out.1 g1 (by rw [HD.out.2, g2])
              rw [← hadd]
              clear g1 g2 hadd
              go_wp2
              go_ret
              exact ⟨rfl, hB8⟩
          · skip
            skip
            go_wp2_with fail
            refine (HPL.out _).mono ?_
            rintro e w5 ⟨rfl, rfl⟩
            go_wp2_with fail
            refine (HPH.out _).mono ?_
            rintro e w5 ⟨rfl, rfl⟩
            go_wp2_with fail
            refine (months_any (k' : Int) a _ (HT.out.below hB4)).mono ?_
            rintro e w6 ⟨t1, t2, t3, g1, g2, rfl, hB6⟩
            have hB6 := Below.next hB4 hB6
            rw [clampD_in hk] at g2
            obtain ⟨rfl, rfl, rfl⟩ := dn_inj HD.out.1 g1 (by rw [HD.out.2, g2])
            rw [HME.out.1]
            clear g1 g2
            go_wp2_with fail
            refine (months_any (n' : Int) a _ (HT.out.below hB6)).mono ?_
            rintro e w7 ⟨t1, t2, t3, g1, g2, rfl, hB7⟩
            have hB7 := Below.next hB6 hB7
            rw [clampD_in hn] at g2
            have hmo := HMON.out t1 t2 t3 g1 g2
            generalize ((monV t1 t2 t3 a : Nat) : Int) = MH at *
            clear g1 g2 hB6
            go_wp2
            all_goals
              go_ret
              exact ⟨rfl, hB7⟩
        · skip
          skip
          go_wp2_with fail
          refine (HPL.out _).mono ?_
          rintro e w5 ⟨rfl, rfl⟩
          go_wp2_with fail
          refine (HPH.out _).mono ?_
          rintro e w5 ⟨rfl, rfl⟩
          go_wp2_with fail
          refine (months_any (k' : Int) a _ (HT.out.below hB4)).mono ?_
          rintro e w6 ⟨t1, t2, t3, g1, g2, rfl, hB6⟩
          have hB6 := Below.next hB4 hB6
          rw [clampD_in hk] at g2
          obtain ⟨rfl, rfl, rfl⟩ := dn_inj HD.out.1 g1 (by rw [HD.out.2, g2])
          rw [HME.out.1]
          clear g1 g2
          go_wp2_with fail
          refine (months_any (n' : Int) a _ (HT.out.below hB6)).mono ?_
          rintro e w7 ⟨t1, t2, t3, g1, g2, rfl, hB7⟩
          have hB7 := Below.next hB6 hB7
          rw [clampD_in hn] at g2
          have hmo := HMON.out t1 t2 t3 g1 g2
          generalize ((monV t1 t2 t3 a : Nat) : Int) = MH at *
          clear g1 g2 hB6
          go_wp2
          all_goals
            go_ret
            exact ⟨rfl, hB7⟩
      · skip
        skip
        go_wp2_with fail
        refine (HPL.out _).mono ?_
        rintro e w5 ⟨rfl, rfl⟩
        go_wp2_with fail
        refine (HPH.out _).mono ?_
        rintro e w5 ⟨rfl, rfl⟩
        go_wp2_with fail
        refine (months_any (k' : Int) a _ (HT.out.below hB4)).mono ?_
        rintro e w6 ⟨t1, t2, t3, g1, g2, rfl, hB6⟩
        have hB6 := Below.next hB4 hB6
        rw [clampD_in hk] at g2
        obtain ⟨rfl, rfl, rfl⟩ := dn_inj HD.out.1 g1 (by rw [HD.out.2, g2])
        rw [HME.out.1]
        clear g1 g2
        go_wp2_with fail
        refine (months_any (n' : Int) a _ (HT.out.below hB6)).mono ?_
        rintro e w7 ⟨t1, t2, t3, g1, g2, rfl, hB7⟩
        have hB7 := Below.next hB6 hB7
        rw [clampD_in hn] at g2
        have hmo := HMON.out t1 t2 t3 g1 g2
        generalize ((monV t1 t2 t3 a : Nat) : Int) = MH at *
        clear g1 g2 hB6
        go_wp2
        all_goals
          go_ret
          exact ⟨rfl, hB7⟩
    · skip
      skip
      go_wp2_with fail
      refine (HPL.out _).mono ?_
      rintro e w5 ⟨rfl, rfl⟩
      go_wp2_with fail
      refine (HPH.out _).mono ?_
      rintro e w5 ⟨rfl, rfl⟩
      go_wp2_with fail
      refine (months_any (k' : Int) a _ (HT.out.below hB4)).mono ?_
      rintro e w6 ⟨t1, t2, t3, g1, g2, rfl, hB6⟩
      have hB6 := Below.next hB4 hB6
      rw [clampD_in hk] at g2
      obtain ⟨rfl, rfl, rfl⟩ := dn_inj HD.out.1 g1 (by rw [HD.out.2, g2])
      rw [HME.out.1]
      clear g1 g2
      go_wp2_with fail
      refine (months_any (n' : Int) a _ (HT.out.below hB6)).mono ?_
      rintro e w7 ⟨t1, t2, t3, g1, g2, rfl, hB7⟩
      have hB7 := Below.next hB6 hB7
      rw [clampD_in hn] at g2
      have hmo := HMON.out t1 t2 t3 g1 g2
      generalize ((monV t1 t2 t3 a : Nat) : Int) = MH at *
      clear g1 g2 hB6
      go_wp2
      all_goals
        go_ret
        exact ⟨rfl, hB7⟩
  · have hle : n' ≤ k' := by omega
    go_wp2_with fail
    refine (parts_yes n' hn _ (HT.out.below hB1)).mono ?_
    rintro e w2 ⟨y, m, d, hd, hdn, rfl, hB2⟩
    have hB2 := Below.next hB1 hB2
    have HD := hid (show Dt y m d ∧ dn y m d = n' from ⟨hd, hdn⟩)
    have hd31 := hd.dle
    clear hd hdn
    go_wp2_with fail
    refine (months_any (n' : Int) a _ (HT.out.below hB2)).mono ?_
    rintro e w3 ⟨t1, t2, t3, g1, g2, rfl, hB3⟩
    have hB3 := Below.next hB2 hB3
    rw [clampD_in hn] at g2
    obtain ⟨rfl, rfl, rfl⟩ := dn_inj HD.out.1 g1 (by rw [HD.out.2, g2])
    clear g1 g2 hB2
    have hMl := monV_le y m d a HD.out.1
    go_wp2_with fail
    refine (months_any ((monV y m d a : Nat) : Int) b _ (HT.out.below hB3)).mono ?_
    rintro e w4 ⟨u1, u2, u3, g1, g2, rfl, hB4⟩
    have hB4 := Below.next hB3 hB4
    rw [clampD_in hMl] at g2
    have hEl := monV_le u1 u2 u3 b g1
    have HU := hid (show Dt u1 u2 u3 ∧ dn u1 u2 u3 = monV y m d a from ⟨g1, g2⟩)
    clear g1 g2 hB3
    have HADD := hid (show d ≤ 28 → (0 : Int) < ((monV y m d a : Nat) : Int) → ((monV y m d a : Nat) : Int) < 73017 → (0 : Int) < ((monV u1 u2 u3 b : Nat) : Int) → ((monV u1 u2 u3 b : Nat) : Int) < 73017 → ((monV u1 u2 u3 b : Nat) : Int) = ((monV y m d (a + b) : Nat) : Int) from fun h28 h1 h2 h3 h4 => by
      rw [monV_add (y := y) (m := m) (d := d) (a := a) (b := b) (by omega) (by omega) HD.out.1 h28 HU.out.1 HU.out.2 (by omega) (by omega) (by omega) (by omega)])
    have HMON := hid (show ∀ y' m' d' : Nat, Dt y' m' d' → dn y' m' d' = k' → ((monV y m d a : Nat) : Int) ≤ ((monV y' m' d' a : Nat) : Int) from fun y' m' d' h' he => Int.ofNat_le.2 (monV_mono (n := a) (y := y) (m := m) (d := d) (by omega) HD.out.1 h' (by rw [HD.out.2, he]; omega)))
    have HPM := hid (plusV_mono hle hk a)
    generalize hMM : ((monV y m d a : Nat) : Int) = M at *
    generalize hEE : ((monV u1 u2 u3 b : Nat) : Int) = E at *
    have HME := hid (⟨hMM, hEE⟩ : ((monV y m d a : Nat) : Int) = M ∧ ((monV u1 u2 u3 b : Nat) : Int) = E)
    clear hMM hEE hMl hEl
    have HPL := hid (plus_any (n' : Int) a)
    have HPH := hid (plus_any (k' : Int) a)
    generalize plusV (n' : Int) a = PL at *
    generalize plusV (k' : Int) a = PH at *
    have hPLH : PL ≤ PH := HPM.out
    have hPI : (PL : Int) ≤ (PH : Int) := by omega
    by_cases i1 : 0 < M
    · by_cases i2 : M < 73017
      · by_cases i3 : 0 < E
        · by_cases i4 : E < 73017
          · by_cases i5 : 28 < d
            · skip
              skip
              go_wp2_with fail
              refine (HPL.out _).mono ?_
              rintro e w5 ⟨rfl, rfl⟩
              go_wp2_with fail
              refine (HPH.out _).mono ?_
              rintro e w5 ⟨rfl, rfl⟩
              go_wp2_with fail
              refine (months_any (n' : Int) a _ (HT.out.below hB4)).mono ?_
              rintro e w6 ⟨t1, t2, t3, g1, g2, rfl, hB6⟩
              have hB6 := Below.next hB4 hB6
              rw [clampD_in hn] at g2
              obtain ⟨rfl, rfl, rfl⟩ := dn_inj HD.out.1 g1 (by rw [HD.out.2, g2])
              rw [HME.out.1]
              clear g1 g2
              go_wp2_with fail
              refine (months_any (k' : Int) a _ (HT.out.below hB6)).mono ?_
              rintro e w7 ⟨t1, t2, t3, g1, g2, rfl, hB7⟩
              have hB7 := Below.next hB6 hB7
              rw [clampD_in hk] at g2
              have hmo := HMON.out t1 t2 t3 g1 g2
              generalize ((monV t1 t2 t3 a : Nat) : Int) = MH at *
              clear g1 g2 hB6
              go_wp2
              all_goals
                go_ret
                exact ⟨rfl, hB7⟩
            · skip
              skip
              go_wp2_with fail
              refine (HPL.out _).mono ?_
              rintro e w5 ⟨rfl, rfl⟩
              go_wp2_with fail
              refine (HPH.out _).mono ?_
              rintro e w5 ⟨rfl, rfl⟩
              go_wp2_with fail
              refine (months_any (n' : Int) a _ (HT.out.below hB4)).mono ?_
              rintro e w6 ⟨t1, t2, t3, g1, g2, rfl, hB6⟩
              have hB6 := Below.next hB4 hB6
              rw [clampD_in hn] at g2
              obtain ⟨rfl, rfl, rfl⟩ := dn_inj HD.out.1 g1 (by rw [HD.out.2, g2])
              rw [HME.out.1]
              clear g1 g2
              go_wp2_with fail
              refine (months_any (k' : Int) a _ (HT.out.below hB6)).mono ?_
              rintro e w7 ⟨t1, t2, t3, g1, g2, rfl, hB7⟩
              have hB7 := Below.next hB6 hB7
              rw [clampD_in hk] at g2
              have hmo := HMON.out t1 t2 t3 g1 g2
              generalize ((monV t1 t2 t3 a : Nat) : Int) = MH at *
              clear g1 g2 hB6
              have i5' : ¬ ((28 : Int) < (d : Int)) := by omega
              have hadd := HADD.out (by omega) i1 i2 i3 i4
              go_wp2_with fail
              refine (months_any (n' : Int) (a + b) _ (HT.out.below hB7)).mono ?_
              rintro e w8 ⟨t4, t5, t6, g1, g2, rfl, hB8⟩
              have hB8 := Below.next hB7 hB8
              rw [clampD_in hn] at g2
              obtain ⟨rfl, rfl, rfl⟩ := dn_inj HD.out.1 g1 (by rw [HD.out.2, g2])
              rw [← hadd]
              clear g1 g2 hadd
              go_wp2
              go_ret
              exact ⟨rfl, hB8⟩
          · skip
            skip
            go_wp2_with fail
            refine (HPL.out _).mono ?_
            rintro e w5 ⟨rfl, rfl⟩
            go_wp2_with fail
            refine (HPH.out _).mono ?_
            rintro e w5 ⟨rfl, rfl⟩
            go_wp2_with fail
            refine (months_any (n' : Int) a _ (HT.out.below hB4)).mono ?_
            rintro e w6 ⟨t1, t2, t3, g1, g2, rfl, hB6⟩
            have hB6 := Below.next hB4 hB6
            rw [clampD_in hn] at g2
            obtain ⟨rfl, rfl, rfl⟩ := dn_inj HD.out.1 g1 (by rw [HD.out.2, g2])
            rw [HME.out.1]
            clear g1 g2
            go_wp2_with fail
            refine (months_any (k' : Int) a _ (HT.out.below hB6)).mono ?_
            rintro e w7 ⟨t1, t2, t3, g1, g2, rfl, hB7⟩
            have hB7 := Below.next hB6 hB7
            rw [clampD_in hk] at g2
            have hmo := HMON.out t1 t2 t3 g1 g2
            generalize ((monV t1 t2 t3 a : Nat) : Int) = MH at *
            clear g1 g2 hB6
            go_wp2
            all_goals
              go_ret
              exact ⟨rfl, hB7⟩
        · skip
          skip
          go_wp2_with fail
          refine (HPL.out _).mono ?_
          rintro e w5 ⟨rfl, rfl⟩
          go_wp2_with fail
          refine (HPH.out _).mono ?_
          rintro e w5 ⟨rfl, rfl⟩
          go_wp2_with fail
          refine (months_any (n' : Int) a _ (HT.out.below hB4)).mono ?_
          rintro e w6 ⟨t1, t2, t3, g1, g2, rfl, hB6⟩
          have hB6 := Below.next hB4 hB6
          rw [clampD_in hn] at g2
          obtain ⟨rfl, rfl, rfl⟩ := dn_inj HD.out.1 g1 (by rw [HD.out.2, g2])
          rw [HME.out.1]
          clear g1 g2
          go_wp2_with fail
          refine (months_any (k' : Int) a _ (HT.out.below hB6)).mono ?_
          rintro e w7 ⟨t1, t2, t3, g1, g2, rfl, hB7⟩
          have hB7 := Below.next hB6 hB7
          rw [clampD_in hk] at g2
          have hmo := HMON.out t1 t2 t3 g1 g2
          generalize ((monV t1 t2 t3 a : Nat) : Int) = MH at *
          clear g1 g2 hB6
          go_wp2
          all_goals
            go_ret
            exact ⟨rfl, hB7⟩
      · skip
        skip
        go_wp2_with fail
        refine (HPL.out _).mono ?_
        rintro e w5 ⟨rfl, rfl⟩
        go_wp2_with fail
        refine (HPH.out _).mono ?_
        rintro e w5 ⟨rfl, rfl⟩
        go_wp2_with fail
        refine (months_any (n' : Int) a _ (HT.out.below hB4)).mono ?_
        rintro e w6 ⟨t1, t2, t3, g1, g2, rfl, hB6⟩
        have hB6 := Below.next hB4 hB6
        rw [clampD_in hn] at g2
        obtain ⟨rfl, rfl, rfl⟩ := dn_inj HD.out.1 g1 (by rw [HD.out.2, g2])
        rw [HME.out.1]
        clear g1 g2
        go_wp2_with fail
        refine (months_any (k' : Int) a _ (HT.out.below hB6)).mono ?_
        rintro e w7 ⟨t1, t2, t3, g1, g2, rfl, hB7⟩
        have hB7 := Below.next hB6 hB7
        rw [clampD_in hk] at g2
        have hmo := HMON.out t1 t2 t3 g1 g2
        generalize ((monV t1 t2 t3 a : Nat) : Int) = MH at *
        clear g1 g2 hB6
        go_wp2
        all_goals
          go_ret
          exact ⟨rfl, hB7⟩
    · skip
      skip
      go_wp2_with fail
      refine (HPL.out _).mono ?_
      rintro e w5 ⟨rfl, rfl⟩
      go_wp2_with fail
      refine (HPH.out _).mono ?_
      rintro e w5 ⟨rfl, rfl⟩
      go_wp2_with fail
      refine (months_any (n' : Int) a _ (HT.out.below hB4)).mono ?_
      rintro e w6 ⟨t1, t2, t3, g1, g2, rfl, hB6⟩
      have hB6 := Below.next hB4 hB6
      rw [clampD_in hn] at g2
      obtain ⟨rfl, rfl, rfl⟩ := dn_inj HD.out.1 g1 (by rw [HD.out.2, g2])
      rw [HME.out.1]
      clear g1 g2
      go_wp2_with fail
      refine (months_any (k' : Int) a _ (HT.out.below hB6)).mono ?_
      rintro e w7 ⟨t1, t2, t3, g1, g2, rfl, hB7⟩
      have hB7 := Below.next hB6 hB7
      rw [clampD_in hk] at g2
      have hmo := HMON.out t1 t2 t3 g1 g2
      generalize ((monV t1 t2 t3 a : Nat) : Int) = MH at *
      clear g1 g2 hB6
      go_wp2
      all_goals
        go_ret
        exact ⟨rfl, hB7⟩
end Go.Proofs.YtdjncmcmplnnhaaDoor
