/- The walk of DateSums. -/
import Derived.Test.YtdjncmcmplnnhaaDoorDDaysW
import Derived.Test.YtdjncmcmplnnhaaDoorDSumsMath
namespace Go.Proofs.YtdjncmcmplnnhaaDoor
open Go Go.RowKit

set_option maxRecDepth 100000 in
set_option maxHeartbeats 6000000 in
theorem dateSums_walk (n a b : Int) (w : World) (ht : Tab w) (_n0 : -9223372036854775808 ≤ n) (_n1 : n ≤ 9223372036854775807) (_a0 : -9223372036854775808 ≤ a) (_a1 : a ≤ 9223372036854775807) (_b0 : -9223372036854775808 ≤ b) (_b1 : b ≤ 9223372036854775807) :
    Calls Tryd.prog 7 #[.int .i64 n, .int .i64 a, .int .i64 b] w fun e w' => e = .returned (.bool true) ∧ Below w.heap.size w w' := by
  have HT := hid ht
  clear ht
  by_cases hin : 0 ≤ n ∧ n ≤ 73048 ∧ -100000 ≤ a ∧ a ≤ 100000 ∧ -100000 ≤ b ∧ b ≤ 100000
  · obtain ⟨i1, i2, i3, i4, i5, i6⟩ := hin
    obtain ⟨k, rfl⟩ := Int.eq_ofNat_of_zero_le (a := n) i1
    have hk : k ≤ 73048 := by omega
    have r1 : ¬ ((k : Int) < 0) := by omega
    have r2 : ¬ ((73048 : Int) < (k : Int)) := by omega
    have r3 : ¬ (a < -100000) := by omega
    have r4 : ¬ (100000 < a) := by omega
    have r5 : ¬ (b < -100000) := by omega
    have r6 : ¬ (100000 < b) := by omega
    by_cases hmid : 0 ≤ (k : Int) + a ∧ (k : Int) + a ≤ 73048
    · obtain ⟨j1, j2⟩ := hmid
      have hM := plusV_mid hk j1 j2
      have hS := plusV_sum hk j1 j2 b
      have hol : plusV (k : Int) a ≤ 73048 := by omega
      have HP1 := hid (plus_any (k : Int) a)
      have HP3 := hid (plus_any (k : Int) (a + b))
      have HP2 := hid (plus_any ((plusV (k : Int) a : Nat) : Int) b)
      rw [hS] at HP2
      have HMid := hid hM
      clear hS hM
      generalize plusV (k : Int) (a + b) = P at *
      generalize plusV (k : Int) a = o at *
      have hMd : (k : Int) + a = (o : Int) := HMid.out.symm
      have q1 : ¬ ((o : Int) < 0) := by omega
      have q2 : ¬ ((73048 : Int) < (o : Int)) := by omega
      clear j1 j2 i1 i2 i3 i4 i5 i6 HMid
      go_enter Tryd.func7, Tryd.ntmps7
      go_wp2_with fail
      refine (shown_any w HT.out).mono ?_
      rintro e w1 ⟨rfl, hB1⟩
      go_wp2_with fail
      refine (HP1.out _).mono ?_
      rintro e w2 ⟨rfl, rfl⟩
      go_wp2_with fail
      refine (parts_yes k hk _ (HT.out.below hB1)).mono ?_
      rintro e w3 ⟨y, m, d, hd, hdn, rfl, hB3⟩
      have hB3 := Below.next hB1 hB3
      have HD := hid (show Dt y m d ∧ dn y m d = k from ⟨hd, hdn⟩)
      clear hd hdn
      have hy2 := HD.out.1.1
      have hm2 := HD.out.1.2.1
      have hd2 := HD.out.1.dle
      go_wp2_with fail
      refine (months_any (k : Int) 12 _ (HT.out.below hB3)).mono ?_
      rintro e w4 ⟨y', m', d', hd, hdn, rfl, hB4⟩
      have hB4 := Below.next hB3 hB4
      rw [clampD_in hk] at hdn
      obtain ⟨rfl, rfl, rfl⟩ := dn_inj HD.out.1 hd (by rw [HD.out.2, hdn])
      have hzl := monV_le y m d 12 hd
      clear hd hdn
      go_wp2_with fail
      refine (parts_yes (monV y m d 12) hzl _ (HT.out.below hB4)).mono ?_
      rintro e w5 ⟨z, n, c, hd, hdn, rfl, hB5⟩
      have hB5 := Below.next hB4 hB5
      have hz2 := hd.1
      have hn2 := hd.2.1
      have hc2 := hd.dle
      have hyl := year_later HD.out.1 hd hdn
      clear hd hdn hB4 hB3 hB1 hzl
      have HYa := hid (years_any (k : Int) (o : Int))
      have HYb := hid (years_any (o : Int) (k : Int))
      have HNg := hid (neg_any (shareV ((clampD (k : Int) : Int) - (clampD (o : Int) : Int)) 365))
      rw [← share_back] at HNg
      generalize shareV ((clampD (k : Int) : Int) - (clampD (o : Int) : Int)) 365 = S1 at *
      generalize shareV ((clampD (o : Int) : Int) - (clampD (k : Int) : Int)) 365 = S2 at *
      generalize monV y m d 12 = Z at *
      rcases hyl with ⟨rfl, rfl, rfl, rfl⟩ | ⟨hy3, rfl, rfl, rfl⟩ | ⟨hy3, rfl, rfl, rfl, rfl, rfl⟩
      · skip
        go_wp2_with fail
        refine (HP2.out _).mono ?_
        rintro e w6 ⟨rfl, rfl⟩
        go_wp2_with fail
        refine (HP3.out _).mono ?_
        rintro e w6 ⟨rfl, rfl⟩
        go_wp2_with fail
        refine (HYa.out _).mono ?_
        rintro e w7 ⟨rfl, j7, rfl⟩
        have hB7 := Below.next hB5 (drewN_below _ j7)
        go_wp2_with fail
        refine (HYb.out _).mono ?_
        rintro e w8 ⟨rfl, j8, rfl⟩
        have hB8 := Below.next hB7 (drewN_below _ j8)
        rw [World.drewN_drewN] at hB8
        clear hB7
        go_wp2_with fail
        refine (HNg.out _).mono ?_
        rintro e w8 ⟨rfl, rfl⟩
        go_wp2_with fail
        refine (years30_any (k : Int) (o : Int) _ (HT.out.below hB8)).mono ?_
        rintro e w9 ⟨t1, t2, t3, u1, u2, u3, g1, g2, g3, g4, rfl, hB9⟩
        have hB9 := Below.next hB8 hB9
        clear hB8
        have HG := hid (show Dt t1 t2 t3 ∧ dn t1 t2 t3 = clampD (k : Int) ∧ Dt u1 u2 u3 ∧ dn u1 u2 u3 = clampD (o : Int) from ⟨g1, g2, g3, g4⟩)
        clear g1 g2 g3 g4
        go_wp2_with fail
        refine (years30_any (o : Int) (k : Int) _ (HT.out.below hB9)).mono ?_
        rintro e w10 ⟨x1, x2, x3, v1, v2, v3, g1, g2, g3, g4, rfl, hB10⟩
        have hB10 := Below.next hB9 hB10
        clear hB9
        obtain ⟨rfl, rfl, rfl⟩ := dn_inj HG.out.1 g3 (by rw [HG.out.2.1, g4])
        obtain ⟨rfl, rfl, rfl⟩ := dn_inj HG.out.2.2.1 g1 (by rw [HG.out.2.2.2, g2])
        clear g1 g2 g3 g4 HG
        have HN3 := hid (neg_any (shareV (sd t1 t2 t3 - sd u1 u2 u3) 360))
        rw [← share_back] at HN3
        generalize shareV (sd t1 t2 t3 - sd u1 u2 u3) 360 = S3 at *
        generalize shareV (sd u1 u2 u3 - sd t1 t2 t3) 360 = S4 at *
        go_wp2_with fail
        refine (HN3.out _).mono ?_
        rintro e w11 ⟨rfl, rfl⟩
        go_wp2_with fail
        refine (months_any (k : Int) 0 _ (HT.out.below hB10)).mono ?_
        rintro e w12 ⟨x1, x2, x3, g1, g2, rfl, hB12⟩
        have hB12 := Below.next hB10 hB12
        rw [monV_zero g1, g2, clampD_in hk]
        clear g1 g2
        go_wp2
        go_ret
        exact ⟨rfl, hB12⟩
      · skip
        go_wp2_with fail
        refine (HP2.out _).mono ?_
        rintro e w6 ⟨rfl, rfl⟩
        go_wp2_with fail
        refine (HP3.out _).mono ?_
        rintro e w6 ⟨rfl, rfl⟩
        go_wp2_with fail
        refine (HYa.out _).mono ?_
        rintro e w7 ⟨rfl, j7, rfl⟩
        have hB7 := Below.next hB5 (drewN_below _ j7)
        go_wp2_with fail
        refine (HYb.out _).mono ?_
        rintro e w8 ⟨rfl, j8, rfl⟩
        have hB8 := Below.next hB7 (drewN_below _ j8)
        rw [World.drewN_drewN] at hB8
        clear hB7
        go_wp2_with fail
        refine (HNg.out _).mono ?_
        rintro e w8 ⟨rfl, rfl⟩
        go_wp2_with fail
        refine (years30_any (k : Int) (o : Int) _ (HT.out.below hB8)).mono ?_
        rintro e w9 ⟨t1, t2, t3, u1, u2, u3, g1, g2, g3, g4, rfl, hB9⟩
        have hB9 := Below.next hB8 hB9
        clear hB8
        have HG := hid (show Dt t1 t2 t3 ∧ dn t1 t2 t3 = clampD (k : Int) ∧ Dt u1 u2 u3 ∧ dn u1 u2 u3 = clampD (o : Int) from ⟨g1, g2, g3, g4⟩)
        clear g1 g2 g3 g4
        go_wp2_with fail
        refine (years30_any (o : Int) (k : Int) _ (HT.out.below hB9)).mono ?_
        rintro e w10 ⟨x1, x2, x3, v1, v2, v3, g1, g2, g3, g4, rfl, hB10⟩
        have hB10 := Below.next hB9 hB10
        clear hB9
        obtain ⟨rfl, rfl, rfl⟩ := dn_inj HG.out.1 g3 (by rw [HG.out.2.1, g4])
        obtain ⟨rfl, rfl, rfl⟩ := dn_inj HG.out.2.2.1 g1 (by rw [HG.out.2.2.2, g2])
        clear g1 g2 g3 g4 HG
        have HN3 := hid (neg_any (shareV (sd t1 t2 t3 - sd u1 u2 u3) 360))
        rw [← share_back] at HN3
        generalize shareV (sd t1 t2 t3 - sd u1 u2 u3) 360 = S3 at *
        generalize shareV (sd u1 u2 u3 - sd t1 t2 t3) 360 = S4 at *
        go_wp2_with fail
        refine (HN3.out _).mono ?_
        rintro e w11 ⟨rfl, rfl⟩
        go_wp2_with fail
        refine (months_any (k : Int) 0 _ (HT.out.below hB10)).mono ?_
        rintro e w12 ⟨x1, x2, x3, g1, g2, rfl, hB12⟩
        have hB12 := Below.next hB10 hB12
        rw [monV_zero g1, g2, clampD_in hk]
        clear g1 g2
        go_wp2
        go_ret
        exact ⟨rfl, hB12⟩
      · skip
        go_wp2_with fail
        refine (HP2.out _).mono ?_
        rintro e w6 ⟨rfl, rfl⟩
        go_wp2_with fail
        refine (HP3.out _).mono ?_
        rintro e w6 ⟨rfl, rfl⟩
        go_wp2_with fail
        refine (HYa.out _).mono ?_
        rintro e w7 ⟨rfl, j7, rfl⟩
        have hB7 := Below.next hB5 (drewN_below _ j7)
        go_wp2_with fail
        refine (HYb.out _).mono ?_
        rintro e w8 ⟨rfl, j8, rfl⟩
        have hB8 := Below.next hB7 (drewN_below _ j8)
        rw [World.drewN_drewN] at hB8
        clear hB7
        go_wp2_with fail
        refine (HNg.out _).mono ?_
        rintro e w8 ⟨rfl, rfl⟩
        go_wp2_with fail
        refine (years30_any (k : Int) (o : Int) _ (HT.out.below hB8)).mono ?_
        rintro e w9 ⟨t1, t2, t3, u1, u2, u3, g1, g2, g3, g4, rfl, hB9⟩
        have hB9 := Below.next hB8 hB9
        clear hB8
        have HG := hid (show Dt t1 t2 t3 ∧ dn t1 t2 t3 = clampD (k : Int) ∧ Dt u1 u2 u3 ∧ dn u1 u2 u3 = clampD (o : Int) from ⟨g1, g2, g3, g4⟩)
        clear g1 g2 g3 g4
        go_wp2_with fail
        refine (years30_any (o : Int) (k : Int) _ (HT.out.below hB9)).mono ?_
        rintro e w10 ⟨x1, x2, x3, v1, v2, v3, g1, g2, g3, g4, rfl, hB10⟩
        have hB10 := Below.next hB9 hB10
        clear hB9
        obtain ⟨rfl, rfl, rfl⟩ := dn_inj HG.out.1 g3 (by rw [HG.out.2.1, g4])
        obtain ⟨rfl, rfl, rfl⟩ := dn_inj HG.out.2.2.1 g1 (by rw [HG.out.2.2.2, g2])
        clear g1 g2 g3 g4 HG
        have HN3 := hid (neg_any (shareV (sd t1 t2 t3 - sd u1 u2 u3) 360))
        rw [← share_back] at HN3
        generalize shareV (sd t1 t2 t3 - sd u1 u2 u3) 360 = S3 at *
        generalize shareV (sd u1 u2 u3 - sd t1 t2 t3) 360 = S4 at *
        go_wp2_with fail
        refine (HN3.out _).mono ?_
        rintro e w11 ⟨rfl, rfl⟩
        go_wp2_with fail
        refine (months_any (k : Int) 0 _ (HT.out.below hB10)).mono ?_
        rintro e w12 ⟨x1, x2, x3, g1, g2, rfl, hB12⟩
        have hB12 := Below.next hB10 hB12
        rw [monV_zero g1, g2, clampD_in hk]
        clear g1 g2
        go_wp2
        go_ret
        exact ⟨rfl, hB12⟩
    · have HMD := hid hmid
      clear hmid
      go_enter Tryd.func7, Tryd.ntmps7
      go_wp2_with fail
      refine (shown_any w HT.out).mono ?_
      rintro e w1 ⟨rfl, hB1⟩
      by_cases q1 : (k : Int) + a < 0
      · go_wp2
        go_ret
        exact ⟨rfl, hB1⟩
      · have q2 : (73048 : Int) < (k : Int) + a := by have := HMD.out; omega
        go_wp2
        go_ret
        exact ⟨rfl, hB1⟩
  · go_enter Tryd.func7, Tryd.ntmps7
    go_wp2_with fail
    refine (shown_any w HT.out).mono ?_
    rintro e w1 ⟨rfl, hB1⟩
    by_cases r1 : n < 0
    · go_wp2
      go_ret
      exact ⟨rfl, hB1⟩
    · by_cases r2 : 73048 < n
      · go_wp2
        go_ret
        exact ⟨rfl, hB1⟩
      · by_cases r3 : a < -100000
        · go_wp2
          go_ret
          exact ⟨rfl, hB1⟩
        · by_cases r4 : 100000 < a
          · go_wp2
            go_ret
            exact ⟨rfl, hB1⟩
          · by_cases r5 : b < -100000
            · go_wp2
              go_ret
              exact ⟨rfl, hB1⟩
            · have r6 : 100000 < b := by omega
              go_wp2
              go_ret
              exact ⟨rfl, hB1⟩
end Go.Proofs.YtdjncmcmplnnhaaDoor
