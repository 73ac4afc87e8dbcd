/- The walk of WireShort. -/
import Derived.Test.YtlddkbmfkipmpabDoorWShortMath
namespace Go.Proofs.YtlddkbmfkipmpabDoor
open Go Go.RowKit

set_option maxRecDepth 100000 in
set_option maxHeartbeats 4000000 in
theorem wireShort_walk (n : Int) (s : ByteArray) (cut : Int) (w : World) (ht : Tab w) (n0 : -9223372036854775808 ≤ n) (n1 : n ≤ 9223372036854775807) (hs : s.size ≤ 140737488351232) (c0 : -9223372036854775808 ≤ cut) (c1 : cut ≤ 9223372036854775807) :
    Calls Tryd.prog 3 #[.int .i64 n, .string s, .int .i64 cut] w fun e w' => e = .returned (.bool true) ∧ Below w.heap.size w w' := by
  have HT := hid ht
  have hss : s.data.toList.length = s.size := by rw [Array.length_toList]; rfl
  have hks : (kt s.data.toList).length ≤ 2 * s.size + 2 := by have := kt_len_le s.data.toList; rw [hss] at this; exact this
  have hksp : 0 < (kt s.data.toList).length := by rw [kt_len]; omega
  have hvl := zvb_len n0 n1
  have hvp := vb_pos (zig n)
  have hvl2 := zvb_len (n := (s.size : Int)) (by omega) (by omega)
  have hvp2 := vb_pos (zig s.size)
  have HSS := hid hss
  clear ht hss
  obtain ⟨c, hc⟩ : ∃ c : Nat, cut < 0 ∧ -(cut + 1) = (c : Int) ∨ ¬ cut < 0 ∧ cut = (c : Int) := by
    by_cases h : cut < 0
    · exact ⟨(-(cut + 1)).toNat, .inl ⟨h, by omega⟩⟩
    · exact ⟨cut.toNat, .inr ⟨h, by omega⟩⟩
  have hcb : (c : Int) ≤ 9223372036854775807 := by omega
  go_enter Tryd.func3, Tryd.ntmps3
  go_wp2_with fail
  refine (shown_any w HT.out).mono ?_
  rintro e w1 ⟨rfl, hB1⟩
  rcases hc with ⟨hc1, hc2⟩ | ⟨hc1, hc2⟩
  all_goals
    have HC2 := hid hc2
    clear hc2
    go_wp2_with fail
    first | rw [HC2.out] | skip
    refine (putInt_v _ [] n w1 (Sl.nil w1) n0 n1 (by simp)).mono ?_
    rintro e w2 ⟨v2, rfl, hs2, hB2⟩
    rw [List.nil_append] at hs2
    have hB2 := Below.next hB1 hB2
    clear hB1
    generalize hLA : vb (zig n) = LA at hs2 hvl hvp
    have HLA := hid hLA
    clear hLA
    go_wp2_with fail
    refine (putText_v _ [] s w2 (Sl.nil w2) (by simp; omega)).mono ?_
    rintro e w3 ⟨v3, rfl, hs3, hB3⟩
    rw [List.nil_append] at hs3
    have hs2 := hs2.below hB3
    have hB3 := Below.next hB2 hB3
    clear hB2
    generalize hLB : vb (zig s.size) ++ s.data.toList = LB at hs3
    have hLBl : LB.length = (vb (zig s.size)).length + s.size := by rw [← hLB, List.length_append, HSS.out]
    have HLB := hid hLB
    clear hLB
    have hLBp : 0 < LB.length := by omega
    have hLBb : LB.length ≤ 281474976710656 := by omega
    have HLBl := hid hLBl
    clear hLBl hvl2 hvp2
    go_wp2_with fail
    refine (keyInt_v _ [] n w3 (Sl.nil w3) n0 n1 (by simp)).mono ?_
    rintro e w4 ⟨v4, rfl, hs4, hB4⟩
    rw [List.nil_append] at hs4
    have hs2 := hs2.below hB4
    have hs3 := hs3.below hB4
    have hB4 := Below.next hB3 hB4
    clear hB3
    have hLCl := kb_len n
    generalize hLC : kb n = LC at hs4 hLCl
    have HLC := hid hLC
    clear hLC
    have hLCp : 0 < LC.length := by omega
    have hLCb : LC.length ≤ 281474976710656 := by omega
    clear hLCl
    go_wp2_with fail
    refine (keyText_v _ [] s w4 (Sl.nil w4) (by simp; omega)).mono ?_
    rintro e w5 ⟨v5, rfl, hs5, hB5⟩
    rw [List.nil_append] at hs5
    have hs2 := hs2.below hB5
    have hs3 := hs3.below hB5
    have hs4 := hs4.below hB5
    have hB5 := Below.next hB4 hB5
    clear hB4
    generalize hLD : kt s.data.toList = LD at hs5 hks hksp
    have HLD := hid hLD
    clear hLD
    have hLDb : LD.length ≤ 281474976710656 := by omega
    have HS2 := hid hs2
    have HS3 := hid hs3
    have HS4 := hid hs4
    have HS5 := hid hs5
    obtain ⟨a2, cap2, rfl, q2, -, -⟩ := hs2
    obtain ⟨a3, cap3, rfl, q3, -, -⟩ := hs3
    obtain ⟨a4, cap4, rfl, q4, -, -⟩ := hs4
    obtain ⟨a5, cap5, rfl, q5, -, -⟩ := hs5
    have z2 : ((LA.length : Int) == 0) = false := by simp only [beq_eq_false_iff_ne, ne_eq]; omega
    have z3 : ((LB.length : Int) == 0) = false := by simp only [beq_eq_false_iff_ne, ne_eq]; omega
    have z4 : ((LC.length : Int) == 0) = false := by simp only [beq_eq_false_iff_ne, ne_eq]; omega
    have z5 : ((LD.length : Int) == 0) = false := by simp only [beq_eq_false_iff_ne, ne_eq]; omega
    have m2a : 0 ≤ (c : Int) % (LA.length : Int) := Int.emod_nonneg _ (by omega)
    have m2b : (c : Int) % (LA.length : Int) < (LA.length : Int) := Int.emod_lt_of_pos _ (by omega)
    have m2c : (c : Int) % (LA.length : Int) ≤ (cap2 : Int) := by omega
    have m3a : 0 ≤ (c : Int) % (LB.length : Int) := Int.emod_nonneg _ (by omega)
    have m3b : (c : Int) % (LB.length : Int) < (LB.length : Int) := Int.emod_lt_of_pos _ (by omega)
    have m3c : (c : Int) % (LB.length : Int) ≤ (cap3 : Int) := by omega
    have m4a : 0 ≤ (c : Int) % (LC.length : Int) := Int.emod_nonneg _ (by omega)
    have m4b : (c : Int) % (LC.length : Int) < (LC.length : Int) := Int.emod_lt_of_pos _ (by omega)
    have m4c : (c : Int) % (LC.length : Int) ≤ (cap4 : Int) := by omega
    have m5a : 0 ≤ (c : Int) % (LD.length : Int) := Int.emod_nonneg _ (by omega)
    have m5b : (c : Int) % (LD.length : Int) < (LD.length : Int) := Int.emod_lt_of_pos _ (by omega)
    have m5c : (c : Int) % (LD.length : Int) ≤ (cap5 : Int) := by omega
    have n2 : c % LA.length < LA.length := Nat.mod_lt _ hvp
    have n3 : c % LB.length < LB.length := Nat.mod_lt _ hLBp
    have n4 : c % LC.length < LC.length := Nat.mod_lt _ hLCp
    have n5 : c % LD.length < LD.length := Nat.mod_lt _ hksp
    have E2 : Hid (tInt (LA.take (c % LA.length)) 0 = none) := by
      show _ = _
      rw [← HLA.out] at n2 ⊢
      exact tInt_short n0 n1 n2
    have E3 : Hid (tText (LB.take (c % LB.length)) 0 (s.size : Int) = none) := by
      show _ = _
      rw [← HLB.out, ← HSS.out] at n3 ⊢
      exact tText_short s.data.toList (by rw [HSS.out]; exact hs) _ n3
    have E4 : Hid (tKI (LC.take (c % LC.length)) 0 = none) := by
      show _ = _
      rw [← HLC.out] at n4 ⊢
      exact tKI_short n4
    have E5 : Hid (tKT (LD.take (c % LD.length)) 0 = none) := by
      show _ = _
      rw [← HLD.out] at n5 ⊢
      exact tKT_short n5
    have E6 : Hid (tText LB 0 ((s.size : Int) - 1) = none) := by
      show _ = _
      rw [← HLB.out, ← HSS.out]
      exact tText_less s.data.toList (by rw [HSS.out]; exact hs)
    have E7 : Hid (tInt LA (LA.length : Int) = none) := tInt_end LA
    have K5 : kcnt ((LD.take (c % LD.length)).drop (0 : Int).toNat) ≤ 140737488355328 := by
      show kcnt (LD.take (c % LD.length)) ≤ _
      rw [← HLD.out]
      have := kcnt_take s.data.toList (c % (kt s.data.toList).length)
      rw [HSS.out] at this
      omega
    have HK5 := hid K5
    clear K5
    go_wp2_with fail
    refine (takeInt_v (.slice a2 (c % LA.length) cap2) (LA.take (c % LA.length)) 0 w5 (HS2.out.take _ (by omega)) (by rw [List.length_take]; omega)).mono ?_
    rintro e w5 ⟨rfl, rfl⟩
    rw [E2.out]
    unfold outI tri
    go_wp2_with fail
    refine (takeText_v (.slice a3 (c % LB.length) cap3) (LB.take (c % LB.length)) 0 (s.size : Int) w5 (HS3.out.take _ (by omega)) (by rw [List.length_take]; omega)).mono ?_
    rintro e w5 ⟨rfl, rfl⟩
    rw [E3.out]
    unfold outS triS
    go_wp2_with fail
    refine (takeKeyInt_v (.slice a4 (c % LC.length) cap4) (LC.take (c % LC.length)) 0 w5 (HS4.out.take _ (by omega)) (by rw [List.length_take]; omega)).mono ?_
    rintro e w5 ⟨rfl, rfl⟩
    rw [E4.out]
    unfold outI tri
    go_wp2_with fail
    refine (takeKeyText_v (.slice a5 (c % LD.length) cap5) (LD.take (c % LD.length)) 0 w5 (HS5.out.take _ (by omega)) (by rw [List.length_take]; omega) HK5.out).mono ?_
    rintro e w6 ⟨rfl, hB6⟩
    rw [E5.out]
    unfold outS triS
    have HS2' := hid (HS2.out.below hB6)
    have HS3' := hid (HS3.out.below hB6)
    have hB6 := Below.next hB5 hB6
    go_wp2_with fail
    refine (takeText_v (.slice a3 LB.length cap3) LB 0 ((s.size : Int) - 1) w6 HS3'.out hLBb).mono ?_
    rintro e w6 ⟨rfl, rfl⟩
    rw [E6.out]
    unfold outS triS
    go_wp2_with fail
    refine (takeInt_v (.slice a2 LA.length cap2) LA (LA.length : Int) w6 HS2'.out (by omega)).mono ?_
    rintro e w6 ⟨rfl, rfl⟩
    rw [E7.out]
    unfold outI tri
    go_wp2
    go_ret
    exact ⟨rfl, hB6⟩
end Go.Proofs.YtlddkbmfkipmpabDoor
