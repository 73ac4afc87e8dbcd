/- The walk of MacKeys. -/
import Derived.Test.YtcjhimakbopipaaDoorMTag
import Derived.Test.YtcjhimakbopipaaDoorMHexW
namespace Go.Proofs.YtcjhimakbopipaaDoor
open Go Go.RowKit

theorem kob_long {k : List UInt8} (h : 64 < k.length) : kob (sha k) = kob k := by
  have h1 : kob0 k = sha k := by unfold kob0; rw [if_pos h]
  have h2 : kob0 (sha k) = sha k := by unfold kob0; rw [if_neg (by rw [sha_len]; decide)]
  unfold kob; rw [h1, h2]
theorem kob_short {k : List UInt8} (h : k.length < 64) : kob (k ++ [0]) = kob k := by
  have h1 : kob0 k = k := by unfold kob0; rw [if_neg (by omega)]
  have h2 : kob0 (k ++ [0]) = k ++ [0] := by unfold kob0; rw [if_neg (by rw [List.length_append]; simp; omega)]
  unfold kob; rw [h1, h2, List.append_assoc]
  congr 1
  rw [List.length_append, show 64 - k.length = (64 - (k.length + [(0 : UInt8)].length)) + 1 by simp; omega, List.replicate_succ]
  rfl
theorem tag_long {k : List UInt8} (h : 64 < k.length) (l : List UInt8) : tag (sha k) l = tag k l := by unfold tag; rw [kob_long h]
theorem tag_short {k : List UInt8} (h : k.length < 64) (l : List UInt8) : tag (k ++ [0]) l = tag k l := by unfold tag; rw [kob_short h]
theorem tag1 (k l : List UInt8) (hk : k.length ≤ 140737488355328) (hl : l.length + 64 ≤ 140737488355328) (w : World) (hG : Glob w) :
    Calls Tryd.prog 13 #[.string ⟨k.toArray⟩, .slice (some ⟨w.heap.size, 0, none⟩) 1 1] (w.alloc (.cells #[.string ⟨l.toArray⟩] 9)) fun e w' => e = .returned (.string ⟨(tag k l).toArray⟩) ∧ Below w.heap.size w w' := by
  have hB := (Below.refl w.heap.size w).alloc (Nat.le_refl _) (.cells #[.string ⟨l.toArray⟩] 9)
  have h := tag_any k _ _ hk _ (hG.below hB (Nat.le_refl _)) (pts1 w ⟨l.toArray⟩ 9) (by simp) (by rw [allOf_one]; exact hl)
  rw [allOf_one] at h
  exact h.mono fun e w' ⟨h1, h2⟩ => ⟨h1, hB.trans (h2.mono hB.size)⟩
theorem sum1 (l : List UInt8) (hl : l.length ≤ 140737488355328) (w : World) (hG : Glob w) :
    Calls Tryd.prog 10 #[.slice (some ⟨w.heap.size, 0, none⟩) 1 1] (w.alloc (.cells #[.string ⟨l.toArray⟩] 9)) fun e w' => e = .returned (.string ⟨(sha l).toArray⟩) ∧ Below w.heap.size w w' := by
  have hB := (Below.refl w.heap.size w).alloc (Nat.le_refl _) (.cells #[.string ⟨l.toArray⟩] 9)
  have h := sum_any _ _ _ (hG.below hB (Nat.le_refl _)) (pts1 w ⟨l.toArray⟩ 9) (by simp) (by rw [allOf_one]; exact hl)
  rw [allOf_one] at h
  exact h.mono fun e w' ⟨h1, h2⟩ => ⟨h1, hB.trans (h2.mono hB.size)⟩
set_option maxHeartbeats 1000000 in
theorem macKeys_l (k l : List UInt8) (W : World) (ht : Glob W) (zk : k.length ≤ 140737488351232) (zl : l.length ≤ 140737488351232) :
    Calls Tryd.prog 8 #[.string ⟨k.toArray⟩, .string ⟨l.toArray⟩] W fun e w' => e = .returned (.bool true) ∧ Below W.heap.size W w' := by
  have HT := hidM ht
  have hsz : (⟨k.toArray⟩ : ByteArray).size = k.length := by simp [ByteArray.size]
  have H1 := hidM (fun w hG => tag1 k l (by omega) (by omega) w hG)
  clear ht
  by_cases h : 64 < k.length
  · have h' : (64 : Int) < k.length := by omega
    have hsl := sha_len k
    have h3 := fun w hG => tag1 (sha k) l (by omega) (by omega) w hG
    rw [tag_long h] at h3
    have H3 := hidM h3
    have H2 := hidM (fun w hG => sum1 k (by omega) w hG)
    clear h3
    generalize tag k l = t at *
    generalize sha k = s at *
    go_enter Tryd.func8, Tryd.ntmps8
    go_wp2_with fail
    refine (shown_any _ HT.out).mono ?_
    rintro e w1 ⟨rfl, hB1⟩
    have HB1 := hidM hB1
    clear hB1
    go_wp2_with fail
    refine (H1.out _ (HT.out.below HB1.out (Nat.le_refl _))).mono ?_
    rintro e w2 ⟨rfl, hB2⟩
    have HB2 := hidM (Below.next HB1.out hB2)
    clear hB2
    go_wp2_with fail
    refine (H2.out _ (HT.out.below HB2.out (Nat.le_refl _))).mono ?_
    rintro e w3 ⟨rfl, hB3⟩
    have HB3 := hidM (Below.next HB2.out hB3)
    clear hB3
    go_wp2_with fail
    refine (H3.out _ (HT.out.below HB3.out (Nat.le_refl _))).mono ?_
    rintro e w4 ⟨rfl, hB4⟩
    have HB4 := hidM (Below.next HB3.out hB4)
    clear hB4
    go_wp2
    go_ret
    exact ⟨by simp, HB4.out⟩
  · by_cases h64 : k.length = 64
    · have h' : ¬ (64 : Int) < k.length := by omega
      generalize tag k l = t at *
      go_enter Tryd.func8, Tryd.ntmps8
      go_wp2_with fail
      refine (shown_any _ HT.out).mono ?_
      rintro e w1 ⟨rfl, hB1⟩
      have HB1 := hidM hB1
      clear hB1
      go_wp2_with fail
      refine (H1.out _ (HT.out.below HB1.out (Nat.le_refl _))).mono ?_
      rintro e w2 ⟨rfl, hB2⟩
      have HB2 := hidM (Below.next HB1.out hB2)
      clear hB2
      go_wp2
      go_ret
      exact ⟨by simp, HB2.out⟩
    · have hlt : k.length < 64 := by omega
      have h' : ¬ (64 : Int) < k.length := by omega
      have h'' : ((k.length : Int) == 64) = false := by simp only [beq_eq_false_iff_ne, ne_eq]; omega
      have h3 := fun w hG => tag1 (k ++ [0]) l (by rw [List.length_append]; simp; omega) (by omega) w hG
      rw [tag_short hlt, ← str_add] at h3
      have H3 := hidM h3
      clear h3
      generalize tag k l = t at *
      go_enter Tryd.func8, Tryd.ntmps8
      go_wp2_with fail
      refine (shown_any _ HT.out).mono ?_
      rintro e w1 ⟨rfl, hB1⟩
      have HB1 := hidM hB1
      clear hB1
      go_wp2_with fail
      refine (H1.out _ (HT.out.below HB1.out (Nat.le_refl _))).mono ?_
      rintro e w2 ⟨rfl, hB2⟩
      have HB2 := hidM (Below.next HB1.out hB2)
      clear hB2
      go_wp2_with fail
      refine (H3.out _ (HT.out.below HB2.out (Nat.le_refl _))).mono ?_
      rintro e w3 ⟨rfl, hB3⟩
      have HB3 := hidM (Below.next HB2.out hB3)
      clear hB3
      go_wp2
      go_ret
      exact ⟨by simp, HB3.out⟩
theorem macKeys_walk (a b : ByteArray) (W : World) (ht : Glob W) (za : a.size ≤ 140737488351232) (zb : b.size ≤ 140737488351232) :
    Calls Tryd.prog 8 #[.string a, .string b] W fun e w' => e = .returned (.bool true) ∧ Below W.heap.size W w' := by
  have := macKeys_l a.data.toList b.data.toList W ht (by simpa using za) (by simpa using zb)
  rw [ba_eta, ba_eta] at this
  exact this
end Go.Proofs.YtcjhimakbopipaaDoor
