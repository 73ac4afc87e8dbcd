/- The walks of MacSums and MacTags. -/
import Derived.Test.YtcjhimakbopipaaDoorMStrs
import Derived.Test.YtcjhimakbopipaaDoorMRefG
namespace Go.Proofs.YtcjhimakbopipaaDoor
open Go Go.RowKit

theorem conv32 {w : World} {p : Nat} {l : List UInt8} (h : Rd w p 0 l) (hl : l.length = 32) : (convert 25 9 (.slice (some ⟨p, 0, none⟩) 32 32)).run Tryd.prog w = .ok (.string ⟨l.toArray⟩) w := by
  have := conv_sl (Sl.mk (cap := 32) h (by omega))
  rw [hl] at this
  exact this
set_option maxHeartbeats 1000000 in
theorem macSums_l (v : Value) (xs : List ByteArray) (W : World) (ht : Glob W) (hp : Pts W v xs) (hn : xs.length ≤ 1048576) (hlen : (allOf xs).length ≤ 1048576) :
    Calls Tryd.prog 3 #[v] W fun e w' => e = .returned (.bool true) ∧ Below W.heap.size W w' := by
  have HT := hidM ht
  have HP := hidM hp
  have H1 := hidM (fun w hp => joined_any v xs w hp hn hlen)
  have H2 := hidM (fun w hG hp => sum_any v xs w hG hp (by omega) (by omega))
  have H3 := hidM (fun g c w hr hg => refSum_any (allOf xs) g c (by omega) w hr hg)
  have HL := hidM (sha_len (allOf xs))
  clear ht hp
  generalize sha (allOf xs) = s at *
  generalize allOf xs = al at *
  go_enter Tryd.func3, Tryd.ntmps3
  go_wp2_with fail
  refine (shown_any _ HT.out).mono ?_
  rintro e w1 ⟨rfl, hB1⟩
  have HB1 := hidM hB1
  clear hB1
  go_wp2_with fail
  refine (H2.out _ (HT.out.below HB1.out (Nat.le_refl _)) (HP.out.below HB1.out (Nat.le_refl _))).mono ?_
  rintro e w2 ⟨rfl, hB2⟩
  have HB2 := hidM (Below.next HB1.out hB2)
  clear hB2
  go_wp2_with fail
  refine (H1.out _ (HP.out.below HB2.out (Nat.le_refl _))).mono ?_
  rintro e w3 ⟨rfl, hB3⟩
  have HB3 := hidM (Below.next HB2.out hB3)
  clear hB3
  obtain ⟨w4, cp, hcv, hR4, hs4, hB4⟩ := conv_any w3 al
  have HB4 := hidM (Below.next HB3.out hB4)
  have HR4 := hidM hR4
  have HS4 := hidM hs4
  clear hR4 hs4 hB4
  go_wp2_with fail
  refine (H3.out _ _ _ HR4.out HS4.out).mono ?_
  rintro e w5 ⟨p, rfl, hR5, hp5, hB5⟩
  have HB5 := hidM (Below.next HB4.out hB5)
  have hcv2 := conv32 hR5 HL.out
  clear hB5 hcv hR5 hp5
  go_wp2
  go_ret
  exact ⟨by simp, HB5.out⟩
set_option maxHeartbeats 1000000 in
theorem macTags_l (k : List UInt8) (v : Value) (xs : List ByteArray) (W : World) (ht : Glob W) (zk : k.length ≤ 140737488351232) (hp : Pts W v xs) (hn : xs.length ≤ 1048576) (hlen : (allOf xs).length ≤ 1048576) :
    Calls Tryd.prog 4 #[.string ⟨k.toArray⟩, v] W fun e w' => e = .returned (.bool true) ∧ Below W.heap.size W w' := by
  have HT := hidM ht
  have HP := hidM hp
  have H1 := hidM (fun w hp => joined_any v xs w hp hn hlen)
  have H2 := hidM (fun w hG hp => tag_any k v xs (by omega) w hG hp (by omega) (by omega))
  have H3 := hidM (fun g c w hr hg => refTag_any k (allOf xs) g c (by omega) (by omega) w hr hg)
  have HL := hidM (tag_len k (allOf xs))
  clear ht hp
  generalize tag k (allOf xs) = s at *
  generalize allOf xs = al at *
  go_enter Tryd.func4, Tryd.ntmps4
  go_wp2_with fail
  refine (shown_any _ HT.out).mono ?_
  rintro e w1 ⟨rfl, hB1⟩
  have HB1 := hidM hB1
  clear hB1
  go_wp2_with fail
  refine (H2.out _ (HT.out.below HB1.out (Nat.le_refl _)) (HP.out.below HB1.out (Nat.le_refl _))).mono ?_
  rintro e w2 ⟨rfl, hB2⟩
  have HB2 := hidM (Below.next HB1.out hB2)
  clear hB2
  go_wp2_with fail
  refine (H1.out _ (HP.out.below HB2.out (Nat.le_refl _))).mono ?_
  rintro e w3 ⟨rfl, hB3⟩
  have HB3 := hidM (Below.next HB2.out hB3)
  clear hB3
  obtain ⟨w4, cp, hcv, hR4, hs4, hB4⟩ := conv_any w3 al
  have HB4 := hidM (Below.next HB3.out hB4)
  have HR4 := hidM hR4
  have HS4 := hidM hs4
  clear hR4 hs4 hB4
  go_wp2_with fail
  refine (H3.out _ _ _ HR4.out HS4.out).mono ?_
  rintro e w5 ⟨p, rfl, hR5, hp5, hB5⟩
  have HB5 := hidM (Below.next HB4.out hB5)
  have hcv2 := conv32 hR5 HL.out
  clear hB5 hcv hR5 hp5
  go_wp2
  go_ret
  exact ⟨by simp, HB5.out⟩
theorem macSums_walk (a0 : Option Addr) (l0 : List ByteArray) (cap0 : Nat) (W : World) (ht : Glob W) (s0 : Pts W (.slice a0 l0.length cap0) l0) (hup : l0.length + (allOf l0).length ≤ 1048576) :
    Calls Tryd.prog 3 #[.slice a0 l0.length cap0] W fun e w' => e = .returned (.bool true) ∧ Below W.heap.size W w' :=
  macSums_l _ l0 W ht s0 (by omega) (by omega)
theorem macTags_walk (a0 : ByteArray) (a1 : Option Addr) (l1 : List ByteArray) (cap1 : Nat) (W : World) (ht : Glob W) (z0 : a0.size ≤ 140737488351232) (s1 : Pts W (.slice a1 l1.length cap1) l1) (hup : a0.data.size + (l1.length + (allOf l1).length) ≤ 1048576) :
    Calls Tryd.prog 4 #[.string a0, .slice a1 l1.length cap1] W fun e w' => e = .returned (.bool true) ∧ Below W.heap.size W w' := by
  have := macTags_l a0.data.toList _ l1 W ht (by simpa using z0) s1 (by omega) (by omega)
  rw [ba_eta] at this
  exact this
end Go.Proofs.YtcjhimakbopipaaDoor
