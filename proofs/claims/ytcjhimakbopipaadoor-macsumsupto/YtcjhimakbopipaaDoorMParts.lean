/- Texts, one behind the other, as the law joins them; the walk of MacParts. -/
import Derived.Test.YtcjhimakbopipaaDoorMKeysW
import Derived.Lib.AppendStr
namespace Go.Proofs.YtcjhimakbopipaaDoor
open Go Go.RowKit

theorem allOf_take (xs : List ByteArray) (k : Nat) (hk : k < xs.length) : allOf (xs.take (k + 1)) = allOf (xs.take k) ++ xs[k].data.toList := by
  rw [List.take_add_one, List.getElem?_eq_getElem hk, Option.toList_some]
  unfold allOf
  rw [List.map_append, List.flatten_append]
  simp only [List.map_cons, List.map_nil, List.flatten_cons, List.flatten_nil, List.append_nil]
theorem allOf_take_le (xs : List ByteArray) (k : Nat) : (allOf (xs.take k)).length ≤ (allOf xs).length := by
  have h : allOf xs = allOf (xs.take k) ++ allOf (xs.drop k) := by
    unfold allOf; rw [← List.flatten_append, ← List.map_append, List.take_append_drop]
  rw [h, List.length_append]; omega
theorem owns_slM {w : World} {B : Nat} {v : Value} {l : List UInt8} (h : w.ownsRow B 5 1 v l.length (cells8 l)) : Sl w v l := by
  rcases h.2 with ⟨rfl, hn⟩ | ⟨g, cap, cur, rfl, _⟩
  · have : l = [] := List.eq_nil_of_length_eq_zero (by omega)
    subst this; exact Sl.nil w
  · exact owns_sl h
set_option maxHeartbeats 1000000 in
theorem joined_any (v : Value) (xs : List ByteArray) (w : World) (hp : Pts w v xs) (hn : xs.length ≤ 1048576) (hlen : (allOf xs).length ≤ 1048576) :
    Calls Tryd.prog 12 #[v] w fun e w' => e = .returned (.string ⟨(allOf xs).toArray⟩) ∧ Below w.heap.size w w' := by
  obtain ⟨i0, hi0, hz0, hz1, hz2⟩ := info_parts info8
  obtain ⟨a, c, rfl, hc, hp⟩ := hp
  have HP := hidM hp
  clear hp
  go_enter Tryd.func12, Tryd.ntmps12
  go_wp2_with fail
  go_loopw [4, 3] (fun x b wr => ∃ k : Nat, k ≤ xs.length ∧ x = .int .i64 k ∧ wr.ownsRow w.heap.size 5 1 b (allOf (xs.take k)).length (cells8 (allOf (xs.take k))) ∧ Below w.heap.size w wr) (fun x _ _ => xs.length - (intOf x).toNat)
  case atStart => exact ⟨0, Nat.zero_le _, rfl, World.ownsRow_nil _ _ _ _, Below.refl _ _⟩
  case round =>
    obtain ⟨k, hk, rfl, hO, hB⟩ := hrel
    by_cases hlt : k < xs.length
    · have hlt' : (k : Int) < (xs.length : Int) := by omega
      have hwk : IntKind.i64.wrap ((k : Int) + 1) = ((k + 1 : Nat) : Int) := by rw [IntWalk.i64_in _ ⟨by omega, by omega⟩]; omega
      obtain ⟨b, o, rfl, hcl⟩ := HP.out (by intro e; rw [e] at hlt; simp at hlt)
      have hcell := hcl k xs[k] (List.getElem?_eq_getElem hlt)
      have hcell' : wr.cell? ⟨b, o + k, none⟩ = some (.string xs[k]) := by
        rw [hB.cell (p := ⟨b, o + k, none⟩) (World.block_lt_of_cell? w _ hcell)]; exact hcell
      have hst := allOf_take xs k hlt
      have hle := allOf_take_le xs (k + 1)
      rw [hst, List.length_append] at hle
      have hts : xs[k].data.toList.length = xs[k].data.size := Array.length_toList
      have hle' : (allOf (xs.take k)).length + xs[k].size ≤ 1048576 := by show _ + xs[k].data.size ≤ _; omega
      have hsz := hB.size
      have HST := hidM hst
      have HO := hidM hO
      clear hst hcl hcell hO hle hts
      generalize xs[k] = s at *
      go_wp2_with (at_builtin; refine Lib.wpList_append_own_string _ rfl _ _ 25 9 rfl w.heap.size 5 i0 Tryd.underlying25 Tryd.underlying9 hi0 hz0 hz1 hz2 _ _ _ rfl HO.out s rfl (by unfold maxLen; omega) (by omega) hsz ?_; intro v2 w2 ho2 hg2 hn2)
      go_roundw
      case rel =>
        rw [cells8_str, cells8_append, ← HST.out] at ho2
        have hl2 : (allOf (xs.take k)).length + s.size = (allOf (xs.take (k + 1))).length := by rw [HST.out, List.length_append, Array.length_toList]; rfl
        rw [hl2] at ho2
        exact ⟨k + 1, by omega, by go_num, ho2, hB.grown hg2 hsz (fun k hk => (HO.out.lt k hk).1)⟩
      case measure => simp [intOf]; omega
    · have hkl : k = xs.length := by omega
      subst hkl
      rw [List.take_of_length_le (Nat.le_refl _)] at hO
      have hcv := conv_sl (owns_slM hO)
      have HB := hidM hB
      clear hO hB
      go_wp2
      go_ret
      exact ⟨rfl, HB.out⟩
set_option maxHeartbeats 1000000 in
theorem macParts_l (k : List UInt8) (v : Value) (xs : List ByteArray) (W : World) (ht : Glob W) (zk : k.length ≤ 140737488351232) (hp : Pts W v xs) (hn : xs.length ≤ 1048576) (hlen : (allOf xs).length ≤ 1048576) :
    Calls Tryd.prog 6 #[.string ⟨k.toArray⟩, v] W fun e w' => e = .returned (.bool true) ∧ Below W.heap.size W w' := by
  have HT := hidM ht
  have HP := hidM hp
  have hl1 := sha_len (allOf xs)
  have hl2 := tag_len k (allOf xs)
  have hz1 : (⟨(sha (allOf xs)).toArray⟩ : ByteArray).size = 32 := by simp [ByteArray.size, hl1]
  have hz2 : (⟨(tag k (allOf xs)).toArray⟩ : ByteArray).size = 32 := by simp [ByteArray.size, hl2]
  have H1 := hidM (fun w hp => joined_any v xs w hp hn hlen)
  have H2 := hidM (fun w hG hp => sum_any v xs w hG hp (by omega) (by omega))
  have H3 := hidM (fun w hG hp => tag_any k v xs (by omega) w hG hp (by omega) (by omega))
  have H4 := hidM (fun w hG => sum1 (allOf xs) (by omega) w hG)
  have H5 := hidM (fun w hG => tag1 k (allOf xs) (by omega) (by omega) w hG)
  clear ht hp hl1 hl2
  generalize tag k (allOf xs) = t at *
  generalize sha (allOf xs) = s at *
  generalize allOf xs = al at *
  go_enter Tryd.func6, Tryd.ntmps6
  go_wp2_with fail
  refine (shown_any _ HT.out).mono ?_
  rintro e w1 ⟨rfl, hB1⟩
  have HB1 := hidM hB1
  clear hB1
  go_wp2_with fail
  refine (H1.out _ (HP.out.below HB1.out (Nat.le_refl _))).mono ?_
  rintro e w2 ⟨rfl, hB2⟩
  have HB2 := hidM (Below.next HB1.out hB2)
  clear hB2
  go_wp2_with fail
  refine (H2.out _ (HT.out.below HB2.out (Nat.le_refl _)) (HP.out.below HB2.out (Nat.le_refl _))).mono ?_
  rintro e w3 ⟨rfl, hB3⟩
  have HB3 := hidM (Below.next HB2.out hB3)
  clear hB3
  go_wp2_with fail
  refine (H3.out _ (HT.out.below HB3.out (Nat.le_refl _)) (HP.out.below HB3.out (Nat.le_refl _))).mono ?_
  rintro e w4 ⟨rfl, hB4⟩
  have HB4 := hidM (Below.next HB3.out hB4)
  clear hB4
  go_wp2_with fail
  refine (H4.out _ (HT.out.below HB4.out (Nat.le_refl _))).mono ?_
  rintro e w5 ⟨rfl, hB5⟩
  have HB5 := hidM (Below.next HB4.out hB5)
  clear hB5
  go_wp2_with fail
  refine (H5.out _ (HT.out.below HB5.out (Nat.le_refl _))).mono ?_
  rintro e w6 ⟨rfl, hB6⟩
  have HB6 := hidM (Below.next HB5.out hB6)
  clear hB6
  go_wp2
  go_ret
  exact ⟨by simp, HB6.out⟩
end Go.Proofs.YtcjhimakbopipaaDoor
