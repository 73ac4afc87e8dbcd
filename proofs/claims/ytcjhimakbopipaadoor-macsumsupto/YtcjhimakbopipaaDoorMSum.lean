/- Sum, and that the sum of three letters is what it is everywhere. -/
import Derived.Test.YtcjhimakbopipaaDoorMUnhex
import Derived.Test.YtcjhimakbopipaaDoorMAbc
namespace Go.Proofs.YtcjhimakbopipaaDoor
open Go Go.RowKit

theorem join_flat (xs : List (List UInt8)) : Lib.join xs [] = xs.flatten := by
  unfold Lib.join List.intercalate
  induction xs with
  | nil => rfl
  | cons x r ih =>
    cases r with
    | nil => rfl
    | cons y r => simp only [List.intersperse, List.flatten_cons, List.nil_append]; rw [ih]; rfl
/-- The bytes of parts. -/
def allOf (xs : List ByteArray) : List UInt8 := (xs.map (·.data.toList)).flatten
/-- Parts lie in memory. -/
def Pts (w : World) (v : Value) (xs : List ByteArray) : Prop :=
  ∃ a c, v = .slice a xs.length c ∧ xs.length ≤ c ∧ (xs ≠ [] → ∃ b o, a = some ⟨b, o, none⟩ ∧ ∀ (j : Nat) x, xs[j]? = some x → w.cell? ⟨b, o + j, none⟩ = some (.string x))
theorem Pts.below {B : Nat} {w w' : World} {v : Value} {xs : List ByteArray} (h : Pts w v xs) (hB : Below B w w') (hb : w.heap.size ≤ B) : Pts w' v xs := by
  obtain ⟨a, c, e, hc, h⟩ := h
  refine ⟨a, c, e, hc, fun hn => ?_⟩
  obtain ⟨b, o, e, hh⟩ := h hn
  refine ⟨b, o, e, fun j x hx => ?_⟩
  have := hh j x hx
  rw [hB.cell (p := ⟨b, o + j, none⟩) (Nat.lt_of_lt_of_le (World.block_lt_of_cell? w _ this) hb)]; exact this
theorem join_any (v : Value) (xs : List ByteArray) (w : World) (hp : Pts w v xs) (hn : xs.length ≤ 140737488355328) (hlen : (allOf xs).length ≤ 140737488355328) :
    Calls Tryd.prog 20 #[v, .string ⟨#[]⟩] w fun e w' => e = .returned (.string ⟨(allOf xs).toArray⟩) ∧ Below w.heap.size w w' := by
  obtain ⟨a, c, rfl, hc, h⟩ := hp
  cases xs with
  | nil => exact (Tryd.strings_Join_none a c ⟨#[]⟩ w).mono fun e w' ⟨h1, h2⟩ => ⟨h1, by rw [h2]; exact Below.refl _ _⟩
  | cons x r =>
    obtain ⟨b, o, rfl, hh⟩ := h (by simp)
    have hb : b < w.heap.size := World.block_lt_of_cell? w _ (hh 0 x rfl)
    have hj : Lib.join ((x :: r).map (·.data.toList)) (⟨#[]⟩ : ByteArray).data.toList = allOf (x :: r) := join_flat _
    have := Tryd.strings_Join b o c (x :: r) ⟨#[]⟩ w hh hb hn hc (by rw [hj]; exact hlen)
    rw [hj] at this
    exact this
set_option maxHeartbeats 400000 in
theorem sum_any (v : Value) (xs : List ByteArray) (w : World) (hG : Glob w) (hp : Pts w v xs) (hn : xs.length ≤ 140737488355328) (hlen : (allOf xs).length ≤ 140737488355328) :
    Calls Tryd.prog 10 #[v] w fun e w' => e = .returned (.string ⟨(sha (allOf xs)).toArray⟩) ∧ Below w.heap.size w w' := by
  have HJ := hidM (join_any v xs w hp hn hlen)
  have HG := hidM hG
  have HL := hidM hlen
  clear hG hp hlen hn
  go_enter Tryd.func10, Tryd.ntmps10
  go_wp2_with fail
  refine HJ.out.mono ?_
  rintro e w1 ⟨rfl, hB1⟩
  have HB1 := hidM hB1
  clear hB1
  go_wp2_with fail
  refine (shaOf_any (allOf xs) (by have := HL.out; omega) w1 (HG.out.below HB1.out (Nat.le_refl _))).mono ?_
  rintro e w2 ⟨rfl, hB2⟩
  have HB2 := hidM hB2
  clear hB2
  go_wp2
  go_ret
  exact ⟨rfl, Below.next HB1.out HB2.out⟩
theorem pts1 (w : World) (s : ByteArray) (t : TypeId) : Pts (w.alloc (.cells #[.string s] t)) (.slice (some ⟨w.heap.size, 0, none⟩) 1 1) [s] :=
  ⟨_, _, rfl, Nat.le_refl _, fun _ => ⟨_, _, rfl, fun j x hx => by
    rw [Nat.zero_add]
    refine cell_at (heap_alloc_last w _) j ?_
    cases j with
    | zero => cases hx; rfl
    | succ j => simp at hx⟩⟩
theorem pts2 (w : World) (s r : ByteArray) (t : TypeId) : Pts (w.alloc (.cells #[.string s, .string r] t)) (.slice (some ⟨w.heap.size, 0, none⟩) 2 2) [s, r] :=
  ⟨_, _, rfl, Nat.le_refl _, fun _ => ⟨_, _, rfl, fun j x hx => by
    rw [Nat.zero_add]
    refine cell_at (heap_alloc_last w _) j ?_
    cases j with
    | zero => cases hx; rfl
    | succ j =>
      cases j with
      | zero => cases hx; rfl
      | succ j => simp at hx⟩⟩
theorem allOf_one (l : List UInt8) : allOf [⟨l.toArray⟩] = l := by simp [allOf]
theorem allOf_two (l m : List UInt8) : allOf [⟨l.toArray⟩, ⟨m.toArray⟩] = l ++ m := by simp [allOf]
theorem abc_hex : hexs (sha [97, 98, 99]) = [98, 97, 55, 56, 49, 54, 98, 102, 56, 102, 48, 49, 99, 102, 101, 97, 52, 49, 52, 49, 52, 48, 100, 101, 53, 100, 97, 101, 50, 50, 50, 51, 98, 48, 48, 51, 54, 49, 97, 51, 57, 54, 49, 55, 55, 97, 57, 99, 98, 52, 49, 48, 102, 102, 54, 49, 102, 50, 48, 48, 49, 53, 97, 100] := by
  rw [sha_abc]; kernel_rfl
set_option maxHeartbeats 400000 in
theorem shown_any (w : World) (hG : Glob w) : Calls Tryd.prog 9 #[] w fun e w' => e = .returned (.bool true) ∧ Below w.heap.size w w' := by
  have hp := pts1 w ⟨[97, 98, 99].toArray⟩ 9
  have hB0 := (Below.refl w.heap.size w).alloc (Nat.le_refl _) (.cells #[.string ⟨[97, 98, 99].toArray⟩] 9)
  have hs := sum_any _ _ _ (hG.below hB0 (Nat.le_refl _)) hp (by decide) (by rw [allOf_one]; decide)
  rw [allOf_one] at hs
  have HB0 := hidM hB0
  have HS := hidM hs
  clear hp hB0 hs hG
  go_enter Tryd.func9, Tryd.ntmps9
  go_wp2_with fail
  refine HS.out.mono ?_
  rintro e w1 ⟨rfl, hB1⟩
  have HB1 := hidM hB1
  clear hB1
  have hl := sha_len [97, 98, 99]
  have HA := hidM abc_hex
  generalize sha [97, 98, 99] = s at *
  go_wp2_with fail
  refine (hex_any s (by omega) w1).mono ?_
  rintro e w2 ⟨rfl, hB2⟩
  rw [HA.out]
  have HB2 := hidM hB2
  clear hB2
  go_wp2
  go_ret
  exact ⟨rfl, Below.next (Below.next HB0.out HB1.out) HB2.out⟩
end Go.Proofs.YtcjhimakbopipaaDoor
