/- The laws' own small functions: pick, of. -/
import Derived.Test.YtkfomolglangdaaKState
namespace Go.Proofs.Ytkfomolglangdaa
open Go Go.RowKit

/-- Which of n things the number speaks of. -/
def pk (c : Int) (n : Nat) : Nat := ((if c < 0 then -(c + 1) else c) % (n : Int)).toNat
theorem pk_lt (c : Int) {n : Nat} (h : n ≠ 0) : pk c n < n := by
  unfold pk
  have h1 := Int.emod_nonneg (if c < 0 then -(c + 1) else c) (show (n : Int) ≠ 0 by omega)
  have h2 := Int.emod_lt_of_pos (if c < 0 then -(c + 1) else c) (show (0 : Int) < n by omega)
  omega

theorem ret_intK {k : IntKind} {a b : Int} (h : a = b) : Ending.returned (.int k a) = .returned (.int k b) := by rw [h]
set_option maxHeartbeats 400000 in
theorem pick_any (c : Int) (n : Nat) (h0 : -9223372036854775808 ≤ c) (h1 : c ≤ 9223372036854775807) (hn : n ≠ 0) (w : World) :
    Calls Try.prog 18 #[.int .i64 c, .int .i64 n] w fun e w' => e = .returned (.int .i64 (pk c n : Nat)) ∧ w' = w := by
  have fin : ∀ d : Int, (if c < 0 then -(c + 1) else c) = d → ((pk c n : Nat) : Int) = d % (n : Int) := fun d hd => by
    unfold pk; rw [hd]
    have := Int.emod_nonneg d (show (n : Int) ≠ 0 by omega)
    omega
  have hnz : ((n : Int) == 0) = false := by rw [beq_eq_false_iff_ne]; omega
  by_cases hc : c < 0
  · obtain ⟨d, hd, hd0, hd1⟩ : ∃ d : Int, c = -d ∧ 1 ≤ d ∧ d ≤ 9223372036854775808 := ⟨-c, by omega, by omega, by omega⟩
    have hf := fin (d - 1) (by rw [if_pos hc]; omega)
    rw [hf]
    clear fin hf
    go_enter Try.func18, Try.ntmps18
    go_wp2
    go_ret
    refine ⟨ret_intK ?_, rfl⟩
    have e : -d + 1 = -(d - 1) := by omega
    rw [e, Int.neg_tmod, Int.neg_neg, Int.tmod_eq_emod_of_nonneg (by omega)]
  · have hf := fin c (by rw [if_neg hc])
    rw [hf]
    clear fin hf
    go_enter Try.func18, Try.ntmps18
    go_wp2
    go_ret
    exact ⟨rfl, rfl⟩

/-- A sector of a byte, when k bytes of it are laid. -/
def ofc (c : UInt8) (k : Nat) : List Value := List.replicate k (cb c) ++ List.replicate (128 - k) (.int .u8 0)
theorem ofc_len (c : UInt8) (k : Nat) (h : k ≤ 128) : (ofc c k).length = 128 := by simp [ofc]; omega
theorem ofc_step (c : UInt8) (k : Nat) (h : k < 128) : (ofc c k).toArray.setIfInBounds k (cb c) = (ofc c (k + 1)).toArray := by
  have e : 128 - k = (128 - (k + 1)) + 1 := by omega
  simp only [ofc, List.setIfInBounds_toArray]
  rw [List.set_append_right _ _ (by simp), List.length_replicate, Nat.sub_self, e, List.replicate_succ, List.set_cons_zero, List.replicate_succ' (n := k), List.append_assoc]
  rfl
theorem ofc_get (c : UInt8) (k : Nat) (h : k < 128) : (ofc c k).toArray[k]? = some (.int .u8 0) := by
  rw [List.getElem?_toArray, ofc, List.getElem?_append_right (by simp), List.length_replicate, Nat.sub_self, List.getElem?_replicate, if_pos (by omega)]
theorem ofc_full (c : UInt8) : ofc c 128 = cells8 (List.replicate 128 c) := by simp [ofc, cells8]

/-- A new sector's bytes. -/
def Byt (w : World) (v : Value) (l : List UInt8) : Prop := ∃ g, v = .slice (some ⟨g, 0, none⟩) 128 128 ∧ l.length = 128 ∧ w.heap[g]? = some (.cells (cells8 l).toArray 5 (0, 0))
theorem Byt.sl {w : World} {v : Value} {l : List UInt8} (h : Byt w v l) : Sl w v l := by
  obtain ⟨g, rfl, hl, hg⟩ := h
  have := Sl.mk (w := w) (b := g) (off := 0) (cap := 128) (l := l) (fun k hk => by
    rw [Nat.zero_add]
    exact cell_at hg k (by rw [List.getElem?_toArray]; exact cells8_get _ k hk)) (by omega)
  rwa [hl] at this
theorem Byt.fr {X : List Nat} {w w' : World} {v : Value} {l : List UInt8} (h : Byt w v l) (hF : Fr X w w') (hX : ∀ g c, w.heap[g]? = some (.cells c 5 (0, 0)) → g ∉ X) : Byt w' v l := by
  obtain ⟨g, rfl, hl, hg⟩ := h
  exact ⟨g, rfl, hl, hF.at hg (hX g _ hg)⟩
theorem Byt.below {w w' : World} {v : Value} {l : List UInt8} (h : Byt w v l) (hF : Below w.heap.size w w') : Byt w' v l := h.fr (Fr.of_below (X := []) hF) (by simp)
/-- No other thing's block is a disk's. -/
theorem Disk.other {w : World} {p : Nat} {X : List Nat} {s : DS} (h : Disk w p X s) {g : Nat} {c : Array Value} {t : TypeId} {z : Nat × Nat} (hg : w.heap[g]? = some (.cells c t z)) (h1 : t ≠ 67) (h2 : t ≠ 70) : g ∉ X := by
  obtain ⟨a, ca, b, cb, m, rfl, hD, ⟨c1, hA, _⟩, ⟨c2, hB, _⟩, hM, _⟩ := h
  simp only [List.mem_cons, List.not_mem_nil, or_false, not_or]
  refine ⟨fun e => ?_, fun e => ?_, fun e => ?_, fun e => ?_⟩ <;> subst e
  · rw [Dc, hg] at hD; cases hD; exact h1 rfl
  · rw [hg] at hA; cases hA; exact h2 rfl
  · rw [hg] at hB; cases hB; exact h2 rfl
  · rw [Mp, hg] at hM; cases hM

set_option maxRecDepth 100000 in
set_option maxHeartbeats 800000 in
theorem of_any (c : UInt8) (w : World) :
    Calls Try.prog 20 #[.int .u8 c.toNat] w fun e w' => e = .returned (.slice (some ⟨w.heap.size, 0, none⟩) 128 128) ∧ Byt w' (.slice (some ⟨w.heap.size, 0, none⟩) 128 128) (List.replicate 128 c) ∧ Below w.heap.size w w' := by
  obtain ⟨i0, hi0, hz0, hz1, hz2⟩ := info_parts info8
  go_enter Try.func20, Try.ntmps20
  go_wp2_with (at_make; refine wpList_make_full _ rfl _ _ 35 rfl w.heap.size 5 i0 (.int .u8 0) 1 Try.underlying35 hi0 hz0 hz1 _ _ _ _ 128 rfl rfl rfl rfl (by rw [hz2]; omega) (by unfold maxLen; omega) (Nat.le_refl _) ?_)
  intro w1 hown hgrow
  have hB1 := (Below.refl _ w).grown hgrow (Nat.le_refl _) (fun k hk => by cases hk)
  have hg1 : w1.heap[w.heap.size]? = some (.cells (ofc c 0).toArray 5 (0, 0)) := by
    rcases hown.2 with ⟨h, _⟩ | ⟨g, cap, cur, he, hb, hg, r1, r2, r3, r4⟩
    · cases h
    · cases he
      have e : cur = (ofc c 0).toArray := by
        apply Array.ext'
        have h4 : cur.toList.take (128 * 1) = cur.toList := List.take_of_length_le (by simp [r3])
        rw [← h4, r4]
        rw [Go.toList_madeCells_one]
        simp [ofc]
      rw [hg, e]
  have HB1 := hid hB1
  have HG1 := hid hg1
  clear hown hgrow hB1 hg1
  go_upto_region 3 with fail
  go_loopw [4] (fun x wr => ∃ k : Nat, k ≤ 128 ∧ x = .int .i64 k ∧ wr.heap[w.heap.size]? = some (.cells (ofc c k).toArray 5 (0, 0)) ∧ Below w.heap.size w wr) (fun x _ => 128 - (intOf x).toNat)
  case atStart => exact ⟨0, by omega, rfl, HG1.out, HB1.out⟩
  case round =>
    obtain ⟨k, hk, rfl, hgr, hBr⟩ := hrel
    by_cases hlt : k < 128
    · have hmes : 128 - ((k + 1 : Nat) : Int).toNat < 128 - (k : Int).toNat := by omega
      have hlt' : (k : Int) < 128 := by omega
      have hwk : wrap64 ((k : Int) + 1) = ((k + 1 : Nat) : Int) := by unfold wrap64; omega
      have hc := cell_at hgr k (ofc_get c k hlt)
      have hf := open_at hgr k
      have HG := hid hgr
      have HB := hid hBr
      clear hgr hBr
      go_wp2
      go_roundw
      case rel => exact ⟨k + 1, by omega, rfl, by rw [heap_setCell HG.out k _]; rw [← ofc_step c k hlt]; rfl, HB.out.setCell (p := ⟨w.heap.size, k, none⟩) (Nat.le_refl _) _⟩
      case measure => exact hmes
    · obtain rfl : k = 128 := by omega
      have HG := hid hgr
      have HB := hid hBr
      clear hgr hBr
      go_wp2
      go_ret
      refine ⟨rfl, ?_, HB.out⟩
      have hg := HG.out
      rw [ofc_full] at hg
      exact ⟨w.heap.size, rfl, by simp, hg⟩
theorem of_int (x : Int) (h0 : 0 ≤ x) (h1 : x ≤ 255) (w : World) :
    Calls Try.prog 20 #[.int .u8 x] w fun e w' => e = .returned (.slice (some ⟨w.heap.size, 0, none⟩) 128 128) ∧ Byt w' (.slice (some ⟨w.heap.size, 0, none⟩) 128 128) (List.replicate 128 (UInt8.ofNat x.toNat)) ∧ Below w.heap.size w w' := by
  have h := of_any (UInt8.ofNat x.toNat) w
  have e : ((UInt8.ofNat x.toNat).toNat : Int) = x := by rw [u8_ofNat (by omega)]; omega
  rwa [e] at h
end Go.Proofs.Ytkfomolglangdaa
