/- A row of sectors is cloned; a disk is made of one. -/
import Derived.Test.YtkfomolglangdaaKFlush
import Derived.Lib.SliceRun
import Derived.Lib.Walk
namespace Go.Proofs.Ytkfomolglangdaa
open Go Go.RowKit

def flat (ss : List (List UInt8)) : List Value := (ss.map cells8).flatten
theorem flat_len : ∀ (ss : List (List UInt8)), (∀ s ∈ ss, s.length = 128) → (flat ss).length = ss.length * 128
  | [], _ => rfl
  | s :: r, h => by
    have ih := flat_len r (fun x hx => h x (List.mem_cons_of_mem _ hx))
    have h0 := h s List.mem_cons_self
    simp only [flat, List.map_cons, List.flatten_cons, List.length_append, cells8_len, List.length_cons] at ih ⊢
    rw [ih, h0]; omega
theorem flat_get : ∀ (ss : List (List UInt8)), (∀ s ∈ ss, s.length = 128) → ∀ i s, ss[i]? = some s → ∀ j v, (cells8 s)[j]? = some v → (flat ss)[i * 128 + j]? = some v
  | [], _, i, s, hs, _, _, _ => by simp at hs
  | t :: r, h, i, s, hs, j, v, hj => by
    have h0 := h t List.mem_cons_self
    have hfl : flat (t :: r) = cells8 t ++ flat r := by simp [flat]
    rw [hfl]
    rcases i with _ | i
    · simp at hs; subst hs
      rw [List.getElem?_append_left (by have := (List.getElem?_eq_some_iff.1 hj).1; omega)]
      simpa using hj
    · have ih := flat_get r (fun x hx => h x (List.mem_cons_of_mem _ hx)) i s (by simpa using hs) j v hj
      rw [List.getElem?_append_right (by rw [cells8_len, h0]; omega), cells8_len, h0]
      have : (i + 1) * 128 + j - 128 = i * 128 + j := by omega
      rw [this]; exact ih
theorem flat_one (ss : List (List UInt8)) : ∀ v ∈ flat ss, v.oneCell' = true := by
  intro v hv
  obtain ⟨l, hl, hv⟩ := List.mem_flatten.1 hv
  obtain ⟨s, _, rfl⟩ := List.mem_map.1 hl
  exact cells8_one s v hv
theorem flat_at (ss : List (List UInt8)) (h : ∀ s ∈ ss, s.length = 128) (k : Nat) (v : Value) (hk : (flat ss)[k]? = some v) : ∃ i j s, k = i * 128 + j ∧ ss[i]? = some s ∧ (cells8 s)[j]? = some v := by
  have hlt : k < ss.length * 128 := by have := (List.getElem?_eq_some_iff.1 hk).1; rwa [flat_len ss h] at this
  have hi : k / 128 < ss.length := by omega
  have hs : (cells8 ss[k / 128]).length = 128 := by rw [cells8_len]; exact h _ (List.getElem_mem hi)
  have hj : k % 128 < (cells8 ss[k / 128]).length := by omega
  refine ⟨k / 128, k % 128, ss[k / 128], by omega, List.getElem?_eq_getElem hi, ?_⟩
  have hg := flat_get ss h (k / 128) _ (List.getElem?_eq_getElem hi) (k % 128) _ (List.getElem?_eq_getElem hj)
  have e : k / 128 * 128 + k % 128 = k := by omega
  rw [e, hk] at hg
  rw [hg]; exact List.getElem?_eq_getElem hj

theorem row_lens {w : World} {g cap : Nat} {ss : List (List UInt8)} (h : Row w g cap ss) : ∀ s ∈ ss, s.length = 128 := by
  obtain ⟨cur, _, _, _, _, hc⟩ := h
  intro s hs
  obtain ⟨i, hi⟩ := List.getElem?_of_mem hs
  exact (hc i s hi).1
theorem row_cells {w : World} {g cap : Nat} {ss : List (List UInt8)} (h : Row w g cap ss) : ∀ j u, (flat ss)[j]? = some u → w.cell? ⟨g, j, none⟩ = some u := by
  intro j u hj
  obtain ⟨i, k, s, rfl, hs, hv⟩ := flat_at ss (row_lens h) j u hj
  obtain ⟨cur, hg, _, _, _, hc⟩ := h
  exact cell_at hg _ ((hc i s hs).2 k u hv)
theorem row_of_owns {w : World} {B n : Nat} {v : Value} {ss : List (List UInt8)} (hl : ∀ s ∈ ss, s.length = 128) (hn : ss.length = n) (h0 : n ≠ 0) (h : w.ownsRow B 70 128 v n (flat ss)) :
    ∃ g cap, v = .slice (some ⟨g, 0, none⟩) n cap ∧ B ≤ g ∧ Row w g cap ss := by
  rcases h.2 with ⟨_, hz⟩ | ⟨g, cap, cur, rfl, hb, hg, r1, r2, r3, r4⟩
  · exact absurd hz h0
  · refine ⟨g, cap, rfl, hb, cur, hg, by rw [hn, r3]; exact Nat.mul_le_mul_right _ r1, by omega, r2, fun i s hs => ⟨hl s (List.mem_of_getElem? hs), fun j u hj => ?_⟩⟩
    have hk := flat_get ss hl i s hs j u hj
    rw [← r4, List.getElem?_take] at hk
    split at hk
    · simpa using hk
    · cases hk

theorem info70 : (Try.prog.info? 70).map (fun i => (i.zero, i.size, i.bytes)) = some (some (.agg Try.zeroCells70), 128, 128) := by kernel_rfl

set_option maxRecDepth 100000 in
set_option maxHeartbeats 1000000 in
theorem clone_any (w : World) (b n cb : Nat) (ss : List (List UInt8)) (hr : Row w b cb ss) (hn : ss.length = n) (h0 : n ≠ 0) (hb : n ≤ 16384) :
    Calls Try.prog 34 #[.slice (some ⟨b, 0, none⟩) n cb] w fun e w' => ∃ g cap, e = .returned (.slice (some ⟨g, 0, none⟩) n cap) ∧ w.heap.size ≤ g ∧ Row w' g cap ss ∧ Below w.heap.size w w' := by
  obtain ⟨i0, hi, hz0, hz1, hz2⟩ := info_parts info70
  have hl := row_lens hr
  have hfl := flat_len ss hl
  have HC := hid (row_cells hr)
  have q58 : ∀ (w : World) (a : Option Addr) (n c n' c' : Nat), (binOp .eql 58 (.slice a n c) (.slice none n' c')).run Try.prog w = .ok (.bool a.isNone) w := fun w a n c n' c' => Lib.run_eql_slice_nil w _ _ a n c n' c' Try.underlying58
  clear hr
  go_enter Try.func34, Try.ntmps34
  go_wp2_with (at_builtin; refine wpList_append_own _ rfl _ _ 58 rfl w.heap.size 70 i0 (.agg Try.zeroCells70) 128 128 Try.underlying58 hi hz0 hz1 hz2 zc70 (by decide) _ _ _ rfl (World.ownsRow_made w #[] 0 (Nat.le_refl _) (Nat.zero_le _) (by simp)) ⟨b, 0, none⟩ n cb (flat ss) rfl ?qc1 ?qc2 (flat_one ss) ?qc4 ?qc5 ?qc6 ?_)
  case qc1 => rw [hfl, hn]
  case qc2 =>
    intro j u hj
    rw [Addr.add_lit, Nat.zero_add]
    exact Lib.cell?_alloc_some _ (HC.out j u hj)
  case qc4 => rw [Nat.zero_add]; unfold maxLen; omega
  case qc5 => rw [Nat.zero_add]; omega
  case qc6 => simp
  intro v' w1 hown hgrow hnil
  have HB := hid (((Below.refl _ w).alloc (Nat.le_refl _) _).grown hgrow (by simp) (by intro k hk; simp [Value.ownBlock] at hk; omega))
  try simp only [Nat.zero_add, List.nil_append] at hown
  obtain ⟨g, cap, rfl, hg, hrow⟩ := row_of_owns hl hn h0 hown
  have HR := hid hrow
  clear hown hgrow hrow hnil
  go_wp2
  go_ret
  exact ⟨g, cap, rfl, hg, HR.out, HB.out⟩

set_option maxRecDepth 100000 in
set_option maxHeartbeats 1000000 in
theorem holding_any (w : World) (b n cb : Nat) (ss : List (List UInt8)) (hr : Row w b cb ss) (hn : ss.length = n) (h0 : n ≠ 0) (hb : n ≤ 16384) :
    Calls Try.prog 26 #[.slice (some ⟨b, 0, none⟩) n cb] w fun e w' => ∃ p a ca m, e = .returned (.pointer (some ⟨p, 0, none⟩)) ∧ Dc w' p (.slice (some ⟨a, 0, none⟩) n ca) (.slice (some ⟨b, 0, none⟩) n cb) m 0 (-1) false ∧
      Row w' a ca ss ∧ Row w' b cb ss ∧ Mp w' m [] ∧ w.heap.size ≤ p ∧ w.heap.size ≤ a ∧ w.heap.size ≤ m ∧ Below w.heap.size w w' := by
  have H := hid (clone_any w b n cb ss hr hn h0 hb)
  have HR := hid hr
  have hmk := makeMap65
  clear hr
  go_enter Try.func26, Try.ntmps26
  go_wp2_with fail
  refine H.out.mono ?_
  rintro e w1 ⟨g, cap, rfl, hg, hrow, hB⟩
  have HR1 := hid hrow
  have HB := hid hB
  clear hrow hB H
  go_wp2
  go_ret
  have hB1 : Below w1.heap.size w1 (w1.alloc (.map #[] 0)) := (Below.refl _ _).alloc (Nat.le_refl _) _
  have hs1 : (w1.alloc (.map #[] 0)).heap.size = w1.heap.size + 1 := by simp
  have hB2 : ∀ o, Below w1.heap.size w1 ((w1.alloc (.map #[] 0)).alloc o) := fun o => hB1.alloc (by rw [hs1]; omega) _
  have hsz := HB.out.size
  refine ⟨_, g, cap, w1.heap.size, rfl, ?_, HR1.out.below (hB2 _) HR1.out.lt, HR.out.below (HB.out.trans ((hB2 _).mono hsz)) HR.out.lt, ?_, ?_, hg, hsz, HB.out.trans ((hB2 _).mono hsz)⟩
  · have := heap_alloc_last (w1.alloc (.map #[] 0)) (.cells #[.slice (some ⟨g, 0, none⟩) n cap, .slice (some ⟨b, 0, none⟩) n cb, .map (some w1.heap.size), .int .i64 0, .int .i64 (-1), .bool false] 67)
    rw [hs1] at this
    exact this
  · exact (Below.heap_alloc _ _ _ (by rw [hs1]; omega)).trans (heap_alloc_last w1 (.map #[] 0))
  · omega

/-- Sectors of noughts. -/
def noughts (n : Nat) : List (List UInt8) := List.replicate n (List.replicate 128 0)
theorem zc_eq : Try.zeroCells70 = (List.replicate 128 (Value.int .u8 0)).toArray := by kernel_rfl
theorem made_get (n k : Nat) (h : k < n * 128) : (madeCells Try.zeroCells70 (n * 128)).toList[k]? = some (.int .u8 0) := by
  have hm : k % 128 < 128 := Nat.mod_lt _ (by omega)
  have h1 : Try.zeroCells70[k % Try.zeroCells70.size]! = .int .u8 0 := by
    rw [zc70, zc_eq]
    rw [getElem!_pos _ _ (by simp only [List.size_toArray, List.length_replicate]; exact hm)]
    simp only [List.getElem_toArray, List.getElem_replicate]
  have h2 : (madeCells Try.zeroCells70 (n * 128))[k]? = some (.int .u8 0) := by
    unfold madeCells
    rw [Array.getElem?_map, Array.getElem?_eq_getElem (by simpa using h)]
    simp only [Option.map_some, Array.getElem_range]
    rw [h1]
  simpa using h2
theorem row_made {w : World} {g n B : Nat} (h0 : n ≠ 0) (h : w.ownsRow B 70 128 (.slice (some ⟨g, 0, none⟩) n n) n (madeCells Try.zeroCells70 (n * 128)).toList) : Row w g n (noughts n) := by
  rcases h.2 with ⟨_, hz⟩ | ⟨g', cap, cur, he, hb, hg, r1, r2, r3, r4⟩
  · exact absurd hz h0
  · cases he
    refine ⟨cur, hg, by simp only [noughts, List.length_replicate]; exact Nat.le_of_eq r3.symm, by simp [noughts], r2, fun i s hs => ?_⟩
    have hi : i < n := by have := (List.getElem?_eq_some_iff.1 hs).1; simpa [noughts] using this
    have hs' : s = List.replicate 128 0 := by
      have := List.mem_of_getElem? hs
      exact List.eq_of_mem_replicate this
    subst hs'
    refine ⟨by simp, fun j v hj => ?_⟩
    have hj' : j < 128 := by have := (List.getElem?_eq_some_iff.1 hj).1; rw [cells8_len] at this; simpa using this
    have hv : v = .int .u8 0 := by
      have := List.mem_of_getElem? hj
      obtain ⟨x, hx, rfl⟩ := List.mem_map.1 this
      rw [List.eq_of_mem_replicate hx]; rfl
    subst hv
    have hk := made_get n (i * 128 + j) (by omega)
    rw [← r4, List.getElem?_take] at hk
    split at hk
    · simpa using hk
    · cases hk

set_option maxRecDepth 100000 in
set_option maxHeartbeats 1000000 in
theorem new_bad (w : World) (x : Int) (hx : x < 1 ∨ 16384 < x) :
    Calls Try.prog 10 #[.int .i64 x] w fun e w' => e = .returned (.tuple #[.pointer none, .int .i64 40]) ∧ w' = w := by
  by_cases h1 : x < 1
  · have d1 : decide (x < 1) = true := decide_eq_true h1
    go_enter Try.func10, Try.ntmps10
    go_wp2
    go_ret2
    exact ⟨rfl, rfl⟩
  · have d1 : decide (x < 1) = false := decide_eq_false h1
    have d2 : decide (16384 < x) = true := decide_eq_true (by omega)
    clear hx
    go_enter Try.func10, Try.ntmps10
    go_wp2
    go_ret2
    exact ⟨rfl, rfl⟩
set_option maxRecDepth 100000 in
set_option maxHeartbeats 1000000 in
theorem new_ok (w : World) (n : Nat) (h0 : n ≠ 0) (hn : n ≤ 16384) :
    Calls Try.prog 10 #[.int .i64 n] w fun e w' => ∃ p a ca b cb m, e = .returned (.tuple #[.pointer (some ⟨p, 0, none⟩), .int .i64 0]) ∧ Dc w' p (.slice (some ⟨a, 0, none⟩) n ca) (.slice (some ⟨b, 0, none⟩) n cb) m 0 (-1) false ∧
      Row w' a ca (noughts n) ∧ Row w' b cb (noughts n) ∧ Mp w' m [] ∧ w.heap.size ≤ p ∧ w.heap.size ≤ a ∧ w.heap.size ≤ b ∧ w.heap.size ≤ m ∧ a ≠ b ∧ Below w.heap.size w w' := by
  obtain ⟨i0, hi, hz0, hz1, hz2⟩ := info_parts info70
  obtain ⟨X, hX⟩ : ∃ X : Int, X = n := ⟨_, rfl⟩
  have d1 : decide (X < 1) = false := decide_eq_false (by omega)
  have d2 : decide (16384 < X) = false := decide_eq_false (by omega)
  have HX := hid hX
  have HN := hid hn
  rw [← hX]
  clear hX hn
  go_enter Try.func10, Try.ntmps10
  go_wp2_with (at_make; refine wpList_make_full _ rfl _ _ 58 rfl w.heap.size 70 i0 (.agg Try.zeroCells70) 128 Try.underlying58 hi hz0 hz1 _ _ _ _ n rfl rfl HX.out HX.out ?m1 ?m2 (Nat.le_refl _) ?_)
  case m1 => rw [hz2]; have := HN.out; omega
  case m2 => have := HN.out; unfold maxLen; omega
  intro w1 hown hgrow
  have hrow := row_made h0 hown
  have hg := hrow.lt
  have HB := hid ((Below.refl _ w).grown hgrow (Nat.le_refl _) (fun k hk => by cases hk))
  have H := hid (holding_any w1 w.heap.size n n (noughts n) hrow (by simp [noughts]) h0 HN.out)
  clear hown hgrow hrow
  go_wp2_with fail
  refine H.out.mono ?_
  rintro e w2 ⟨p, a, ca, m, rfl, hD, hRa, hRb, hM, h1, h2, h3, hB⟩
  have HH := hid (And.intro hD (And.intro hRa (And.intro hRb (And.intro hM hB))))
  clear hD hRa hRb hM hB H
  go_wp2
  go_ret2
  obtain ⟨hD, hRa, hRb, hM, hB⟩ := HH.out
  have hs := HB.out.size
  exact ⟨p, a, ca, w.heap.size, n, m, rfl, hD, hRa, hRb, hM, by omega, by omega, Nat.le_refl _, by omega, by omega, HB.out.trans (hB.mono hs)⟩
end Go.Proofs.Ytkfomolglangdaa
