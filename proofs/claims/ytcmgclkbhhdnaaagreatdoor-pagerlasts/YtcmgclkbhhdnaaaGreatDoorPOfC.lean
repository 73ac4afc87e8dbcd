/- the text POf -/
import Derived.Test.YtcmgclkbhhdnaaaGreatDoorPGe
namespace Go.Proofs.YtcmgclkbhhdnaaaGreatDoor
open Go Go.RowKit

theorem qaddU (x y : UInt8) (w : World) : (binOp .add 5 (cb x) (cb y)).run Tryz.prog w = .ok (cb (x + y)) w := by
  unfold cb
  have h : IntKind.u8.wrap ((x.toNat : Int) + (y.toNat : Int)) = ((x + y).toNat : Int) := by
    rw [UInt8.toNat_add]
    show ((x.toNat : Int) + (y.toNat : Int)) % 256 = _
    omega
  rw [← h]
  go_simp
theorem fg32_2 (b o : Nat) (w : World) : (Instr.fieldAt 32 (.pointer (some ⟨b, o, none⟩)) 2).run Tryz.prog w = .ok (.pointer (some ⟨b, o + 2, none⟩)) w := by go_simp
theorem idxB (b n cap k : Nat) (h : k < n) (w : World) : (Instr.indexAt 49 (.slice (some ⟨b, 0, none⟩) n cap) (.int .i64 k)).run Tryz.prog w = .ok (.pointer (some ⟨b, k, none⟩)) w := by go_simp
/-- A page's bytes, the first k of them laid. -/
def ofL (v : UInt8) (n k : Nat) : List UInt8 := (List.range n).map fun i => if i < k then v + UInt8.ofNat i else 0
theorem ofL_len (v : UInt8) (n k : Nat) : (ofL v n k).length = n := by simp [ofL]
theorem ofL_zero (v : UInt8) (n : Nat) : ofL v n 0 = List.replicate n 0 := by
  refine List.ext_getElem? fun i => ?_
  by_cases h : i < n <;> simp [ofL, h]
theorem ofL_set (v : UInt8) (n k : Nat) : (ofL v n k).set k (v + UInt8.ofNat k) = ofL v n (k + 1) := by
  refine List.ext_getElem? fun i => ?_
  rw [List.getElem?_set, ofL_len]
  by_cases h : i < n
  · by_cases e : k = i
    · subst e
      rw [if_pos rfl, if_pos h]
      simp [ofL, h]
    · rw [if_neg e]
      simp only [ofL, List.getElem?_map, List.getElem?_range h, Option.map_some]
      by_cases h2 : i < k
      · rw [if_pos h2, if_pos (by omega)]
      · rw [if_neg h2, if_neg (by omega)]
  · by_cases e : k = i
    · subst e
      rw [if_pos rfl, if_neg h]
      simp [ofL, h]
    · rw [if_neg e]; simp [ofL, h]
theorem made8 (n : Nat) : madeCells #[Value.int .u8 0] n = (cells8 (List.replicate n 0)).toArray := by
  apply Array.ext'
  rw [made_list]
  simp [cells8]
  exact .inr rfl
/-- How many bytes. -/
def ofN (pg : Int) (v : UInt8) : Nat := if pg = 77 then v.toNat else 896
set_option maxRecDepth 100000 in
set_option maxHeartbeats 1000000 in
theorem of_page (kd pg : Int) (v : UInt8) (h77 : pg ≠ 77) (w : World) :
    Calls Tryz.prog 37 #[.agg #[.int .i64 kd, .int .i64 pg, cb v]] w fun e w' => ∃ g, w.heap.size ≤ g ∧ e = .returned (.slice (some ⟨g, 0, none⟩) (ofN pg v) (ofN pg v)) ∧ Rw w' g 5 (ofL v (ofN pg v) (ofN pg v)) ∧ Below w.heap.size w w' := by
  obtain ⟨g0, hg0⟩ : ∃ g, w.heap.size = g := ⟨_, rfl⟩
  obtain ⟨n, hn⟩ : ∃ n, ofN pg v = n := ⟨_, rfl⟩
  have hn1 : n ≤ 896 := by rw [← hn]; unfold ofN; have := v.toNat_lt; split <;> omega
  have hB1 : Below w.heap.size w (w.alloc (.cells #[.int .i64 kd, .int .i64 pg, cb v] 32)) := (Below.refl _ _).alloc (Nat.le_refl _) _
  have hS1 : (w.alloc (.cells #[.int .i64 kd, .int .i64 pg, cb v] 32)).heap[w.heap.size]? = some (.cells #[.int .i64 kd, .int .i64 pg, cb v] 32 (0, 0)) := heap_alloc_last w _
  have hz1 : (w.alloc (.cells #[.int .i64 kd, .int .i64 pg, cb v] 32)).heap.size = w.heap.size + 1 := by show (w.heap.push _).size = _; simp
  have hbx : (Instr.box 32 (.agg #[.int .i64 kd, .int .i64 pg, cb v])).run Tryz.prog w = .ok (.pointer (some ⟨w.heap.size, 0, none⟩)) (w.alloc (.cells #[.int .i64 kd, .int .i64 pg, cb v] 32)) := box_agg _ w _
  generalize w.alloc (.cells #[.int .i64 kd, .int .i64 pg, cb v] 32) = w1 at *
  obtain ⟨g1, hg1⟩ : ∃ g, w1.heap.size = g := ⟨_, rfl⟩
  obtain ⟨hmk, _⟩ := make_row (z := .int .u8 0) (by_ := 1) Tryz.underlying49 info8 rfl (by decide) n (by omega) w1
  rw [made8] at hmk
  have hB2 : Below w1.heap.size w1 (w1.alloc (.cells (cells8 (List.replicate n 0)).toArray 5)) := (Below.refl _ _).alloc (Nat.le_refl _) _
  have hR2 : Rw (w1.alloc (.cells (cells8 (List.replicate n 0)).toArray 5)) w1.heap.size 5 (List.replicate n 0) := heap_alloc_last w1 _
  generalize w1.alloc (.cells (cells8 (List.replicate n 0)).toArray 5) = w2 at *
  rw [hg0] at hbx hB1 hS1 hz1 ⊢
  rw [hg1] at hmk hB2 hR2 hz1
  have hc1 : w1.cell? ⟨g0, 1, none⟩ = some (.int .i64 pg) := cell_at hS1 1 rfl
  have hc2 : w1.cell? ⟨g0, 2, none⟩ = some (cb v) := cell_at hS1 2 rfl
  have H2 : Hid (Rw w2 g1 5 (ofL v n 0) ∧ w2.heap[g0]? = some (.cells #[.int .i64 kd, .int .i64 pg, cb v] 32 (0, 0)) ∧ Below g0 w w2 ∧ g0 < g1) := hid ⟨by rw [ofL_zero]; exact hR2, below_at hB2 hS1 (by omega), hB1.trans (hB2.mono (by omega)), by omega⟩
  have HBX := hid hbx
  have HMK := hid hmk
  have HN := hid hn
  have HN1 := hid hn1
  have HG := hid hg0
  rw [hn]
  clear hB1 hS1 hz1 hbx hg1 hmk hB2 hR2 hn hn1 hg0
  go_enter Tryz.func37, Tryz.ntmps37
  go_upto_region 0 with fail
  refine wp_region_lit ?_
  refine wp_run (v := .pointer (some ⟨g0, 0, none⟩)) rfl rfl (run_boxOp rfl (by kernel_rfl) HBX.out) rfl ?_
  refine wp_y (v := (.slice none 0 0)) rfl rfl (y_assign rfl) rfl ?_
  try simp only [List.setIfInBounds_toArray, List.set_cons_zero, List.set_cons_succ]
  refine wp_end ?_
  have hnn : 896 = n := by rw [← HN.out]; exact (if_neg h77).symm
  have hb : (pg == 77) = false := by rw [beq_eq_false_iff_ne]; exact h77
  have hmk := HMK.out
  have e : Value.int .i64 ((n : Nat) : Int) = .int .i64 896 := by rw [← hnn]; rfl
  rw [e] at hmk
  clear HMK
  have HMK := hid hmk
  clear hmk e hnn
  go_upto_region 4 with fail
  refine wp_region_lit ?_
  refine wp_y (v := .int .i64 896) rfl rfl (y_move rfl) rfl ?_
  refine wp_run (v := .slice (some ⟨g1, 0, none⟩) n n) rfl rfl (run_mkOp rfl (by kernel_rfl) (by kernel_rfl) HMK.out) rfl ?_
  refine wp_y (v := .slice (some ⟨g1, 0, none⟩) n n) rfl rfl (y_assign rfl) rfl ?_
  try simp only [List.setIfInBounds_toArray, List.set_cons_zero, List.set_cons_succ]
  refine wp_end ?_
  clear HMK HBX
  go_wp2_with fail
  go_loopw [5] (fun y wr => ∃ k : Nat, k ≤ n ∧ y = .int .i64 k ∧ Rw wr g1 5 (ofL v n k) ∧ wr.heap[g0]? = some (.cells #[.int .i64 kd, .int .i64 pg, cb v] 32 (0, 0)) ∧ Below g0 w wr) (fun y _ => n - (intOf y).toNat)
  case atStart => exact ⟨0, Nat.zero_le _, rfl, H2.out.1, H2.out.2.1, H2.out.2.2.1⟩
  case round =>
    obtain ⟨k, hk, rfl, hR, hS, hB⟩ := hrel
    have hn1 := HN1.out
    have hgg := H2.out.2.2.2
    clear H2
    have hwk : IntKind.i64.wrap ((k : Int) + 1) = ((k + 1 : Nat) : Int) := by rw [IntWalk.i64_in _ ⟨by omega, by omega⟩]; omega
    by_cases hlt : k < n
    · have hlt' : (k : Int) < (n : Int) := by omega
      have HLD := hid (load1 Tryz.isAgg5 (cell_at hS 2 rfl))
      have HST := hid (store1 Tryz.sizeOf5 (cb (v + UInt8.ofNat k)) rfl rfl (hR.rd k (by rw [ofL_len]; exact hlt)) (open_at hR (0 + k)))
      have hF : Fr [g1] wr (wr.setCell ⟨g1, k, none⟩ (cb (v + UInt8.ofNat k))) := Fr.setCell _ _ _ _
      have hR2 := hR.set k (v + UInt8.ofNat k)
      rw [ofL_set] at hR2
      have HZ := hid (And.intro hR2 (And.intro (hF.at hS (by simp; omega)) (hB.trans (hF.below (by have := hB.size; have := HG.out; omega) (by simp; omega)))))
      rw [Nat.zero_add] at HST
      have HKX := hid hlt
      clear hR hS hB hF hR2 hlt hk hn1 hgg
      go_upto_region 8 with fail
      refine wp_region_lit ?_
      refine wp_y (v := .slice (some ⟨g1, 0, none⟩) n n) rfl rfl (y_move rfl) rfl ?_
      refine wp_y (v := .int .i64 (k : Nat)) rfl rfl (y_move rfl) rfl ?_
      refine wp_y (v := .pointer (some ⟨g0, 2, none⟩)) rfl rfl (y_faddr rfl (hf := fg32_2 (g0) (0))) rfl ?_
      refine wp_y (v := cb v) rfl rfl (y_load rfl (hl := fun w' h => by rw [h]; exact HLD.out)) rfl ?_
      refine wp_y (v := .int .i64 (k : Nat)) rfl rfl (y_move rfl) rfl ?_
      refine wp_y (v := cb (UInt8.ofNat k)) rfl rfl (y_cnv rfl (by kernel_rfl) (by kernel_rfl) (qu8 k)) rfl ?_
      refine wp_y (v := cb (v + UInt8.ofNat k)) rfl rfl (y_bin (k := .u8) (k' := .u8) (m := v.toNat) (n := (UInt8.ofNat k).toNat) rfl (by kernel_rfl) (by kernel_rfl) (by kernel_rfl) (qaddU v (UInt8.ofNat k))) rfl ?_
      refine wp_y (v := .pointer (some ⟨g1, k, none⟩)) rfl rfl (y_index rfl (hr := idxB g1 n n k HKX.out)) rfl ?_
      try simp only [List.setIfInBounds_toArray, List.set_cons_zero, List.set_cons_succ]
      refine wp_do rfl rfl (run_storeOp rfl (by kernel_rfl) (by kernel_rfl) HST.out) ?_
      try simp only [List.setIfInBounds_toArray, List.set_cons_zero, List.set_cons_succ]
      refine wp_end ?_
      go_wp2_with fail
      exact ⟨⟨k + 1, HKX.out, rfl, HZ.out⟩, by have := HKX.out; simp [intOf]; omega⟩
    · obtain rfl : k = n := by omega
      have hlt' : ¬ (k : Int) < (k : Int) := by omega
      have HZ := hid (And.intro hR hB)
      have HGG := hid hgg
      clear hR hS hB hlt hk hn1 hgg
      go_wp2_with fail
      go_ret
      exact ⟨g1, by have := HGG.out; omega, rfl, HZ.out⟩
set_option maxRecDepth 100000 in
set_option maxHeartbeats 1000000 in
theorem of_77 (kd : Int) (v : UInt8) (w : World) :
    Calls Tryz.prog 37 #[.agg #[.int .i64 kd, .int .i64 77, cb v]] w fun e w' => ∃ g, w.heap.size ≤ g ∧ e = .returned (.slice (some ⟨g, 0, none⟩) (ofN 77 v) (ofN 77 v)) ∧ Rw w' g 5 (ofL v (ofN 77 v) (ofN 77 v)) ∧ Below w.heap.size w w' := by
  obtain ⟨g0, hg0⟩ : ∃ g, w.heap.size = g := ⟨_, rfl⟩
  obtain ⟨n, hn⟩ : ∃ n, ofN 77 v = n := ⟨_, rfl⟩
  have hn1 : n ≤ 896 := by rw [← hn]; unfold ofN; have := v.toNat_lt; split <;> omega
  have hB1 : Below w.heap.size w (w.alloc (.cells #[.int .i64 kd, .int .i64 77, cb v] 32)) := (Below.refl _ _).alloc (Nat.le_refl _) _
  have hS1 : (w.alloc (.cells #[.int .i64 kd, .int .i64 77, cb v] 32)).heap[w.heap.size]? = some (.cells #[.int .i64 kd, .int .i64 77, cb v] 32 (0, 0)) := heap_alloc_last w _
  have hz1 : (w.alloc (.cells #[.int .i64 kd, .int .i64 77, cb v] 32)).heap.size = w.heap.size + 1 := by show (w.heap.push _).size = _; simp
  have hbx : (Instr.box 32 (.agg #[.int .i64 kd, .int .i64 77, cb v])).run Tryz.prog w = .ok (.pointer (some ⟨w.heap.size, 0, none⟩)) (w.alloc (.cells #[.int .i64 kd, .int .i64 77, cb v] 32)) := box_agg _ w _
  generalize w.alloc (.cells #[.int .i64 kd, .int .i64 77, cb v] 32) = w1 at *
  obtain ⟨g1, hg1⟩ : ∃ g, w1.heap.size = g := ⟨_, rfl⟩
  obtain ⟨hmk, _⟩ := make_row (z := .int .u8 0) (by_ := 1) Tryz.underlying49 info8 rfl (by decide) n (by omega) w1
  rw [made8] at hmk
  have hB2 : Below w1.heap.size w1 (w1.alloc (.cells (cells8 (List.replicate n 0)).toArray 5)) := (Below.refl _ _).alloc (Nat.le_refl _) _
  have hR2 : Rw (w1.alloc (.cells (cells8 (List.replicate n 0)).toArray 5)) w1.heap.size 5 (List.replicate n 0) := heap_alloc_last w1 _
  generalize w1.alloc (.cells (cells8 (List.replicate n 0)).toArray 5) = w2 at *
  rw [hg0] at hbx hB1 hS1 hz1 ⊢
  rw [hg1] at hmk hB2 hR2 hz1
  have hc1 : w1.cell? ⟨g0, 1, none⟩ = some (.int .i64 77) := cell_at hS1 1 rfl
  have hc2 : w1.cell? ⟨g0, 2, none⟩ = some (cb v) := cell_at hS1 2 rfl
  have H2 : Hid (Rw w2 g1 5 (ofL v n 0) ∧ w2.heap[g0]? = some (.cells #[.int .i64 kd, .int .i64 77, cb v] 32 (0, 0)) ∧ Below g0 w w2 ∧ g0 < g1) := hid ⟨by rw [ofL_zero]; exact hR2, below_at hB2 hS1 (by omega), hB1.trans (hB2.mono (by omega)), by omega⟩
  have HBX := hid hbx
  have HMK := hid hmk
  have HN := hid hn
  have HN1 := hid hn1
  have HG := hid hg0
  rw [hn]
  clear hB1 hS1 hz1 hbx hg1 hmk hB2 hR2 hn hn1 hg0
  go_enter Tryz.func37, Tryz.ntmps37
  go_upto_region 0 with fail
  refine wp_region_lit ?_
  refine wp_run (v := .pointer (some ⟨g0, 0, none⟩)) rfl rfl (run_boxOp rfl (by kernel_rfl) HBX.out) rfl ?_
  refine wp_y (v := (.slice none 0 0)) rfl rfl (y_assign rfl) rfl ?_
  try simp only [List.setIfInBounds_toArray, List.set_cons_zero, List.set_cons_succ]
  refine wp_end ?_
  have hnn : v.toNat = n := by rw [← HN.out]; exact (if_pos rfl).symm
  have hmk := HMK.out
  have e : Value.int .i64 ((n : Nat) : Int) = .int .i64 (v.toNat : Nat) := by rw [hnn]
  rw [e] at hmk
  clear HMK
  have HMK := hid hmk
  have HLV := hid (load1 Tryz.isAgg5 hc2)
  clear hmk e hnn hc2
  go_upto_region 3 with fail
  refine wp_region_lit ?_
  refine wp_y (v := .pointer (some ⟨g0, 2, none⟩)) rfl rfl (y_faddr rfl (hf := fg32_2 (g0) (0))) rfl ?_
  refine wp_y (v := cb v) rfl rfl (y_load rfl (hl := fun w' h => by rw [h]; exact HLV.out)) rfl ?_
  refine wp_y (v := .int .i64 (v.toNat : Nat)) rfl rfl (y_cnv rfl (by kernel_rfl) (by kernel_rfl) (qint v)) rfl ?_
  refine wp_y (v := .int .i64 (v.toNat : Nat)) rfl rfl (y_assign rfl) rfl ?_
  try simp only [List.setIfInBounds_toArray, List.set_cons_zero, List.set_cons_succ]
  refine wp_end ?_
  go_upto_region 4 with fail
  refine wp_region_lit ?_
  refine wp_y (v := .int .i64 (v.toNat : Nat)) rfl rfl (y_move rfl) rfl ?_
  refine wp_run (v := .slice (some ⟨g1, 0, none⟩) n n) rfl rfl (run_mkOp rfl (by kernel_rfl) (by kernel_rfl) HMK.out) rfl ?_
  refine wp_y (v := .slice (some ⟨g1, 0, none⟩) n n) rfl rfl (y_assign rfl) rfl ?_
  try simp only [List.setIfInBounds_toArray, List.set_cons_zero, List.set_cons_succ]
  refine wp_end ?_
  clear HMK HBX
  go_wp2_with fail
  go_loopw [5] (fun y wr => ∃ k : Nat, k ≤ n ∧ y = .int .i64 k ∧ Rw wr g1 5 (ofL v n k) ∧ wr.heap[g0]? = some (.cells #[.int .i64 kd, .int .i64 77, cb v] 32 (0, 0)) ∧ Below g0 w wr) (fun y _ => n - (intOf y).toNat)
  case atStart => exact ⟨0, Nat.zero_le _, rfl, H2.out.1, H2.out.2.1, H2.out.2.2.1⟩
  case round =>
    obtain ⟨k, hk, rfl, hR, hS, hB⟩ := hrel
    have hn1 := HN1.out
    have hgg := H2.out.2.2.2
    clear H2
    have hwk : IntKind.i64.wrap ((k : Int) + 1) = ((k + 1 : Nat) : Int) := by rw [IntWalk.i64_in _ ⟨by omega, by omega⟩]; omega
    by_cases hlt : k < n
    · have hlt' : (k : Int) < (n : Int) := by omega
      have HLD := hid (load1 Tryz.isAgg5 (cell_at hS 2 rfl))
      have HST := hid (store1 Tryz.sizeOf5 (cb (v + UInt8.ofNat k)) rfl rfl (hR.rd k (by rw [ofL_len]; exact hlt)) (open_at hR (0 + k)))
      have hF : Fr [g1] wr (wr.setCell ⟨g1, k, none⟩ (cb (v + UInt8.ofNat k))) := Fr.setCell _ _ _ _
      have hR2 := hR.set k (v + UInt8.ofNat k)
      rw [ofL_set] at hR2
      have HZ := hid (And.intro hR2 (And.intro (hF.at hS (by simp; omega)) (hB.trans (hF.below (by have := hB.size; have := HG.out; omega) (by simp; omega)))))
      rw [Nat.zero_add] at HST
      have HKX := hid hlt
      clear hR hS hB hF hR2 hlt hk hn1 hgg
      go_upto_region 8 with fail
      refine wp_region_lit ?_
      refine wp_y (v := .slice (some ⟨g1, 0, none⟩) n n) rfl rfl (y_move rfl) rfl ?_
      refine wp_y (v := .int .i64 (k : Nat)) rfl rfl (y_move rfl) rfl ?_
      refine wp_y (v := .pointer (some ⟨g0, 2, none⟩)) rfl rfl (y_faddr rfl (hf := fg32_2 (g0) (0))) rfl ?_
      refine wp_y (v := cb v) rfl rfl (y_load rfl (hl := fun w' h => by rw [h]; exact HLD.out)) rfl ?_
      refine wp_y (v := .int .i64 (k : Nat)) rfl rfl (y_move rfl) rfl ?_
      refine wp_y (v := cb (UInt8.ofNat k)) rfl rfl (y_cnv rfl (by kernel_rfl) (by kernel_rfl) (qu8 k)) rfl ?_
      refine wp_y (v := cb (v + UInt8.ofNat k)) rfl rfl (y_bin (k := .u8) (k' := .u8) (m := v.toNat) (n := (UInt8.ofNat k).toNat) rfl (by kernel_rfl) (by kernel_rfl) (by kernel_rfl) (qaddU v (UInt8.ofNat k))) rfl ?_
      refine wp_y (v := .pointer (some ⟨g1, k, none⟩)) rfl rfl (y_index rfl (hr := idxB g1 n n k HKX.out)) rfl ?_
      try simp only [List.setIfInBounds_toArray, List.set_cons_zero, List.set_cons_succ]
      refine wp_do rfl rfl (run_storeOp rfl (by kernel_rfl) (by kernel_rfl) HST.out) ?_
      try simp only [List.setIfInBounds_toArray, List.set_cons_zero, List.set_cons_succ]
      refine wp_end ?_
      go_wp2_with fail
      exact ⟨⟨k + 1, HKX.out, rfl, HZ.out⟩, by have := HKX.out; simp [intOf]; omega⟩
    · obtain rfl : k = n := by omega
      have hlt' : ¬ (k : Int) < (k : Int) := by omega
      have HZ := hid (And.intro hR hB)
      have HGG := hid hgg
      clear hR hS hB hlt hk hn1 hgg
      go_wp2_with fail
      go_ret
      exact ⟨g1, by have := HGG.out; omega, rfl, HZ.out⟩
end Go.Proofs.YtcmgclkbhhdnaaaGreatDoor
