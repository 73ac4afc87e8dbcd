/- the text PRefH -/
import Derived.Test.YtcmgclkbhhdnaaaGreatDoorPRefGC
namespace Go.Proofs.YtcmgclkbhhdnaaaGreatDoor
open Go Go.RowKit
variable {Z : Nat → Prop}

theorem rwrite_none {w : World} {B r : Nat} {cur was : Pgs} {rt wr : Int} {ch : Bool} (h : Rp Z w B r cur was rt wr ch) (k : Int) (hk : (decide (0 ≤ k) && (cur[k.toNat]?.getD none).isSome) = false) (v : Value) :
    Calls Tryz.prog 47 #[.pointer (some ⟨r, 0, none⟩), .int .i64 k, v] w fun e w' => e = .returned (.int .i64 81) ∧ w' = w := by
  have ht := rtaken_any h k
  rw [hk] at ht
  have HT := hid ht
  clear h ht hk
  go_enter Tryz.func47, Tryz.ntmps47
  go_wp2_with fail
  refine HT.out.mono ?_
  rintro e wz ⟨rfl, hwz⟩
  obtain rfl := hwz.symm
  clear HT
  go_wp2
  go_ret
  exact ⟨rfl, rfl⟩
theorem rwrite_len {w : World} {B r : Nat} {cur was : Pgs} {rt wr : Int} {ch : Bool} (h : Rp Z w B r cur was rt wr ch) (k : Int) (hk : (decide (0 ≤ k) && (cur[k.toNat]?.getD none).isSome) = true) (a : Option Addr) (m c : Nat) (hm : m ≠ 896) :
    Calls Tryz.prog 47 #[.pointer (some ⟨r, 0, none⟩), .int .i64 k, .slice a m c] w fun e w' => e = .returned (.int .i64 2) ∧ w' = w := by
  have ht := rtaken_any h k
  rw [hk] at ht
  have HT := hid ht
  have hb : ((m : Int) == 896) = false := by rw [beq_eq_false_iff_ne]; omega
  clear h ht hk
  go_enter Tryz.func47, Tryz.ntmps47
  go_wp2_with fail
  refine HT.out.mono ?_
  rintro e wz ⟨rfl, hwz⟩
  obtain rfl := hwz.symm
  clear HT
  go_wp2
  go_ret
  exact ⟨rfl, rfl⟩
set_option maxHeartbeats 400000 in
theorem rwrite_ok {w : World} {B r : Nat} {cur was : Pgs} {rt wr : Int} {ch : Bool} (h : Rp Z w B r cur was rt wr ch) (q : Nat) (b : List UInt8) (hq : cur[q]? = some (some b)) (a : Option Addr) (c : Nat) (l : List UInt8) (hl : Sl w (.slice a 896 c) l) :
    Calls Tryz.prog 47 #[.pointer (some ⟨r, 0, none⟩), .int .i64 q, .slice a 896 c] w fun e w' => e = .returned (.int .i64 0) ∧ Rp Z w' B r (cur.set q (some l)) was rt wr true ∧ ∃ g, (B ≤ g ∧ ¬ Z g) ∧ (∃ cs, w.heap[g]? = some (.cells cs 148 (0, 0))) ∧ Fr [g, r] w w' := by
  have ht := rtaken_any h (q : Int)
  have e1 : (decide ((0 : Int) ≤ (q : Int)) && (cur[(q : Int).toNat]?.getD none).isSome) = true := by simp [hq]
  rw [e1] at ht
  have HT := hid ht
  have HCV : Hid ((convert 49 9 (.slice a 896 c)).run Tryz.prog w = .ok (strV l) w) := hid (conv_sl hl)
  have HLY := hid (rlay_any h q (List.getElem?_eq_some_iff.1 hq).1 l)
  clear h ht e1 hq hl
  generalize strV l = sl at *
  go_enter Tryz.func47, Tryz.ntmps47
  go_wp2_with fail
  refine HT.out.mono ?_
  rintro e wz ⟨rfl, hwz⟩
  obtain rfl := hwz.symm
  clear HT
  go_upto_region 6 with fail
  refine wp_region_lit ?_
  refine wp_y (v := .pointer (some ⟨r, 0, none⟩)) rfl rfl (y_move rfl) rfl ?_
  refine wp_y (v := .int .i64 q) rfl rfl (y_move rfl) rfl ?_
  refine wp_y (v := .slice a 896 c) rfl rfl (y_move rfl) rfl ?_
  refine wp_run (v := sl) rfl rfl (run_cvOp rfl (by kernel_rfl) HCV.out) rfl ?_
  refine wp_call (f := 85) (args := #[.pointer (some ⟨r, 0, none⟩), .int .i64 q, sl]) (by kernel_rfl) (fun w => by go_simp) ?_
  refine HLY.out.mono ?_
  rintro e w5 ⟨rfl, h5⟩
  refine ⟨_, rfl, ?_⟩
  have HZ := hid h5
  clear h5
  dsimp only [Act.put]
  try simp only [List.setIfInBounds_toArray, List.set_cons_zero, List.set_cons_succ]
  refine wp_end ?_
  clear HLY
  go_wp2_with fail
  go_ret
  exact ⟨rfl, HZ.out⟩
theorem make896 (w : World) : (Instr.makeSlice 49 (.int .i64 896) (.int .i64 896)).run Tryz.prog w = .ok (.slice (some ⟨w.heap.size, 0, none⟩) 896 896) (w.alloc (.cells (cells8 z896).toArray 5)) := by
  have h := (make_row (z := .int .u8 0) (by_ := 1) Tryz.underlying49 info8 rfl (by decide) 896 (by decide) w).1
  have e : ∀ n, madeCells #[Value.int .u8 0] n = (cells8 (List.replicate n 0)).toArray := fun n => by
    apply Array.ext'
    rw [made_list]
    simp [cells8]
    exact .inr rfl
  rw [e] at h
  exact h
set_option maxRecDepth 100000 in
set_option maxHeartbeats 400000 in
theorem ralloc_full {w : World} {B r : Nat} {cur was : Pgs} {rt wr : Int} {ch : Bool} (h : Rp Z w B r cur was rt wr ch) (hl : cur.length ≤ 1023) (hf : ∀ q : Nat, cur[q]? ≠ some none) :
    Calls Tryz.prog 44 #[.pointer (some ⟨r, 0, none⟩)] w fun e w' => e = .returned (.tuple #[.int .i64 0, .int .i64 80]) ∧ w' = w := by
  obtain ⟨_, vp, vw, al, be, hr, hp, _, hs, _, _⟩ := h
  obtain ⟨a, c, rfl⟩ := owns_shape hp
  have c0 : w.cell? ⟨r, 0, none⟩ = some (.slice a cur.length c) := cell_at hr 0 rfl
  obtain ⟨n, hn⟩ : ∃ n, cur.length = n := ⟨_, rfl⟩
  rw [hn] at c0 hp hl
  have HR := hid (And.intro hp (And.intro hs (And.intro hn hf)))
  have HL := hid hl
  clear hr hp hs hn hl hf
  go_enter Tryz.func44, Tryz.ntmps44
  go_wp2_with fail
  go_loopw [4] (fun y wv => ∃ k : Nat, k ≤ n ∧ y = .int .i64 k ∧ wv = w) (fun y _ => n - (intOf y).toNat)
  case atStart => exact ⟨0, Nat.zero_le _, rfl, rfl⟩
  case round =>
    obtain ⟨k, hk, rfl, hwv⟩ := hrel
    obtain rfl := hwv.symm
    have hll := HL.out
    have hwk : IntKind.i64.wrap ((k : Int) + 1) = ((k + 1 : Nat) : Int) := by rw [IntWalk.i64_in _ ⟨by omega, by omega⟩]; omega
    by_cases hlt : k < n
    · have hlt' : (k : Int) < (n : Int) := by omega
      have hr := HR.out
      obtain ⟨hnc, g, rfl, _, hor⟩ := Rp.row hr.1 hr.2.1 (q := k) (by rw [hr.2.2.1]; exact hlt)
      have HK := hid hlt
      rcases hor with ⟨h1, _, hc⟩ | ⟨y, b, h1, _, hc, _⟩
      · exact absurd h1 (hr.2.2.2 k)
      · clear hr h1 hk hlt hll
        go_wp2_with fail
        exact ⟨⟨k + 1, HK.out, rfl, trivial⟩, by have := HK.out; simp [intOf]; omega⟩
    · obtain rfl : k = n := by omega
      have hlt' : ¬ (k : Int) < (k : Int) := by omega
      clear hk hlt hll
      go_wp2_with fail
      go_ret2
      exact ⟨rfl, rfl⟩
set_option maxRecDepth 100000 in
set_option maxHeartbeats 400000 in
theorem ralloc_at {w : World} {B r : Nat} {cur was : Pgs} {rt wr : Int} {ch : Bool} (h : Rp Z w B r cur was rt wr ch) (hl : cur.length ≤ 1023) (q : Nat) (hq : cur[q]? = some none) (hb : ∀ i : Nat, i < q → cur[i]? ≠ some none) :
    Calls Tryz.prog 44 #[.pointer (some ⟨r, 0, none⟩)] w fun e w' => e = .returned (.tuple #[.int .i64 q, .int .i64 0]) ∧ Rp Z w' B r (cur.set q (some z896)) was rt wr true ∧ ∃ g, (B ≤ g ∧ ¬ Z g) ∧ (∃ cs, w.heap[g]? = some (.cells cs 148 (0, 0))) ∧ Fr [g, r] w w' := by
  have hql := (List.getElem?_eq_some_iff.1 hq).1
  have hmk := make896 w
  have hB1 : Below w.heap.size w (w.alloc (.cells (cells8 z896).toArray 5)) := (Below.refl _ _).alloc (Nat.le_refl _) _
  have hR1 : Rw (w.alloc (.cells (cells8 z896).toArray 5)) w.heap.size 5 z896 := heap_alloc_last w _
  have hgw : ∀ (g : Nat) (cs : Array Value), (w.alloc (.cells (cells8 z896).toArray 5)).heap[g]? = some (.cells cs 148 (0, 0)) → ∃ cs, w.heap[g]? = some (.cells cs 148 (0, 0)) := fun g cs hg => by
    by_cases e : g < w.heap.size
    · exact ⟨cs, by rw [← hB1.block g e]; exact hg⟩
    · have hl := heap_lt hg
      have hz : (w.alloc (.cells (cells8 z896).toArray 5)).heap.size = w.heap.size + 1 := by show (w.heap.push _).size = _; simp
      have : g = w.heap.size := by omega
      subst this
      unfold Rw at hR1
      rw [hR1] at hg
      injection hg with hg
      injection hg with _ e2
      exact absurd e2 (by decide)
  generalize w.alloc (.cells (cells8 z896).toArray 5) = w1 at *
  obtain ⟨g1, hg1⟩ : ∃ g, w.heap.size = g := ⟨_, rfl⟩
  have hlay := rlay_any (h.below hB1) q hql z896
  rw [hg1] at hmk hR1
  have hsl : Sl w1 (.slice (some ⟨g1, 0, none⟩) 896 896) z896 := by
    have h2 := Sl.mk (cap := 896) hR1.rd (by rw [z896_len]; exact Nat.le_refl _)
    rw [z896_len] at h2
    exact h2
  have HCV : Hid ((convert 49 9 (.slice (some ⟨g1, 0, none⟩) 896 896)).run Tryz.prog w1 = .ok (strV z896) w1) := hid (conv_sl hsl)
  have HLY : Hid (Calls Tryz.prog 85 #[.pointer (some ⟨r, 0, none⟩), .int .i64 q, strV z896] w1 fun e w' => e = .returned (.tuple #[]) ∧ Rp Z w' B r (cur.set q (some z896)) was rt wr true ∧ ∃ g, (B ≤ g ∧ ¬ Z g) ∧ (∃ cs, w.heap[g]? = some (.cells cs 148 (0, 0))) ∧ Fr [g, r] w w') := hid (hlay.mono (by
    rintro e w' ⟨rfl, a1, g, a2, ⟨cs, a3⟩, a4⟩
    exact ⟨rfl, a1, g, a2, hgw g cs a3, (Fr.of_below (X := [g, r]) hB1).trans a4 (fun x hx => .inl hx)⟩))
  have HMK := hid hmk
  obtain ⟨_, vp, vw, al, be, hr, hp, _, hs, _, _⟩ := h
  obtain ⟨a, c, rfl⟩ := owns_shape hp
  have c0 : w.cell? ⟨r, 0, none⟩ = some (.slice a cur.length c) := cell_at hr 0 rfl
  obtain ⟨n, hn⟩ : ∃ n, cur.length = n := ⟨_, rfl⟩
  rw [hn] at c0 hp hl hql
  have HR := hid (And.intro hp (And.intro hs (And.intro hn (And.intro hq hb))))
  have HL := hid (And.intro hl hql)
  clear hr hp hs hn hl hq hb hql hmk hB1 hR1 hgw hg1 hlay hsl
  generalize strV z896 = sz at *
  go_enter Tryz.func44, Tryz.ntmps44
  go_wp2_with fail
  go_loopw [4] (fun y wv => ∃ k : Nat, k ≤ q ∧ y = .int .i64 k ∧ wv = w) (fun y _ => n - (intOf y).toNat)
  case atStart => exact ⟨0, Nat.zero_le _, rfl, rfl⟩
  case round =>
    obtain ⟨k, hk, rfl, hwv⟩ := hrel
    obtain rfl := hwv.symm
    have hll := HL.out
    have hwk : IntKind.i64.wrap ((k : Int) + 1) = ((k + 1 : Nat) : Int) := by rw [IntWalk.i64_in _ ⟨by omega, by omega⟩]; omega
    have hlt' : (k : Int) < (n : Int) := by omega
    have hltn : k < n := by omega
    have hr := HR.out
    obtain ⟨hnc, g, rfl, _, hor⟩ := Rp.row hr.1 hr.2.1 (q := k) (by rw [hr.2.2.1]; omega)
    by_cases hlt : k < q
    · have HK := hid (And.intro hlt hltn)
      rcases hor with ⟨h1, _, hc⟩ | ⟨y, b, h1, _, hc, _⟩
      · exact absurd h1 (hr.2.2.2.2 k hlt)
      · clear hr h1 hk hlt hll HMK HCV HLY
        go_wp2_with fail
        exact ⟨⟨k + 1, HK.out.1, rfl, trivial⟩, by have := HK.out; simp [intOf]; omega⟩
    · obtain rfl : k = q := by omega
      rcases hor with ⟨h1, _, hc⟩ | ⟨y, b, h1, _, hc, _⟩
      · clear hr h1 hk hlt hll
        go_upto_region 5 with fail
        refine wp_region_lit ?_
        refine wp_y (v := .pointer (some ⟨r, 0, none⟩)) rfl rfl (y_move rfl) rfl ?_
        refine wp_y (v := .int .i64 k) rfl rfl (y_move rfl) rfl ?_
        refine wp_run (v := .slice (some ⟨g1, 0, none⟩) 896 896) rfl rfl (run_mkOp rfl (by kernel_rfl) (by kernel_rfl) HMK.out) rfl ?_
        refine wp_run (v := sz) rfl rfl (run_cvOp rfl (by kernel_rfl) HCV.out) rfl ?_
        refine wp_call (f := 85) (args := #[.pointer (some ⟨r, 0, none⟩), .int .i64 k, sz]) (by kernel_rfl) (fun w => by go_simp) ?_
        refine HLY.out.mono ?_
        rintro e w5 ⟨rfl, h5⟩
        refine ⟨_, rfl, ?_⟩
        have HZ := hid h5
        clear h5
        dsimp only [Act.put]
        try simp only [List.setIfInBounds_toArray, List.set_cons_zero, List.set_cons_succ]
        refine wp_end ?_
        clear HLY
        go_wp2_with fail
        go_ret2
        exact ⟨rfl, HZ.out⟩
      · rw [hr.2.2.2.1] at h1; cases h1
end Go.Proofs.YtcmgclkbhhdnaaaGreatDoor
