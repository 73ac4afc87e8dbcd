/- The reference's pager in memory: clone, Begun. -/
import Derived.Test.YtdbgccgjdgomkaaGreatDoorPRefAC
namespace Go.Proofs.YtdbgccgjdgomkaaGreatDoor
open Go Go.RowKit

theorem made_list (z : Value) (n : Nat) : (madeCells #[z] n).toList = List.replicate n z := by
  refine List.ext_getElem? fun k => ?_
  rw [Array.getElem?_toList]
  by_cases hk : k < n
  · rw [List.getElem?_replicate, if_pos hk]
    simp [madeCells, hk, Nat.mod_one]
  · rw [List.getElem?_replicate, if_neg hk]
    simp [madeCells, hk]
theorem make_row {ts t : TypeId} {z : Value} {by_ : Nat} (hu : Tryz.prog.underlying ts = some (.slice t)) (hi : (Tryz.prog.info? t).map (fun i => (i.zero, i.size, i.bytes)) = some (some z, 1, by_)) (hz : z.cells = #[z]) (hby : by_ ≤ 24) (n : Nat) (hn : n ≤ 1000000) (w : World) :
    (Instr.makeSlice ts (.int .i64 n) (.int .i64 n)).run Tryz.prog w = .ok (.slice (some ⟨w.heap.size, 0, none⟩) n n) (w.alloc (.cells (madeCells #[z] n) t)) ∧ (w.alloc (.cells (madeCells #[z] n) t)).ownsRow w.heap.size t 1 (.slice (some ⟨w.heap.size, 0, none⟩) n n) n (List.replicate n z) := by
  obtain ⟨i0, hie, hz0, hz1, hz2⟩ := info_parts hi
  have hb : (i0.bytes : Int) * (n : Int) ≤ 281474976710656 := by
    rw [hz2]
    have : by_ * n ≤ 24 * 1000000 := Nat.mul_le_mul hby hn
    have h2 : ((by_ * n : Nat) : Int) ≤ 24000000 := by omega
    rw [Int.natCast_mul] at h2; omega
  have hr := run_make (P := Tryz.prog) w ts t i0 z hu hie hz0 .i64 .i64 n n (by omega) (Int.le_refl _) hb (by omega)
  simp only [Int.toNat_natCast, hz1, Nat.mul_one, hz] at hr
  refine ⟨hr, by rw [List.length_replicate, Nat.mul_one], .inr ⟨w.heap.size, n, madeCells #[z] n, rfl, Nat.le_refl _, heap_alloc_last w _, Nat.le_refl _, by unfold maxLen; omega, ?_, ?_⟩⟩
  · rw [← Array.length_toList, made_list, List.length_replicate, Nat.mul_one]
  · rw [made_list, List.take_of_length_le (by rw [List.length_replicate]; omega)]
theorem rstore93 {w : World} {g : Nat} {x y : Value} (h : w.heap[g]? = some (.cells #[x, y] 93 (0, 0))) (v : Value) (hv : v.oneCell' = true) (rt : Int) : (Instr.storeAt 93 (.pointer (some ⟨g, 0, none⟩)) (Rs v rt)).run Tryz.prog w = .ok () (w.setRow g #[v, .int .i64 rt]) :=
  storeAt_all size93 rfl rfl h (by intro u hu; simp at hu; rcases hu with rfl | rfl; exact hv; rfl)
theorem rstore95 {w : World} {g : Nat} {a b c d e : Value} (h : w.heap[g]? = some (.cells #[a, b, c, d, e] 95 (0, 0))) (v : Value) (hv : v.oneCell' = true) (rt : Int) : (Instr.storeAt 93 (.pointer (some ⟨g, 2, none⟩)) (Rs v rt)).run Tryz.prog w = .ok () (w.setRow g #[a, b, v, .int .i64 rt, e]) := by
  have h1 := storeAt_k (P := Tryz.prog) size93 w g 2 #[a, b, c, d, e] 95 [v, .int .i64 rt] rfl h (by simp) (by intro u hu; simp at hu; rcases hu with rfl | rfl; exact hv; rfl)
  have e1 : relaid #[a, b, c, d, e] 2 [v, .int .i64 rt] = #[a, b, v, .int .i64 rt, e] := by simp [relaid]
  rw [e1] at h1
  exact h1
set_option maxRecDepth 100000 in
set_option maxHeartbeats 1000000 in
theorem rclone_any {w : World} {ga n c : Nat} {rt : Int} {ps : List Value} (hn : ps.length = n) (h1 : 1 ≤ n) (h2 : n ≤ 1000000) (hr : ∀ (k : Nat) (x : Value), ps[k]? = some x → w.cell? ⟨ga, k, none⟩ = some x) (ho : ∀ x ∈ ps, x.oneCell' = true) (hga : ga < w.heap.size) :
    Calls Tryz.prog 43 #[Rs (.slice (some ⟨ga, 0, none⟩) n c) rt] w fun e w' => ∃ v', e = .returned (Rs v' rt) ∧ w'.ownsRow w.heap.size 148 1 v' n ps ∧ Below w.heap.size w w' := by
  obtain ⟨g0, hg0⟩ : ∃ g, w.heap.size = g := ⟨_, rfl⟩
  have hbx := rbox93 w (.slice (some ⟨ga, 0, none⟩) n c) rt
  have hB1 : Below w.heap.size w (w.alloc (.cells #[.slice (some ⟨ga, 0, none⟩) n c, .int .i64 rt] 93)) := (Below.refl _ _).alloc (Nat.le_refl _) _
  have hS1 : (w.alloc (.cells #[.slice (some ⟨ga, 0, none⟩) n c, .int .i64 rt] 93)).heap[w.heap.size]? = some (.cells #[.slice (some ⟨ga, 0, none⟩) n c, .int .i64 rt] 93 (0, 0)) := heap_alloc_last w _
  have hz1 : (w.alloc (.cells #[.slice (some ⟨ga, 0, none⟩) n c, .int .i64 rt] 93)).heap.size = w.heap.size + 1 := by show (w.heap.push _).size = _; simp
  generalize w.alloc (.cells #[.slice (some ⟨ga, 0, none⟩) n c, .int .i64 rt] 93) = w1 at *
  obtain ⟨g1, hg1⟩ : ∃ g, w1.heap.size = g := ⟨_, rfl⟩
  have hal := ralloc93 w1
  have hB2 : Below w1.heap.size w1 (w1.alloc (.cells #[.slice none 0 0, .int .i64 0] 93)) := (Below.refl _ _).alloc (Nat.le_refl _) _
  have hS2 : (w1.alloc (.cells #[.slice none 0 0, .int .i64 0] 93)).heap[w1.heap.size]? = some (.cells #[.slice none 0 0, .int .i64 0] 93 (0, 0)) := heap_alloc_last w1 _
  generalize w1.alloc (.cells #[.slice none 0 0, .int .i64 0] 93) = w2 at *
  rw [hg0] at hbx hB1 hS1 hz1
  rw [hg1] at hal hB2 hS2 hz1
  have hBw2 : Below g0 w w2 := hB1.trans (hB2.mono (by omega))
  have hS12 := below_at hB2 hS1 (by omega)
  -- the append
  obtain ⟨i0, hie, hz0, hzz1, hzz2⟩ := info_parts infoP
  obtain ⟨wd, hwd⟩ : ∃ wd, w2.drew = wd := ⟨_, rfl⟩
  have hBd : Below g0 w wd := by rw [← hwd]; exact hBw2.trans ((Below.refl _ _).drew)
  obtain ⟨v', w3, hap, ho3, hg3, _⟩ := run_append_own_at (P := Tryz.prog) (w := wd) wd.heap.size 91 91 148 i0 (.pointer none) 1 8 Tryz.underlying91 hie hz0 hzz1 hzz2 rfl (by decide) (.slice none 0 0) 0 [] (World.ownsRow_nil _ _ _ _) ⟨ga, 0, none⟩ n c ps (by rw [hn, Nat.mul_one]) (fun j x hj => by rw [Addr.add_lit, Nat.zero_add]; exact (hBd.cell (p := ⟨ga, j, none⟩) (by show ga < g0; omega)).trans (hr j x hj)) ho (by unfold maxLen; omega) (by omega) (Nat.le_refl _)
  rw [List.nil_append, Nat.zero_add] at ho3
  have hB3 : Below wd.heap.size wd w3 := (Below.refl _ _).grown hg3 (Nat.le_refl _) (fun k e => by cases e)
  have hzd : g1 < wd.heap.size := by rw [← hwd]; exact heap_lt hS2
  have hSd : wd.heap[g0]? = some (.cells #[.slice (some ⟨ga, 0, none⟩) n c, .int .i64 rt] 93 (0, 0)) := by rw [← hwd]; exact hS12
  have hS3 := below_at hB3 hSd (by omega)
  have hT3 : w3.heap[g1]? = some (.cells #[.slice none 0 0, .int .i64 0] 93 (0, 0)) := below_at hB3 (by rw [← hwd]; exact hS2) hzd
  obtain ⟨gv, cv, rfl⟩ : ∃ g c, v' = .slice (some ⟨g, 0, none⟩) n c := by
    rcases ho3.2 with ⟨_, h0⟩ | ⟨g, cap, cur, e, _⟩
    · omega
    · exact ⟨g, cap, e⟩
  have hst := rstore93 hT3 (.slice (some ⟨gv, 0, none⟩) n cv) rfl rt
  have hF4 := Fr.setRow w3 g1 #[.slice (some ⟨gv, 0, none⟩) n cv, .int .i64 rt]
  have hT4 : (w3.setRow g1 #[.slice (some ⟨gv, 0, none⟩) n cv, .int .i64 rt]).heap[g1]? = some (.cells #[.slice (some ⟨gv, 0, none⟩) n cv, .int .i64 rt] 93 (0, 0)) := setRow_heap w3 g1 _ _ _ _ hT3
  have ho4 := owns_fr ho3 hF4 (fun g c hg hm => by
    obtain rfl : g = g1 := by simpa using hm
    rw [hT3] at hg
    injection hg with hg
    injection hg with _ e
    exact absurd e (by decide))
  have hS4 := hF4.at hS3 (by simp; omega)
  generalize w3.setRow g1 #[.slice (some ⟨gv, 0, none⟩) n cv, .int .i64 rt] = w4 at *
  have hB4 : Below g0 w w4 := (hBd.trans (hB3.mono (by omega))).trans (hF4.below (by have := hB3.size; omega) (by simp; omega))
  have HLR := hid (rload93 (v := .slice (some ⟨gv, 0, none⟩) n cv) (rt := rt) (cell_at hT4 0 rfl) (cell_at hT4 1 rfl))
  have HZ : Hid (∃ v', Ending.returned (Rs (.slice (some ⟨gv, 0, none⟩) n cv) rt) = .returned (Rs v' rt) ∧ w4.ownsRow w.heap.size 148 1 v' n ps ∧ Below w.heap.size w w4) := hid ⟨_, rfl, owns_mono ho4 (by omega), by rw [hg0]; exact hB4⟩
  have HBX := hid hbx
  have HAL := hid hal
  have HAP := hid hap
  have HST := hid hst
  have HSD := hid hSd
  have HS3 := hid hS3
  have HS4 := hid hS4
  have HWD := hid hwd
  clear hn h1 h2 hr ho hga hg0 hbx hB1 hS1 hz1 hg1 hal hB2 hS2 hBw2 hS12 hie hz0 hzz1 hzz2 hwd hBd hap ho3 hg3 hB3 hzd hSd hS3 hT3 hst hF4 hT4 ho4 hS4 hB4
  go_enter Tryz.func43, Tryz.ntmps43
  go_upto_region 0 with fail
  refine wp_region_lit ?_
  refine wp_run (v := .pointer (some ⟨g0, 0, none⟩)) rfl rfl (run_boxOp rfl (by kernel_rfl) HBX.out) rfl ?_
  refine wp_run (v := .pointer (some ⟨g1, 0, none⟩)) rfl rfl (run_alOp rfl HAL.out) rfl ?_
  try simp only [List.setIfInBounds_toArray, List.set_cons_zero, List.set_cons_succ]
  refine wp_end ?_
  go_upto_region 1 with fail
  refine h_openL (S := fun w' => w'.heap[g0]? = some (.cells #[.slice (some ⟨ga, 0, none⟩) n c, .int .i64 rt] 93 (0, 0))) (by kernel_rfl) (by kernel_rfl) (fun _ _ _ _ _ h => h) (L := #[false, false, false, false, false, false, false]) (by kernel_rfl) ?_
  intro Q' hns hP hN
  have hS := HSD.out
  rw [HWD.out]
  refine h_takeL (i := 0) (v := .pointer (some ⟨g0, 0, none⟩)) hns rfl rfl (by kernel_rfl) (by kernel_rfl) hP (y_faddr rfl (by kernel_rfl) (by kernel_rfl) (fg93_0 (g0) (0))) hS rfl (L' := #[true, false, false, false, false, false, false]) (by kernel_rfl) ?_
  refine h_takeL (i := 1) (v := .slice (some ⟨ga, 0, none⟩) n c) hns rfl rfl (by kernel_rfl) (by kernel_rfl) hP (y_load rfl (by kernel_rfl) (by kernel_rfl) (fun w' h => load1 Tryz.isAgg91 (cell_at h 0 rfl))) hS rfl (L' := #[true, true, false, false, false, false, false]) (by kernel_rfl) ?_
  refine h_takeL (i := 3) (v := .pointer (some ⟨g0, 1, none⟩)) hns rfl rfl (by kernel_rfl) (by kernel_rfl) hP (y_faddr rfl (by kernel_rfl) (by kernel_rfl) (fg93_1 (g0) (0))) hS rfl (L' := #[true, true, false, true, false, false, false]) (by kernel_rfl) ?_
  refine h_takeL (i := 4) (v := .int .i64 rt) hns rfl rfl (by kernel_rfl) (by kernel_rfl) hP (y_load rfl (by kernel_rfl) (by kernel_rfl) (fun w' h => load1 Tryz.isAgg3 (cell_at h 1 rfl))) hS rfl (L' := #[true, true, false, true, true, false, false]) (by kernel_rfl) ?_
  refine h_valL (i := 2) (v := .slice (some ⟨gv, 0, none⟩) n cv) (by kernel_rfl) rfl rfl (by kernel_rfl) (run_appOp rfl (by kernel_rfl) (by kernel_rfl) HAP.out) HS3.out rfl (L' := #[true, true, true, true, true, false, false]) (by kernel_rfl) ?_
  refine h_valL (i := 5) (v := Rs (.slice (some ⟨gv, 0, none⟩) n cv) rt) (by kernel_rfl) rfl rfl (by kernel_rfl) (run_buildOp rfl (by kernel_rfl) (rbuild93 _ _ _ _ _)) HS3.out rfl (L' := #[true, true, true, true, true, true, false]) (by kernel_rfl) ?_
  refine h_skipL (i := 6) (by kernel_rfl) rfl rfl (by kernel_rfl) (run_storeOp rfl (by kernel_rfl) (by kernel_rfl) HST.out) HS4.out (L' := #[true, true, true, true, true, true, true]) (by kernel_rfl) ?_
  try simp only [List.setIfInBounds_toArray, List.set_cons_zero, List.set_cons_succ]
  refine wpAnyH_done (by kernel_rfl) ?_ _
  refine hN _ _ ?_
  clear hP hN hns
  clear hS
  go_wp2_with fail
  exact ret_cell rfl rfl rfl HLR.out HZ.out
/-- A pointer, or nil. -/
def pV : Option Nat → Value
  | none => .pointer none
  | some a => .pointer (some ⟨a, 0, none⟩)
/-- What the pointers point at. -/
def Sp (w : World) (al : List (Option Nat)) (c : Pgs) : Prop := al.length = c.length ∧ ∀ i : Nat, (al[i]? = some none → c[i]? = some none) ∧ ∀ a, al[i]? = some (some a) → ∃ b, c[i]? = some (some b) ∧ w.heap[a]? = some (.cells #[strV b] 9 (0, 0))
/-- The reference's pager at block r. -/
def Rp (w : World) (B r : Nat) (cur was : Pgs) (rt wr : Int) (ch : Bool) : Prop :=
  B ≤ r ∧ ∃ vp vw al be, w.heap[r]? = some (.cells #[vp, .int .i64 rt, vw, .int .i64 wr, .bool ch] 95 (0, 0)) ∧ w.ownsRow B 148 1 vp cur.length (al.map pV) ∧ w.ownsRow B 148 1 vw was.length (be.map pV) ∧ Sp w al cur ∧ Sp w be was ∧ ∀ g, vp.ownBlock = some g → vw.ownBlock ≠ some g
set_option maxRecDepth 100000 in
set_option maxHeartbeats 1000000 in
theorem refBegun_any (nb n : Nat) (h0 : 10 ≤ nb) (h1 : nb < 8192) (hn : (nb - 2) / 8 = n) (w : World) :
    Calls Tryz.prog 33 #[.int .i64 nb] w fun e w' => ∃ r, w.heap.size ≤ r ∧ e = .returned (.pointer (some ⟨r, 0, none⟩)) ∧ Rp w' w.heap.size r (List.replicate n none) (List.replicate n none) (-1) (-1) false ∧ Below w.heap.size w w' := by
  obtain ⟨g0, hg0⟩ : ∃ g, w.heap.size = g := ⟨_, rfl⟩
  have hn1 : 1 ≤ n := by omega
  have hn2 : n ≤ 1023 := by omega
  obtain ⟨hmk, ho1⟩ := make_row (z := .pointer none) (by_ := 8) Tryz.underlying91 infoP rfl (by decide) n (by omega) w
  have hB1 : Below w.heap.size w (w.alloc (.cells (madeCells #[.pointer none] n) 148)) := (Below.refl _ _).alloc (Nat.le_refl _) _
  have hz1 : (w.alloc (.cells (madeCells #[.pointer none] n) 148)).heap.size = w.heap.size + 1 := by show (w.heap.push _).size = _; simp
  generalize w.alloc (.cells (madeCells #[.pointer none] n) 148) = w1 at *
  rw [hg0] at hmk ho1 hB1 hz1
  obtain ⟨g1, hg1⟩ : ∃ g, w1.heap.size = g := ⟨_, rfl⟩
  have hbx := rbox95 w1 (.slice (some ⟨g0, 0, none⟩) n n) (.int .i64 (-1)) (.slice none 0 0) (.int .i64 0) (.bool false)
  have hB2 : Below w1.heap.size w1 (w1.alloc (.cells #[.slice (some ⟨g0, 0, none⟩) n n, .int .i64 (-1), .slice none 0 0, .int .i64 0, .bool false] 95)) := (Below.refl _ _).alloc (Nat.le_refl _) _
  have hP2 : (w1.alloc (.cells #[.slice (some ⟨g0, 0, none⟩) n n, .int .i64 (-1), .slice none 0 0, .int .i64 0, .bool false] 95)).heap[w1.heap.size]? = some (.cells #[.slice (some ⟨g0, 0, none⟩) n n, .int .i64 (-1), .slice none 0 0, .int .i64 0, .bool false] 95 (0, 0)) := heap_alloc_last w1 _
  have ho2 := owns_below2 ho1 hB2
  generalize w1.alloc (.cells #[.slice (some ⟨g0, 0, none⟩) n n, .int .i64 (-1), .slice none 0 0, .int .i64 0, .bool false] 95) = w2 at *
  rw [hg1] at hbx hB2 hP2 hz1
  have hB12 : Below g0 w w2 := hB1.trans (hB2.mono (by omega))
  have HLD := hid (rload93 (v := .slice (some ⟨g0, 0, none⟩) n n) (rt := -1) (cell_at hP2 0 rfl) (cell_at hP2 1 rfl))
  have HCL := hid (rclone_any (w := w2) (ga := g0) (c := n) (rt := -1) (ps := List.replicate n (.pointer none)) (by simp) hn1 (by omega) (fun k x hx => by
    have h3 := ho2.cells (g := g0) rfl k x hx
    rwa [Addr.add_lit, Nat.zero_add] at h3) (fun x hx => by rw [(List.mem_replicate.1 hx).2]; rfl) (by have := heap_lt hP2; omega))
  have HSUB : Hid (IntKind.i64.wrap ((nb : Int) - 2) = ((nb - 2 : Nat) : Int)) := hid (by rw [IntWalk.i64_in _ ⟨by omega, by omega⟩]; omega)
  have HQ := hid (show nb - 2 < 60000 by omega)
  have HNN := hid hn
  have H2 := hid (And.intro hP2 (And.intro ho2 (And.intro hB12 (And.intro (show g0 < g1 by omega) (And.intro (heap_lt hP2) (And.intro hn1 hg0))))))
  have HMK := hid hmk
  have HBX := hid hbx
  rw [hg0]
  clear h0 h1 hn hn1 hn2 hmk ho1 hB1 hz1 hg1 hbx hB2 hP2 ho2 hB12 hg0
  go_enter Tryz.func33, Tryz.ntmps33
  go_upto_region 1 with fail
  refine wp_region_lit ?_
  refine wp_y (v := .int .i64 nb) rfl rfl (y_move rfl (by kernel_rfl) (by kernel_rfl)) rfl ?_
  refine wp_y (v := .int .i64 ((nb - 2 : Nat) : Int)) rfl rfl (y_bin (k := .i64) (k' := .i64) (m := nb) (n := 2) rfl (by kernel_rfl) (by kernel_rfl) (by kernel_rfl) (qsub _ _ _ HSUB.out)) rfl ?_
  refine wp_y (v := .int .i64 (n : Nat)) rfl rfl (y_bin (k := .i64) (k' := .i64) (m := ((nb - 2 : Nat) : Int)) (n := 8) rfl (by kernel_rfl) (by kernel_rfl) (by kernel_rfl) (by have := qquo8 (nb - 2) (by have := HQ.out; omega); rw [HNN.out] at this; exact this)) rfl ?_
  refine wp_run (v := .slice (some ⟨g0, 0, none⟩) n n) rfl rfl (run_mkOp rfl (by kernel_rfl) (by kernel_rfl) HMK.out) rfl ?_
  refine wp_run (v := Rs (.slice (some ⟨g0, 0, none⟩) n n) (-1)) rfl rfl (run_buildOp rfl (by kernel_rfl) (rbuild93 _ _ _ _ _)) rfl ?_
  refine wp_run (v := .agg #[.slice (some ⟨g0, 0, none⟩) n n, .int .i64 (-1), .slice none 0 0, .int .i64 0, .bool false]) rfl rfl (run_buildOp rfl (by kernel_rfl) (rbuild95 _ _ _ _ _)) rfl ?_
  refine wp_run (v := .pointer (some ⟨g1, 0, none⟩)) rfl rfl (run_boxOp rfl (by kernel_rfl) HBX.out) rfl ?_
  refine wp_y (v := .pointer (some ⟨g1, 0, none⟩)) rfl rfl (y_assign rfl (by kernel_rfl) (by kernel_rfl)) rfl ?_
  try simp only [List.setIfInBounds_toArray, List.set_cons_zero, List.set_cons_succ]
  refine wp_end ?_
  go_upto_region 2 with fail
  refine wp_region_lit ?_
  refine wp_y (v := .pointer (some ⟨g1, 0, none⟩)) rfl rfl (y_move rfl (by kernel_rfl) (by kernel_rfl)) rfl ?_
  refine wp_y (v := .pointer (some ⟨g1, 0, none⟩)) rfl rfl (y_move rfl (by kernel_rfl) (by kernel_rfl)) rfl ?_
  refine wp_y (v := .pointer (some ⟨g1, 0, none⟩)) rfl rfl (y_nil rfl (by kernel_rfl) (by kernel_rfl)) rfl ?_
  refine wp_y (v := .pointer (some ⟨g1, 0, none⟩)) rfl rfl (y_faddr rfl (by kernel_rfl) (by kernel_rfl) (fa95_0 (g1))) rfl ?_
  refine wp_y (v := Rs (.slice (some ⟨g0, 0, none⟩) n n) (-1)) rfl rfl (y_load rfl (by kernel_rfl) (by kernel_rfl) (fun w' h => by rw [h]; exact HLD.out)) rfl ?_
  refine wp_call (f := 43) (args := #[Rs (.slice (some ⟨g0, 0, none⟩) n n) (-1)]) (by kernel_rfl) (fun w => by go_simp) ?_
  refine HCL.out.mono ?_
  rintro e w3 ⟨vw, rfl, ho3, hB3⟩
  refine ⟨_, rfl, ?_⟩
  have h2 := H2.out
  have hP3 := below_at hB3 h2.1 (heap_lt h2.1)
  have hop3 := owns_below2 h2.2.1 hB3
  obtain ⟨gv, cv, rfl⟩ : ∃ g c, vw = .slice (some ⟨g, 0, none⟩) n c := by
    rcases ho3.2 with ⟨_, h0⟩ | ⟨g, cap, cur, e, _⟩
    · have := h2.2.2.2.2.2.1; omega
    · exact ⟨g, cap, e⟩
  have hvl := (ho3.lt gv rfl).1
  have hst := rstore95 hP3 (.slice (some ⟨gv, 0, none⟩) n cv) rfl (-1)
  have hF4 := Fr.setRow w3 g1 #[.slice (some ⟨g0, 0, none⟩) n n, .int .i64 (-1), .slice (some ⟨gv, 0, none⟩) n cv, .int .i64 (-1), .bool false]
  have hP4 : (w3.setRow g1 #[.slice (some ⟨g0, 0, none⟩) n n, .int .i64 (-1), .slice (some ⟨gv, 0, none⟩) n cv, .int .i64 (-1), .bool false]).heap[g1]? = some (.cells #[.slice (some ⟨g0, 0, none⟩) n n, .int .i64 (-1), .slice (some ⟨gv, 0, none⟩) n cv, .int .i64 (-1), .bool false] 95 (0, 0)) := setRow_heap w3 g1 _ _ _ _ hP3
  have hx : ∀ g c, w3.heap[g]? = some (.cells c 148 (0, 0)) → g ∉ [g1] := fun g c hg hm => by
    obtain rfl : g = g1 := by simpa using hm
    rw [hP3] at hg
    injection hg with hg
    injection hg with _ e
    exact absurd e (by decide)
  have hop4 := owns_fr hop3 hF4 hx
  have how4 := owns_fr ho3 hF4 hx
  generalize w3.setRow g1 #[.slice (some ⟨g0, 0, none⟩) n n, .int .i64 (-1), .slice (some ⟨gv, 0, none⟩) n cv, .int .i64 (-1), .bool false] = w4 at *
  have hsp : Sp w4 (List.replicate n none) (List.replicate n none) := ⟨by simp, fun i => ⟨fun h => by rw [List.getElem?_replicate] at h ⊢; by_cases hi : i < n <;> simp [hi] at h ⊢, fun a h => by rw [List.getElem?_replicate] at h; by_cases hi : i < n <;> simp [hi] at h⟩⟩
  have hs2 : g0 ≤ w2.heap.size := by have := h2.2.2.1.size; have := h2.2.2.2.2.2.2; omega
  have HZ : Hid (∃ r, g0 ≤ r ∧ Ending.returned (.pointer (some ⟨g1, 0, none⟩)) = .returned (.pointer (some ⟨r, 0, none⟩)) ∧ Rp w4 g0 r (List.replicate n none) (List.replicate n none) (-1) (-1) false ∧ Below g0 w w4) := hid ⟨g1, by have := h2.2.2.2.1; omega, rfl, ⟨by have := h2.2.2.2.1; omega, _, _, List.replicate n none, List.replicate n none, hP4, by rw [List.length_replicate, List.map_replicate]; exact hop4, by rw [List.length_replicate, List.map_replicate]; exact owns_mono how4 hs2, hsp, hsp, fun g hg hg2 => by
      have e1 : g0 = g := by simpa [Value.ownBlock] using hg
      have e2 : gv = g := by simpa [Value.ownBlock] using hg2
      have := h2.2.2.2.2.1
      omega⟩, (h2.2.2.1.trans (hB3.mono hs2)).trans (hF4.below (by have := hB3.size; omega) (by have := h2.2.2.2.1; simp; omega))⟩
  have HST := hid hst
  clear h2 hP3 hop3 hvl hst hF4 hP4 hx hop4 how4 hsp hs2 ho3 hB3 HCL H2 HLD
  dsimp only [Act.put]
  refine wp_y (v := .pointer (some ⟨g1, 0, none⟩)) rfl rfl (y_nil rfl (by kernel_rfl) (by kernel_rfl)) rfl ?_
  refine wp_y (v := .pointer (some ⟨g1, 2, none⟩)) rfl rfl (y_faddr rfl (by kernel_rfl) (by kernel_rfl) (fa95_1 (g1))) rfl ?_
  try simp only [List.setIfInBounds_toArray, List.set_cons_zero, List.set_cons_succ]
  refine wp_do rfl rfl (run_storeOp rfl (by kernel_rfl) (by kernel_rfl) HST.out) ?_
  try simp only [List.setIfInBounds_toArray, List.set_cons_zero, List.set_cons_succ]
  refine wp_end ?_
  go_wp2_with fail
  go_ret
  exact HZ.out
end Go.Proofs.YtdbgccgjdgomkaaGreatDoor
