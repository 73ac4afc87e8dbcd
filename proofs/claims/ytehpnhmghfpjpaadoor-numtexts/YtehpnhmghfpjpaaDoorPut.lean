/- The walk of num's writer: one place behind the point. -/
import Derived.Test.YtehpnhmghfpjpaaDoorBase
import Derived.Deep.RegionLaw
import Derived.Deep.AppendLies
namespace Go.Proofs.YtehpnhmghfpjpaaDoor
open Go.RowKit

theorem info5 : (Tryd.prog.info? 5).map (fun i => (i.zero, i.size, i.bytes)) = some (some (.int .u8 0), 1, 1) := by kernel_rfl

set_option maxHeartbeats 400000 in
theorem put_zero (p : Nat) (i : Int) (w : World) (h1 : w.cell? ⟨p, 1, none⟩ = some (.int .i64 0)) :
    Calls Tryd.prog 40 #[.pointer (some ⟨p, 0, none⟩), .int .i64 i] w fun e w' => e = .returned (.tuple #[]) ∧ w' = w := by
  go_enter Tryd.func40, Tryd.ntmps40
  go_wp2
  exact bodyPost_ret (results_none rfl _ _ _) rfl ⟨rfl, rfl⟩

/-- What the writer's three cells hold, and that they may be written. -/
def WrIs (p : Nat) (tv : Value) (left V : Int) (w : World) : Prop :=
  w.cell? ⟨p, 0, none⟩ = some tv ∧ w.cell? ⟨p, 1, none⟩ = some (.int .i64 left) ∧ w.cell? ⟨p, 2, none⟩ = some (.int .i64 V) ∧
    w.frozen? ⟨p, 0, none⟩ = false ∧ w.frozen? ⟨p, 1, none⟩ = false ∧ w.frozen? ⟨p, 2, none⟩ = false

theorem WrIs.lt {p : Nat} {tv : Value} {left V : Int} {w : World} (h : WrIs p tv left V w) : p < w.heap.size := World.block_lt_of_cell? w _ h.1
theorem WrIs.alloc {p : Nat} {tv : Value} {left V : Int} {w : World} (h : WrIs p tv left V w) (o : Obj) : WrIs p tv left V (w.alloc o) := by
  have l := h.lt
  obtain ⟨a, b, c, d, e, f⟩ := h
  exact ⟨(World.cell?_alloc_past _ _ _ l).trans a, (World.cell?_alloc_past _ _ _ l).trans b, (World.cell?_alloc_past _ _ _ l).trans c,
    (World.frozen?_alloc_past _ _ _ l).trans d, (World.frozen?_alloc_past _ _ _ l).trans e, (World.frozen?_alloc_past _ _ _ l).trans f⟩
theorem WrIs.drew {p : Nat} {tv : Value} {left V : Int} {w : World} (h : WrIs p tv left V w) : WrIs p tv left V w.drew := h
theorem WrIs.grown {p : Nat} {tv : Value} {left V : Int} {w w' : World} {row : Option Nat} (h : WrIs p tv left V w) (hg : w.grownBy w' row) (hne : some p ≠ row) : WrIs p tv left V w' := by
  have l := h.lt
  obtain ⟨a, b, c, d, e, f⟩ := h
  exact ⟨(hg.cell_far _ l hne).trans a, (hg.cell_far _ l hne).trans b, (hg.cell_far _ l hne).trans c, (hg.frozen_far _ l hne).trans d, (hg.frozen_far _ l hne).trans e, (hg.frozen_far _ l hne).trans f⟩
theorem WrIs.set0 {p : Nat} {tv : Value} {left V : Int} {w : World} (h : WrIs p tv left V w) (u : Value) : WrIs p u left V (w.setCell ⟨p, 0, none⟩ u) := by
  obtain ⟨a, b, c, d, e, f⟩ := h
  exact ⟨World.cell?_setCell_same _ _ _ a, (World.cell?_setCell_other _ _ _ _ (by simp)).trans b, (World.cell?_setCell_other _ _ _ _ (by simp)).trans c, by simpa using d, by simpa using e, by simpa using f⟩
theorem WrIs.set1 {p : Nat} {tv : Value} {left V : Int} {w : World} (h : WrIs p tv left V w) (u : Int) : WrIs p tv u V (w.setCell ⟨p, 1, none⟩ (.int .i64 u)) := by
  obtain ⟨a, b, c, d, e, f⟩ := h
  exact ⟨(World.cell?_setCell_other _ _ _ _ (by simp)).trans a, World.cell?_setCell_same _ _ _ b, (World.cell?_setCell_other _ _ _ _ (by simp)).trans c, by simpa using d, by simpa using e, by simpa using f⟩
theorem WrIs.set2 {p : Nat} {tv : Value} {left V : Int} {w : World} (h : WrIs p tv left V w) (u : Int) : WrIs p tv left u (w.setCell ⟨p, 2, none⟩ (.int .i64 u)) := by
  obtain ⟨a, b, c, d, e, f⟩ := h
  exact ⟨(World.cell?_setCell_other _ _ _ _ (by simp)).trans a, (World.cell?_setCell_other _ _ _ _ (by simp)).trans b, World.cell?_setCell_same _ _ _ c, by simpa using d, by simpa using e, by simpa using f⟩

/-- What the two stores behind the append leave. -/
theorem put_end {B p n g cap gg cap1 : Nat} {left V r : Int} {xs ys : List Value} {w W w1 : World} {o : Obj}
    (HW : WrIs p (.slice (some ⟨g, 0, none⟩) n cap) left V W) (hown : W.ownsRow B 5 1 (.slice (some ⟨g, 0, none⟩) n cap) n xs) (hgp : g ≠ p) (hB : B ≤ p) (hbel : Below B w W)
    (hown1 : w1.ownsRow B 5 1 (.slice (some ⟨gg, 0, none⟩) (n + 1) cap1) (n + 1) ys)
    (hgrow : (W.alloc o).drew.grownBy w1 (Value.slice (some ⟨g, 0, none⟩) n cap).ownBlock)
    (hat : (Value.slice (some ⟨g, 0, none⟩) n cap).ownBlock = some gg ∨ gg = W.heap.size + 1) :
    ((w1.setCell ⟨p, 0, none⟩ (.slice (some ⟨gg, 0, none⟩) (n + 1) cap1)).setCell ⟨p, 1, none⟩ (.int .i64 r)).ownsRow B 5 1 (.slice (some ⟨gg, 0, none⟩) (n + 1) cap1) (n + 1) ys ∧ gg ≠ p ∧
      Below B w ((w1.setCell ⟨p, 0, none⟩ (.slice (some ⟨gg, 0, none⟩) (n + 1) cap1)).setCell ⟨p, 1, none⟩ (.int .i64 r)) ∧
      WrIs p (.slice (some ⟨gg, 0, none⟩) (n + 1) cap1) r V ((w1.setCell ⟨p, 0, none⟩ (.slice (some ⟨gg, 0, none⟩) (n + 1) cap1)).setCell ⟨p, 1, none⟩ (.int .i64 r)) := by
  have lp := HW.lt
  have hgl := hown.lt g rfl
  have hne : gg ≠ p := by
    rcases hat with h | h
    · simp [Value.ownBlock] at h; omega
    · omega
  refine ⟨ownsRow_setCell_other (ownsRow_setCell_other hown1 (by simpa [Value.ownBlock] using hne) _) (by simpa [Value.ownBlock] using hne) _, hne, ?_, ?_⟩
  · refine Below.setCell (Below.setCell (Below.grown (Below.drew (Below.alloc hbel (by omega) o)) hgrow (by simp; omega) ?_) hB _) hB _
    intro k hk
    simp [Value.ownBlock] at hk
    omega
  · exact WrIs.set1 (WrIs.set0 (((HW.alloc _).drew).grown hgrow (by simpa [Value.ownBlock] using Ne.symm hgp)) _) _

set_option maxRecDepth 100000 in
set_option maxHeartbeats 1600000 in
theorem put_next (B p n g cap : Nat) (i left U : Int) (xs : List Value) (w : World)
    (hwr : WrIs p (.slice (some ⟨g, 0, none⟩) n cap) left U w)
    (hown : w.ownsRow B 5 1 (.slice (some ⟨g, 0, none⟩) n cap) n xs) (hgp : g ≠ p) (hB : B ≤ p) (hn : n + 1 ≤ 1000)
    (hl0 : 0 < left) (hl1 : left < 1000000) (hU0 : 10 ≤ U) (hU1 : U ≤ 1000000) (hq : left / (U / 10) ≤ 9) :
    Calls Tryd.prog 40 #[.pointer (some ⟨p, 0, none⟩), .int .i64 i] w fun e w' => e = .returned (.tuple #[]) ∧ ∃ g' cap',
      w'.ownsRow B 5 1 (.slice (some ⟨g', 0, none⟩) (n + 1) cap') (n + 1) (xs ++ [.int .u8 (48 + left / (U / 10))]) ∧ g' ≠ p ∧ Below B w w' ∧
      WrIs p (.slice (some ⟨g', 0, none⟩) (n + 1) cap') (left % (U / 10)) (U / 10) w' := by
  obtain ⟨i0, hi0, hz0, hz1, hz2⟩ := info_parts info5
  have hq0 : 0 ≤ left / (U / 10) := Int.ediv_nonneg (by omega) (by omega)
  have hU : 1 ≤ U / 10 := by omega
  have hU2 : U / 10 ≤ 1000000 := by omega
  have hne : ((left : Int) == 0) = false := by simp; omega
  have hwr2 := hwr.set2 (U / 10)
  obtain ⟨c0, c1, c2, f0, f1, f2⟩ := hwr
  have hown2 : (w.setCell ⟨p, 2, none⟩ (.int .i64 (U / 10))).ownsRow B 5 1 (.slice (some ⟨g, 0, none⟩) n cap) n xs := ownsRow_setCell_other hown (by simpa [Value.ownBlock] using hgp) _
  have hbel : Below B w (w.setCell ⟨p, 2, none⟩ (.int .i64 (U / 10))) := (Below.refl _ _).setCell hB _
  go_enter Tryd.func40, Tryd.ntmps40
  go_wp2_with fail
  generalize w.setCell ⟨p, 2, none⟩ (.int .i64 (U / 10)) = W at *
  clear c0 c1 c2 f0 f1 f2 hown hU0 hU1
  generalize hVe : U / 10 = V at *
  have HV : Hid (U / 10 = V) := hVe
  clear hVe
  have HW : Hid (WrIs p (.slice (some ⟨g, 0, none⟩) n cap) left V W) := hwr2
  have lp := hwr2.lt
  obtain ⟨c0, c1, c2, f0, f1, f2⟩ := hwr2
  have hV0 : V ≠ 0 := by omega
  have hVb : (V == 0) = false := by simpa using hV0
  have hw0 : IntKind.i64.wrap (left.tdiv V) = left / V := IntWalk.i64_quo _ _ ⟨by omega, by omega, by omega⟩
  have hw1 : IntKind.i64.wrap (48 + left / V) = 48 + left / V := IntWalk.i64_in _ ⟨by omega, by omega⟩
  have hm1 : left.tmod V = left % V := Int.tmod_eq_emod_of_nonneg (by omega)
  have hm0 : 0 ≤ left % V := Int.emod_nonneg _ hV0
  have hm2 : left % V < V := Int.emod_lt_of_pos _ (by omega)
  have hw3 : IntKind.i64.wrap (left % V) = left % V := IntWalk.i64_in _ ⟨by omega, by omega⟩
  have hw2 : IntKind.u8.wrap (48 + left / V) = 48 + left / V := IntWalk.u8_in _ ⟨by omega, by omega⟩
  go_region_law ((refine step_append_lies _ (by rfl) _ _ _ (by rfl) B 5 i0 _ 1 1 Tryd.underlying40 hi0 hz0 hz1 hz2 rfl (by omega) (.slice (some ⟨g, 0, none⟩) n cap) n xs (by simp [Act.eval]) ((hown2.alloc _).drew) ⟨W.heap.size, 0, none⟩ 1 1 [.int .u8 (48 + left / V)] (by simp [Act.eval]) (by rfl) (World.news_of_block (cs := #[.int .u8 (48 + left / V)]) (t := 5) (fr := (0, 0)) (heap_alloc_new W _)) (by simp [Value.oneCell']) (by omega) (by unfold maxLen; omega) (by omega) (by simp; omega) (W.heap.size + 1) (by simp) ?_; intro gg cap1 w1 hown1 hgrow hat hlt; obtain ⟨x0, x1, x2, y0, y1, y2⟩ := ((HW.out.alloc _).drew).grown hgrow (by simpa [Value.ownBlock] using Ne.symm hgp)))
  all_goals
    have HE : Hid (_ ∧ _) := put_end (r := left % V) HW.out hown2 hgp hB hbel hown1 hgrow hat
    clear hown1 hgrow hat hlt c0 c1 c2 f0 f1 f2 hown2 hbel HW lp hq hq0 hw0 hw1 hw2 hi0 hz0 hz1 hz2
    go_wp2_with fail
    go_region
    all_goals
      go_end0
      rw [HV.out]
      exact ⟨rfl, gg, cap1, HE.out.1.drew, HE.out.2.1, HE.out.2.2.1.drew, HE.out.2.2.2.drew⟩
end Go.Proofs.YtehpnhmghfpjpaaDoor
