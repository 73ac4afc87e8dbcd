/- texts put together: Plain Base Put Digits Place ShowA ShowB ShowC Show DMath DApp DBase DLoops DDate DFuncs DText DShow SForm -/
import Derived.WalkKit
import Derived.Test.YtgpkcjpanpbhdaaGreatDoorChecked
import Derived.WalkSpells
import Derived.WalkLawsBesides
import Derived.Deep.RegionLaw
import Derived.Deep.AppendLies
import Derived.Lib.ItoaNum
import Derived.Lib.UnsafeStr
import Derived.Test.YtgpkcjpanpbhdaaGreatDoorShelf
import Derived.Test.YtgpkcjpanpbhdaaGreatDoorSGa
import Derived.Deep.QuietTactic
import Derived.BigQuiet
import Derived.LoopTactic
import Derived.Below
import Derived.Handy
import Derived.Deep.RegionWith
import Derived.Test.YtgpkcjpanpbhdaaGreatDoorSGc
set_option maxRecDepth 100000
set_option maxHeartbeats 4000000
namespace Go.Proofs.YtgpkcjpanpbhdaaGreatDoor
open Go Go.RowKit
def clampI (a : Int) : Int := if 1000000000000000 < a then 1000000000000000 else if a < -1000000000000000 then -1000000000000000 else a
theorem clampI_le (a : Int) : clampI a ≤ 1000000000000000 := by unfold clampI; split <;> (try split) <;> omega
theorem clampI_ge (a : Int) : -1000000000000000 ≤ clampI a := by unfold clampI; split <;> (try split) <;> omega
theorem clampI_in {a : Int} (h1 : -1000000000000000 ≤ a) (h2 : a ≤ 1000000000000000) : clampI a = a := by unfold clampI; rw [if_neg (by omega), if_neg (by omega)]
theorem clampI_hi {a : Int} (h : 1000000000000000 < a) : clampI a = 1000000000000000 := by unfold clampI; rw [if_pos h]
theorem clampI_lo {a : Int} (h : a < -1000000000000000) : clampI a = -1000000000000000 := by unfold clampI; rw [if_neg (by omega), if_pos h]
end Go.Proofs.YtgpkcjpanpbhdaaGreatDoor
namespace Go.Proofs.YtgpkcjpanpbhdaaGreatDoor
open Go.RowKit
theorem ret_int {k : IntKind} {a b : Int} (h : a = b) : Ending.returned (.int k a) = .returned (.int k b) := by rw [h]
theorem clamp_any (a : Int) (w : World) :
  Calls Tryz.prog 152 #[.int .i64 a] w fun e w' => e = .returned (.int .i64 (clampI a)) ∧ w' = w := by
 by_cases h1 : 1000000000000000 < a
 ·go_enter Tryz.func152, Tryz.ntmps152
  go_wp2
  go_ret
  exact ⟨ret_int (clampI_hi h1).symm, rfl⟩
 ·by_cases h2 : a < -1000000000000000
  ·go_enter Tryz.func152, Tryz.ntmps152
   go_wp2
   go_ret
   exact ⟨ret_int (clampI_lo h2).symm, rfl⟩
  ·go_enter Tryz.func152, Tryz.ntmps152
   go_wp2
   go_ret
   exact ⟨ret_int (clampI_in (by omega) (by omega)).symm, rfl⟩
theorem rclamp_any (a : Int) (w : World) :
  Calls Tryz.prog 73 #[.int .i64 a] w fun e w' => e = .returned (.int .i64 (clampI a)) ∧ w' = w := by
 by_cases h1 : 1000000000000000 < a
 ·go_enter Tryz.func73, Tryz.ntmps73
  go_wp2
  go_ret
  exact ⟨ret_int (clampI_hi h1).symm, rfl⟩
 ·by_cases h2 : a < -1000000000000000
  ·go_enter Tryz.func73, Tryz.ntmps73
   go_wp2
   go_ret
   exact ⟨ret_int (clampI_lo h2).symm, rfl⟩
  ·go_enter Tryz.func73, Tryz.ntmps73
   go_wp2
   go_ret
   exact ⟨ret_int (clampI_in (by omega) (by omega)).symm, rfl⟩
end Go.Proofs.YtgpkcjpanpbhdaaGreatDoor
namespace Go.Proofs.YtgpkcjpanpbhdaaGreatDoor
open Go.RowKit
theorem info5 : (Tryz.prog.info? 5).map (fun i => (i.zero, i.size, i.bytes)) = some (some (.int .u8 0), 1, 1) := by kernel_rfl
theorem put_zero (p : Nat) (i : Int) (w : World) (h1 : w.cell? ⟨p, 1, none⟩ = some (.int .i64 0)) :
  Calls Tryz.prog 155 #[.pointer (some ⟨p, 0, none⟩), .int .i64 i] w fun e w' => e = .returned (.tuple #[]) ∧ w' = w := by
 go_enter Tryz.func155, Tryz.ntmps155
 go_wp2
 exact bodyPost_ret (results_none rfl _ _ _) rfl ⟨rfl, rfl⟩
def WrIs (p : Nat) (tv : Value) (left V : Int) (w : World) : Prop :=
 w.cell? ⟨p, 0, none⟩ = some tv ∧ w.cell? ⟨p, 1, none⟩ = some (.int .i64 left) ∧ w.cell? ⟨p, 2, none⟩ = some (.int .i64 V) ∧
  w.frozen? ⟨p, 0, none⟩ = false ∧ w.frozen? ⟨p, 1, none⟩ = false ∧ w.frozen? ⟨p, 2, none⟩ = false
theorem WrIs.lt {p : Nat} {tv : Value} {left V : Int} {w : World} (h : WrIs p tv left V w) : p < w.heap.size := World.block_lt_of_cell? w _ h.1
theorem WrIs.alloc {p : Nat} {tv : Value} {left V : Int} {w : World} (h : WrIs p tv left V w) (o : Obj) : WrIs p tv left V (w.alloc o) := by
 have l := h.lt
 obtain ⟨a, b, c, d, e, f⟩ := h
 exact ⟨(World.cell?_alloc_past _ _ _ l).trans a, (World.cell?_alloc_past _ _ _ l).trans b, (World.cell?_alloc_past _ _ _ l).trans c,
  (World.frozen?_alloc_past _ _ _ l).trans d, (World.frozen?_alloc_past _ _ _ l).trans e, (World.frozen?_alloc_past _ _ _ l).trans f⟩
theorem WrIs.drew {p : Nat} {tv : Value} {left V : Int} {w : World} (h : WrIs p tv left V w) : WrIs p tv left V w.drew := h
theorem WrIs.grown {p : Nat} {tv : Value} {left V : Int} {w w' : World} {row : Option Nat} (h : WrIs p tv left V w) (hg : w.grownBy w' row) (hne : some p ≠ row) : WrIs p tv left V w' := by
 have l := h.lt
 obtain ⟨a, b, c, d, e, f⟩ := h
 exact ⟨(hg.cell_far _ l hne).trans a, (hg.cell_far _ l hne).trans b, (hg.cell_far _ l hne).trans c, (hg.frozen_far _ l hne).trans d, (hg.frozen_far _ l hne).trans e, (hg.frozen_far _ l hne).trans f⟩
theorem WrIs.set0 {p : Nat} {tv : Value} {left V : Int} {w : World} (h : WrIs p tv left V w) (u : Value) : WrIs p u left V (w.setCell ⟨p, 0, none⟩ u) := by
 obtain ⟨a, b, c, d, e, f⟩ := h
 exact ⟨World.cell?_setCell_same _ _ _ a, (World.cell?_setCell_other _ _ _ _ (by simp)).trans b, (World.cell?_setCell_other _ _ _ _ (by simp)).trans c, by simpa using d, by simpa using e, by simpa using f⟩
theorem WrIs.set1 {p : Nat} {tv : Value} {left V : Int} {w : World} (h : WrIs p tv left V w) (u : Int) : WrIs p tv u V (w.setCell ⟨p, 1, none⟩ (.int .i64 u)) := by
 obtain ⟨a, b, c, d, e, f⟩ := h
 exact ⟨(World.cell?_setCell_other _ _ _ _ (by simp)).trans a, World.cell?_setCell_same _ _ _ b, (World.cell?_setCell_other _ _ _ _ (by simp)).trans c, by simpa using d, by simpa using e, by simpa using f⟩
theorem WrIs.set2 {p : Nat} {tv : Value} {left V : Int} {w : World} (h : WrIs p tv left V w) (u : Int) : WrIs p tv left u (w.setCell ⟨p, 2, none⟩ (.int .i64 u)) := by
 obtain ⟨a, b, c, d, e, f⟩ := h
 exact ⟨(World.cell?_setCell_other _ _ _ _ (by simp)).trans a, (World.cell?_setCell_other _ _ _ _ (by simp)).trans b, World.cell?_setCell_same _ _ _ c, by simpa using d, by simpa using e, by simpa using f⟩
theorem put_end {B p n g cap gg cap1 : Nat} {left V r : Int} {xs ys : List Value} {w W w1 : World} {o : Obj}
  (HW : WrIs p (.slice (some ⟨g, 0, none⟩) n cap) left V W) (hown : W.ownsRow B 5 1 (.slice (some ⟨g, 0, none⟩) n cap) n xs) (hgp : g ≠ p) (hB : B ≤ p) (hbel : Below B w W)
  (hown1 : w1.ownsRow B 5 1 (.slice (some ⟨gg, 0, none⟩) (n + 1) cap1) (n + 1) ys)
  (hgrow : (W.alloc o).drew.grownBy w1 (Value.slice (some ⟨g, 0, none⟩) n cap).ownBlock)
  (hat : (Value.slice (some ⟨g, 0, none⟩) n cap).ownBlock = some gg ∨ gg = W.heap.size + 1) :
  ((w1.setCell ⟨p, 0, none⟩ (.slice (some ⟨gg, 0, none⟩) (n + 1) cap1)).setCell ⟨p, 1, none⟩ (.int .i64 r)).ownsRow B 5 1 (.slice (some ⟨gg, 0, none⟩) (n + 1) cap1) (n + 1) ys ∧ gg ≠ p ∧
   Below B w ((w1.setCell ⟨p, 0, none⟩ (.slice (some ⟨gg, 0, none⟩) (n + 1) cap1)).setCell ⟨p, 1, none⟩ (.int .i64 r)) ∧
   WrIs p (.slice (some ⟨gg, 0, none⟩) (n + 1) cap1) r V ((w1.setCell ⟨p, 0, none⟩ (.slice (some ⟨gg, 0, none⟩) (n + 1) cap1)).setCell ⟨p, 1, none⟩ (.int .i64 r)) := by
 have lp := HW.lt
 have hgl := hown.lt g rfl
 have hne : gg ≠ p := by
  rcases hat with h | h
  ·simp [Value.ownBlock] at h; omega
  ·omega
 refine ⟨ownsRow_setCell_other (ownsRow_setCell_other hown1 (by simpa [Value.ownBlock] using hne) _) (by simpa [Value.ownBlock] using hne) _, hne, ?_, ?_⟩
 ·refine Below.setCell (Below.setCell (Below.grown (Below.drew (Below.alloc hbel (by omega) o)) hgrow (by simp; omega) ?_) hB _) hB _
  intro k hk
  simp [Value.ownBlock] at hk
  omega
 ·exact WrIs.set1 (WrIs.set0 (((HW.alloc _).drew).grown hgrow (by simpa [Value.ownBlock] using Ne.symm hgp)) _) _
theorem put_next (B p n g cap : Nat) (i left U : Int) (xs : List Value) (w : World)
  (hwr : WrIs p (.slice (some ⟨g, 0, none⟩) n cap) left U w)
  (hown : w.ownsRow B 5 1 (.slice (some ⟨g, 0, none⟩) n cap) n xs) (hgp : g ≠ p) (hB : B ≤ p) (hn : n + 1 ≤ 1000)
  (hl0 : 0 < left) (hl1 : left < 1000000) (hU0 : 10 ≤ U) (hU1 : U ≤ 1000000) (hq : left / (U / 10) ≤ 9) :
  Calls Tryz.prog 155 #[.pointer (some ⟨p, 0, none⟩), .int .i64 i] w fun e w' => e = .returned (.tuple #[]) ∧ ∃ g' cap',
   w'.ownsRow B 5 1 (.slice (some ⟨g', 0, none⟩) (n + 1) cap') (n + 1) (xs ++ [.int .u8 (48 + left / (U / 10))]) ∧ g' ≠ p ∧ Below B w w' ∧
   WrIs p (.slice (some ⟨g', 0, none⟩) (n + 1) cap') (left % (U / 10)) (U / 10) w' := by
 obtain ⟨i0, hi0, hz0, hz1, hz2⟩ := info_parts info5
 have hq0 : 0 ≤ left / (U / 10) := Int.ediv_nonneg (by omega) (by omega)
 have hU : 1 ≤ U / 10 := by omega
 have hU2 : U / 10 ≤ 1000000 := by omega
 have hne : ((left : Int) == 0) = false := by simp; omega
 have hwr2 := hwr.set2 (U / 10)
 obtain ⟨c0, c1, c2, f0, f1, f2⟩ := hwr
 have hown2 : (w.setCell ⟨p, 2, none⟩ (.int .i64 (U / 10))).ownsRow B 5 1 (.slice (some ⟨g, 0, none⟩) n cap) n xs := ownsRow_setCell_other hown (by simpa [Value.ownBlock] using hgp) _
 have hbel : Below B w (w.setCell ⟨p, 2, none⟩ (.int .i64 (U / 10))) := (Below.refl _ _).setCell hB _
 go_enter Tryz.func155, Tryz.ntmps155
 go_wp2_with fail
 generalize w.setCell ⟨p, 2, none⟩ (.int .i64 (U / 10)) = W at *
 clear c0 c1 c2 f0 f1 f2 hown hU0 hU1
 generalize hVe : U / 10 = V at *
 have HV : Hid (U / 10 = V) := hVe
 clear hVe
 have HW : Hid (WrIs p (.slice (some ⟨g, 0, none⟩) n cap) left V W) := hwr2
 have lp := hwr2.lt
 obtain ⟨c0, c1, c2, f0, f1, f2⟩ := hwr2
 have hV0 : V ≠ 0 := by omega
 have hVb : (V == 0) = false := by simpa using hV0
 have hw0 : IntKind.i64.wrap (left.tdiv V) = left / V := IntWalk.i64_quo _ _ ⟨by omega, by omega, by omega⟩
 have hw1 : IntKind.i64.wrap (48 + left / V) = 48 + left / V := IntWalk.i64_in _ ⟨by omega, by omega⟩
 have hm1 : left.tmod V = left % V := Int.tmod_eq_emod_of_nonneg (by omega)
 have hm0 : 0 ≤ left % V := Int.emod_nonneg _ hV0
 have hm2 : left % V < V := Int.emod_lt_of_pos _ (by omega)
 have hw3 : IntKind.i64.wrap (left % V) = left % V := IntWalk.i64_in _ ⟨by omega, by omega⟩
 have hw2 : IntKind.u8.wrap (48 + left / V) = 48 + left / V := IntWalk.u8_in _ ⟨by omega, by omega⟩
 go_region_law ((refine step_append_lies _ (by rfl) _ _ _ (by rfl) B 5 i0 _ 1 1 Tryz.underlying56 hi0 hz0 hz1 hz2 rfl (by omega) (.slice (some ⟨g, 0, none⟩) n cap) n xs (by simp [Act.eval]) ((hown2.alloc _).drew) ⟨W.heap.size, 0, none⟩ 1 1 [.int .u8 (48 + left / V)] (by simp [Act.eval]) (by rfl) (World.news_of_block (cs := #[.int .u8 (48 + left / V)]) (t := 5) (fr := (0, 0)) (heap_alloc_new W _)) (by simp [Value.oneCell']) (by omega) (by unfold maxLen; omega) (by omega) (by simp; omega) (W.heap.size + 1) (by simp) ?_; intro gg cap1 w1 hown1 hgrow hat hlt; obtain ⟨x0, x1, x2, y0, y1, y2⟩ := ((HW.out.alloc _).drew).grown hgrow (by simpa [Value.ownBlock] using Ne.symm hgp)))
 all_goals
  have HE : Hid (_ ∧ _) := put_end (r := left % V) HW.out hown2 hgp hB hbel hown1 hgrow hat
  clear hown1 hgrow hat hlt c0 c1 c2 f0 f1 f2 hown2 hbel HW lp hq hq0 hw0 hw1 hw2 hi0 hz0 hz1 hz2
  go_wp2_with fail
  go_region
  all_goals
   go_end0
   rw [HV.out]
   exact ⟨rfl, gg, cap1, HE.out.1.drew, HE.out.2.1, HE.out.2.2.1.drew, HE.out.2.2.2.drew⟩
end Go.Proofs.YtgpkcjpanpbhdaaGreatDoor
namespace Go.Proofs.YtgpkcjpanpbhdaaGreatDoor
open Go Go.RowKit
def putF (s : List UInt8 × Int × Int) : List UInt8 × Int × Int :=
 if s.2.1 = 0 then s else (s.1 ++ [UInt8.ofNat (48 + (s.2.1 / (s.2.2 / 10)).toNat)], s.2.1 % (s.2.2 / 10), s.2.2 / 10)
def putN : Nat → List UInt8 × Int × Int → List UInt8 × Int × Int
 | 0, s => s
 | k + 1, s => putF (putN k s)
def Good (s : List UInt8 × Int × Int) : Prop := s.2.1 = 0 ∨ ∃ j : Nat, 1 ≤ j ∧ j ≤ 6 ∧ s.2.2 = ((10 ^ j : Nat) : Int) ∧ 0 < s.2.1 ∧ s.2.1 < ((10 ^ j : Nat) : Int)
theorem pow_cases {j : Nat} (h1 : 1 ≤ j) (h2 : j ≤ 6) : j = 1 ∨ j = 2 ∨ j = 3 ∨ j = 4 ∨ j = 5 ∨ j = 6 := by omega
theorem Good.step {s : List UInt8 × Int × Int} (h : Good s) (hz : s.2.1 ≠ 0) :
  0 < s.2.1 ∧ s.2.1 < 1000000 ∧ 10 ≤ s.2.2 ∧ s.2.2 ≤ 1000000 ∧ 0 ≤ s.2.1 / (s.2.2 / 10) ∧ s.2.1 / (s.2.2 / 10) ≤ 9 ∧ Good (s.1, s.2.1 % (s.2.2 / 10), s.2.2 / 10) := by
 obtain ⟨bs, l, u⟩ := s
 rcases h with h | ⟨j, h1, h2, h3, h4, h5⟩
 ·exact absurd h hz
 ·simp only at h3 h4 h5 hz ⊢
  unfold Good
  rcases pow_cases h1 h2 with rfl | rfl | rfl | rfl | rfl | rfl <;> simp only [Nat.reducePow, Int.cast_ofNat_Int] at h3 h5 <;> subst h3
  ·exact ⟨h4, by omega, by omega, by omega, by omega, by omega, Or.inl (by simp)⟩
  ·refine ⟨h4, by omega, by omega, by omega, by omega, by omega, ?_⟩
   by_cases e : l % 10 = 0
   ·exact Or.inl (by simpa using e)
   ·exact Or.inr ⟨1, by omega, by omega, by simp, by simp; omega, by simp; omega⟩
  ·refine ⟨h4, by omega, by omega, by omega, by omega, by omega, ?_⟩
   by_cases e : l % 100 = 0
   ·exact Or.inl (by simpa using e)
   ·exact Or.inr ⟨2, by omega, by omega, by simp, by simp; omega, by simp; omega⟩
  ·refine ⟨h4, by omega, by omega, by omega, by omega, by omega, ?_⟩
   by_cases e : l % 1000 = 0
   ·exact Or.inl (by simpa using e)
   ·exact Or.inr ⟨3, by omega, by omega, by simp, by simp; omega, by simp; omega⟩
  ·refine ⟨h4, by omega, by omega, by omega, by omega, by omega, ?_⟩
   by_cases e : l % 10000 = 0
   ·exact Or.inl (by simpa using e)
   ·exact Or.inr ⟨4, by omega, by omega, by simp, by simp; omega, by simp; omega⟩
  ·refine ⟨h4, by omega, by omega, by omega, by omega, by omega, ?_⟩
   by_cases e : l % 100000 = 0
   ·exact Or.inl (by simpa using e)
   ·exact Or.inr ⟨5, by omega, by omega, by simp, by simp; omega, by simp; omega⟩
theorem Good.next {s : List UInt8 × Int × Int} (h : Good s) : Good (putF s) := by
 unfold putF
 split
 ·exact h
 ·rename_i hz
  exact (h.step hz).2.2.2.2.2.2
theorem Good.putN {s : List UInt8 × Int × Int} (h : Good s) : ∀ k, Good (putN k s)
 | 0 => h
 | k + 1 => (Good.putN h k).next
theorem putF_len (s : List UInt8 × Int × Int) : (putF s).1.length ≤ s.1.length + 1 := by
 unfold putF; split <;> simp
theorem putN_len (s : List UInt8 × Int × Int) : ∀ k, (putN k s).1.length ≤ s.1.length + k
 | 0 => Nat.le_refl _
 | k + 1 => by have h1 := putN_len s k; have h2 := putF_len (putN k s); simp only [putN]; omega
theorem decDigits_len : ∀ (k u : Nat), u < 10 ^ (k + 1) → (Lib.decDigits u).length ≤ k + 1
 | 0, u, h => by unfold Lib.decDigits; rw [dif_pos (by simpa using h)]; simp
 | k + 1, u, h => by
  unfold Lib.decDigits
  split
  ·simp
  ·simp only [List.length_append, List.length_cons, List.length_nil]
   have := decDigits_len k (u / 10) (by rw [Nat.pow_succ] at h; omega)
   omega
theorem itoa_nonneg {n : Int} (h : 0 ≤ n) : Lib.itoa n = Lib.decDigits n.toNat := by unfold Lib.itoa; rw [if_neg (by omega)]
theorem itoa_len {n : Int} (h : 0 ≤ n) (h1 : n ≤ 1000000000) : (Lib.itoa n).length ≤ 10 := by
 rw [itoa_nonneg h]; exact decDigits_len 9 _ (by omega)
def fracDigits (r : Int) : List UInt8 := (putN 6 ([], r, 1000000)).1
theorem putF_pre (pre bs : List UInt8) (l u : Int) : putF (pre ++ bs, l, u) = (pre ++ (putF (bs, l, u)).1, (putF (bs, l, u)).2) := by
 unfold putF; split <;> simp_all
theorem putN_pre (pre bs : List UInt8) (l u : Int) : ∀ k, putN k (pre ++ bs, l, u) = (pre ++ (putN k (bs, l, u)).1, (putN k (bs, l, u)).2)
 | 0 => rfl
 | k + 1 => by simp only [putN]; rw [putN_pre pre bs l u k]; exact putF_pre _ _ _ _
def showPos (c : Int) : List UInt8 := Lib.itoa (c / 1000000) ++ (if c % 1000000 = 0 then [] else 46 :: fracDigits (c % 1000000))
def showL (a : Int) : List UInt8 := if clampI a < 0 then 45 :: showPos (- clampI a) else showPos (clampI a)
end Go.Proofs.YtgpkcjpanpbhdaaGreatDoor
namespace Go.Proofs.YtgpkcjpanpbhdaaGreatDoor
open Go.RowKit
def WSt (B p : Nat) (s : List UInt8 × Int × Int) (w : World) : Prop :=
 ∃ g cap, WrIs p (.slice (some ⟨g, 0, none⟩) s.1.length cap) s.2.1 s.2.2 w ∧ w.ownsRow B 5 1 (.slice (some ⟨g, 0, none⟩) s.1.length cap) s.1.length (Lib.byteCells s.1) ∧ g ≠ p
theorem byteCells_snoc (l : List UInt8) (q : Int) (h0 : 0 ≤ q) (h1 : q ≤ 9) : Lib.byteCells l ++ [.int .u8 (48 + q)] = Lib.byteCells (l ++ [UInt8.ofNat (48 + q.toNat)]) := by
 simp [Lib.byteCells]
 omega
theorem put_any (B p : Nat) (i : Int) (s : List UInt8 × Int × Int) (w : World) (hw : WSt B p s w) (hg : Good s) (hB : B ≤ p) (hn : s.1.length + 1 ≤ 1000) :
  Calls Tryz.prog 155 #[.pointer (some ⟨p, 0, none⟩), .int .i64 i] w fun e w' => e = .returned (.tuple #[]) ∧ WSt B p (putF s) w' ∧ Below B w w' := by
 obtain ⟨g, cap, h1, h2, h3⟩ := hw
 by_cases hz : s.2.1 = 0
 ·refine (put_zero p i w (by rw [← hz]; exact h1.2.1)).mono ?_
  rintro e w ⟨rfl, rfl⟩
  refine ⟨rfl, ?_, Below.refl _ _⟩
  unfold putF
  rw [if_pos hz]
  exact ⟨g, cap, h1, h2, h3⟩
 ·obtain ⟨a1, a2, a3, a4, a5, a6, _⟩ := hg.step hz
  refine (put_next B p s.1.length g cap i s.2.1 s.2.2 _ w h1 h2 h3 hB hn a1 a2 a3 a4 a6).mono ?_
  rintro e w' ⟨rfl, g', cap', b1, b2, b3, b4⟩
  refine ⟨rfl, ?_, b3⟩
  unfold putF
  rw [if_neg hz]
  rw [byteCells_snoc _ _ a5 a6] at b1
  have hl : (s.1 ++ [UInt8.ofNat (48 + (s.2.1 / (s.2.2 / 10)).toNat)]).length = s.1.length + 1 := by simp
  exact ⟨g', cap', by simp only [hl]; exact b4, by simp only [hl]; exact b1, b2⟩
theorem place_put (B p : Nat) (s : List UInt8 × Int × Int) (w : World) (hw : WSt B p s w) (hg : Good s) (hB : B ≤ p) (hn : s.1.length ≤ 900) :
  Calls Tryz.prog 154 #[.func (.func 155) #[.pointer (some ⟨p, 0, none⟩)] #[]] w fun e w' => e = .returned (.tuple #[]) ∧ WSt B p (putN 6 s) w' ∧ Below B w w' := by
 go_enter Tryz.func154, Tryz.ntmps154
 go_wp2
 go_loopw [3] (fun i wr => ∃ k : Nat, k ≤ 6 ∧ i = .int .i64 k ∧ WSt B p (putN k s) wr ∧ Below B w wr) (fun i _ => 6 - (intOf i).toNat)
 case atStart => exact ⟨0, by omega, rfl, hw, Below.refl _ _⟩
 case round =>
  obtain ⟨k, hk, rfl, hst, hbel⟩ := hrel
  have hgk := hg.putN k
  have hlk := putN_len s k
  by_cases hlt : k < 6
  ·have HP : Hid (∀ w' (_ : WSt B p (putN k s) w') (i : Int), Calls Tryz.prog 155 #[.pointer (some ⟨p, 0, none⟩), .int .i64 i] w' fun e w'' => e = .returned (.tuple #[]) ∧ WSt B p (putF (putN k s)) w'' ∧ Below B w' w'') := fun w' h i => put_any B p i (putN k s) w' h hgk hB (by omega)
   clear hgk hlk
   have HS : Hid (WSt B p (putN k s) wr) := hst
   clear hst
   go_wp2_with (go_at_call 155; refine (HP.out _ HS.out _).mono ?_; rintro e w2 ⟨rfl, hst2, hbel2⟩)
   go_roundw
   case rel => exact ⟨k + 1, by omega, by go_num, hst2, hbel.trans hbel2⟩
   case measure => simp [intOf]; omega
  ·go_wp2
   go_end0
   obtain rfl : k = 6 := by omega
   exact ⟨rfl, hst, hbel⟩
end Go.Proofs.YtgpkcjpanpbhdaaGreatDoor
namespace Go.Proofs.YtgpkcjpanpbhdaaGreatDoor
open Go.RowKit
theorem conv_owned {B n : Nat} {v : Value} {l : List UInt8} {w : World} (h : w.ownsRow B 5 1 v n (Lib.byteCells l)) (hne : l ≠ []) :
  (convert 56 9 v).run Tryz.prog w = .ok (.string ⟨l.toArray⟩) w := by
 have hl : n = l.length := by have := h.1; simp [Lib.byteCells] at this; omega
 subst hl
 rcases h.2 with ⟨_, h0⟩ | ⟨g, cap, cur, rfl, _⟩
 ·exact absurd (List.length_eq_zero_iff.1 h0) hne
 ·refine run_convert_bytes_back w 56 9 5 ⟨g, 0, none⟩ cap l Tryz.underlying56 Tryz.underlying5 Tryz.underlying9 ?_
  intro j hj
  have := h.cellAt j (by omega)
  have ea : (⟨g, 0, none⟩ : Addr).add j = ⟨g, j, none⟩ := by unfold Addr.add; split <;> simp_all
  rw [ea, this]
  simp [Lib.byteCells, hj]
theorem decDigits_ne (u : Nat) : Lib.decDigits u ≠ [] := by unfold Lib.decDigits; split <;> simp
theorem itoa_ne (n : Int) : Lib.itoa n ≠ [] := by unfold Lib.itoa; split <;> simp [decDigits_ne]
theorem good_start (bs : List UInt8) {r : Int} (h0 : 0 < r) (h1 : r < 1000000) : Good (bs, r, 1000000) := Or.inr ⟨6, by omega, by omega, by simp, h0, by simpa using h1⟩
theorem wst_start {B g cap n : Nat} {bs : List UInt8} {r : Int} {w : World} (hn : n = bs.length) (h : w.ownsRow B 5 1 (.slice (some ⟨g, 0, none⟩) n cap) n (Lib.byteCells bs)) :
  WSt B w.heap.size (bs, r, 1000000) (w.alloc (.cells #[.slice (some ⟨g, 0, none⟩) n cap, .int .i64 r, .int .i64 1000000] 150)) := by
 subst hn
 refine ⟨g, cap, ⟨?_, ?_, ?_, ?_, ?_, ?_⟩, h.alloc _, ?_⟩
 ·simp
 ·simp
 ·simp
 ·exact World.frozen?_alloc_new _ _ _ _
 ·exact World.frozen?_alloc_new _ _ _ _
 ·exact World.frozen?_alloc_new _ _ _ _
 ·exact Nat.ne_of_lt (h.lt g rfl).2
theorem below_append {B : Nat} {w W w1 : World} {o : Obj} {v : Value} {n : Nat} {xs : List Value} (hb : Below B w W) (hB : B ≤ W.heap.size) (hown : W.ownsRow B 5 1 v n xs) (hg : (W.alloc o).grownBy w1 v.ownBlock) : Below B w w1 :=
 (hb.alloc hB o).grown hg (by simp; omega) (fun k hk => (hown.lt k hk).1)
theorem byteCells_one_more (l : List UInt8) (b : UInt8) : Lib.byteCells l ++ [.int .u8 b.toNat] = Lib.byteCells (l ++ [b]) := by simp [Lib.byteCells]
theorem putN_pre' (pre : List UInt8) (r : Int) : putN 6 (pre, r, 1000000) = (pre ++ fracDigits r, (putN 6 ([], r, 1000000)).2) := by
 have := putN_pre pre [] r 1000000 6
 rw [List.append_nil] at this
 exact this
end Go.Proofs.YtgpkcjpanpbhdaaGreatDoor
namespace Go.Proofs.YtgpkcjpanpbhdaaGreatDoor
open Go.RowKit
theorem show_pw (a : Int) (w : World) (h0 : 0 ≤ clampI a) (h1 : (clampI a % 1000000 == 0) = true) (htab : Lib.TabBelow Tryz.prog w.heap.size w "internal/strconv.uint64pow10" .u64 Lib.pow10Tab) :
  Calls Tryz.prog 117 #[.int .i64 a] w fun e w' => e = .returned (.string ⟨(showL a).toArray⟩) ∧ Below w.heap.size w w' := by
 have l0 := clampI_le a
 have l1 := clampI_ge a
 have hlen : (Lib.itoa ((clampI a) / 1000000)).length ≤ 10 := itoa_len (by omega) (by omega)
 have hlne := itoa_ne ((clampI a) / 1000000)
 obtain ⟨i0, hi0, hz0, hz1, hz2⟩ := info_parts info5
 go_enter Tryz.func117, Tryz.ntmps117
 go_wp2_with (go_at_call 152; refine (clamp_any _ _).mono ?_; rintro e w ⟨rfl, rfl⟩)
 refine (Tryz.strconv_AppendInt_10 w.heap.size 0 (clampI a / 1000000) (by omega) (by omega) _ (Lib.byteCells []) w (World.ownsRow_nil _ _ _ _) (Nat.le_refl _) (by omega) htab).mono ?_
 rintro e w1 ⟨v1, rfl, hown1, hb1, hk1⟩
 clear hk1
 have hb1s := hb1.size
 rw [← Lib.byteCells_append, show 0 + (Lib.itoa (clampI a / 1000000)).length = ([] ++ Lib.itoa (clampI a / 1000000)).length by simp] at hown1
 have HE : Hid (showL a = ([] ++ Lib.itoa (clampI a / 1000000)) ++ (if (clampI a) % 1000000 = 0 then [] else 46 :: fracDigits ((clampI a) % 1000000))) := by
  show showL a = _
  simp [showL, if_neg (show ¬ clampI a < 0 by omega), showPos]
 have hL1 : ([] ++ Lib.itoa (clampI a / 1000000)).length ≤ 11 := by simp; omega
 have hL2 : ([] ++ Lib.itoa (clampI a / 1000000)) ≠ [] := by simp [hlne]
 generalize ([] ++ Lib.itoa (clampI a / 1000000)) = L at hown1 HE hL1 hL2
 clear hlen hlne
 have hcv := conv_owned hown1 hL2
 rw [show L = showL a by rw [HE.out, if_pos (by simpa using h1), List.append_nil]] at hcv
 clear hown1 hb1s hi0 hz0 hz1 hz2 HE
 go_wp2
 go_ret
 exact ⟨rfl, hb1⟩
theorem show_pf (a : Int) (w : World) (h0 : 0 ≤ clampI a) (h1 : (clampI a % 1000000 == 0) = false) (htab : Lib.TabBelow Tryz.prog w.heap.size w "internal/strconv.uint64pow10" .u64 Lib.pow10Tab) :
  Calls Tryz.prog 117 #[.int .i64 a] w fun e w' => e = .returned (.string ⟨(showL a).toArray⟩) ∧ Below w.heap.size w w' := by
 have l0 := clampI_le a
 have l1 := clampI_ge a
 have hlen : (Lib.itoa ((clampI a) / 1000000)).length ≤ 10 := itoa_len (by omega) (by omega)
 have hlne := itoa_ne ((clampI a) / 1000000)
 obtain ⟨i0, hi0, hz0, hz1, hz2⟩ := info_parts info5
 go_enter Tryz.func117, Tryz.ntmps117
 go_wp2_with (go_at_call 152; refine (clamp_any _ _).mono ?_; rintro e w ⟨rfl, rfl⟩)
 refine (Tryz.strconv_AppendInt_10 w.heap.size 0 (clampI a / 1000000) (by omega) (by omega) _ (Lib.byteCells []) w (World.ownsRow_nil _ _ _ _) (Nat.le_refl _) (by omega) htab).mono ?_
 rintro e w1 ⟨v1, rfl, hown1, hb1, hk1⟩
 clear hk1
 have hb1s := hb1.size
 rw [← Lib.byteCells_append, show 0 + (Lib.itoa (clampI a / 1000000)).length = ([] ++ Lib.itoa (clampI a / 1000000)).length by simp] at hown1
 have HE : Hid (showL a = ([] ++ Lib.itoa (clampI a / 1000000)) ++ (if (clampI a) % 1000000 = 0 then [] else 46 :: fracDigits ((clampI a) % 1000000))) := by
  show showL a = _
  simp [showL, if_neg (show ¬ clampI a < 0 by omega), showPos]
 have hL1 : ([] ++ Lib.itoa (clampI a / 1000000)).length ≤ 11 := by simp; omega
 have hL2 : ([] ++ Lib.itoa (clampI a / 1000000)) ≠ [] := by simp [hlne]
 generalize ([] ++ Lib.itoa (clampI a / 1000000)) = L at hown1 HE hL1 hL2
 clear hlen hlne
 go_wp2_with (first | (at_builtin; refine wpList_append_lies _ rfl _ _ _ rfl w.heap.size 5 i0 _ 1 1 Tryz.underlying56 hi0 hz0 hz1 hz2 rfl (by omega) v1 L.length (Lib.byteCells L) rfl (hown1.alloc _) ⟨w1.heap.size, 0, none⟩ 1 1 [.int .u8 46] rfl rfl (cell_one_new _ _ _) (by simp [Value.oneCell']) (by omega) (by unfold maxLen; omega) (by omega) (by simp; omega) (w1.heap.size + 1) (by simp) ?_; intro g2 cap2 w2 hown2 hgrow2 hat2 hlt2))
 have hb2 : Below w.heap.size w w2 := below_append hb1 hb1s hown1 hgrow2
 have hb2s := hb2.size
 have e46 : Lib.byteCells L ++ [.int .u8 46] = Lib.byteCells (L ++ [46]) := byteCells_one_more _ 46
 rw [e46] at hown2
 have h1' : (clampI a) % 1000000 ≠ 0 := by simpa using h1
 have hst := wst_start (r := clampI a % 1000000) (by simp) hown2
 refine (place_put w.heap.size w2.heap.size _ _ hst (good_start _ (by omega) (by omega)) hb2s (by simp; omega)).mono ?_
 rintro e w3 ⟨rfl, ⟨g3, cap3, hwr3, hown3, hne3⟩, hb3'⟩
 have hb3 := (hb2.alloc hb2s _).trans hb3'
 rw [putN_pre' (L ++ [46])] at hwr3 hown3
 have hcv := conv_owned hown3 (by simp)
 have hR : L ++ [46] ++ fracDigits ((clampI a) % 1000000) = showL a := by rw [HE.out, if_neg h1']; simp
 simp only [hR] at hcv hwr3
 have c0 := hwr3.1
 clear hown1 hb1s hi0 hz0 hz1 hz2 hown2 hgrow2 hat2 hlt2 hb2 hb2s e46 hst hown3 hne3 hb3' hwr3 hR HE
 go_wp2
 go_ret
 exact ⟨rfl, hb3⟩
end Go.Proofs.YtgpkcjpanpbhdaaGreatDoor
namespace Go.Proofs.YtgpkcjpanpbhdaaGreatDoor
open Go.RowKit
theorem show_nw (a : Int) (w : World) (h0 : clampI a < 0) (h1 : ((- clampI a) % 1000000 == 0) = true) (htab : Lib.TabBelow Tryz.prog w.heap.size w "internal/strconv.uint64pow10" .u64 Lib.pow10Tab) :
  Calls Tryz.prog 117 #[.int .i64 a] w fun e w' => e = .returned (.string ⟨(showL a).toArray⟩) ∧ Below w.heap.size w w' := by
 have l0 := clampI_le a
 have l1 := clampI_ge a
 have HS : Hid (showL a = 45 :: showPos (- clampI a)) := by show showL a = _; rw [showL, if_pos h0]
 obtain ⟨d, hd⟩ : ∃ d, clampI a = -d := ⟨- clampI a, by omega⟩
 rw [hd] at l0 l1 h0 h1 HS
 rw [Int.neg_neg] at h1 HS
 have h0' : 0 < d := by omega
 clear l0 h0
 have hlen : (Lib.itoa (d / 1000000)).length ≤ 10 := itoa_len (by omega) (by omega)
 have hlne := itoa_ne (d / 1000000)
 obtain ⟨i0, hi0, hz0, hz1, hz2⟩ := info_parts info5
 go_enter Tryz.func117, Tryz.ntmps117
 go_wp2_with (first | (go_at_call 152; refine (clamp_any _ _).mono ?_; rintro e w ⟨rfl, rfl⟩) | (at_builtin; refine wpList_append_lies _ rfl _ _ _ rfl w.heap.size 5 i0 _ 1 1 Tryz.underlying56 hi0 hz0 hz1 hz2 rfl (by omega) (.slice none 0 0) 0 [] rfl ((World.ownsRow_nil _ _ _ _).alloc _) ⟨w.heap.size, 0, none⟩ 1 1 [.int .u8 45] rfl rfl (cell_one_new _ _ _) (by simp [Value.oneCell']) (by omega) (by unfold maxLen; omega) (by omega) (by simp) (w.heap.size + 1) (by simp) ?_; intro g0 cap0 w0 hown0 hgrow0 hat0 hlt0))
 have hb0 : Below w.heap.size w w0 := below_append (Below.refl _ _) (Nat.le_refl _) (World.ownsRow_nil _ _ _ _) hgrow0
 have hb0s := hb0.size
 have hown0' : w0.ownsRow w.heap.size 5 1 (.slice (some ⟨g0, 0, none⟩) 1 cap0) 1 (Lib.byteCells [45]) := hown0
 clear hown0 hgrow0 hat0 hlt0
 refine (Tryz.strconv_AppendInt_10 w.heap.size 1 (d / 1000000) (by omega) (by omega) _ (Lib.byteCells [45]) w0 hown0' hb0s (by omega) (htab.on hb0)).mono ?_
 rintro e w1 ⟨v1, rfl, hown1, hb1', hk1⟩
 have hb1 := hb0.trans hb1'
 clear hk1 hb1' hown0' hb0s hb0
 have hb1s := hb1.size
 rw [← Lib.byteCells_append, show 1 + (Lib.itoa (d / 1000000)).length = ([45] ++ Lib.itoa (d / 1000000)).length by simp; omega] at hown1
 have HE : Hid (showL a = ([45] ++ Lib.itoa (d / 1000000)) ++ (if d % 1000000 = 0 then [] else 46 :: fracDigits (d % 1000000))) := by
  show showL a = _
  rw [HS.out]; simp [showPos]
 have hL1 : ([45] ++ Lib.itoa (d / 1000000)).length ≤ 11 := by simp; omega
 have hL2 : ([45] ++ Lib.itoa (d / 1000000)) ≠ [] := by simp
 generalize ([45] ++ Lib.itoa (d / 1000000)) = L at hown1 HE hL1 hL2
 clear hlen hlne
 have hcv := conv_owned hown1 hL2
 rw [show L = showL a by rw [HE.out, if_pos (by simpa using h1), List.append_nil]] at hcv
 clear hown1 hb1s hi0 hz0 hz1 hz2 HE
 go_wp2
 go_ret
 exact ⟨rfl, hb1⟩
theorem show_nf (a : Int) (w : World) (h0 : clampI a < 0) (h1 : ((- clampI a) % 1000000 == 0) = false) (htab : Lib.TabBelow Tryz.prog w.heap.size w "internal/strconv.uint64pow10" .u64 Lib.pow10Tab) :
  Calls Tryz.prog 117 #[.int .i64 a] w fun e w' => e = .returned (.string ⟨(showL a).toArray⟩) ∧ Below w.heap.size w w' := by
 have l0 := clampI_le a
 have l1 := clampI_ge a
 have HS : Hid (showL a = 45 :: showPos (- clampI a)) := by show showL a = _; rw [showL, if_pos h0]
 obtain ⟨d, hd⟩ : ∃ d, clampI a = -d := ⟨- clampI a, by omega⟩
 rw [hd] at l0 l1 h0 h1 HS
 rw [Int.neg_neg] at h1 HS
 have h0' : 0 < d := by omega
 clear l0 h0
 have hlen : (Lib.itoa (d / 1000000)).length ≤ 10 := itoa_len (by omega) (by omega)
 have hlne := itoa_ne (d / 1000000)
 obtain ⟨i0, hi0, hz0, hz1, hz2⟩ := info_parts info5
 go_enter Tryz.func117, Tryz.ntmps117
 go_wp2_with (first | (go_at_call 152; refine (clamp_any _ _).mono ?_; rintro e w ⟨rfl, rfl⟩) | (at_builtin; refine wpList_append_lies _ rfl _ _ _ rfl w.heap.size 5 i0 _ 1 1 Tryz.underlying56 hi0 hz0 hz1 hz2 rfl (by omega) (.slice none 0 0) 0 [] rfl ((World.ownsRow_nil _ _ _ _).alloc _) ⟨w.heap.size, 0, none⟩ 1 1 [.int .u8 45] rfl rfl (cell_one_new _ _ _) (by simp [Value.oneCell']) (by omega) (by unfold maxLen; omega) (by omega) (by simp) (w.heap.size + 1) (by simp) ?_; intro g0 cap0 w0 hown0 hgrow0 hat0 hlt0))
 have hb0 : Below w.heap.size w w0 := below_append (Below.refl _ _) (Nat.le_refl _) (World.ownsRow_nil _ _ _ _) hgrow0
 have hb0s := hb0.size
 have hown0' : w0.ownsRow w.heap.size 5 1 (.slice (some ⟨g0, 0, none⟩) 1 cap0) 1 (Lib.byteCells [45]) := hown0
 clear hown0 hgrow0 hat0 hlt0
 refine (Tryz.strconv_AppendInt_10 w.heap.size 1 (d / 1000000) (by omega) (by omega) _ (Lib.byteCells [45]) w0 hown0' hb0s (by omega) (htab.on hb0)).mono ?_
 rintro e w1 ⟨v1, rfl, hown1, hb1', hk1⟩
 have hb1 := hb0.trans hb1'
 clear hk1 hb1' hown0' hb0s hb0
 have hb1s := hb1.size
 rw [← Lib.byteCells_append, show 1 + (Lib.itoa (d / 1000000)).length = ([45] ++ Lib.itoa (d / 1000000)).length by simp; omega] at hown1
 have HE : Hid (showL a = ([45] ++ Lib.itoa (d / 1000000)) ++ (if d % 1000000 = 0 then [] else 46 :: fracDigits (d % 1000000))) := by
  show showL a = _
  rw [HS.out]; simp [showPos]
 have hL1 : ([45] ++ Lib.itoa (d / 1000000)).length ≤ 11 := by simp; omega
 have hL2 : ([45] ++ Lib.itoa (d / 1000000)) ≠ [] := by simp
 generalize ([45] ++ Lib.itoa (d / 1000000)) = L at hown1 HE hL1 hL2
 clear hlen hlne
 go_wp2_with (first | (at_builtin; refine wpList_append_lies _ rfl _ _ _ rfl w.heap.size 5 i0 _ 1 1 Tryz.underlying56 hi0 hz0 hz1 hz2 rfl (by omega) v1 L.length (Lib.byteCells L) rfl (hown1.alloc _) ⟨w1.heap.size, 0, none⟩ 1 1 [.int .u8 46] rfl rfl (cell_one_new _ _ _) (by simp [Value.oneCell']) (by omega) (by unfold maxLen; omega) (by omega) (by simp; omega) (w1.heap.size + 1) (by simp) ?_; intro g2 cap2 w2 hown2 hgrow2 hat2 hlt2))
 have hb2 : Below w.heap.size w w2 := below_append hb1 hb1s hown1 hgrow2
 have hb2s := hb2.size
 have e46 : Lib.byteCells L ++ [.int .u8 46] = Lib.byteCells (L ++ [46]) := byteCells_one_more _ 46
 rw [e46] at hown2
 have h1' : d % 1000000 ≠ 0 := by simpa using h1
 have hst := wst_start (r := d % 1000000) (by simp) hown2
 refine (place_put w.heap.size w2.heap.size _ _ hst (good_start _ (by omega) (by omega)) hb2s (by simp; omega)).mono ?_
 rintro e w3 ⟨rfl, ⟨g3, cap3, hwr3, hown3, hne3⟩, hb3'⟩
 have hb3 := (hb2.alloc hb2s _).trans hb3'
 rw [putN_pre' (L ++ [46])] at hwr3 hown3
 have hcv := conv_owned hown3 (by simp)
 have hR : L ++ [46] ++ fracDigits (d % 1000000) = showL a := by rw [HE.out, if_neg h1']; simp
 simp only [hR] at hcv hwr3
 have c0 := hwr3.1
 clear hown1 hb1s hi0 hz0 hz1 hz2 hown2 hgrow2 hat2 hlt2 hb2 hb2s e46 hst hown3 hne3 hb3' hwr3 hR HE
 go_wp2
 go_ret
 exact ⟨rfl, hb3⟩
end Go.Proofs.YtgpkcjpanpbhdaaGreatDoor
namespace Go.Proofs.YtgpkcjpanpbhdaaGreatDoor
open Go.RowKit
theorem show_any (a : Int) (w : World) (htab : Lib.TabBelow Tryz.prog w.heap.size w "internal/strconv.uint64pow10" .u64 Lib.pow10Tab) :
  Calls Tryz.prog 117 #[.int .i64 a] w fun e w' => e = .returned (.string ⟨(showL a).toArray⟩) ∧ Below w.heap.size w w' := by
 by_cases h0 : clampI a < 0
 ·cases h1 : ((- clampI a) % 1000000 == 0)
  ·exact show_nf a w h0 h1 htab
  ·exact show_nw a w h0 h1 htab
 ·cases h1 : (clampI a % 1000000 == 0)
  ·exact show_pf a w (by omega) h1 htab
  ·exact show_pw a w (by omega) h1 htab
end Go.Proofs.YtgpkcjpanpbhdaaGreatDoor
namespace Go.Proofs.YtgpkcjpanpbhdaaGreatDoor
open Go
def lpN (y : Nat) : Nat := if y % 4 = 0 ∧ (y % 100 ≠ 0 ∨ y % 400 = 0) then 1 else 0
theorem lpN_le (y : Nat) : lpN y ≤ 1 := by unfold lpN; split <;> omega
def yl (y : Nat) : Nat := 365 + lpN y
def mt (m : Nat) : Nat := [31, 28, 31, 30, 31, 30, 31, 31, 30, 31, 30, 31].getD m 0
def ml (y m : Nat) : Nat := if m = 1 then 28 + lpN y else mt m
def yd : Nat → Nat
 | 0 => 0
 | n + 1 => yd n + yl (1900 + n)
def md (y : Nat) : Nat → Nat
 | 0 => 0
 | m + 1 => md y m + ml y m
theorem yl_ge (y : Nat) : 365 ≤ yl y := by unfold yl; omega
theorem yl_le (y : Nat) : yl y ≤ 366 := by have := lpN_le y; unfold yl; omega
theorem mt_bounds {m : Nat} (h : m < 12) : 28 ≤ mt m ∧ mt m ≤ 31 := by
 match m, h with
 | 0, _ | 1, _ | 2, _ | 3, _ | 4, _ | 5, _ | 6, _ | 7, _ | 8, _ | 9, _ | 10, _ | 11, _ => exact ⟨by decide, by decide⟩
theorem ml_ge (y : Nat) {m : Nat} (h : m < 12) : 28 ≤ ml y m := by have := mt_bounds h; unfold ml; split <;> omega
theorem ml_le (y : Nat) {m : Nat} (h : m < 12) : ml y m ≤ 31 := by have := mt_bounds h; have := lpN_le y; unfold ml; split <;> omega
theorem md_twelve (y : Nat) : md y 12 = yl y := by
 have e : ∀ m, md y (m + 1) = md y m + ml y m := fun _ => rfl
 simp only [e]
 have e0 : md y 0 = 0 := rfl
 rw [e0]
 simp [ml, mt, yl]; omega
theorem yd_step (n : Nat) : yd (n + 1) = yd n + yl (1900 + n) := rfl
theorem md_step (y m : Nat) : md y (m + 1) = md y m + ml y m := rfl
theorem yd_mono {a b : Nat} (h : a ≤ b) : yd a ≤ yd b := by
 induction h with
 | refl => exact Nat.le_refl _
 | step _ ih => rw [yd_step]; omega
theorem md_mono (y : Nat) {a b : Nat} (h : a ≤ b) : md y a ≤ md y b := by
 induction h with
 | refl => exact Nat.le_refl _
 | step _ ih => rw [md_step]; omega
theorem yd_all : yd 200 = 73049 := by decide +kernel
theorem yd_le {n : Nat} (h : n ≤ 200) : yd n ≤ 73049 := by have := yd_mono h; rw [yd_all] at this; exact this
theorem md_le (y : Nat) {m : Nat} (h : m ≤ 12) : md y m ≤ yl y := by have := md_mono y h; rw [md_twelve] at this; exact this
def Dt (y m d : Nat) : Prop := y < 200 ∧ m < 12 ∧ 1 ≤ d ∧ d ≤ ml (1900 + y) m
instance (y m d : Nat) : Decidable (Dt y m d) := by unfold Dt; infer_instance
def dn (y m d : Nat) : Nat := yd y + md (1900 + y) m + d - 1
theorem Dt.dle {y m d : Nat} (h : Dt y m d) : d ≤ 31 := Nat.le_trans h.2.2.2 (ml_le _ h.2.1)
theorem dn_year {y m d : Nat} (h : Dt y m d) : yd y ≤ dn y m d ∧ dn y m d < yd (y + 1) := by
 obtain ⟨_, h2, h3, h4⟩ := h
 have h5 := md_le (1900 + y) (m := m + 1) (by omega)
 rw [md_step] at h5
 rw [yd_step]; unfold dn; omega
theorem dn_lt {y m d y' m' d' : Nat} (h : Dt y m d) (h' : Dt y' m' d') (hl : y < y' ∨ y = y' ∧ (m < m' ∨ m = m' ∧ d < d')) : dn y m d < dn y' m' d' := by
 rcases hl with hl | ⟨rfl, hl | ⟨rfl, hl⟩⟩
 ·have h1 := (dn_year h).2
  have h2 := (dn_year h').1
  have h3 := yd_mono (a := y + 1) (b := y') hl
  omega
 ·have h3 := md_mono (1900 + y) (a := m + 1) (b := m') hl
  rw [md_step] at h3
  obtain ⟨_, _, h4, h5⟩ := h
  obtain ⟨_, _, h6, _⟩ := h'
  unfold dn; omega
 ·obtain ⟨_, _, h4, h5⟩ := h
  unfold dn; omega
theorem dn_inj {y m d y' m' d' : Nat} (h : Dt y m d) (h' : Dt y' m' d') (he : dn y m d = dn y' m' d') : y = y' ∧ m = m' ∧ d = d' := by
 by_cases hc : y = y' ∧ m = m' ∧ d = d'
 ·exact hc
 ·exfalso
  rcases Nat.lt_trichotomy y y' with h1 | h1 | h1
  ·have := dn_lt h h' (.inl h1); omega
  ·subst h1
   rcases Nat.lt_trichotomy m m' with h2 | h2 | h2
   ·have := dn_lt h h' (.inr ⟨rfl, .inl h2⟩); omega
   ·subst h2
    rcases Nat.lt_trichotomy d d' with h3 | h3 | h3
    ·have := dn_lt h h' (.inr ⟨rfl, .inr ⟨rfl, h3⟩⟩); omega
    ·exact hc ⟨rfl, rfl, h3⟩
    ·have := dn_lt h' h (.inr ⟨rfl, .inr ⟨rfl, h3⟩⟩); omega
   ·have := dn_lt h' h (.inr ⟨rfl, .inl h2⟩); omega
  ·have := dn_lt h' h (.inl h1); omega
def clampD (n : Int) : Nat := if n < 0 then 0 else if 73048 < n then 73048 else n.toNat
theorem clampD_in {n : Nat} (h : n ≤ 73048) : clampD (n : Int) = n := by unfold clampD; rw [if_neg (by omega), if_neg (by omega)]; omega
end Go.Proofs.YtgpkcjpanpbhdaaGreatDoor
namespace Go.Proofs.YtgpkcjpanpbhdaaGreatDoor
open Go Go.RowKit
theorem appG {ops : Array Oper} {rest : List Oper} {o : Oper} {a : Act} {Q : Exit → Act → World → Prop} {w wr : World} (news : List UInt8) (cs : Array Value) (hcs : cs.toList = cells8 news)
  (hg : o.guard = none) (s x : Operand) (hop : o.op = Op.call { callee := Callee.builtin Builtin.append, args := #[s, x], argTypes := #[56, 56] })
  (B n k c : Nat) (v : Value) (m : List UInt8) (hs : a.eval s = v) (hx : a.eval x = .slice (some ⟨wr.heap.size, 0, none⟩) k c) (hk : news.length = k) (hk0 : 0 < k)
  (ho : wr.ownsRow B 5 1 v n (cells8 m)) (hbnd : n + k ≤ 140737488355328) (hbel : Below B w wr) (hB : B ≤ wr.heap.size)
  (hK : ∀ g cap w1, w1.ownsRow B 5 1 (.slice (some ⟨g, 0, none⟩) (n + k) cap) (n + k) (cells8 (m ++ news)) → Below B w w1 → wr.heap.size < w1.heap.size → wpList Tryz.prog ops Q rest (a.put o.dst (.slice (some ⟨g, 0, none⟩) (n + k) cap)) w1) :
  wpList Tryz.prog ops Q (o :: rest) a (wr.alloc (.cells cs 5)) := by
 obtain ⟨i0, hi0, hz0, hz1, hz2⟩ := info_parts info8
 refine wpList_append_lies _ hg s x 56 hop B 5 i0 (.int .u8 0) 1 1 Tryz.underlying56 hi0 hz0 hz1 hz2 rfl (by omega) v n _ hs (ho.alloc _) ⟨wr.heap.size, 0, none⟩ k c (cells8 news) hx (by rw [cells8_len]; omega)
  (hcs ▸ World.news_of_block (fr := (0, 0)) (heap_alloc_new wr _)) (cells8_one _) hk0 (by unfold maxLen; omega) (by omega) (by simp; omega) (wr.heap.size + 1) (by simp) ?_
 intro g cap w1 ho1 hg1 _ _
 rw [cells8_append] at ho1
 have hs1 : wr.heap.size + 1 ≤ w1.heap.size := by have := hg1.size; simpa using this
 exact hK g cap w1 ho1 ((hbel.alloc hB _).grown hg1 (by simp; omega) (fun k hk => (ho.lt k hk).1)) hs1
theorem ret_intD {k : IntKind} {a b : Int} (h : a = b) : Ending.returned (.int k a) = .returned (.int k b) := by rw [h]
theorem ret_bool {a b : Bool} (h : a = b) : Ending.returned (.bool a) = .returned (.bool b) := by rw [h]
def Tab (w : World) : Prop := ∀ k, k < 12 → w.cell? ⟨0, k, none⟩ = some (.int .i64 (mt k : Nat))
theorem leapDays_any (y : Nat) (h : y ≤ 10000) (w : World) :
  Calls Tryz.prog 216 #[.int .i64 y] w fun e w' => e = .returned (.int .i64 (lpN y : Nat)) ∧ w' = w := by
 by_cases h4 : y % 4 = 0
 ·by_cases h100 : y % 100 = 0
  ·by_cases h400 : y % 400 = 0
   ·go_enter Tryz.func216, Tryz.ntmps216
    go_wp2
    go_ret
    refine ⟨ret_intD ?_, rfl⟩
    unfold lpN; rw [if_pos (by omega)]; rfl
   ·go_enter Tryz.func216, Tryz.ntmps216
    go_wp2
    go_ret
    refine ⟨ret_intD ?_, rfl⟩
    unfold lpN; rw [if_neg (by omega)]; rfl
  ·go_enter Tryz.func216, Tryz.ntmps216
   go_wp2
   go_ret
   refine ⟨ret_intD ?_, rfl⟩
   unfold lpN; rw [if_pos (by omega)]; rfl
 ·go_enter Tryz.func216, Tryz.ntmps216
  go_wp2
  go_ret
  refine ⟨ret_intD ?_, rfl⟩
  unfold lpN; rw [if_neg (by omega)]; rfl
theorem yearLater_any (y n : Nat) (h : y ≤ 5000) (hn : n ≤ 5000) (w : World) :
  Calls Tryz.prog 199 #[.int .i64 y, .int .i64 n] w fun e w' => e = .returned (.int .i64 (yl (y + n) : Nat)) ∧ w' = w := by
 have H := hid (fun w => leapDays_any (y + n) (by omega) w)
 have hl := lpN_le (y + n)
 go_enter Tryz.func199, Tryz.ntmps199
 go_wp2_with fail
 refine (H.out _).mono ?_
 rintro e w ⟨rfl, rfl⟩
 go_wp2
 go_ret
 refine ⟨ret_intD ?_, rfl⟩
 unfold yl; omega
theorem Tab.drewN {w : World} (h : Tab w) (n : Nat) : Tab (w.drewN n) := h
theorem month_any (y m : Nat) (h : y ≤ 5000) (hm : m < 12) (w : World) (ht : Tab w) :
  Calls Tryz.prog 200 #[.int .i64 y, .int .i64 m] w fun e w' => e = .returned (.int .i64 (ml y m : Nat)) ∧ ∃ n, w' = w.drewN n := by
 have H := hid (fun w => leapDays_any y (by omega) w)
 have hl := lpN_le y
 have hc := ht m hm
 have hb := mt_bounds hm
 have hm' : (m : Int) < 12 := by omega
 clear ht
 by_cases h1 : m = 1
 ·subst h1
  go_enter Tryz.func200, Tryz.ntmps200
  go_wp2_with fail
  go_quiet ((go_at_call 216; refine Calls.quiet_of_same (H.out _)))
  go_wp2
  go_ret
  refine ⟨ret_intD ?_, _, rfl⟩
  unfold ml mt; simp
 ·go_enter Tryz.func200, Tryz.ntmps200
  go_wp2_with fail
  go_ret
  refine ⟨ret_intD ?_, 0, rfl⟩
  unfold ml; simp [h1]
theorem daysOfY_any (n : Nat) (hn : n ≤ 200) (w : World) :
  Calls Tryz.prog 232 #[.int .i64 1900, .int .i64 n, .func (.func 199) #[] #[]] w fun e w' => e = .returned (.int .i64 (yd n : Nat)) ∧ w' = w := by
 have H := hid (fun (k : Nat) (hk : k ≤ 5000) w => yearLater_any 1900 k (by omega) hk w)
 go_enter Tryz.func232, Tryz.ntmps232
 go_wp2_with fail
 go_loop [7, 10] (fun s i => ∃ k : Nat, k ≤ n ∧ i = .int .i64 k ∧ s = .int .i64 (yd k : Nat)) (fun _ i => n - (intOf i).toNat)
 case atStart => exact ⟨0, by omega, rfl, rfl⟩
 case round =>
  obtain ⟨k, hk, rfl, rfl⟩ := hrel
  have hy := yd_le (n := k) (by omega)
  have hyl := yl_le (1900 + k)
  by_cases hlt : k < n
  ·go_wp2_with fail
   refine (H.out k (by omega) _).mono ?_
   rintro e w ⟨rfl, rfl⟩
   go_wp2
   refine ⟨⟨k + 1, by omega, rfl, ?_⟩, by simp [intOf]; omega⟩
   rw [yd_step]; simp
  ·have : k = n := by omega
   subst this
   go_wp2
   go_ret
   exact ⟨rfl, rfl⟩
theorem piecesInY_any (n : Nat) (hn : n ≤ 73048) (w : World) :
  Calls Tryz.prog 198 #[.int .i64 1900, .int .i64 n, .func (.func 199) #[] #[]] w fun e w' => ∃ y l : Nat, e = .returned (.tuple #[.int .i64 y, .int .i64 l]) ∧ y < 200 ∧ l < yl (1900 + y) ∧ yd y + l = n ∧ w' = w := by
 have H := hid (fun (k : Nat) (hk : k ≤ 5000) w => yearLater_any 1900 k (by omega) hk w)
 go_enter Tryz.func198, Tryz.ntmps198
 go_wp2_with fail
 go_loop [1, 8] (fun s i => ∃ k l : Nat, k ≤ 200 ∧ i = .int .i64 k ∧ s = .int .i64 l ∧ yd k + l = n) (fun s _ => (intOf s).toNat)
 case atStart => exact ⟨0, n, by omega, rfl, rfl, by simp [yd]⟩
 case round =>
  obtain ⟨k, l, hk, rfl, rfl, hkl⟩ := hrel
  have hyl := yl_le (1900 + k)
  have hyg := yl_ge (1900 + k)
  have hk2 : k < 200 := by
   rcases Nat.lt_or_ge k 200 with h | h
   ·exact h
   ·have : k = 200 := by omega
    subst this
    rw [yd_all] at hkl; omega
  have hst := yd_step k
  by_cases hlt : yl (1900 + k) ≤ l
  ·go_wp2_with fail
   refine (H.out k (by omega) _).mono ?_
   rintro e w ⟨rfl, rfl⟩
   go_wp2_with fail
   refine (H.out k (by omega) _).mono ?_
   rintro e w ⟨rfl, rfl⟩
   go_wp2
   refine ⟨⟨k + 1, l - yl (1900 + k), by omega, rfl, ?_, by omega⟩, by simp [intOf]; omega⟩
   congr 1; omega
  ·go_wp2_with fail
   refine (H.out k (by omega) _).mono ?_
   rintro e w ⟨rfl, rfl⟩
   go_wp2
   go_ret2
   exact ⟨k, l, rfl, hk2, by omega, hkl, rfl⟩
theorem piecesInM_any (y n : Nat) (hy : y ≤ 5000) (hn : n < yl y) (w : World) (ht : Tab w) :
  Calls Tryz.prog 198 #[.int .i64 y, .int .i64 n, .func (.func 200) #[] #[]] w fun e w' => ∃ m l : Nat, e = .returned (.tuple #[.int .i64 m, .int .i64 l]) ∧ m < 12 ∧ l < ml y m ∧ md y m + l = n ∧ ∃ j, w' = w.drewN j := by
 have H := hid (fun (k : Nat) (hk : k < 12) (j : Nat) => month_any y k (by omega) hk (w.drewN j) (ht.drewN j))
 have hyy := yl_le y
 clear ht
 go_enter Tryz.func198, Tryz.ntmps198
 go_wp2_with fail
 go_loopw [1, 8] (fun s i wr => ∃ k l j : Nat, k ≤ 12 ∧ i = .int .i64 k ∧ s = .int .i64 l ∧ md y k + l = n ∧ wr = w.drewN j) (fun s _ _ => (intOf s).toNat)
 case atStart => exact ⟨0, n, 0, by omega, rfl, rfl, by simp [md], rfl⟩
 case round =>
  obtain ⟨k, l, j, hk, rfl, rfl, hkl, rfl⟩ := hrel
  have hk2 : k < 12 := by
   rcases Nat.lt_or_ge k 12 with h | h
   ·exact h
   ·have : k = 12 := by omega
    subst this
    rw [md_twelve] at hkl; omega
  have hyl := ml_le y hk2
  have hyg := ml_ge y hk2
  have hst := md_step y k
  by_cases hlt : ml y k ≤ l
  ·go_wp2_with fail
   refine (H.out k (by omega) _).mono ?_
   rintro e w1 ⟨rfl, i1, rfl⟩
   rw [World.drewN_drewN]
   go_wp2_with fail
   refine (H.out k (by omega) _).mono ?_
   rintro e w1 ⟨rfl, i2, rfl⟩
   go_wp2
   refine ⟨⟨k + 1, l - ml y k, _, by omega, rfl, ?_, by omega, rfl⟩, by simp [intOf]; omega⟩
   congr 1; omega
  ·go_wp2_with fail
   refine (H.out k (by omega) _).mono ?_
   rintro e w1 ⟨rfl, i1, rfl⟩
   go_wp2
   go_ret2
   exact ⟨k, l, rfl, hk2, by omega, hkl, _, rfl⟩
theorem Tab.below {w w' : World} (h : Tab w) (hB : Below w.heap.size w w') : Tab w' := fun k hk => by
 rw [hB.cell (p := ⟨0, k, none⟩) (World.block_lt_of_cell? w _ (h k hk))]; exact h k hk
theorem Below.next {w w1 w2 : World} (hb : Below w.heap.size w w1) (h : Below w1.heap.size w1 w2) : Below w.heap.size w w2 := hb.trans (h.mono hb.size)
theorem drewN_below (w : World) (j : Nat) : Below w.heap.size w (w.drewN j) := by
 induction j with
 | zero => exact Below.refl _ _
 | succ j ih => exact (by have := ih.drew; exact this)
theorem clamp_day (n : Int) (w : World) :
  Calls Tryz.prog 186 #[.int .i64 n] w fun e w' => e = .returned (.int .i64 (clampD n : Nat)) ∧ w' = w := by
 unfold clampD
 by_cases h0 : n < 0
 ·go_enter Tryz.func186, Tryz.ntmps186
  rw [if_pos h0]
  go_wp2
  all_goals
   go_ret
   exact ⟨ret_intD (by omega), rfl⟩
 ·by_cases h1 : 73048 < n
  ·go_enter Tryz.func186, Tryz.ntmps186
   rw [if_neg h0, if_pos h1]
   go_wp2
   all_goals
    go_ret
    exact ⟨ret_intD (by omega), rfl⟩
  ·go_enter Tryz.func186, Tryz.ntmps186
   rw [if_neg h0, if_neg h1]
   go_wp2
   all_goals
    go_ret
    exact ⟨ret_intD (by omega), rfl⟩
theorem dateOf_any (n : Nat) (hn : n ≤ 73048) (w : World) (ht : Tab w) :
  Calls Tryz.prog 187 #[.int .i64 n] w fun e w' => ∃ y m d : Nat, Dt y m d ∧ dn y m d = n ∧ e = .returned (.agg #[.int .i64 (1900 + (y : Int)), .int .i64 m, .int .i64 d]) ∧ Below w.heap.size w w' := by
 have H1 := hid (piecesInY_any n hn)
 have HT := hid ht
 clear ht
 go_enter Tryz.func187, Tryz.ntmps187
 go_wp2_with fail
 refine (H1.out _).mono ?_
 rintro e w1 ⟨y, l, rfl, hy, hl, hyl, rfl⟩
 go_wp2_with fail
 refine (piecesInM_any (1900 + y) l (by omega) hl _ (HT.out.below ((Below.refl _ _).alloc (Nat.le_refl _) _))).mono ?_
 rintro e w2 ⟨m, l', rfl, hm, hl', hml, j, rfl⟩
 go_wp2
 go_returns
 refine ⟨y, m, l' + 1, ⟨hy, hm, by omega, by omega⟩, by unfold dn; omega, rfl, ?_⟩
 have h0 := ((Below.refl w.heap.size w).alloc (Nat.le_refl _) (.cells #[.int .i64 0, .int .i64 0, .int .i64 0] 174))
 have h1 := Below.next h0 (drewN_below _ j)
 exact ((h1.setCell (p := ⟨w.heap.size, 0, none⟩) (Nat.le_refl _) _).setCell (p := ⟨w.heap.size, 1, none⟩) (Nat.le_refl _) _).setCell (p := ⟨w.heap.size, 2, none⟩) (Nat.le_refl _) _
theorem laid3 (w : World) (a b c : Value) : (w.alloc (.cells #[a, b, c] 174)).cell? ⟨w.heap.size, 0, none⟩ = some a ∧ (w.alloc (.cells #[a, b, c] 174)).cell? ⟨w.heap.size, 1, none⟩ = some b ∧ (w.alloc (.cells #[a, b, c] 174)).cell? ⟨w.heap.size, 2, none⟩ = some c := by
 have h := World.cell?_alloc_mark w #[a, b, c] 174 (0, 0)
 exact ⟨h 0, h 1, h 2⟩
theorem Below.laid {w w1 : World} (h : Below w.heap.size w w1) (o : Obj) : Below w.heap.size w (w1.alloc o) := h.alloc h.size o
def Valid (y m d : Int) : Prop := 1900 ≤ y ∧ 1 ≤ m ∧ 0 ≤ d ∧ Dt (y - 1900).toNat (m - 1).toNat d.toNat
instance (y m d : Int) : Decidable (Valid y m d) := by unfold Valid; infer_instance
theorem parts_yes (n : Nat) (hn : n ≤ 73048) (w : World) (ht : Tab w) :
  Calls Tryz.prog 156 #[.int .i64 n] w fun e w' => ∃ y m d : Nat, Dt y m d ∧ dn y m d = n ∧ e = .returned (.tuple #[.int .i64 (1900 + (y : Int)), .int .i64 ((m : Int) + 1), .int .i64 d, .int .i64 0]) ∧ Below w.heap.size w w' := by
 have HT := hid ht
 clear ht
 have HC := hid (clamp_day (n : Int))
 rw [clampD_in hn] at HC
 go_enter Tryz.func156, Tryz.ntmps156
 go_wp2_with fail
 refine (HC.out _).mono ?_
 rintro e w1 ⟨rfl, rfl⟩
 go_wp2_with fail
 refine (dateOf_any n hn _ HT.out).mono ?_
 rintro e w2 ⟨y, m, d, hd, hdn, rfl, hB⟩
 obtain ⟨c0, c1, c2⟩ := laid3 w2 (.int .i64 (1900 + (y : Int))) (.int .i64 m) (.int .i64 d)
 have HD := hid hd
 have HDN := hid hdn
 have hm := hd.2.1
 have hy := hd.1
 have hBl := hid (Below.laid hB (.cells #[.int .i64 (1900 + (y : Int)), .int .i64 m, .int .i64 d] 174))
 clear hd hdn hB
 have v1 : IntKind.i64.wrap ((m : Int) + 1) = (m : Int) + 1 := IntWalk.i64_in _ ⟨by omega, by omega⟩
 go_wp2_with fail
 generalize w2.alloc (.cells #[.int .i64 (1900 + (y : Int)), .int .i64 m, .int .i64 d] 174) = W at *
 go_quiet (fail)
 go_wp2
 go_returns
 exact ⟨y, m, d, HD.out, HDN.out, rfl, Below.next hBl.out (drewN_below _ _)⟩
def dg : Nat → Nat → List UInt8
 | 0, _ => []
 | c + 1, x => dg c (x / 10) ++ [UInt8.ofNat (48 + x % 10)]
theorem dg_len : ∀ (c x : Nat), (dg c x).length = c
 | 0, _ => rfl
 | c + 1, x => by simp [dg, dg_len c]
theorem appDigits_any : ∀ (c x : Nat) (k : Int) (B : Nat) (v : Value) (m L : List UInt8) (w : World), m ++ dg (c + 1) x = L → k = (c : Int) + 1 → c ≤ 10 → x ≤ 100000 → m.length ≤ 1000 → w.ownsRow B 5 1 v m.length (cells8 m) → B ≤ w.heap.size →
  Calls Tryz.prog 157 #[v, .int .i64 x, .int .i64 k] w fun e w' => ∃ g cap, e = .returned (.slice (some ⟨g, 0, none⟩) L.length cap) ∧
   w'.ownsRow B 5 1 (.slice (some ⟨g, 0, none⟩) L.length cap) L.length (cells8 L) ∧ Below B w w' ∧ w.heap.size ≤ w'.heap.size := by
 intro c
 induction c with
 | zero =>
  intro x k B v m L w hL hk hc hx hm ho hB
  have hk1 : k ≤ 1 := by omega
  have hcs : (#[Value.int .u8 (48 + (x : Int) % 10)] : Array Value).toList = cells8 [UInt8.ofNat (48 + x % 10)] := by
   have : (UInt8.ofNat (48 + x % 10)).toNat = 48 + x % 10 := u8_ofNat (by omega)
   simp [cells8, cb]; omega
  have hlen : m.length + 1 = L.length := by rw [← hL]; simp [dg]
  have HL := hid (show m ++ [UInt8.ofNat (48 + x % 10)] = L from hL)
  have HN := hid hlen
  have HC := hid hcs
  have HO := hid ho
  clear hcs ho hk hL hlen
  go_enter Tryz.func157, Tryz.ntmps157
  go_wp2_with (at_builtin; refine appG [UInt8.ofNat (48 + x % 10)] _ HC.out rfl _ _ rfl B m.length 1 1 v m rfl rfl rfl (by omega) HO.out (by omega) (Below.refl B w) hB ?_; intro g cap w1 ho1 hb1 hl1)
  go_ret
  rw [HL.out, HN.out] at ho1
  refine ⟨g, cap, ?_, ho1, hb1, by omega⟩
  rw [← HN.out]; rfl
 | succ c ih =>
  intro x k B v m L w hL hk hc hx hm ho hB
  have hk1 : 1 < k := by omega
  have hk2 : k ≤ 100 := by omega
  have hcs : (#[Value.int .u8 (48 + (x : Int) % 10)] : Array Value).toList = cells8 [UInt8.ofNat (48 + x % 10)] := by
   have : (UInt8.ofNat (48 + x % 10)).toNat = 48 + x % 10 := u8_ofNat (by omega)
   simp [cells8, cb]; omega
  have HC := hid hcs
  have hml : (m ++ dg (c + 1) (x / 10)).length = m.length + (c + 1) := by rw [List.length_append, dg_len]
  have hL1 : (m ++ dg (c + 1) (x / 10)).length ≤ 2000 := by omega
  have happ : (m ++ dg (c + 1) (x / 10)) ++ [UInt8.ofNat (48 + x % 10)] = L := by rw [← hL, List.append_assoc]; rfl
  have hlen : (m ++ dg (c + 1) (x / 10)).length + 1 = L.length := by rw [← happ]; simp; omega
  have HI := hid (ih (x / 10) (k - 1) B v m _ w rfl (by omega) (by omega) (by omega) hm ho hB)
  rw [show ((x / 10 : Nat) : Int) = (x : Int) / 10 by omega] at HI
  have HAP := hid happ
  have HML := hid hlen
  clear hcs ho hk ih hL hml happ hlen
  generalize m ++ dg (c + 1) (x / 10) = m1 at *
  go_enter Tryz.func157, Tryz.ntmps157
  go_wp2_with fail
  refine HI.out.mono ?_
  rintro e w1 ⟨g1, cap1, rfl, ho1, hb1, hl1⟩
  have HO := hid ho1
  have hB1 : B ≤ w1.heap.size := by omega
  clear ho1
  go_wp2_with (at_builtin; refine appG [UInt8.ofNat (48 + x % 10)] _ HC.out rfl _ _ rfl B m1.length 1 1 _ m1 rfl rfl rfl (by omega) HO.out (by omega) hb1 hB1 ?_; intro g cap w2 ho2 hb2 hl2)
  go_ret
  rw [HAP.out, HML.out] at ho2
  refine ⟨g, cap, ?_, ho2, hb2, by omega⟩
  rw [← HML.out]; rfl
def shL (y m d : Nat) : List UInt8 := dg 4 (1900 + y) ++ [45] ++ dg 2 (m + 1) ++ [45] ++ dg 2 d
theorem nil_owns (w : World) (B : Nat) : w.ownsRow B 5 1 (.slice none 0 0) 0 (cells8 []) := ⟨rfl, .inl ⟨rfl, rfl⟩⟩
theorem show_yes (n : Nat) (hn : n ≤ 73048) (w : World) (ht : Tab w) :
  Calls Tryz.prog 118 #[.int .i64 n] w fun e w' => ∃ y m d : Nat, Dt y m d ∧ dn y m d = n ∧ e = .returned (.tuple #[.string ⟨(shL y m d).toArray⟩, .int .i64 0]) ∧ Below w.heap.size w w' := by
 go_enter Tryz.func118, Tryz.ntmps118
 go_wp2_with fail
 refine (parts_yes n hn _ ht).mono ?_
 rintro e w1 ⟨y, m, d, hd, hdn, rfl, hB1⟩
 have HD := hid hd
 have HDN := hid hdn
 have hd31 := hd.dle
 have hm := hd.2.1
 have hy := hd.1
 clear hd hdn ht
 have e19 : (1900 + (y : Int)) = ((1900 + y : Nat) : Int) := by omega
 have em1 : ((m : Int) + 1) = ((m + 1 : Nat) : Int) := by omega
 rw [e19, em1]
 have hs1 := hB1.size
 have hc45 : (#[Value.int .u8 45] : Array Value).toList = cells8 [45] := rfl
 have HC := hid hc45
 clear hc45 e19 em1
 generalize hYY : 1900 + y = YY at *
 generalize hMM : m + 1 = MM at *
 have hYb : YY ≤ 100000 := by omega
 have hMb : MM ≤ 100000 := by omega
 have HYM := hid (⟨hYY, hMM⟩ : 1900 + y = YY ∧ m + 1 = MM)
 clear hYY hMM
 go_wp2_with fail
 have l1 : (dg 4 YY).length = 4 := dg_len _ _
 generalize hL1 : dg 4 YY = L1 at *
 refine (appDigits_any 3 YY 4 w.heap.size (.slice none 0 0) [] L1 _ hL1 (by omega) (by omega) hYb (by simp) (by exact nil_owns _ _) hs1).mono ?_
 rintro e w2 ⟨g1, cap1, rfl, ho1, hb1, hl1⟩
 have HO1 := hid ho1
 have Hl1 := hid l1
 have hq1 : L1.length ≤ 100 := by omega
 clear l1
 have hb2 := hB1.trans hb1
 have hs2 : w.heap.size ≤ w2.heap.size := by omega
 clear ho1 hb1
 go_wp2_with (at_builtin; refine appG [45] _ HC.out rfl _ _ rfl w.heap.size L1.length 1 1 _ L1 rfl rfl rfl (by omega) HO1.out (by omega) hb2 hs2 ?_; intro g2 cap2 w3 ho2 hb3 hl2)
 have l2 : (L1 ++ [45]).length = L1.length + 1 := by simp
 rw [← l2] at ho2 ⊢
 have l2' : (L1 ++ [45]).length = 5 := by have := Hl1.out; omega
 have l3 : (dg 2 MM).length = 2 := dg_len _ _
 clear l2
 generalize hL2 : L1 ++ [45] = L2 at *
 have l3' : (L2 ++ dg 2 MM).length = 7 := by rw [List.length_append]; omega
 generalize hL3 : L2 ++ dg 2 MM = L3 at *
 refine (appDigits_any 1 MM 2 w.heap.size _ L2 L3 _ hL3 (by omega) (by omega) hMb (by omega) ho2 (by omega)).mono ?_
 rintro e w4 ⟨g3, cap3, rfl, ho3, hb4, hl3⟩
 have HO3 := hid ho3
 have Hl3 := hid l3'
 have hq3 : L3.length ≤ 100 := by omega
 clear l3' l2' l3
 have hb5 := hb3.trans hb4
 have hs4 : w.heap.size ≤ w4.heap.size := by omega
 clear ho3 hb4 ho2 hb3
 go_wp2_with (at_builtin; refine appG [45] _ HC.out rfl _ _ rfl w.heap.size L3.length 1 1 _ L3 rfl rfl rfl (by omega) HO3.out (by omega) hb5 hs4 ?_; intro g4 cap4 w5 ho4 hb6 hl4)
 have l4 : (L3 ++ [45]).length = L3.length + 1 := by simp
 rw [← l4] at ho4 ⊢
 have l4' : (L3 ++ [45]).length = 8 := by have := Hl3.out; omega
 have l5 : (dg 2 d).length = 2 := dg_len _ _
 clear l4
 generalize hL4 : L3 ++ [45] = L4 at *
 have l5' : (L4 ++ dg 2 d).length = 10 := by rw [List.length_append]; omega
 generalize hL5 : L4 ++ dg 2 d = L5 at *
 refine (appDigits_any 1 d 2 w.heap.size _ L4 L5 _ hL5 (by omega) (by omega) (by omega) (by omega) ho4 (by omega)).mono ?_
 rintro e w6 ⟨g5, cap5, rfl, ho5, hb7, hl5⟩
 have hcv := conv_sl (owns_sl ho5)
 clear l5 l5' l4'
 have hb8 := hb6.trans hb7
 have HL := hid (show shL y m d = L5 by unfold shL; rw [HYM.out.1, HYM.out.2, hL1, hL2, hL3, hL4, hL5])
 clear hL1 hL2 hL3 hL4 hL5 ho4 hb6 hb7
 go_wp2
 go_ret2
 refine ⟨y, m, d, HD.out, HDN.out, ?_, hb8⟩
 rw [HL.out]
 rfl
def dsh (n : Nat) : List UInt8 := ((List.range 200).flatMap fun y => (List.range 12).flatMap fun m => (List.range 32).filterMap fun d => if (1 ≤ d ∧ d ≤ ml (1900 + y) m) ∧ dn y m d = n then some (shL y m d) else none).headD []
theorem headD_all {α : Type} {l : List α} {s d : α} (h : ∀ x ∈ l, x = s) (hs : s ∈ l) : l.headD d = s := by
 cases l with
 | nil => cases hs
 | cons x r => exact h x (by simp)
theorem dsh_eq {y m d : Nat} (h : Dt y m d) : dsh (dn y m d) = shL y m d := by
 have hm : ml (1900 + y) m < 32 := by
  unfold ml mt
  have h12 := h.2.1
  split
  ·unfold lpN; split <;> omega
  ·rename_i hm1
   match m, h12 with
   | 0, _ => decide
   | 1, _ => exact absurd rfl hm1
   | 2, _ => decide
   | 3, _ => decide
   | 4, _ => decide
   | 5, _ => decide
   | 6, _ => decide
   | 7, _ => decide
   | 8, _ => decide
   | 9, _ => decide
   | 10, _ => decide
   | 11, _ => decide
 refine headD_all (fun x hx => ?_) ?_
 ·simp only [List.mem_flatMap, List.mem_filterMap, List.mem_range] at hx
  obtain ⟨y', hy, m', hm', d', hd, he⟩ := hx
  split at he
  ·rename_i hc
   obtain ⟨rfl, rfl, rfl⟩ := dn_inj (y := y') (m := m') (d := d') (y' := y) (m' := m) (d' := d) ⟨hy, hm', hc.1⟩ h hc.2
   cases he
   rfl
  ·cases he
 ·simp only [List.mem_flatMap, List.mem_filterMap, List.mem_range]
  exact ⟨y, h.1, m, h.2.1, d, by have := h.2.2.2; omega, by rw [if_pos ⟨h.2.2, rfl⟩]⟩
def tru (n : Int) : List UInt8 := bif n == 0 then [102, 97, 108, 115, 101] else [116, 114, 117, 101]
def quo (kw tx : List UInt8) : List UInt8 := kw ++ [32, 34] ++ tx ++ [34]
def ahd (s : List UInt8) : List UInt8 := bif nam s then s ++ [32] else s
def mkW (k : Int) (tx : List UInt8) (n : Int) (ks : List Wr) : Wr := bif k == 5 then .word (showL n) else bif k == 6 then .word (dsh n.toNat) else bif k == 8 then .word (tru n) else bif k == 9 then .word (quo [102, 101, 101, 100] tx) else bif k == 11 then .list tx ks else bif k == 15 then .list (quo [112, 105, 99, 107] tx) ks
 else bif k == 12 then .unary (ahd tx) (ks.getD 0 (.word [])) else bif k == 13 then .binary tx (ks.getD 0 (.word [])) (ks.getD 1 (.word [])) else bif k == 14 then .choice (ks.getD 0 (.word [])) (ks.getD 1 (.word [])) (ks.getD 2 (.word [])) else .word tx
mutual
def wrOf : Tr → Wr
 | .mk k tx n ks _ => mkW k tx n (wrsOf ks)
def wrsOf : List Tr → List Wr
 | [] => []
 | t :: r => wrOf t :: wrsOf r
end
theorem wrsOf_map : ∀ ks : List Tr, wrsOf ks = ks.map wrOf
 | [] => by rw [wrsOf]; rfl
 | t :: r => by rw [wrsOf, wrsOf_map r]; rfl
def rt : Nat → Tr → Bool
 | 0, _ => false
 | d + 1, .mk k tx n ks _ => own k tx n && kidsOk k ks.length && ks.all (rt d)
def Tb (B : Nat) (w : World) : Prop := ∃ w0 : World, Lib.TabBelow Tryz.prog w0.heap.size w0 "internal/strconv.uint64pow10" .u64 Lib.pow10Tab ∧ Tab w0 ∧ w0.heap.size ≤ B ∧ Below w0.heap.size w0 w
theorem Tb.below {B : Nat} {w w' : World} (h : Tb B w) (hB : Below w.heap.size w w') : Tb B w' := by
 obtain ⟨w0, a, b, c, d⟩ := h
 exact ⟨w0, a, b, c, d.trans (hB.mono d.size)⟩
theorem Tb.on {B : Nat} {w w' : World} (h : Tb B w) (hB : Below B w w') : Tb B w' := by
 obtain ⟨w0, a, b, c, d⟩ := h
 exact ⟨w0, a, b, c, d.trans (hB.mono c)⟩
theorem Tb.mono {B C : Nat} {w : World} (h : Tb B w) (hB : B ≤ C) : Tb C w := by
 obtain ⟨w0, a, b, c, d⟩ := h
 exact ⟨w0, a, b, Nat.le_trans c hB, d⟩
theorem Tb.num {B : Nat} {w : World} (h : Tb B w) : Lib.TabBelow Tryz.prog w.heap.size w "internal/strconv.uint64pow10" .u64 Lib.pow10Tab := by
 obtain ⟨w0, a, b, c, d⟩ := h
 exact fun w' hb => a w' (d.trans (hb.mono d.size))
theorem Tb.date {B : Nat} {w : World} (h : Tb B w) : Tab w := by
 obtain ⟨w0, a, b, c, d⟩ := h
 exact b.below d
theorem fr_below {p B : Nat} {w w' : World} (h : Fr [p] w w') (hB : B ≤ w.heap.size) (hp : B ≤ p) : Below B w w' := h.below hB (by simpa using hp)
end Go.Proofs.YtgpkcjpanpbhdaaGreatDoor
