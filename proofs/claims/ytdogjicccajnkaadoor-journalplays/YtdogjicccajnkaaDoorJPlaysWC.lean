/- The walk of JournalPlays. -/
import Derived.Test.YtdogjicccajnkaaDoorJRefusesWC
import Derived.Test.YtdogjicccajnkaaDoorJRefWrite2C
import Derived.Test.YtdogjicccajnkaaDoorJHasC
import Derived.Test.YtdogjicccajnkaaDoorJGh
namespace Go.Proofs.YtdogjicccajnkaaDoor
open Go Go.RowKit

theorem idxO (b o n cap k : Nat) (h : k < n) (w : World) : (Instr.indexAt 22 (.slice (some ⟨b, o, none⟩) n cap) (.int .i64 k)).run Tryd.prog w = .ok (.pointer (some ⟨b, o + k * 4, none⟩)) w := by
  have h1 : (k : Int) < n := by omega
  go_simp
theorem allocO (w : World) : (Instr.alloc 45 true (.tuple #[])).run Tryd.prog w = .ok (.pointer (some ⟨w.heap.size, 0, none⟩)) (w.alloc (.cells #[.int .i64 0, .slice none 0 0, .int .u8 0, .int .i64 0] 45)) := by go_simp
theorem loadO {w : World} {b o : Nat} {kd raw by_ : Int} {va : Value} (h0 : w.cell? ⟨b, o, none⟩ = some (.int .i64 kd)) (h1 : w.cell? ⟨b, o + 1, none⟩ = some va) (h2 : w.cell? ⟨b, o + 2, none⟩ = some (.int .u8 by_)) (h3 : w.cell? ⟨b, o + 3, none⟩ = some (.int .i64 raw)) : (Instr.loadAt 45 (.pointer (some ⟨b, o, none⟩))).run Tryd.prog w = .ok (.agg #[.int .i64 kd, va, .int .u8 by_, .int .i64 raw]) w := by
  go_simp
theorem storeO (w : World) (kd raw by_ : Int) (va : Value) (hv : va.oneCell' = true) : (Instr.storeAt 45 (.pointer (some ⟨w.heap.size, 0, none⟩)) (.agg #[.int .i64 kd, va, .int .u8 by_, .int .i64 raw])).run Tryd.prog (w.alloc (.cells #[.int .i64 0, .slice none 0 0, .int .u8 0, .int .i64 0] 45)) = .ok () (w.alloc (.cells #[.int .i64 kd, va, .int .u8 by_, .int .i64 raw] 45)) :=
  store_new Tryd.prog w 45 4 (by kernel_rfl) #[.int .i64 0, .slice none 0 0, .int .u8 0, .int .i64 0] [.int .i64 kd, va, .int .u8 by_, .int .i64 raw] rfl rfl (fun v hm => by
    simp only [List.mem_cons, List.not_mem_nil, or_false] at hm
    rcases hm with rfl | rfl | rfl | rfl
    · rfl
    · exact hv
    · rfl
    · rfl)
theorem subI (a b r : Int) (h : IntKind.i64.wrap (a - b) = r) (w : World) : (binOp .sub 3 (.int .i64 a) (.int .i64 b)).run Tryd.prog w = .ok (.int .i64 r) w := by subst h; go_simp
theorem addI (a b r : Int) (h : IntKind.i64.wrap (a + b) = r) (w : World) : (binOp .add 3 (.int .i64 a) (.int .i64 b)).run Tryd.prog w = .ok (.int .i64 r) w := by subst h; go_simp
theorem gtrI (a b : Int) (r : Bool) (h : decide (b < a) = r) (w : World) : (binOp .gtr 3 (.int .i64 a) (.int .i64 b)).run Tryd.prog w = .ok (.bool r) w := by subst h; go_simp
/-- How a script stands behind so many calls. -/
structure Pst (W : World) (ab b1 n i : Nat) (wr : World) (j p r : Nat) (X : List Nat) (s : DS) (sq cnt : Nat) (bl : List (List UInt8)) : Prop where
  js : Js b1 wr j p X s sq cnt bl
  rj : Rj wr (r + 1) r bl (sq : Nat)
  below : Below ab W wr
  sn : s.n = n
  sq_le : sq ≤ i
  ops : s.ops ≤ ((2 * nbOf n + 3 + 100 * i : Nat) : Int)
  ops0 : 0 ≤ s.ops
theorem Pst.of_below {W : World} {ab b1 n i : Nat} {wr w' : World} {j p r : Nat} {X : List Nat} {s : DS} {sq cnt : Nat} {bl : List (List UInt8)} (h : Pst W ab b1 n i wr j p r X s sq cnt bl) (h0 : ab ≤ W.heap.size) (hB : Below wr.heap.size wr w') : Pst W ab b1 n i w' j p r X s sq cnt bl :=
  ⟨h.js.below hB, h.rj.below hB, h.below.trans (hB.mono (Nat.le_trans h0 h.below.size)), h.sn, h.sq_le, h.ops, h.ops0⟩
theorem Pst.has {W : World} {ab b1 n i : Nat} {wr : World} {j p r : Nat} {X : List Nat} {s : DS} {sq cnt : Nat} {bl : List (List UInt8)} (h : Pst W ab b1 n i wr j p r X s sq cnt bl) :
    Calls Tryd.prog 25 #[.pointer (some ⟨j, 0, none⟩), .pointer (some ⟨r, 0, none⟩)] wr fun e w' => e = .returned (.bool true) ∧ Below wr.heap.size wr w' := by
  have h1 := lhas_any h.js.jr h.rj rfl
  rw [decide_eq_true (And.intro rfl rfl)] at h1
  exact h1
theorem Bks.poke {w : World} {B : Nat} {v : Value} {qs : List Qp} (h : Bks w B v qs) {q : Qp} (hq : q ∈ qs) (x : UInt8) : ∃ qs', qs'.length = qs.length ∧ Bks (w.setCell ⟨q.1, 0, none⟩ (cb x)) B v qs' := by
  have hF : Fr [q.1] w (w.setCell ⟨q.1, 0, none⟩ (cb x)) := Fr.setCell _ _ _ _
  have hRq := (h.2 q hq).1
  refine ⟨qs.map (fun y => if y.1 = q.1 then (y.1, y.2.1, y.2.2.set 0 x) else y), by simp, ?_, fun y hy => ?_⟩
  · have e : (qs.map (fun y => if y.1 = q.1 then (y.1, y.2.1, y.2.2.set 0 x) else y)).map qv = qs.map qv := by
      rw [List.map_map]
      apply List.map_congr_left
      intro y _
      simp only [Function.comp]
      split <;> rfl
    rw [e, List.length_map]
    refine owns_fr h.1 hF (fun g c hg hm => ?_)
    have h2 : g = q.1 := by simpa using hm
    unfold Rw at hRq
    rw [h2, hRq] at hg; injection hg with hg; injection hg with _ e; exact absurd e (by decide)
  · obtain ⟨z, hz, rfl⟩ := List.mem_map.1 hy
    obtain ⟨h1, h2, h3, h4⟩ := h.2 z hz
    by_cases e : z.1 = q.1
    · rw [if_pos e]
      refine ⟨?_, h2, h3, by rw [List.length_set]; exact h4⟩
      show Rw _ z.1 _ (z.2.2.set 0 x)
      rw [← e]
      exact h1.set 0 x
    · rw [if_neg e]
      exact ⟨hF.at h1 (by simpa using e), h2, h3, h4⟩
set_option maxRecDepth 100000 in
set_option maxHeartbeats 8000000 in
theorem journalPlays_walk (c : Int) (a : Option Addr) (N cap : Nat) (xs : List OpV6) (W : World) (ht : Tab W) (hc : -9223372036854775808 ≤ c ∧ c ≤ 9223372036854775807) (hs : Ops6 W a N xs) (hF : ∀ x ∈ xs, OpF6 W x) (hN : N ≤ 9223372036854775807) :
    Calls Tryd.prog 3 #[.int .i64 c, .slice a N cap] W fun e w' => e = .returned (.bool true) ∧ Below W.heap.size W w' := by
  have HNN := hid (sizeOf6_le c)
  have HSZ := hid (fun w => size_any c hc.1 hc.2 w)
  generalize sizeOf6 c = n at *
  have HP := hid (fun w => pick_any c 31 hc.1 hc.2 (by decide) w)
  have hp31 := pk_lt c (n := 31) (by decide)
  generalize pk c 31 = q31 at *
  have HQ := hid hp31
  have hw31 : IntKind.i64.wrap ((q31 : Int) + 1) = ((q31 + 1 : Nat) : Int) := by rw [IntWalk.i64_in _ ⟨by omega, by omega⟩]; omega
  have HT := hid ht
  have HTL := hid (tab_lt ht)
  have HS := hid hs
  have HF := hid hF
  have HNL := hid hN
  have HNB : Hid (nbOf n ≠ 0 ∧ nbOf n ≤ 1000000) := hid (by have := HNN.out; unfold nbOf; omega)
  have HNB2 : Hid (nbOf n ≤ 45) := hid (by have := HNN.out; unfold nbOf; omega)
  have HNB3 : Hid (2 * nbOf n ≤ n) := hid (by have := HNN.out; unfold nbOf; omega)
  clear ht hs hF hN hc hp31
  go_enter Tryd.func3, Tryd.ntmps3
  go_wp2_with fail
  generalize hab : W.heap.size = ab at *
  have HW0 : Hid (ab ≤ W.heap.size) := hid (Nat.le_of_eq hab.symm)
  refine (shown_any W HT.out).mono ?_
  rintro e w1 ⟨rfl, hB1⟩
  rw [hab] at hB1
  have HB1 : Hid (Below ab W w1) := hid hB1
  clear hB1
  go_wp2_with fail
  refine (HP.out _).mono ?_
  rintro e wz ⟨rfl, hwz⟩
  obtain rfl := hwz.symm
  go_wp2_with fail
  refine (new_d w1 (q31 + 1) (by omega) (by have := HQ.out; omega)).mono ?_
  rintro e w2 ⟨p0, X0, rfl, hD2, _, hB2⟩
  have HD2 := hid hD2
  have HB2 : Hid (Below ab W w2) := hid (HB1.out.trans (hB2.mono (Nat.le_trans HW0.out HB1.out.size)))
  have hq32 : (DS.new (q31 + 1)).n < 32 := by have := HQ.out; show q31 + 1 < 32; omega
  have HQ32 := hid hq32
  clear hD2 hB2 HB1 hq32
  go_wp2_with fail
  refine (format_small HD2.out HQ32.out).mono ?_
  rintro e wz ⟨rfl, hwz⟩
  obtain rfl := hwz.symm
  go_wp2_with fail
  refine (open_small HD2.out HQ32.out).mono ?_
  rintro e wz ⟨rfl, hwz⟩
  obtain rfl := hwz.symm
  clear HD2 HQ32
  go_wp2_with fail
  refine (format_nil _).mono ?_
  rintro e wz ⟨rfl, hwz⟩
  obtain rfl := hwz.symm
  go_wp2_with fail
  refine (open_nil _).mono ?_
  rintro e wz ⟨rfl, hwz⟩
  obtain rfl := hwz.symm
  go_wp2_with fail
  refine (jread_nil 0 _).mono ?_
  rintro e wz ⟨rfl, hwz⟩
  obtain rfl := hwz.symm
  go_wp2_with fail
  refine (jwrite_nil _ _ _).mono ?_
  rintro e wz ⟨rfl, hwz⟩
  obtain rfl := hwz.symm
  go_wp2_with fail
  refine (jblocks_nil _).mono ?_
  rintro e wz ⟨rfl, hwz⟩
  obtain rfl := hwz.symm
  go_wp2_with fail
  refine (jseq_nil _).mono ?_
  rintro e wz ⟨rfl, hwz⟩
  obtain rfl := hwz.symm
  go_wp2_with fail
  refine (HSZ.out _).mono ?_
  rintro e wz ⟨rfl, hwz⟩
  obtain rfl := hwz.symm
  go_wp2_with fail
  refine (begun_any n HNN.out.1 (by have := HNN.out; omega) w2 (HT.out.belowB HB2.out HTL.out)).mono ?_
  intro e w3 hbg
  obtain ⟨p, j, r, X, s, rfl, hJ3, hsn, hso, hR3, hrb, hB3⟩ := hbg.js
  have HRB := hid hrb
  clear hrb
  have HB3 : Hid (Below ab W w3) := hid (HB2.out.trans (hB3.mono (Nat.le_trans HW0.out HB2.out.size)))
  have HB1L : Hid (ab ≤ w2.heap.size ∧ w2.heap.size ≤ w3.heap.size) := hid ⟨Nat.le_trans HW0.out HB2.out.size, hB3.size⟩
  generalize w2.heap.size = b1 at *
  have HPS : Hid (Pst W ab b1 n 0 w3 j p r X s 0 0 (zeros (nbOf n))) := hid ⟨hJ3, hR3, HB3.out, hsn, Nat.le_refl _, by rw [hso]; omega, by rw [hso]; omega⟩
  have HOP := hid (ops_d hJ3.jr.disk)
  rw [hso] at HOP
  have HLO := hid (loose_d hJ3.jr.disk)
  rw [show s.loose.length = 0 by rw [hJ3.jr.sett.loose]; rfl] at HLO
  have hw8 : IntKind.i64.wrap ((n : Int) + 8) = (n : Int) + 8 := by have := HNN.out; rw [IntWalk.i64_in _ ⟨by omega, by omega⟩]
  have hgt : ¬ ((n : Int) + 8 < ((2 * nbOf n + 3 : Nat) : Int)) := by have := HNB3.out; omega
  generalize ((2 * nbOf n + 3 : Nat) : Int) = op0 at HOP hgt
  clear hJ3 hsn hso hR3 hB3 HB2 hbg
  go_wp2_with fail
  refine HOP.out.mono ?_
  rintro e wz ⟨rfl, hwz⟩
  obtain rfl := hwz.symm
  go_wp2_with fail
  refine HLO.out.mono ?_
  rintro e wz ⟨rfl, hwz⟩
  obtain rfl := hwz.symm
  clear HOP HLO hw8
  go_wp2_with fail
  clear hgt
  go_loopw [20, 22, 23, 24, 25, 26, 27, 28, 29, 30, 31, 32, 33, 34, 35, 36, 37, 38] (fun v20 v22 _ _ _ _ _ _ _ _ _ _ _ _ _ _ _ _ wr => ∃ (i j : Nat) (X : List Nat) (s : DS) (sq cnt : Nat) (bl : List (List UInt8)), v20 = .pointer (some ⟨j, 0, none⟩) ∧ v22 = .int .i64 i ∧ i ≤ N ∧ i ≤ 60 ∧ Pst W ab b1 n i wr j p r X s sq cnt bl) (fun _ v22 _ _ _ _ _ _ _ _ _ _ _ _ _ _ _ _ _ => N - (intOf v22).toNat)
  case atStart => exact ⟨0, j, X, s, 0, 0, _, rfl, rfl, Nat.zero_le _, Nat.zero_le _, HPS.out⟩
  case round =>
    clear HPS
    rename World => wo
    obtain ⟨i, j, X, s, sq, cnt, bl, rfl, rfl, hi1, hi2, hP⟩ := hrel
    have hwi : IntKind.i64.wrap ((i : Int) + 1) = ((i + 1 : Nat) : Int) := by rw [IntWalk.i64_in _ ⟨by omega, by omega⟩]; omega
    by_cases hlt : i < N ∧ i < 60
    · have hb1 : (i : Int) < (N : Int) := by omega
      have hb2 : (i : Int) < 60 := by omega
      obtain ⟨o, ho⟩ : ∃ o, xs[i]? = some o := ⟨_, List.getElem?_eq_getElem (by have := HS.out.1; omega)⟩
      obtain ⟨bo, oo, rfl, k0, k1, k2, k3⟩ := HS.out.2 i o ho
      have hOF := HF.out o (List.mem_of_getElem? ho)
      have hcell : ∀ (d : Nat) (v : Value), W.cell? ⟨bo, oo + d, none⟩ = some v → wo.cell? ⟨bo, oo + d, none⟩ = some v := fun d v h => by
        rw [hP.below.cell (p := ⟨bo, oo + d, none⟩) (by rw [← hab]; exact World.block_lt_of_cell? W _ h)]; exact h
      have HLD := hid (loadO (o := oo + i * 4) (hcell _ _ k0) (by rw [Nat.add_assoc]; exact hcell _ _ k1) (by rw [Nat.add_assoc]; exact hcell _ _ k2) (by rw [Nat.add_assoc]; exact hcell _ _ k3))
      obtain ⟨av, cv, hva, _⟩ := hOF.1
      have HSTO := hid (storeO wo o.kd o.raw o.by_ o.va (by rw [hva]; rfl))
      have HIN : Hid (i < N) := hid hlt.1
      have HI : Hid (i ≤ N ∧ i ≤ 60 ∧ i < N ∧ i < 60) := hid ⟨hi1, hi2, hlt.1, hlt.2⟩
      have HOF := hid hOF
      have HPI := hid hP
      have HPK := hid (fun w => pick_any o.kd 4 hOF.2.2.2.2.2.1 hOF.2.2.2.2.2.2 (by decide) w)
      have HK4 := hid (pk_lt o.kd (n := 4) (by decide))
      generalize pk o.kd 4 = kq at *
      have HBa : Hid (Below wo.heap.size wo (wo.alloc (.cells #[.int .i64 o.kd, o.va, .int .u8 o.by_, .int .i64 o.raw] 45))) := hid ((Below.refl _ _).alloc (Nat.le_refl _) _)
      have HBX : Hid ((wo.alloc (.cells #[.int .i64 o.kd, o.va, .int .u8 o.by_, .int .i64 o.raw] 45)).heap[wo.heap.size]? = some (.cells #[.int .i64 o.kd, o.va, .int .u8 o.by_, .int .i64 o.raw] 45 (0, 0))) := hid (heap_alloc_last wo _)
      clear hi1 hi2 hlt hP ho k0 k1 k2 k3 hOF hcell hva
      go_upto_region 19 with fail
      refine wp_region_lit ?_
      refine wp_y (v := .slice (some ⟨bo, oo, none⟩) N cap) rfl rfl (y_move rfl (by kernel_rfl) (by kernel_rfl)) rfl ?_
      refine wp_y (v := .int .i64 i) rfl rfl (y_move rfl (by kernel_rfl) (by kernel_rfl)) rfl ?_
      refine wp_y (v := .pointer (some ⟨bo, oo + i * 4, none⟩)) rfl rfl (y_index rfl (by kernel_rfl) (by kernel_rfl) (by kernel_rfl) (idxO bo oo N cap i HIN.out)) rfl ?_
      refine wp_y (v := .agg #[.int .i64 o.kd, o.va, .int .u8 o.by_, .int .i64 o.raw]) rfl rfl (y_load rfl (by kernel_rfl) (by kernel_rfl) (fun w' h => by rw [h]; exact HLD.out)) rfl ?_
      refine wp_run (v := .pointer (some ⟨wo.heap.size, 0, none⟩)) rfl rfl (run_alOp rfl (allocO wo)) rfl ?_
      refine wp_do rfl rfl (run_storeOp rfl (by kernel_rfl) (by kernel_rfl) HSTO.out) ?_
      try simp only [List.setIfInBounds_toArray, List.set_cons_zero, List.set_cons_succ]
      refine wp_end ?_
      clear HLD HSTO
      generalize wo.alloc (.cells #[.int .i64 o.kd, o.va, .int .u8 o.by_, .int .i64 o.raw] 45) = wp at *
      have HPS : Hid (Js b1 wp j p X s sq cnt bl ∧ Rj wp (r + 1) r bl (sq : Nat) ∧ Below ab W wp) := hid ⟨HPI.out.js.below HBa.out, HPI.out.rj.below HBa.out, HPI.out.below.trans (HBa.out.mono (Nat.le_trans HW0.out HPI.out.below.size))⟩
      have HOP := hid (ops_d HPS.out.1.jr.disk)
      generalize hob : wo.heap.size = ob at *
      have hk0 : wp.cell? ⟨ob, 0, none⟩ = some (.int .i64 o.kd) := cell_at HBX.out 0 rfl
      have hk1 : wp.cell? ⟨ob, 1, none⟩ = some o.va := cell_at HBX.out 1 rfl
      clear HBa
      go_wp2_with fail
      refine HOP.out.mono ?_
      rintro e wz ⟨rfl, hwz⟩
      obtain rfl := hwz.symm
      go_wp2_with fail
      refine (HPK.out _).mono ?_
      rintro e wz ⟨rfl, hwz⟩
      obtain rfl := hwz.symm
      clear HPK HOP
      have hkq := HK4.out
      rcases (by omega : kq = 0 ∨ kq = 1 ∨ kq = 2 ∨ kq = 3) with rfl | rfl | rfl | rfl
      · clear hkq
        have hbl : bl.length = nbOf n := by rw [← HPI.out.sn]; exact HPI.out.js.jr.sett.con.len
        obtain ⟨vr, hr, hor⟩ := HPS.out.2.1
        obtain ⟨ar, cr, rfl⟩ : ∃ a cap, vr = .slice a bl.length cap := by
          rcases hor.2 with ⟨e, h0⟩ | ⟨g, cap, cur, e, _⟩
          · exact ⟨none, 0, by rw [e, h0]⟩
          · exact ⟨_, cap, e⟩
        generalize hnb : nbOf n = nb at *
        rw [hbl] at hr
        have hd : Below wp.heap.size wp wp.drew := (Below.refl _ _).drew
        have hWd : Below ab W wp.drew := HPS.out.2.2.trans (hd.mono (Nat.le_trans HW0.out HPS.out.2.2.size))
        have HS24 : Hid (wp.drew.heap[ob]? = some (.cells #[.int .i64 o.kd, o.va, .int .u8 o.by_, .int .i64 o.raw] 45 (0, 0)) ∧ wp.drew.heap[r]? = some (.cells #[.slice ar nb cr, .int .i64 (sq : Nat)] 51 (0, 0)) ∧ Iz wp.drew o.va o.zs) := hid ⟨below_at hd HBX.out (heap_lt HBX.out), below_at hd hr (heap_lt hr), HOF.out.1.below (by rw [hab]; exact hWd)⟩
        have HPD := hid (And.intro (HPS.out.1.below hd) (And.intro (HPS.out.2.1.below hd) hWd))
        clear hr hor hd hWd hbl
        go_wp2_with fail
        refine z_open (S := fun w' => w'.heap[ob]? = some (.cells #[.int .i64 o.kd, o.va, .int .u8 o.by_, .int .i64 o.raw] 45 (0, 0)) ∧ w'.heap[r]? = some (.cells #[.slice ar nb cr, .int .i64 (sq : Nat)] 51 (0, 0)) ∧ Iz w' o.va o.zs) 10 (by kernel_rfl) (by kernel_rfl) (fun _ _ _ _ _ h => h) (L := #[false, false, false, false, false, false, false, false, false, false, false, false]) (by kernel_rfl) ?_
        intro Q' hns hP hN
        have hS := HS24.out
        refine z_read (i := 0) (v := .agg #[.int .i64 o.kd, o.va, .int .u8 o.by_, .int .i64 o.raw]) hns rfl (by kernel_rfl) rfl rfl (by kernel_rfl) (by kernel_rfl) hP (y_load rfl (by kernel_rfl) (by kernel_rfl) (fun w' h => load45 h.1)) rfl hS rfl (L' := #[true, false, false, false, false, false, false, false, false, false, false, false]) (by kernel_rfl) ?_
        refine z_pure (i := 1) (v := .pointer (some ⟨r, 0, none⟩)) hns rfl rfl rfl (by kernel_rfl) (by kernel_rfl) hP (y_move rfl (by kernel_rfl) (by kernel_rfl)) (fun _ => hS) rfl (L' := #[true, true, false, false, false, false, false, false, false, false, false, false]) (by kernel_rfl) ?_
        refine z_pure (i := 2) (v := .pointer (some ⟨r, 0, none⟩)) hns rfl rfl rfl (by kernel_rfl) (by kernel_rfl) hP (y_nil rfl (by kernel_rfl) (by kernel_rfl)) (fun _ => hS) rfl (L' := #[true, true, true, false, false, false, false, false, false, false, false, false]) (by kernel_rfl) ?_
        refine z_pure (i := 3) (v := .pointer (some ⟨r, 0, none⟩)) hns rfl rfl rfl (by kernel_rfl) (by kernel_rfl) hP (y_faddr rfl (by kernel_rfl) (by kernel_rfl) (fa51_0 (r))) (fun _ => hS) rfl (L' := #[true, true, true, true, false, false, false, false, false, false, false, false]) (by kernel_rfl) ?_
        refine z_read (i := 4) (v := .slice ar nb cr) hns rfl (by kernel_rfl) rfl rfl (by kernel_rfl) (by kernel_rfl) hP (y_load rfl (by kernel_rfl) (by kernel_rfl) (fun w' h => load1 Tryd.isAgg49 (cell_at h.2.1 0 rfl))) rfl hS rfl (L' := #[true, true, true, true, true, false, false, false, false, false, false, false]) (by kernel_rfl) ?_
        refine z_pure (i := 5) (v := .int .i64 (nb : Nat)) hns rfl rfl rfl (by kernel_rfl) (by kernel_rfl) hP (y_lenT len49 (p := ar) (c := cr) rfl (by kernel_rfl) (by kernel_rfl)) (fun _ => hS) rfl (L' := #[true, true, true, true, true, true, false, false, false, false, false, false]) (by kernel_rfl) ?_
        refine z_call (i := 6) (f := 22) (args := #[.agg #[.int .i64 o.kd, o.va, .int .u8 o.by_, .int .i64 o.raw], .int .i64 nb]) (by kernel_rfl) rfl rfl (by kernel_rfl) (enter_go rfl (by kernel_rfl) (fun w => by go_simp)) (L' := #[true, true, true, true, true, true, true, false, false, false, false, false]) (by kernel_rfl) ?_
        refine (blocks_any nb HNB.out.1 HNB.out.2 hS.2.2 HOF.out.2.1 HOF.out.2.2.1 HOF.out.2.2.2.1 HOF.out.2.2.2.2.1).mono ?_
        rintro e w6 ⟨v1, v2, zs, qs, rfl, hA6, hK6, hz6, hq6, _, hB6⟩
        have hS6 : _ ∧ _ ∧ _ := And.intro (below_at hB6 hS.1 (heap_lt hS.1)) (And.intro (below_at hB6 hS.2.1 (heap_lt hS.2.1)) (hS.2.2.below hB6))
        refine ⟨_, rfl, hS6, ?_⟩
        simp only [List.setIfInBounds_toArray, List.set_cons_zero, List.set_cons_succ]
        refine z_pure (i := 7) (v := .tuple #[v1, v2]) hns rfl rfl rfl (by kernel_rfl) (by kernel_rfl) hP (y_move rfl (by kernel_rfl) (by kernel_rfl)) (fun _ => hS6) rfl (L' := #[true, true, true, true, true, true, true, true, false, false, false, false]) (by kernel_rfl) ?_
        refine z_pure (i := 8) (v := v1) hns rfl rfl rfl (by kernel_rfl) (by kernel_rfl) hP (y_ext rfl (by kernel_rfl) (by kernel_rfl) (ext2_0 v1 v2)) (fun _ => hS6) rfl (L' := #[true, true, true, true, true, true, true, true, true, false, false, false]) (by kernel_rfl) ?_
        refine z_pure (i := 9) (v := v2) hns rfl rfl rfl (by kernel_rfl) (by kernel_rfl) hP (y_ext rfl (by kernel_rfl) (by kernel_rfl) (ext2_1 v1 v2)) (fun _ => hS6) rfl (L' := #[true, true, true, true, true, true, true, true, true, true, false, false]) (by kernel_rfl) ?_
        refine z_val (i := 10) (v := v1) (by kernel_rfl) rfl rfl (by kernel_rfl) (run_asg rfl (by kernel_rfl)) hS6 rfl (L' := #[true, true, true, true, true, true, true, true, true, true, true, false]) (by kernel_rfl) ?_
        refine z_pure (i := 11) (v := v2) hns rfl rfl rfl (by kernel_rfl) (by kernel_rfl) hP (y_assign rfl (by kernel_rfl) (by kernel_rfl)) (fun _ => hS6) rfl (L' := #[true, true, true, true, true, true, true, true, true, true, true, true]) (by kernel_rfl) ?_
        try simp only [List.setIfInBounds_toArray, List.set_cons_zero, List.set_cons_succ]
        refine z_done (by kernel_rfl) ?_ _
        refine hN _ _ ?_
        clear hP hN hns
        clear hS HS24 hS6
        have hW6 : Below ab W w6 := HPD.out.2.2.trans (hB6.mono (Nat.le_trans HW0.out HPD.out.2.2.size))
        have hJ6 := HPD.out.1.below hB6
        have hR6 := HPD.out.2.1.below hB6
        generalize hb5 : wp.drew.heap.size = b5 at *
        have hab5 : ab ≤ b5 := by rw [← hb5]; exact Nat.le_trans HW0.out HPD.out.2.2.size
        have hb16 : b1 ≤ w6.heap.size := by have := hJ6.lt j (by simp); have := hJ6.jlo; omega
        have hpi := HPI.out
        have hii := HI.out
        have hnb2 := HNB2.out
        have hnbs : nbOf s.n = nb := by rw [hpi.sn, hnb]
        have hops := hpi.ops
        rw [hnb] at hops
        have HWR := hid (hJ6.wr hb16 (by have := hpi.sq_le; omega) hA6.iz hK6.bz (by omega) (by rw [hnbs]; omega))
        have H6 := hid (And.intro hR6 (And.intro hA6 (And.intro hK6 (And.intro hW6 hab5))))
        have HZL := hid (And.intro hz6 hq6)
        obtain ⟨a1, c1, hv1, _⟩ := hA6.iz
        obtain ⟨a2, c2, hv2⟩ : ∃ a cap, v2 = .slice a qs.length cap := by
          obtain ⟨a, cap, e, _⟩ := hK6.bz
          exact ⟨a, cap, by rw [e, List.length_map]⟩
        have HOPB := hid hops
        have HV1 := hid hv1
        have HV2 := hid hv2
        clear hv1 hv2
        clear hW6 hJ6 hR6 hab5 hb16 hpi hii hnb2 hnbs hops hA6 hK6 hz6 hq6 hB6 HPD HPS
        go_wp2_with fail
        refine HWR.out.mono ?_
        rintro e w7 ⟨rfl, s', X', cnt', hJ7, hn7, ho7, ho7', _, _, _, hB7, hK7⟩
        have h6 := H6.out
        have hW7 : Below ab W w7 := h6.2.2.2.1.trans (hB7.mono HB1L.out.1)
        have hR7 := hK7.rj h6.1
        have hA7 := hK7.ats h6.2.1
        have hQ7 := hK7.bks h6.2.2.1
        have HRW := hid (hR7.wr (Nat.lt_succ_self r) hA7 hQ7 (by have := HZL.out; omega) (by have := HPI.out.sq_le; have := HI.out; omega))
        obtain ⟨vb7, hr7, _⟩ := hR7
        have H7 := hid (show Js b1 w7 j p X' s' (refW sq bl zs (qs.map ql)).1 cnt' (refW sq bl zs (qs.map ql)).2 ∧ Bks w7 b5 v2 qs ∧ Below ab W w7 ∧ ab ≤ b5 ∧ w7.heap[r]? = some (.cells #[vb7, .int .i64 (sq : Nat)] 51 (0, 0)) from ⟨hJ7, hQ7, hW7, h6.2.2.2.2, hr7⟩)
        have HS7 : Hid (s'.n = n ∧ s.ops ≤ s'.ops ∧ s'.ops ≤ s.ops + ((2 * zs.length + 4 : Nat) : Int)) := hid ⟨hn7.trans HPI.out.sn, ho7, ho7'⟩
        clear h6 hW7 hA7 hQ7 hJ7 hn7 ho7 ho7' hB7 hK7 HWR H6 hr7
        go_wp2_with fail
        refine HRW.out.mono ?_
        rintro e w8 ⟨rfl, hR8, hfr⟩
        have h7 := H7.out
        have h8 : Js b1 w8 j p X' s' (refW sq bl zs (qs.map ql)).1 cnt' (refW sq bl zs (qs.map ql)).2 ∧ Bks w8 b5 v2 qs ∧ Below ab W w8 := by
          rcases hfr with hB | ⟨g, cg, hg, hbg, hF⟩
          · exact ⟨h7.1.below hB, h7.2.1.below hB, h7.2.2.1.trans (hB.mono (Nat.le_trans HW0.out h7.2.2.1.size))⟩
          · have hW8 : Below ab W w8 := h7.2.2.1.trans (hF.below (Nat.le_trans HW0.out h7.2.2.1.size) (fun x hx => by
              have h1 := HRB.out
              have h2 := HB1L.out.1
              simp only [List.mem_cons, List.not_mem_nil, or_false] at hx
              rcases hx with rfl | rfl <;> omega))
            refine ⟨h7.1.fr hF (fun k hk hm => ?_) (HT.out.belowB hW8 HTL.out), h7.2.1.fr hF (fun k d hk hm => ?_) (fun k d hk hm => ?_), hW8⟩
            · simp only [List.mem_cons, List.not_mem_nil, or_false] at hm
              rcases hm with rfl | rfl
              · exact h7.1.not h7.2.2.2.2 (by decide) (by decide) (by decide) hk
              · exact h7.1.not hg (by decide) (by decide) (by decide) hk
            · simp only [List.mem_cons, List.not_mem_nil, or_false] at hm
              rcases hm with rfl | rfl
              · rw [h7.2.2.2.2] at hk; injection hk with hk; injection hk with _ e; exact absurd e (by decide)
              · rw [hg] at hk; injection hk with hk; injection hk with _ e; exact absurd e (by decide)
            · unfold Rw at hk
              simp only [List.mem_cons, List.not_mem_nil, or_false] at hm
              rcases hm with rfl | rfl
              · rw [h7.2.2.2.2] at hk; injection hk with hk; injection hk with _ e; exact absurd e (by decide)
              · rw [hg] at hk; injection hk with hk; injection hk with _ e; exact absurd e (by decide)
        have HAB5 := hid h7.2.2.2.1
        have HSQ8 := hid (refW_seq sq bl zs (qs.map ql))
        generalize refE bl zs (qs.map ql) = E at *
        generalize (refW sq bl zs (qs.map ql)).1 = sq' at *
        generalize (refW sq bl zs (qs.map ql)).2 = bl' at *
        obtain ⟨M1, hM1⟩ : ∃ M, M = zs.length := ⟨_, rfl⟩
        obtain ⟨M2, hM2⟩ : ∃ M, M = qs.length := ⟨_, rfl⟩
        have hv1 := HV1.out
        have hv2 := HV2.out
        rw [← hM1] at hv1 HS7 HZL
        rw [← hM2] at hv2 HZL
        clear HV1 HV2
        subst hv1
        subst hv2
        have HR8 := hid hR8
        have H8 := hid h8
        have HM2 := hid hM2
        clear h7 h8 hR8 hfr H7 HRW hM1 hM2
        go_wp2_with fail
        go_loopw [29] (fun v29 wv => ∃ (k : Nat) (qs' : List Qp), k ≤ M2 ∧ v29 = .int .i64 k ∧ qs'.length = M2 ∧ Js b1 wv j p X' s' sq' cnt' bl' ∧ Rj wv (r + 1) r bl' (sq' : Nat) ∧ Bks wv b5 (.slice a2 M2 c2) qs' ∧ Below ab W wv) (fun v29 _ => M2 - (intOf v29).toNat)
        case atStart => exact ⟨0, qs, Nat.zero_le _, rfl, HM2.out.symm, H8.out.1, HR8.out, H8.out.2.1, H8.out.2.2⟩
        case round =>
          clear HR8 H8
          obtain ⟨k, qs', hk, rfl, hql', hJk, hRk, hQk, hWk⟩ := hrel
          have hwk : IntKind.i64.wrap ((k : Int) + 1) = ((k + 1 : Nat) : Int) := by have := HZL.out; rw [IntWalk.i64_in _ ⟨by omega, by omega⟩]; omega
          by_cases hlt : k < M2
          · have hlt2 : (k : Int) < (M2 : Int) := by omega
            obtain ⟨q, hq⟩ : ∃ q, qs'[k]? = some q := ⟨_, List.getElem?_eq_getElem (by omega)⟩
            obtain ⟨g2, cg2, e2, hcq⟩ := hQk.cell hq
            obtain ⟨rfl, rfl⟩ : a2 = some ⟨g2, 0, none⟩ ∧ c2 = cg2 := by injection e2 with h1 _ h3; exact ⟨h1, h3⟩
            obtain ⟨hRq, hbq, hnq, hmq⟩ := hQk.2 q (List.mem_of_getElem? hq)
            unfold qv at hcq
            have hKL := hid hlt
            by_cases hpos : 0 < q.2.1
            · have hpos2 : (0 : Int) < (q.2.1 : Int) := by omega
              have hfz : wr.frozen? ⟨q.1, 0, none⟩ = false := open_at hRq 0
              obtain ⟨y, hcy⟩ : ∃ y, wr.cell? ⟨q.1, 0, none⟩ = some (cb y) := ⟨_, cell_at hRq 0 (by rw [List.getElem?_toArray]; exact cells8_get _ 0 (by omega))⟩
              unfold cb at hcy
              obtain ⟨x, hx⟩ := u8_mod (((y.toNat : Nat) : Int) + 1)
              obtain ⟨yy, hyy⟩ : ∃ yy, (((y.toNat : Nat) : Int) + 1) % 256 = yy := ⟨_, rfl⟩
              rw [hyy] at hx
              obtain ⟨qs2, hl2, hQ2⟩ := hQk.poke (List.mem_of_getElem? hq) x
              rw [hx] at hQ2
              have hF : Fr [q.1] wr (wr.setCell ⟨q.1, 0, none⟩ (.int .u8 yy)) := Fr.setCell _ _ _ _
              have hW2 : Below ab W (wr.setCell ⟨q.1, 0, none⟩ (.int .u8 yy)) := hWk.trans (hF.below (Nat.le_trans HW0.out hWk.size) (fun z hz => by
                have h1 := HAB5.out
                have h2 : z = q.1 := by simpa using hz
                omega))
              have hJ2 := hJk.fr hF (fun z hz hm => by
                have h2 : z = q.1 := by simpa using hm
                rw [h2] at hz
                exact hJk.not hRq (by decide) (by decide) (by decide) hz) (HT.out.belowB hW2 HTL.out)
              have hR2 := hRk.fr hF (fun z d zz hz hm => by
                have h2 : z = q.1 := by simpa using hm
                unfold Rw at hRq
                rw [h2, hRq] at hz; injection hz with hz; injection hz with _ e; exact absurd e (by decide)) (fun z d zz hz hm => by
                have h2 : z = q.1 := by simpa using hm
                unfold Rw at hRq
                rw [h2, hRq] at hz; injection hz with hz; injection hz with _ e; exact absurd e (by decide))
              have HZ := hid (And.intro (hl2.trans hql') (And.intro hJ2 (And.intro hR2 (And.intro hQ2 hW2))))
              clear hF hW2 hJ2 hR2 hQ2 hl2 hJk hRk hQk hWk hRq hbq hnq hmq hq hql' hx hk hlt e2
              go_wp2_with fail
              exact ⟨⟨k + 1, qs2, hKL.out, rfl, HZ.out⟩, by have := hKL.out; simp [intOf]; omega⟩
            · have hpos2 : ¬ (0 : Int) < (q.2.1 : Int) := by omega
              have HZ := hid (And.intro hql' (And.intro hJk (And.intro hRk (And.intro hQk hWk))))
              clear hJk hRk hQk hWk hRq hbq hnq hmq hq hql' hk hlt e2 hpos
              go_wp2_with fail
              exact ⟨⟨k + 1, qs', hKL.out, rfl, HZ.out⟩, by have := hKL.out; simp [intOf]; omega⟩
          · have hlt2 : ¬ (k : Int) < (M2 : Int) := by omega
            obtain rfl : k = M2 := by omega
            have HOP2 := hid (ops_d hJk.jr.disk)
            have h7 := HS7.out
            have hpi := HPI.out
            have hsq8 := HSQ8.out
            have hops := HOPB.out
            have hzl := HZL.out
            have hii := HI.out
            have hnb2 := HNB2.out
            have HPF : Hid (Pst W ab b1 n (i + 1) wr j p r X' s' sq' cnt' bl') := hid ⟨hJk, hRk, hWk, h7.1, by have := hpi.sq_le; omega, by rw [hnb]; omega, by have := hpi.ops0; omega⟩
            have hop0 := hpi.ops0
            have hs1 : IntKind.i64.wrap (s'.ops - s.ops) = s'.ops - s.ops := by rw [IntWalk.i64_in _ ⟨by omega, by omega⟩]
            have hs2 : IntKind.i64.wrap (2 * (M1 : Int)) = 2 * (M1 : Int) := by rw [IntWalk.i64_in _ ⟨by omega, by omega⟩]
            have hs3 : IntKind.i64.wrap (2 * (M1 : Int) + 8) = 2 * (M1 : Int) + 8 := by rw [IntWalk.i64_in _ ⟨by omega, by omega⟩]
            have hs4 : ¬ (2 * (M1 : Int) + 8 < s'.ops - s.ops) := by omega
            have hEE : (E != E) = false := by simp
            generalize s.ops = op1 at *
            generalize s'.ops = op2 at *
            clear h7 hpi hsq8 hops hzl hii hnb2 hop0 hJk hRk hQk hWk hk hlt hql'
            go_wp2_with fail
            refine HOP2.out.mono ?_
            rintro e wz ⟨rfl, hwz⟩
            obtain rfl := hwz.symm
            clear HOP2
            have HHAS := hid HPF.out.has
            have HI2 := HI.out
            clear HPI
            go_wp2_with fail
            refine HHAS.out.mono ?_
            rintro e wy ⟨rfl, hBy⟩
            have HZ := hid (HPF.out.of_below HW0.out hBy)
            clear HHAS hBy HPF
            go_wp2_with fail
            exact ⟨⟨i + 1, _, _, _, _, _, _, rfl, rfl, by omega, by omega, HZ.out⟩, by simp [intOf]; omega⟩
      · clear hkq
        have hbl : bl.length = nbOf n := by rw [← HPI.out.sn]; exact HPI.out.js.jr.sett.con.len
        obtain ⟨vr, hr, hor⟩ := HPS.out.2.1
        obtain ⟨ar, cr, rfl⟩ : ∃ a cap, vr = .slice a bl.length cap := by
          rcases hor.2 with ⟨e, h0⟩ | ⟨g, cap, cur, e, _⟩
          · exact ⟨none, 0, by rw [e, h0]⟩
          · exact ⟨_, cap, e⟩
        generalize hnb : nbOf n = nb at *
        rw [hbl] at hr
        have hd : Below wp.heap.size wp wp.drew := (Below.refl _ _).drew
        have hWd : Below ab W wp.drew := HPS.out.2.2.trans (hd.mono (Nat.le_trans HW0.out HPS.out.2.2.size))
        have HS24 : Hid (wp.drew.heap[ob]? = some (.cells #[.int .i64 o.kd, o.va, .int .u8 o.by_, .int .i64 o.raw] 45 (0, 0)) ∧ wp.drew.heap[r]? = some (.cells #[.slice ar nb cr, .int .i64 (sq : Nat)] 51 (0, 0)) ∧ Iz wp.drew o.va o.zs) := hid ⟨below_at hd HBX.out (heap_lt HBX.out), below_at hd hr (heap_lt hr), HOF.out.1.below (by rw [hab]; exact hWd)⟩
        have HPD := hid (And.intro (HPS.out.1.below hd) (And.intro (HPS.out.2.1.below hd) hWd))
        clear hr hor hd hWd hbl
        go_wp2_with fail
        refine z_open (S := fun w' => w'.heap[ob]? = some (.cells #[.int .i64 o.kd, o.va, .int .u8 o.by_, .int .i64 o.raw] 45 (0, 0)) ∧ w'.heap[r]? = some (.cells #[.slice ar nb cr, .int .i64 (sq : Nat)] 51 (0, 0)) ∧ Iz w' o.va o.zs) 10 (by kernel_rfl) (by kernel_rfl) (fun _ _ _ _ _ h => h) (L := #[false, false, false, false, false, false, false, false, false, false, false, false]) (by kernel_rfl) ?_
        intro Q' hns hP hN
        have hS := HS24.out
        refine z_read (i := 0) (v := .agg #[.int .i64 o.kd, o.va, .int .u8 o.by_, .int .i64 o.raw]) hns rfl (by kernel_rfl) rfl rfl (by kernel_rfl) (by kernel_rfl) hP (y_load rfl (by kernel_rfl) (by kernel_rfl) (fun w' h => load45 h.1)) rfl hS rfl (L' := #[true, false, false, false, false, false, false, false, false, false, false, false]) (by kernel_rfl) ?_
        refine z_pure (i := 1) (v := .pointer (some ⟨r, 0, none⟩)) hns rfl rfl rfl (by kernel_rfl) (by kernel_rfl) hP (y_move rfl (by kernel_rfl) (by kernel_rfl)) (fun _ => hS) rfl (L' := #[true, true, false, false, false, false, false, false, false, false, false, false]) (by kernel_rfl) ?_
        refine z_pure (i := 2) (v := .pointer (some ⟨r, 0, none⟩)) hns rfl rfl rfl (by kernel_rfl) (by kernel_rfl) hP (y_nil rfl (by kernel_rfl) (by kernel_rfl)) (fun _ => hS) rfl (L' := #[true, true, true, false, false, false, false, false, false, false, false, false]) (by kernel_rfl) ?_
        refine z_pure (i := 3) (v := .pointer (some ⟨r, 0, none⟩)) hns rfl rfl rfl (by kernel_rfl) (by kernel_rfl) hP (y_faddr rfl (by kernel_rfl) (by kernel_rfl) (fa51_0 (r))) (fun _ => hS) rfl (L' := #[true, true, true, true, false, false, false, false, false, false, false, false]) (by kernel_rfl) ?_
        refine z_read (i := 4) (v := .slice ar nb cr) hns rfl (by kernel_rfl) rfl rfl (by kernel_rfl) (by kernel_rfl) hP (y_load rfl (by kernel_rfl) (by kernel_rfl) (fun w' h => load1 Tryd.isAgg49 (cell_at h.2.1 0 rfl))) rfl hS rfl (L' := #[true, true, true, true, true, false, false, false, false, false, false, false]) (by kernel_rfl) ?_
        refine z_pure (i := 5) (v := .int .i64 (nb : Nat)) hns rfl rfl rfl (by kernel_rfl) (by kernel_rfl) hP (y_lenT len49 (p := ar) (c := cr) rfl (by kernel_rfl) (by kernel_rfl)) (fun _ => hS) rfl (L' := #[true, true, true, true, true, true, false, false, false, false, false, false]) (by kernel_rfl) ?_
        refine z_call (i := 6) (f := 22) (args := #[.agg #[.int .i64 o.kd, o.va, .int .u8 o.by_, .int .i64 o.raw], .int .i64 nb]) (by kernel_rfl) rfl rfl (by kernel_rfl) (enter_go rfl (by kernel_rfl) (fun w => by go_simp)) (L' := #[true, true, true, true, true, true, true, false, false, false, false, false]) (by kernel_rfl) ?_
        refine (blocks_any nb HNB.out.1 HNB.out.2 hS.2.2 HOF.out.2.1 HOF.out.2.2.1 HOF.out.2.2.2.1 HOF.out.2.2.2.2.1).mono ?_
        rintro e w6 ⟨v1, v2, zs, qs, rfl, hA6, hK6, hz6, hq6, _, hB6⟩
        have hS6 : _ ∧ _ ∧ _ := And.intro (below_at hB6 hS.1 (heap_lt hS.1)) (And.intro (below_at hB6 hS.2.1 (heap_lt hS.2.1)) (hS.2.2.below hB6))
        refine ⟨_, rfl, hS6, ?_⟩
        simp only [List.setIfInBounds_toArray, List.set_cons_zero, List.set_cons_succ]
        refine z_pure (i := 7) (v := .tuple #[v1, v2]) hns rfl rfl rfl (by kernel_rfl) (by kernel_rfl) hP (y_move rfl (by kernel_rfl) (by kernel_rfl)) (fun _ => hS6) rfl (L' := #[true, true, true, true, true, true, true, true, false, false, false, false]) (by kernel_rfl) ?_
        refine z_pure (i := 8) (v := v1) hns rfl rfl rfl (by kernel_rfl) (by kernel_rfl) hP (y_ext rfl (by kernel_rfl) (by kernel_rfl) (ext2_0 v1 v2)) (fun _ => hS6) rfl (L' := #[true, true, true, true, true, true, true, true, true, false, false, false]) (by kernel_rfl) ?_
        refine z_pure (i := 9) (v := v2) hns rfl rfl rfl (by kernel_rfl) (by kernel_rfl) hP (y_ext rfl (by kernel_rfl) (by kernel_rfl) (ext2_1 v1 v2)) (fun _ => hS6) rfl (L' := #[true, true, true, true, true, true, true, true, true, true, false, false]) (by kernel_rfl) ?_
        refine z_val (i := 10) (v := v1) (by kernel_rfl) rfl rfl (by kernel_rfl) (run_asg rfl (by kernel_rfl)) hS6 rfl (L' := #[true, true, true, true, true, true, true, true, true, true, true, false]) (by kernel_rfl) ?_
        refine z_pure (i := 11) (v := v2) hns rfl rfl rfl (by kernel_rfl) (by kernel_rfl) hP (y_assign rfl (by kernel_rfl) (by kernel_rfl)) (fun _ => hS6) rfl (L' := #[true, true, true, true, true, true, true, true, true, true, true, true]) (by kernel_rfl) ?_
        try simp only [List.setIfInBounds_toArray, List.set_cons_zero, List.set_cons_succ]
        refine z_done (by kernel_rfl) ?_ _
        refine hN _ _ ?_
        clear hP hN hns
        clear hS HS24 hS6
        have hW6 : Below ab W w6 := HPD.out.2.2.trans (hB6.mono (Nat.le_trans HW0.out HPD.out.2.2.size))
        have hJ6 := HPD.out.1.below hB6
        have hR6 := HPD.out.2.1.below hB6
        generalize hb5 : wp.drew.heap.size = b5 at *
        have hab5 : ab ≤ b5 := by rw [← hb5]; exact Nat.le_trans HW0.out HPD.out.2.2.size
        have hb16 : b1 ≤ w6.heap.size := by have := hJ6.lt j (by simp); have := hJ6.jlo; omega
        have hpi := HPI.out
        have hii := HI.out
        have hnb2 := HNB2.out
        have hnbs : nbOf s.n = nb := by rw [hpi.sn, hnb]
        have hops := hpi.ops
        rw [hnb] at hops
        have HWR := hid (hJ6.wr hb16 (by have := hpi.sq_le; omega) hA6.iz hK6.bz (by omega) (by rw [hnbs]; omega))
        have H6 := hid (And.intro hR6 (And.intro hA6 (And.intro hK6 (And.intro hW6 hab5))))
        have HZL := hid (And.intro hz6 hq6)
        obtain ⟨a1, c1, hv1, _⟩ := hA6.iz
        obtain ⟨a2, c2, hv2⟩ : ∃ a cap, v2 = .slice a qs.length cap := by
          obtain ⟨a, cap, e, _⟩ := hK6.bz
          exact ⟨a, cap, by rw [e, List.length_map]⟩
        have HOPB := hid hops
        have HV1 := hid hv1
        have HV2 := hid hv2
        clear hv1 hv2
        clear hW6 hJ6 hR6 hab5 hb16 hpi hii hnb2 hnbs hops hA6 hK6 hz6 hq6 hB6 HPD HPS
        go_wp2_with fail
        refine HWR.out.mono ?_
        rintro e w7 ⟨rfl, s', X', cnt', hJ7, hn7, ho7, ho7', _, _, _, hB7, hK7⟩
        have h6 := H6.out
        have hW7 : Below ab W w7 := h6.2.2.2.1.trans (hB7.mono HB1L.out.1)
        have hR7 := hK7.rj h6.1
        have hA7 := hK7.ats h6.2.1
        have hQ7 := hK7.bks h6.2.2.1
        have HRW := hid (hR7.wr (Nat.lt_succ_self r) hA7 hQ7 (by have := HZL.out; omega) (by have := HPI.out.sq_le; have := HI.out; omega))
        obtain ⟨vb7, hr7, _⟩ := hR7
        have H7 := hid (show Js b1 w7 j p X' s' (refW sq bl zs (qs.map ql)).1 cnt' (refW sq bl zs (qs.map ql)).2 ∧ Bks w7 b5 v2 qs ∧ Below ab W w7 ∧ ab ≤ b5 ∧ w7.heap[r]? = some (.cells #[vb7, .int .i64 (sq : Nat)] 51 (0, 0)) from ⟨hJ7, hQ7, hW7, h6.2.2.2.2, hr7⟩)
        have HS7 : Hid (s'.n = n ∧ s.ops ≤ s'.ops ∧ s'.ops ≤ s.ops + ((2 * zs.length + 4 : Nat) : Int)) := hid ⟨hn7.trans HPI.out.sn, ho7, ho7'⟩
        clear h6 hW7 hA7 hQ7 hJ7 hn7 ho7 ho7' hB7 hK7 HWR H6 hr7
        go_wp2_with fail
        refine HRW.out.mono ?_
        rintro e w8 ⟨rfl, hR8, hfr⟩
        have h7 := H7.out
        have h8 : Js b1 w8 j p X' s' (refW sq bl zs (qs.map ql)).1 cnt' (refW sq bl zs (qs.map ql)).2 ∧ Bks w8 b5 v2 qs ∧ Below ab W w8 := by
          rcases hfr with hB | ⟨g, cg, hg, hbg, hF⟩
          · exact ⟨h7.1.below hB, h7.2.1.below hB, h7.2.2.1.trans (hB.mono (Nat.le_trans HW0.out h7.2.2.1.size))⟩
          · have hW8 : Below ab W w8 := h7.2.2.1.trans (hF.below (Nat.le_trans HW0.out h7.2.2.1.size) (fun x hx => by
              have h1 := HRB.out
              have h2 := HB1L.out.1
              simp only [List.mem_cons, List.not_mem_nil, or_false] at hx
              rcases hx with rfl | rfl <;> omega))
            refine ⟨h7.1.fr hF (fun k hk hm => ?_) (HT.out.belowB hW8 HTL.out), h7.2.1.fr hF (fun k d hk hm => ?_) (fun k d hk hm => ?_), hW8⟩
            · simp only [List.mem_cons, List.not_mem_nil, or_false] at hm
              rcases hm with rfl | rfl
              · exact h7.1.not h7.2.2.2.2 (by decide) (by decide) (by decide) hk
              · exact h7.1.not hg (by decide) (by decide) (by decide) hk
            · simp only [List.mem_cons, List.not_mem_nil, or_false] at hm
              rcases hm with rfl | rfl
              · rw [h7.2.2.2.2] at hk; injection hk with hk; injection hk with _ e; exact absurd e (by decide)
              · rw [hg] at hk; injection hk with hk; injection hk with _ e; exact absurd e (by decide)
            · unfold Rw at hk
              simp only [List.mem_cons, List.not_mem_nil, or_false] at hm
              rcases hm with rfl | rfl
              · rw [h7.2.2.2.2] at hk; injection hk with hk; injection hk with _ e; exact absurd e (by decide)
              · rw [hg] at hk; injection hk with hk; injection hk with _ e; exact absurd e (by decide)
        have HAB5 := hid h7.2.2.2.1
        have HSQ8 := hid (refW_seq sq bl zs (qs.map ql))
        generalize refE bl zs (qs.map ql) = E at *
        generalize (refW sq bl zs (qs.map ql)).1 = sq' at *
        generalize (refW sq bl zs (qs.map ql)).2 = bl' at *
        obtain ⟨M1, hM1⟩ : ∃ M, M = zs.length := ⟨_, rfl⟩
        obtain ⟨M2, hM2⟩ : ∃ M, M = qs.length := ⟨_, rfl⟩
        have hv1 := HV1.out
        have hv2 := HV2.out
        rw [← hM1] at hv1 HS7 HZL
        rw [← hM2] at hv2 HZL
        clear HV1 HV2
        subst hv1
        subst hv2
        have HR8 := hid hR8
        have H8 := hid h8
        have HM2 := hid hM2
        clear h7 h8 hR8 hfr H7 HRW hM1 hM2
        go_wp2_with fail
        go_loopw [29] (fun v29 wv => ∃ (k : Nat) (qs' : List Qp), k ≤ M2 ∧ v29 = .int .i64 k ∧ qs'.length = M2 ∧ Js b1 wv j p X' s' sq' cnt' bl' ∧ Rj wv (r + 1) r bl' (sq' : Nat) ∧ Bks wv b5 (.slice a2 M2 c2) qs' ∧ Below ab W wv) (fun v29 _ => M2 - (intOf v29).toNat)
        case atStart => exact ⟨0, qs, Nat.zero_le _, rfl, HM2.out.symm, H8.out.1, HR8.out, H8.out.2.1, H8.out.2.2⟩
        case round =>
          clear HR8 H8
          obtain ⟨k, qs', hk, rfl, hql', hJk, hRk, hQk, hWk⟩ := hrel
          have hwk : IntKind.i64.wrap ((k : Int) + 1) = ((k + 1 : Nat) : Int) := by have := HZL.out; rw [IntWalk.i64_in _ ⟨by omega, by omega⟩]; omega
          by_cases hlt : k < M2
          · have hlt2 : (k : Int) < (M2 : Int) := by omega
            obtain ⟨q, hq⟩ : ∃ q, qs'[k]? = some q := ⟨_, List.getElem?_eq_getElem (by omega)⟩
            obtain ⟨g2, cg2, e2, hcq⟩ := hQk.cell hq
            obtain ⟨rfl, rfl⟩ : a2 = some ⟨g2, 0, none⟩ ∧ c2 = cg2 := by injection e2 with h1 _ h3; exact ⟨h1, h3⟩
            obtain ⟨hRq, hbq, hnq, hmq⟩ := hQk.2 q (List.mem_of_getElem? hq)
            unfold qv at hcq
            have hKL := hid hlt
            by_cases hpos : 0 < q.2.1
            · have hpos2 : (0 : Int) < (q.2.1 : Int) := by omega
              have hfz : wr.frozen? ⟨q.1, 0, none⟩ = false := open_at hRq 0
              obtain ⟨y, hcy⟩ : ∃ y, wr.cell? ⟨q.1, 0, none⟩ = some (cb y) := ⟨_, cell_at hRq 0 (by rw [List.getElem?_toArray]; exact cells8_get _ 0 (by omega))⟩
              unfold cb at hcy
              obtain ⟨x, hx⟩ := u8_mod (((y.toNat : Nat) : Int) + 1)
              obtain ⟨yy, hyy⟩ : ∃ yy, (((y.toNat : Nat) : Int) + 1) % 256 = yy := ⟨_, rfl⟩
              rw [hyy] at hx
              obtain ⟨qs2, hl2, hQ2⟩ := hQk.poke (List.mem_of_getElem? hq) x
              rw [hx] at hQ2
              have hF : Fr [q.1] wr (wr.setCell ⟨q.1, 0, none⟩ (.int .u8 yy)) := Fr.setCell _ _ _ _
              have hW2 : Below ab W (wr.setCell ⟨q.1, 0, none⟩ (.int .u8 yy)) := hWk.trans (hF.below (Nat.le_trans HW0.out hWk.size) (fun z hz => by
                have h1 := HAB5.out
                have h2 : z = q.1 := by simpa using hz
                omega))
              have hJ2 := hJk.fr hF (fun z hz hm => by
                have h2 : z = q.1 := by simpa using hm
                rw [h2] at hz
                exact hJk.not hRq (by decide) (by decide) (by decide) hz) (HT.out.belowB hW2 HTL.out)
              have hR2 := hRk.fr hF (fun z d zz hz hm => by
                have h2 : z = q.1 := by simpa using hm
                unfold Rw at hRq
                rw [h2, hRq] at hz; injection hz with hz; injection hz with _ e; exact absurd e (by decide)) (fun z d zz hz hm => by
                have h2 : z = q.1 := by simpa using hm
                unfold Rw at hRq
                rw [h2, hRq] at hz; injection hz with hz; injection hz with _ e; exact absurd e (by decide))
              have HZ := hid (And.intro (hl2.trans hql') (And.intro hJ2 (And.intro hR2 (And.intro hQ2 hW2))))
              clear hF hW2 hJ2 hR2 hQ2 hl2 hJk hRk hQk hWk hRq hbq hnq hmq hq hql' hx hk hlt e2
              go_wp2_with fail
              exact ⟨⟨k + 1, qs2, hKL.out, rfl, HZ.out⟩, by have := hKL.out; simp [intOf]; omega⟩
            · have hpos2 : ¬ (0 : Int) < (q.2.1 : Int) := by omega
              have HZ := hid (And.intro hql' (And.intro hJk (And.intro hRk (And.intro hQk hWk))))
              clear hJk hRk hQk hWk hRq hbq hnq hmq hq hql' hk hlt e2 hpos
              go_wp2_with fail
              exact ⟨⟨k + 1, qs', hKL.out, rfl, HZ.out⟩, by have := hKL.out; simp [intOf]; omega⟩
          · have hlt2 : ¬ (k : Int) < (M2 : Int) := by omega
            obtain rfl : k = M2 := by omega
            have HOP2 := hid (ops_d hJk.jr.disk)
            have h7 := HS7.out
            have hpi := HPI.out
            have hsq8 := HSQ8.out
            have hops := HOPB.out
            have hzl := HZL.out
            have hii := HI.out
            have hnb2 := HNB2.out
            have HPF : Hid (Pst W ab b1 n (i + 1) wr j p r X' s' sq' cnt' bl') := hid ⟨hJk, hRk, hWk, h7.1, by have := hpi.sq_le; omega, by rw [hnb]; omega, by have := hpi.ops0; omega⟩
            have hop0 := hpi.ops0
            have hs1 : IntKind.i64.wrap (s'.ops - s.ops) = s'.ops - s.ops := by rw [IntWalk.i64_in _ ⟨by omega, by omega⟩]
            have hs2 : IntKind.i64.wrap (2 * (M1 : Int)) = 2 * (M1 : Int) := by rw [IntWalk.i64_in _ ⟨by omega, by omega⟩]
            have hs3 : IntKind.i64.wrap (2 * (M1 : Int) + 8) = 2 * (M1 : Int) + 8 := by rw [IntWalk.i64_in _ ⟨by omega, by omega⟩]
            have hs4 : ¬ (2 * (M1 : Int) + 8 < s'.ops - s.ops) := by omega
            have hEE : (E != E) = false := by simp
            generalize s.ops = op1 at *
            generalize s'.ops = op2 at *
            clear h7 hpi hsq8 hops hzl hii hnb2 hop0 hJk hRk hQk hWk hk hlt hql'
            go_wp2_with fail
            refine HOP2.out.mono ?_
            rintro e wz ⟨rfl, hwz⟩
            obtain rfl := hwz.symm
            clear HOP2
            have HHAS := hid HPF.out.has
            have HI2 := HI.out
            clear HPI
            go_wp2_with fail
            refine HHAS.out.mono ?_
            rintro e wy ⟨rfl, hBy⟩
            have HZ := hid (HPF.out.of_below HW0.out hBy)
            clear HHAS hBy HPF
            go_wp2_with fail
            exact ⟨⟨i + 1, _, _, _, _, _, _, rfl, rfl, by omega, by omega, HZ.out⟩, by simp [intOf]; omega⟩
      · clear hkq
        have hbl : bl.length = nbOf n := by rw [← HPI.out.sn]; exact HPI.out.js.jr.sett.con.len
        obtain ⟨vr, hr, hor⟩ := HPS.out.2.1
        obtain ⟨ar, cr, rfl⟩ : ∃ a cap, vr = .slice a bl.length cap := by
          rcases hor.2 with ⟨e, h0⟩ | ⟨g, cap, cur, e, _⟩
          · exact ⟨none, 0, by rw [e, h0]⟩
          · exact ⟨_, cap, e⟩
        generalize hnb : nbOf n = nb at *
        rw [hbl] at hr
        have HBL := hid hbl
        have hpi := HPI.out
        have hii := HI.out
        have hnb2 := HNB2.out
        have hnbs : nbOf s.n = nb := by rw [hpi.sn, hnb]
        have hops := hpi.ops
        rw [hnb] at hops
        have hop0 := hpi.ops0

        have hcr0 : wp.cell? ⟨r, 0, none⟩ = some (.slice ar nb cr) := cell_at hr 0 rfl
        obtain ⟨av, cv, hva, hcel⟩ := HOF.out.1
        rw [hva] at hk1
        obtain ⟨M0, hM0⟩ : ∃ M, M = o.zs.length := ⟨_, rfl⟩
        rw [← hM0] at hk1
        clear hr hor hbl hva
        by_cases h0 : 0 < M0
        · have h02 : (0 : Int) < (M0 : Int) := by omega
          obtain ⟨z0, hz0⟩ : ∃ z0, o.zs[0]? = some z0 := ⟨_, List.getElem?_eq_getElem (by omega)⟩
          obtain ⟨b0, o0, rfl, hcz⟩ := hcel 0 z0 hz0
          rw [Nat.add_zero] at hcz
          have hcz2 : wp.cell? ⟨b0, o0, none⟩ = some (.int .i64 z0) := by rw [HPS.out.2.2.cell (p := ⟨b0, o0, none⟩) (by rw [← hab]; exact World.block_lt_of_cell? W _ hcz)]; exact hcz
          clear hcz hz0 hcel hM0 h0
          cases hxo : hasB z0 nb with
          | true =>
            obtain ⟨ix, rfl⟩ : ∃ ix : Nat, z0 = (ix : Int) := ⟨z0.toNat, by unfold hasB at hxo; simp at hxo; omega⟩
            have hix : ix < nb := by unfold hasB at hxo; simp at hxo; omega
            obtain ⟨b, hb⟩ : ∃ b, bl[ix]? = some b := ⟨_, List.getElem?_eq_getElem (by rw [HBL.out]; exact hix)⟩
            have HR1 := hid (HPS.out.1.jr.readS hb)
            have HB := hid hb
            have HOB := hid (And.intro hops (And.intro hop0 (And.intro hii hnb2)))
            clear hxo hix hb hnbs hops hop0 hii hnb2 hpi
            go_wp2_with fail
            refine HR1.out.mono ?_
            rintro e w7 ⟨hB7, g, f, hg, rfl, hf, hfl, hft, hsl⟩
            have hcv := conv_sl hsl
            have hJ7 := HPS.out.1.below hB7
            have hR7 := HPS.out.2.1.below hB7
            have hW7 : Below ab W w7 := HPS.out.2.2.trans (hB7.mono (Nat.le_trans HW0.out HPS.out.2.2.size))
            have HR2 := hid (refRead_in hR7 HB.out)
            have HOPr := hid (ops_d hJ7.jr.disk)
            have HG : Hid (ab ≤ g) := hid (Nat.le_trans (Nat.le_trans HW0.out HPS.out.2.2.size) hg)
            have H7 := hid (And.intro hJ7 (And.intro hR7 (And.intro hW7 (And.intro hf hfl))))
            have HPI2 : Hid (s.n = n ∧ sq ≤ i + 1 ∧ s.ops ≤ ((2 * nbOf n + 3 + 100 * (i + 1) : Nat) : Int) ∧ 0 ≤ s.ops) := hid (by have h1 := HPI.out; have h2 := HOB.out; have h3 := h1.sq_le; exact ⟨h1.sn, by omega, by rw [hnb]; omega, h2.2.1⟩)
            obtain ⟨op1, hop1⟩ : ∃ op1, s.ops = op1 := ⟨_, rfl⟩
            rw [hop1] at HOPr ⊢
            unfold strV at HR2
            clear hB7 hg hf hfl hft hsl hJ7 hR7 hW7 HR1 HOB hop1
            go_wp2_with fail
            refine HR2.out.mono ?_
            rintro e wz ⟨rfl, hwz⟩
            obtain rfl := hwz.symm
            go_wp2_with fail
            refine HOPr.out.mono ?_
            rintro e wz ⟨rfl, hwz⟩
            obtain rfl := hwz.symm
            clear hcv HR2 HOPr
            go_wp2_with fail
            go_loopw [35] (fun v35 wv => ∃ (k : Nat) (f' : List UInt8), k ≤ 112 ∧ v35 = .int .i64 k ∧ Js b1 wv j p X s sq cnt bl ∧ Rj wv (r + 1) r bl (sq : Nat) ∧ Below ab W wv ∧ Rw wv g 75 f' ∧ f'.length = 128) (fun v35 _ => 112 - (intOf v35).toNat)
            case atStart => exact ⟨0, f, Nat.zero_le _, rfl, H7.out⟩
            case round =>
              clear H7
              obtain ⟨k, f', hk, rfl, hJk, hRk, hWk, hfk, hfl⟩ := hrel
              have hwk : IntKind.i64.wrap ((k : Int) + 1) = ((k + 1 : Nat) : Int) := by rw [IntWalk.i64_in _ ⟨by omega, by omega⟩]; omega
              by_cases hlt : k < 112
              · have hlt2 : (k : Int) < 112 := by omega
                have hfz : wr.frozen? ⟨g, k, none⟩ = false := open_at hfk k
                obtain ⟨y, hcy⟩ : ∃ y, wr.cell? ⟨g, k, none⟩ = some (cb y) := ⟨_, cell_at hfk k (by rw [List.getElem?_toArray]; exact cells8_get _ k (by omega))⟩
                unfold cb at hcy
                have hx : cb 9 = .int .u8 9 := rfl
                have hF : Fr [g] wr (wr.setCell ⟨g, k, none⟩ (.int .u8 9)) := Fr.setCell _ _ _ _
                have hW2 : Below ab W (wr.setCell ⟨g, k, none⟩ (.int .u8 9)) := hWk.trans (hF.below (Nat.le_trans HW0.out hWk.size) (fun z hz => by
                  have h1 := HG.out
                  have h2 : z = g := by simpa using hz
                  omega))
                have hJ2 := hJk.fr hF (fun z hz hm => by
                  have h2 : z = g := by simpa using hm
                  rw [h2] at hz
                  exact hJk.not hfk (by decide) (by decide) (by decide) hz) (HT.out.belowB hW2 HTL.out)
                have hR2 := hRk.fr hF (fun z d zz hz hm => by
                  have h2 : z = g := by simpa using hm
                  have hfk2 := hfk
                  unfold Rw at hfk2
                  rw [h2, hfk2] at hz; injection hz with hz; injection hz with _ e; exact absurd e (by decide)) (fun z d zz hz hm => by
                  have h2 : z = g := by simpa using hm
                  have hfk2 := hfk
                  unfold Rw at hfk2
                  rw [h2, hfk2] at hz; injection hz with hz; injection hz with _ e; exact absurd e (by decide))
                have hS2 := hfk.set k 9
                rw [hx] at hS2
                have HZ := hid (And.intro hJ2 (And.intro hR2 (And.intro hW2 (And.intro hS2 (show (f'.set k 9).length = 128 by rw [List.length_set]; exact hfl)))))
                have HKL : Hid (k + 1 ≤ 112 ∧ 112 - (intOf (.int .i64 ((k : Int) + 1))).toNat < 112 - (intOf (.int .i64 (k : Int))).toNat) := hid ⟨hlt, by simp [intOf]; omega⟩
                clear hF hW2 hJ2 hR2 hS2 hJk hRk hWk hfk hfl hk hx
                go_wp2_with fail
                exact ⟨⟨k + 1, _, HKL.out.1, rfl, HZ.out⟩, HKL.out.2⟩
              · have hlt2 : ¬ (k : Int) < 112 := by omega
                have HPF : Hid (Pst W ab b1 n (i + 1) wr j p r X s sq cnt bl) := hid ⟨hJk, hRk, hWk, HPI2.out.1, HPI2.out.2.1, HPI2.out.2.2.1, HPI2.out.2.2.2⟩
                clear hJk hRk hWk hfk hfl hk hlt
                have HHAS := hid HPF.out.has
                have HI2 := HI.out
                clear HPI
                go_wp2_with fail
                refine HHAS.out.mono ?_
                rintro e wy ⟨rfl, hBy⟩
                have HZ := hid (HPF.out.of_below HW0.out hBy)
                clear HHAS hBy HPF
                go_wp2_with fail
                exact ⟨⟨i + 1, _, _, _, _, _, _, rfl, rfl, by omega, by omega, HZ.out⟩, by simp [intOf]; omega⟩
          | false =>
            have hJ := HPS.out.1
            have HR1 := hid (jread_out (by rw [← hnbs]; exact hJ.jr.jn) z0 hxo)
            have HR2 := hid (refRead_out HPS.out.2.1 (x := z0) (by rw [HBL.out]; exact hxo))
            have HOPr := hid (ops_d hJ.jr.disk)
            have hcv := conv_sl (Sl.nil wp)
            have HPF : Hid (Pst W ab b1 n (i + 1) wp j p r X s sq cnt bl) := hid ⟨HPS.out.1, HPS.out.2.1, HPS.out.2.2, hpi.sn, by have := hpi.sq_le; omega, by rw [hnb]; omega, hop0⟩
            generalize s.ops = op1 at *
            unfold strV at HR2
            clear hJ hxo hnbs hops hop0 hii hnb2 hpi
            go_wp2_with fail
            refine HR1.out.mono ?_
            rintro e wz ⟨rfl, hwz⟩
            obtain rfl := hwz.symm
            go_wp2_with fail
            refine HR2.out.mono ?_
            rintro e wz ⟨rfl, hwz⟩
            obtain rfl := hwz.symm
            go_wp2_with fail
            refine HOPr.out.mono ?_
            rintro e wz ⟨rfl, hwz⟩
            obtain rfl := hwz.symm
            clear hcv HR1 HR2 HOPr
            go_wp2_with fail
            go_loopw [35] (fun v35 w' => v35 = .int .i64 0 ∧ w' = wp) (fun _ _ => 0)
            case atStart => exact ⟨rfl, rfl⟩
            case round =>
              obtain ⟨rfl, hw⟩ := hrel
              obtain rfl := hw.symm
              have HHAS := hid HPF.out.has
              have HI2 := HI.out
              clear HPI
              go_wp2_with fail
              refine HHAS.out.mono ?_
              rintro e wy ⟨rfl, hBy⟩
              have HZ := hid (HPF.out.of_below HW0.out hBy)
              clear HHAS hBy HPF
              go_wp2_with fail
              exact ⟨⟨i + 1, _, _, _, _, _, _, rfl, rfl, by omega, by omega, HZ.out⟩, by simp [intOf]; omega⟩
        · have h02 : ¬ (0 : Int) < (M0 : Int) := by omega
          have hxo : hasB (nb : Int) nb = false := by unfold hasB; simp
          clear hcel hM0 h0
          have hJ := HPS.out.1
          have HR1 := hid (jread_out (by rw [← hnbs]; exact hJ.jr.jn) (nb : Int) hxo)
          have HR2 := hid (refRead_out HPS.out.2.1 (x := (nb : Int)) (by rw [HBL.out]; exact hxo))
          have HOPr := hid (ops_d hJ.jr.disk)
          have hcv := conv_sl (Sl.nil wp)
          have HPF : Hid (Pst W ab b1 n (i + 1) wp j p r X s sq cnt bl) := hid ⟨HPS.out.1, HPS.out.2.1, HPS.out.2.2, hpi.sn, by have := hpi.sq_le; omega, by rw [hnb]; omega, hop0⟩
          generalize s.ops = op1 at *
          unfold strV at HR2
          clear hJ hxo hnbs hops hop0 hii hnb2 hpi
          go_wp2_with fail
          refine HR1.out.mono ?_
          rintro e wz ⟨rfl, hwz⟩
          obtain rfl := hwz.symm
          go_wp2_with fail
          refine HR2.out.mono ?_
          rintro e wz ⟨rfl, hwz⟩
          obtain rfl := hwz.symm
          go_wp2_with fail
          refine HOPr.out.mono ?_
          rintro e wz ⟨rfl, hwz⟩
          obtain rfl := hwz.symm
          clear hcv HR1 HR2 HOPr
          go_wp2_with fail
          go_loopw [35] (fun v35 w' => v35 = .int .i64 0 ∧ w' = wp) (fun _ _ => 0)
          case atStart => exact ⟨rfl, rfl⟩
          case round =>
            obtain ⟨rfl, hw⟩ := hrel
            obtain rfl := hw.symm
            have HHAS := hid HPF.out.has
            have HI2 := HI.out
            clear HPI
            go_wp2_with fail
            refine HHAS.out.mono ?_
            rintro e wy ⟨rfl, hBy⟩
            have HZ := hid (HPF.out.of_below HW0.out hBy)
            clear HHAS hBy HPF
            go_wp2_with fail
            exact ⟨⟨i + 1, _, _, _, _, _, _, rfl, rfl, by omega, by omega, HZ.out⟩, by simp [intOf]; omega⟩
      · clear hkq
        have hbl : bl.length = nbOf n := by rw [← HPI.out.sn]; exact HPI.out.js.jr.sett.con.len
        obtain ⟨vr, hr, hor⟩ := HPS.out.2.1
        obtain ⟨ar, cr, rfl⟩ : ∃ a cap, vr = .slice a bl.length cap := by
          rcases hor.2 with ⟨e, h0⟩ | ⟨g, cap, cur, e, _⟩
          · exact ⟨none, 0, by rw [e, h0]⟩
          · exact ⟨_, cap, e⟩
        generalize hnb : nbOf n = nb at *
        rw [hbl] at hr
        have HBL := hid hbl
        have hpi := HPI.out
        have hii := HI.out
        have hnb2 := HNB2.out
        have hnbs : nbOf s.n = nb := by rw [hpi.sn, hnb]
        have hops := hpi.ops
        rw [hnb] at hops
        have hop0 := hpi.ops0

        have hJ := HPS.out.1
        have HOPN := hid (open_rest hJ.jr.disk hJ.jr.tab hJ.jr.sett.gone hJ.jr.sett.n32 hJ.cut hJ.jr.sett.loose hJ.jr.sett.same hJ.jr.sett.con (by rw [hnbs]; omega) (fun hm => tab_not hJ.jr.disk hJ.jr.jn hJ.jr.tab (List.mem_cons_of_mem _ hm)))
        have HOB := hid (And.intro hops (And.intro hop0 (And.intro hnbs (And.intro hii hnb2))))
        have HR := hid hr
        clear hJ hops hop0 hnbs hii hnb2 hpi hbl hor hr
        go_wp2_with fail
        refine HOPN.out.mono ?_
        rintro e w7 ⟨j', s', X', hj', rfl, hJ7, hn7, hc7, ho7, ho7', hX7, hF7⟩
        have hob := HOB.out
        have hK7 := Kp.of_frX HPS.out.1.jr.disk hF7
        have hW7 : Below ab W w7 := HPS.out.2.2.trans (hF7.below (Nat.le_trans HW0.out HPS.out.2.2.size) (fun k hk => Nat.le_trans HB1L.out.1 (HPS.out.1.lo k hk)))
        have hb1p : b1 ≤ wp.heap.size := by have := HPS.out.1.lt j (by simp); have := HPS.out.1.jlo; omega
        have hJs : Js b1 w7 j' p X' s' sq cnt bl := ⟨hJ7, hc7, fun k hk => (hX7 k hk).elim (HPS.out.1.lo k) (Nat.le_trans hb1p), Nat.le_trans hb1p hj'⟩
        have hR7 := hK7.rj HPS.out.2.1
        have hr7 := hK7.block r _ _ _ HR.out (by decide) (by decide) (by decide)
        have hd : Below w7.heap.size w7 w7.drew := (Below.refl _ _).drew
        rw [hob.2.2.1] at ho7'
        have HPF : Hid (Pst W ab b1 n (i + 1) w7.drew j' p r X' s' sq cnt bl) := hid (Pst.of_below ⟨hJs, hR7, hW7, hn7.trans HPI.out.sn, by have := HPI.out.sq_le; omega, by rw [hnb]; omega, by omega⟩ HW0.out hd)
        have HS48 := hid (And.intro (hJs.jr.disk.below hd) (below_at hd hr7 (heap_lt hr7)))
        obtain ⟨op2, hop2⟩ : ∃ op2, s'.ops = op2 := ⟨_, rfl⟩
        have HO2 := hid hop2
        rw [hop2] at ho7 ho7'
        generalize s.ops = op1 at *
        have HSU : Hid (IntKind.i64.wrap (op2 - op1) = op2 - op1) := hid (by rw [IntWalk.i64_in _ ⟨by omega, by omega⟩])
        have HAD : Hid (IntKind.i64.wrap (((nb : Nat) : Int) + 8) = ((nb : Nat) : Int) + 8) := hid (by rw [IntWalk.i64_in _ ⟨by omega, by omega⟩])
        have HGT : Hid (decide (((nb : Nat) : Int) + 8 < op2 - op1) = false) := hid (decide_eq_false (by omega))
        clear hob hK7 hW7 hb1p hJs hR7 hr7 hd hJ7 hn7 hc7 ho7 ho7' hX7 hF7 hop2 hj' HOPN
        go_wp2_with fail
        refine h_openL (S := fun w' => Disk w' p X' s' ∧ w'.heap[r]? = some (.cells #[.slice ar nb cr, .int .i64 (sq : Nat)] 51 (0, 0))) (by kernel_rfl) (by kernel_rfl) (fun _ _ _ _ _ h => h) (L := #[false, false, false, false, false, false, false, false, false, false, false, false, false, false, false]) (by kernel_rfl) ?_
        intro Q' hns hP hN
        have hS := HS48.out
        refine h_takeL (i := 0) (v := .int .i64 0) hns rfl rfl (by kernel_rfl) (by kernel_rfl) hP (y_move rfl (by kernel_rfl) (by kernel_rfl)) hS rfl (L' := #[true, false, false, false, false, false, false, false, false, false, false, false, false, false, false]) (by kernel_rfl) ?_
        refine h_takeL (i := 1) (v := .bool false) hns rfl rfl (by kernel_rfl) (by kernel_rfl) hP (y_bin (k := .i64) (k' := .i64) (m := 0) (n := 0) rfl (by kernel_rfl) (by kernel_rfl) (by kernel_rfl) (neqE _ _ _ rfl)) hS rfl (L' := #[true, true, false, false, false, false, false, false, false, false, false, false, false, false, false]) (by kernel_rfl) ?_
        refine h_takeL (i := 2) (v := .bool false) hns rfl rfl (by kernel_rfl) (by kernel_rfl) hP (y_move rfl (by kernel_rfl) (by kernel_rfl)) hS rfl (L' := #[true, true, true, false, false, false, false, false, false, false, false, false, false, false, false]) (by kernel_rfl) ?_
        refine h_takeL (i := 3) (v := .pointer (some ⟨p, 0, none⟩)) hns rfl rfl (by kernel_rfl) (by kernel_rfl) hP (y_move rfl (by kernel_rfl) (by kernel_rfl)) hS rfl (L' := #[true, true, true, true, false, false, false, false, false, false, false, false, false, false, false]) (by kernel_rfl) ?_
        refine h_takeL (i := 5) (v := .int .i64 op1) hns rfl rfl (by kernel_rfl) (by kernel_rfl) hP (y_move rfl (by kernel_rfl) (by kernel_rfl)) hS rfl (L' := #[true, true, true, true, false, true, false, false, false, false, false, false, false, false, false]) (by kernel_rfl) ?_
        refine h_takeL (i := 7) (v := .pointer (some ⟨r, 0, none⟩)) hns rfl rfl (by kernel_rfl) (by kernel_rfl) hP (y_move rfl (by kernel_rfl) (by kernel_rfl)) hS rfl (L' := #[true, true, true, true, false, true, false, true, false, false, false, false, false, false, false]) (by kernel_rfl) ?_
        refine h_takeL (i := 8) (v := .pointer (some ⟨r, 0, none⟩)) hns rfl rfl (by kernel_rfl) (by kernel_rfl) hP (y_nil rfl (by kernel_rfl) (by kernel_rfl)) hS rfl (L' := #[true, true, true, true, false, true, false, true, true, false, false, false, false, false, false]) (by kernel_rfl) ?_
        simp only [List.setIfInBounds_toArray, List.set_cons_zero, List.set_cons_succ]
        refine h_takeL (i := 9) (v := .pointer (some ⟨r, 0, none⟩)) hns rfl rfl (by kernel_rfl) (by kernel_rfl) hP (y_faddr rfl (by kernel_rfl) (by kernel_rfl) (fa51_0 (r))) hS rfl (L' := #[true, true, true, true, false, true, false, true, true, true, false, false, false, false, false]) (by kernel_rfl) ?_
        refine h_takeL (i := 10) (v := .slice ar nb cr) hns rfl rfl (by kernel_rfl) (by kernel_rfl) hP (y_load rfl (by kernel_rfl) (by kernel_rfl) (fun w' h => load1 Tryd.isAgg49 (cell_at h.2 0 rfl))) hS rfl (L' := #[true, true, true, true, false, true, false, true, true, true, true, false, false, false, false]) (by kernel_rfl) ?_
        refine h_takeL (i := 11) (v := .int .i64 (nb : Nat)) hns rfl rfl (by kernel_rfl) (by kernel_rfl) hP (y_lenT len49 (p := ar) (c := cr) rfl (by kernel_rfl) (by kernel_rfl)) hS rfl (L' := #[true, true, true, true, false, true, false, true, true, true, true, true, false, false, false]) (by kernel_rfl) ?_
        refine h_takeL (i := 12) (v := .int .i64 ((nb : Nat) + 8)) hns rfl rfl (by kernel_rfl) (by kernel_rfl) hP (y_bin (k := .i64) (k' := .i64) (m := (nb : Nat)) (n := 8) rfl (by kernel_rfl) (by kernel_rfl) (by kernel_rfl) (addI _ _ _ HAD.out)) hS rfl (L' := #[true, true, true, true, false, true, false, true, true, true, true, true, true, false, false]) (by kernel_rfl) ?_
        refine h_callL (i := 4) (f := 20) (args := #[.pointer (some ⟨p, 0, none⟩)]) (by kernel_rfl) rfl rfl (by kernel_rfl) (enter_go rfl (by kernel_rfl) (fun w => by go_simp)) (L' := #[true, true, true, true, true, true, false, true, true, true, true, true, true, false, false]) (by kernel_rfl) ?_
        refine (ops_d hS.1).mono ?_
        rintro e wz ⟨rfl, hwz⟩
        obtain rfl := hwz.symm
        refine ⟨_, rfl, hS, ?_⟩
        rw [HO2.out]
        refine h_takeL (i := 6) (v := .int .i64 (op2 - op1)) hns rfl rfl (by kernel_rfl) (by kernel_rfl) hP (y_bin (k := .i64) (k' := .i64) (m := op2) (n := op1) rfl (by kernel_rfl) (by kernel_rfl) (by kernel_rfl) (subI _ _ _ HSU.out)) hS rfl (L' := #[true, true, true, true, true, true, true, true, true, true, true, true, true, false, false]) (by kernel_rfl) ?_
        refine h_takeL (i := 13) (v := .bool false) hns rfl rfl (by kernel_rfl) (by kernel_rfl) hP (y_bin (k := .i64) (k' := .i64) (m := (op2 - op1)) (n := ((nb : Nat) + 8)) rfl (by kernel_rfl) (by kernel_rfl) (by kernel_rfl) (gtrI _ _ _ HGT.out)) hS rfl (L' := #[true, true, true, true, true, true, true, true, true, true, true, true, true, true, false]) (by kernel_rfl) ?_
        refine h_takeL (i := 14) (v := .bool false) hns rfl rfl (by kernel_rfl) (by kernel_rfl) hP (y_pick (b := false) rfl (by kernel_rfl) (by kernel_rfl) (by kernel_rfl)) hS rfl (L' := #[true, true, true, true, true, true, true, true, true, true, true, true, true, true, true]) (by kernel_rfl) ?_
        simp only [List.setIfInBounds_toArray, List.set_cons_zero, List.set_cons_succ]
        refine wpAnyH_done (by kernel_rfl) ?_ _
        refine hN _ _ ?_
        clear hP hN hns
        clear hS HS48 HO2 HSU HAD HGT
        have HHAS := hid HPF.out.has
        have HI2 := HI.out
        clear HPI
        go_wp2_with fail
        refine HHAS.out.mono ?_
        rintro e wy ⟨rfl, hBy⟩
        have HZ := hid (HPF.out.of_below HW0.out hBy)
        clear HHAS hBy HPF
        go_wp2_with fail
        exact ⟨⟨i + 1, _, _, _, _, _, _, rfl, rfl, by omega, by omega, HZ.out⟩, by simp [intOf]; omega⟩
    · have HPF := hid hP.below
      have HLT := hid hlt
      clear hP hlt hi1 hi2
      by_cases hN : i < N
      · have hb1 : (i : Int) < (N : Int) := by omega
        have hb2 : ¬ (i : Int) < 60 := by have := HLT.out; omega
        go_wp2
        go_ret
        exact ⟨rfl, HPF.out⟩
      · have hb1 : ¬ (i : Int) < (N : Int) := by omega
        go_wp2
        go_ret
        exact ⟨rfl, HPF.out⟩
end Go.Proofs.YtdogjicccajnkaaDoor
