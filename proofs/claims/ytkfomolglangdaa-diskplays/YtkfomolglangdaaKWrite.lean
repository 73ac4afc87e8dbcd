/- Write. -/
import Derived.Test.YtkfomolglangdaaKRead
import Derived.Test.YtkfomolglangdaaKBuild
import Derived.Deep.Cut
namespace Go.Proofs.Ytkfomolglangdaa
open Go Go.RowKit

def wc (x : Nat × List UInt8) : Array Value := (.int .i64 x.1 :: cells8 x.2).toArray
theorem wc_len (x : Nat × List UInt8) (h : x.2.length = 128) : (Value.int .i64 x.1 :: cells8 x.2).length = 129 := by simp [cells8_len, h]
theorem wc_one (x : Nat × List UInt8) : ∀ v ∈ (Value.int .i64 x.1 :: cells8 x.2), v.oneCell' = true := by
  intro v hv
  rcases List.mem_cons.1 hv with rfl | hv
  · rfl
  · exact cells8_one _ v hv
theorem load_w {x : Nat × List UInt8} (h : x.2.length = 128) {w : World} {q : Nat} (hq : w.heap[q]? = some (.cells (wc x) 76 (0, 0))) :
    (Instr.loadAt 76 (.pointer (some ⟨q, 0, none⟩))).run Try.prog w = .ok (wv x) w :=
  loadAt_k agg76 size76 w q 0 (wc x) 76 (0, 0) (.int .i64 x.1 :: cells8 x.2) (wc_len x h) hq (fun j v hv => by simpa [wc] using hv)
/-- Where the sector's bytes lie among others' cells. -/
theorem load_s {w : World} {b off : Nat} {l : List UInt8} (hl : l.length = 128) (hr : Rd w b off l) :
    (Instr.loadAt 70 (.pointer (some ⟨b, off, none⟩))).run Try.prog w = .ok (.agg (cells8 l).toArray) w := by
  have := run_loadCells_list (P := Try.prog) w ⟨b, off, none⟩ (cells8 l) (fun j v hv => by
    have hj : j < l.length := by have := (List.getElem?_eq_some_iff.1 hv).1; rwa [cells8_len] at this
    rw [cells8_get l j hj] at hv
    cases hv
    rw [add_lit]
    exact hr j hj)
  simp only [cells8_len, hl] at this
  simp only [Instr.loadAt, Instr.sureAddr, Sem.run_bind, Sem.run_pure, Result.andThen, loadVar, agg70, run_size size70, this, if_true]
def laidW (w : World) (a : Nat) (cur : Array Value) (i : Nat) (l : List UInt8) : World := (w.alloc (.cells (wc (i, l)) 76)).setRow a (relaid cur (i * 128) (cells8 l))
theorem lay_w (i : Nat) (l : List UInt8) (a n ca : Nat) (cur : Array Value) (w : World) (hl : l.length = 128) (hi : i < n) (hg : w.heap[a]? = some (.cells cur 70 (0, 0))) (hz : n * 128 ≤ cur.size) :
    Calls Try.prog 37 #[wv (i, l), .slice (some ⟨a, 0, none⟩) n ca] w fun e w' => e = .returned (.tuple #[]) ∧ w' = laidW w a cur i l :=
  lay_any i (cells8 l) a n ca cur w (by rw [cells8_len]; exact hl) (cells8_one l) hi hg hz
theorem lay_fr (w : World) (a : Nat) (cur : Array Value) (i : Nat) (l : List UInt8) : Fr [a] w (laidW w.drew a cur i l) :=
  ((Fr.alloc w.drew _).mono (Y := [a]) (by simp)).trans (Fr.setRow _ a _) (fun x hx => .inl hx) |>.undrew
theorem lay_fr' (w : World) (a : Nat) (cur : Array Value) (i : Nat) (l : List UInt8) : Fr [a] w (laidW w a cur i l) :=
  ((Fr.alloc w _).mono (Y := [a]) (by simp)).trans (Fr.setRow _ a _) (fun x hx => .inl hx)
theorem lay_row {w : World} {a cap : Nat} {ss : List (List UInt8)} {cur : Array Value} (hg : w.heap[a]? = some (.cells cur 70 (0, 0))) (hs : ss.length * 128 ≤ cur.size) (hc : ss.length ≤ cap) (hm : cap ≤ maxLen)
    (h : ∀ i s, ss[i]? = some s → s.length = 128 ∧ ∀ j v, (cells8 s)[j]? = some v → cur[i * 128 + j]? = some v) (i : Nat) (hi : i < ss.length) (l : List UInt8) (hl : l.length = 128) :
    Row (laidW w a cur i l) a cap (ss.set i l) :=
  row_laid ((Fr.alloc w _).at hg (by simp)) hs hc hm h i hi l hl

theorem rd_ne_p {w : World} {b off p : Nat} {l : List UInt8} (hr : Rd w b off l) (hl : l.length = 128) {c : Array Value} {t : TypeId} {z : Nat × Nat} (hp : w.heap[p]? = some (.cells c t z)) (hc : c.size < 100) : b ≠ p := by
  rintro rfl
  have := hr 127 (by omega)
  simp only [World.cell?, hp] at this
  have h2 := (Array.getElem?_eq_some_iff.1 (by simpa using this : c[off + 127]? = _)).1
  omega
theorem rd_ne_m {w : World} {b off m : Nat} {l : List UInt8} (hr : Rd w b off l) (hl : l.length = 128) {es : Array MapEntry} {k : Nat} (hp : w.heap[m]? = some (.map es k)) : b ≠ m := by
  rintro rfl
  have := hr 127 (by omega)
  simp [World.cell?, hp] at this
theorem rd_fr {X : List Nat} {w w' : World} {b off : Nat} {l : List UInt8} (hr : Rd w b off l) (hF : Fr X w w') (hb : b ∉ X) : Rd w' b off l := fun k hk => by
  have h := hr k hk
  rw [← h]
  exact World.cell?_of_block (w := w) (hF.block b (World.block_lt_of_cell? w _ h) hb)

theorem arr70 (b off cap : Nat) (w : World) : (Instr.arrayAt 70 (.slice (some ⟨b, off, none⟩) 128 cap)).run Try.prog w = .ok (.pointer (some ⟨b, off, none⟩)) w := by
  simp only [Instr.arrayAt, Sem.run_bind, run_underlying Try.underlying70, Result.andThen_ok]
  rfl

set_option maxRecDepth 100000 in
set_option maxHeartbeats 1600000 in
theorem write_ok (w : World) (p a ca b n cb m : Nat) (ops cut : Int) (gone : Bool) (ss : List (List UInt8)) (L : List (Nat × List UInt8)) (i : Nat) (bb off cap : Nat) (l : List UInt8)
    (h : Dc w p (.slice (some ⟨a, 0, none⟩) n ca) (.slice (some ⟨b, 0, none⟩) n cb) m ops cut gone) (hr : Row w a ca ss) (hn : ss.length = n) (hm : Mp w m L) (hi : i < n) (hl : l.length = 128) (hb : Rd w bb off l)
    (hlost : lost cut ops = false) (hops0 : 0 ≤ ops) (hops : ops < 1048576) :
    Calls Try.prog 19 #[.pointer (some ⟨p, 0, none⟩), .int .i64 i, .slice (some ⟨bb, off, none⟩) 128 cap] w fun e w' => e = .returned (.int .i64 0) ∧
      Dc w' p (.slice (some ⟨a, 0, none⟩) n ca) (.slice (some ⟨b, 0, none⟩) n cb) m (ops + 1) cut false ∧ Row w' a ca (ss.set i l) ∧ Mp w' m (L ++ [(i, l)]) ∧ Fr [p, a, m] w w' := by
  have hpm : p ≠ m := fun e => by subst e; rw [Mp] at hm; rw [Dc] at h; rw [hm] at h; cases h
  have hpa : p ≠ a := fun e => by obtain ⟨cur, hg, _⟩ := hr; subst e; rw [Dc] at h; rw [hg] at h; cases h
  have ham : a ≠ m := fun e => by obtain ⟨cur, hg, _⟩ := hr; subst e; rw [Mp] at hm; rw [hg] at hm; cases hm
  have hbp : bb ≠ p := rd_ne_p hb hl h (by simp [dcells])
  have hi' : (i : Int) < n := by omega
  have hops' : decide ((1048576 : Int) ≤ ops) = false := decide_eq_false (by omega)
  have hwr : wrap64 (ops + 1) = ops + 1 := by unfold wrap64; omega
  have H1 := hid (loses_any w p _ _ m ops cut gone h)
  rw [hlost] at H1
  have HR := hid hr
  have HM := hid hm
  have HB := hid hb
  clear h hr hm hb
  go_enter Try.func19, Try.ntmps19
  go_wp2_with fail
  refine H1.out.mono ?_
  clear H1
  rintro e w1 ⟨rfl, hD1, hF1⟩
  have HR1 := hid (HR.out.fr hF1 (by simpa using hpa.symm))
  have HM1 : Hid (Mp w1 m L) := hid (hF1.at HM.out (by simpa using hpm.symm))
  have HB1 := hid (rd_fr HB.out hF1 (by simpa using hbp))
  have H2 := hid (has_any w1 p _ b n cb m ops cut false i hD1)
  rw [hasB_in hi] at H2
  have H3 := hid hD1.c3
  have HD1 := hid hD1
  have HF1 := hid hF1
  clear HR HM HB hD1 hF1
  go_wp2_with fail
  refine H2.out.mono ?_
  clear H2
  rintro e w1 ⟨rfl, rfl⟩
  have h3 := H3.out
  have HL := hid (load_s hl HB1.out)
  have HU := hid (build76 w1 i (cells8 l) (by rw [cells8_len]; exact hl))
  have HS := hid (store_new Try.prog w1 76 129 size76 Try.zeroCells76 (.int .i64 i :: cells8 l) zc76 (wc_len (i, l) hl) (wc_one (i, l)))
  change Hid (_ = Result.ok (wv (i, l)) w1) at HU
  change Hid (Sem.run Try.prog (Instr.storeAt 76 _ (wv (i, l))) _ = Result.ok () (w1.alloc (.cells (wc (i, l)) 76))) at HS
  go_upto_region 11 with fail
  refine wp_region_lit ?_
  refine wp_move (v := .int .i64 i) (by kernel_rfl) ?_
  refine wp_move (v := .slice (some ⟨bb, off, none⟩) 128 cap) (by kernel_rfl) ?_
  refine wp_arrayAt (by kernel_rfl) (arr70 bb off cap w1) ?_
  refine wp_load (by kernel_rfl) HL.out ?_
  refine wp_build (by kernel_rfl) (by kernel_rfl) HU.out ?_
  refine wp_alloc (alloc76 w1) ?_
  refine wp_store (by kernel_rfl) (by kernel_rfl) HS.out ?_
  dsimp only [Act.put]
  simp only [List.setIfInBounds_toArray, List.set_cons_zero, List.set_cons_succ]
  refine wp_end ?_
  clear HL HU HS H3 h3
  have hF2 : Fr [] w1 (w1.alloc (.cells (wc (i, l)) 76)) := Fr.alloc _ _
  have hq2 : (w1.alloc (.cells (wc (i, l)) 76)).heap[w1.heap.size]? = some (.cells (wc (i, l)) 76 (0, 0)) := heap_alloc_last _ _
  have hqs : ∀ k o, w1.heap[k]? = some o → w1.heap.size ≠ k := fun k o hk => by have := heap_lt hk; omega
  have hqm := hqs m _ HM1.out
  have hqa : w1.heap.size ≠ a := by obtain ⟨cur, hg, _⟩ := HR1.out; exact hqs a _ hg
  have hqp := hqs p _ HD1.out
  have hD2 := HD1.out.fr hF2 (by simp)
  have hm2 : Mp _ m L := hF2.at HM1.out (by simp)
  have hr2 := HR1.out.fr hF2 (by simp)
  have hF2' : Fr [p] w _ := HF1.out.trans hF2 (by simp)
  have hqw : w.heap.size ≤ w1.heap.size := HF1.out.size
  clear HD1 HM1 HR1 HB1 HF1 hF2 hqs
  generalize w1.heap.size = q at *
  generalize w1.alloc (.cells (wc (i, l)) 76) = w2 at *
  go_wp2_with fail
  refine h_openL (S := fun w' => w'.heap[p]? = w2.heap[p]? ∧ w'.heap[q]? = w2.heap[q]?) (by kernel_rfl) (by kernel_rfl) (fun _ _ _ _ _ h => h) (L := #[false, false, false, false, false, false, false, false, false, false, false]) (by kernel_rfl) ?_
  intro Q' hns hP hN
  have hS := (show w2.drew.heap[p]? = w2.heap[p]? ∧ w2.drew.heap[q]? = w2.heap[q]? from ⟨rfl, rfl⟩)
  refine h_takeL (i := 0) (v := .pointer (some ⟨p, 0, none⟩)) hns rfl rfl (by kernel_rfl) (by kernel_rfl) hP (y_move rfl (by kernel_rfl) (by kernel_rfl)) hS rfl (L' := #[true, false, false, false, false, false, false, false, false, false, false]) (by kernel_rfl) ?_
  refine h_takeL (i := 1) (v := .pointer (some ⟨p, 0, none⟩)) hns rfl rfl (by kernel_rfl) (by kernel_rfl) hP (y_nil rfl (by kernel_rfl) (by kernel_rfl)) hS rfl (L' := #[true, true, false, false, false, false, false, false, false, false, false]) (by kernel_rfl) ?_
  refine h_takeL (i := 2) (v := .pointer (some ⟨p, 2, none⟩)) hns rfl rfl (by kernel_rfl) (by kernel_rfl) hP (y_faddr rfl (by kernel_rfl) (by kernel_rfl) (fa67_2 (p))) hS rfl (L' := #[true, true, true, false, false, false, false, false, false, false, false]) (by kernel_rfl) ?_
  refine h_takeL (i := 3) (v := .map (some m)) hns rfl rfl (by kernel_rfl) (by kernel_rfl) hP (y_load rfl (by kernel_rfl) (by kernel_rfl) (fun w h => load1 Try.isAgg65 (cell_at (h.1.trans hD2) 2 rfl))) hS rfl (L' := #[true, true, true, true, false, false, false, false, false, false, false]) (by kernel_rfl) ?_
  refine h_takeL (i := 4) (v := .pointer (some ⟨p, 0, none⟩)) hns rfl rfl (by kernel_rfl) (by kernel_rfl) hP (y_move rfl (by kernel_rfl) (by kernel_rfl)) hS rfl (L' := #[true, true, true, true, true, false, false, false, false, false, false]) (by kernel_rfl) ?_
  refine h_takeL (i := 5) (v := .pointer (some ⟨p, 0, none⟩)) hns rfl rfl (by kernel_rfl) (by kernel_rfl) hP (y_nil rfl (by kernel_rfl) (by kernel_rfl)) hS rfl (L' := #[true, true, true, true, true, true, false, false, false, false, false]) (by kernel_rfl) ?_
  refine h_takeL (i := 6) (v := .pointer (some ⟨p, 2, none⟩)) hns rfl rfl (by kernel_rfl) (by kernel_rfl) hP (y_faddr rfl (by kernel_rfl) (by kernel_rfl) (fa67_2 (p))) hS rfl (L' := #[true, true, true, true, true, true, true, false, false, false, false]) (by kernel_rfl) ?_
  simp only [List.setIfInBounds_toArray, List.set_cons_zero, List.set_cons_succ]
  refine h_takeL (i := 7) (v := .map (some m)) hns rfl rfl (by kernel_rfl) (by kernel_rfl) hP (y_load rfl (by kernel_rfl) (by kernel_rfl) (fun w h => load1 Try.isAgg65 (cell_at (h.1.trans hD2) 2 rfl))) hS rfl (L' := #[true, true, true, true, true, true, true, true, false, false, false]) (by kernel_rfl) ?_
  refine h_takeL (i := 9) (v := wv (i, l)) hns rfl rfl (by kernel_rfl) (by kernel_rfl) hP (y_load rfl (by kernel_rfl) (by kernel_rfl) (fun w h => load_w hl (h.2.trans hq2))) hS rfl (L' := #[true, true, true, true, true, true, true, true, false, true, false]) (by kernel_rfl) ?_
  refine h_valL (i := 8) (v := .int .i64 L.length) (by kernel_rfl) rfl rfl (by kernel_rfl) (run_lenOp rfl (by kernel_rfl) (fun ty => len_map (w := w2.drew) hm2 ty)) hS rfl (L' := #[true, true, true, true, true, true, true, true, true, true, false]) (by kernel_rfl) ?_
  refine h_skipL (i := 10) (by kernel_rfl) rfl rfl (by kernel_rfl) (run_mapUpdate rfl (by kernel_rfl) (by kernel_rfl) (by kernel_rfl) (put_new (w := w2.drew) hm2 (i, l))) ⟨(Fr.reMap w2.drew m _).block p (heap_lt hD2) (by simpa using hpm), (Fr.reMap w2.drew m _).block q (heap_lt hq2) (by simpa using hqm)⟩ (L' := #[true, true, true, true, true, true, true, true, true, true, true]) (by kernel_rfl) ?_
  simp only [List.setIfInBounds_toArray, List.set_cons_zero, List.set_cons_succ]
  refine wpAnyH_done (by kernel_rfl) ?_ _
  refine hN _ _ ?_
  clear hP hN hns
  have hD3 := hD2.fr ((Fr.reMap w2.drew m (L ++ [(i, l)])).undrew) (by simpa using hpm)
  have hq3 := ((Fr.reMap w2.drew m (L ++ [(i, l)])).undrew).at hq2 (by simpa using hqm)
  have hr3 := hr2.fr ((Fr.reMap w2.drew m (L ++ [(i, l)])).undrew) (by simpa using ham)
  have hm3 : Mp (reMap w2.drew m (L ++ [(i, l)])) m (L ++ [(i, l)]) := reMap_at (w := w2.drew) hm2 _
  have hF3 : Fr [p, m] w (reMap w2.drew m (L ++ [(i, l)])) := (hF2'.mono (by simp)).trans ((Fr.reMap w2.drew m (L ++ [(i, l)])).undrew) (by simp)
  clear hD2 hq2 hr2 hm2 hF2' hS
  generalize reMap w2.drew m (L ++ [(i, l)]) = w3 at *
  obtain ⟨cur, hg3, hz3, hc3, hx3, hcs3⟩ := hr3
  rw [hn] at hz3
  go_wp2_with fail
  refine h_openL (S := fun w' => w'.heap[p]? = w3.heap[p]? ∧ w'.heap[q]? = w3.heap[q]?) (by kernel_rfl) (by kernel_rfl) (fun _ _ _ _ _ h => h) (L := #[false, false, false, false, false, false]) (by kernel_rfl) ?_
  intro Q' hns hP hN
  have hS := (show w3.drew.heap[p]? = w3.heap[p]? ∧ w3.drew.heap[q]? = w3.heap[q]? from ⟨rfl, rfl⟩)
  refine h_takeL (i := 0) (v := wv (i, l)) hns rfl rfl (by kernel_rfl) (by kernel_rfl) hP (y_load rfl (by kernel_rfl) (by kernel_rfl) (fun w h => load_w hl (h.2.trans hq3))) hS rfl (L' := #[true, false, false, false, false, false]) (by kernel_rfl) ?_
  refine h_takeL (i := 1) (v := .pointer (some ⟨p, 0, none⟩)) hns rfl rfl (by kernel_rfl) (by kernel_rfl) hP (y_move rfl (by kernel_rfl) (by kernel_rfl)) hS rfl (L' := #[true, true, false, false, false, false]) (by kernel_rfl) ?_
  refine h_takeL (i := 2) (v := .pointer (some ⟨p, 0, none⟩)) hns rfl rfl (by kernel_rfl) (by kernel_rfl) hP (y_nil rfl (by kernel_rfl) (by kernel_rfl)) hS rfl (L' := #[true, true, true, false, false, false]) (by kernel_rfl) ?_
  refine h_takeL (i := 3) (v := .pointer (some ⟨p, 0, none⟩)) hns rfl rfl (by kernel_rfl) (by kernel_rfl) hP (y_faddr rfl (by kernel_rfl) (by kernel_rfl) (fa67_0 (p))) hS rfl (L' := #[true, true, true, true, false, false]) (by kernel_rfl) ?_
  refine h_takeL (i := 4) (v := .slice (some ⟨a, 0, none⟩) n ca) hns rfl rfl (by kernel_rfl) (by kernel_rfl) hP (y_load rfl (by kernel_rfl) (by kernel_rfl) (fun w h => load1 Try.isAgg58 (cell_at (h.1.trans hD3) 0 rfl))) hS rfl (L' := #[true, true, true, true, true, false]) (by kernel_rfl) ?_
  refine h_callL (i := 5) (f := 37) (args := #[wv (i, l), .slice (some ⟨a, 0, none⟩) n ca]) (by kernel_rfl) rfl rfl (by kernel_rfl) (enter_go rfl (by kernel_rfl) (fun w => by go_simp)) (L' := #[true, true, true, true, true, true]) (by kernel_rfl) ?_
  refine (lay_w i l a n ca cur w3.drew hl hi hg3 hz3).mono ?_
  rintro e w4 ⟨rfl, rfl⟩
  have hF4 := lay_fr w3 a cur i l
  refine ⟨.tuple #[], rfl, ⟨hF4.block p (heap_lt hD3) (by simpa using hpa), hF4.block q (heap_lt hq3) (by simpa using hqa)⟩, ?_⟩
  simp only [List.setIfInBounds_toArray, List.set_cons_zero, List.set_cons_succ]
  refine wpAnyH_done (by kernel_rfl) ?_ _
  refine hN _ _ ?_
  clear hP hN hns
  have hD4 := hD3.fr hF4 (by simpa using hpa)
  have hr4 := lay_row (w := w3.drew) (ss := ss) hg3 (by rw [hn]; exact hz3) hc3 hx3 hcs3 i (by rw [hn]; exact hi) l hl
  have hm4 : Mp (laidW w3.drew a cur i l) m (L ++ [(i, l)]) := hF4.at hm3 (by simpa using ham.symm)
  have hF4' : Fr [p, a, m] w (laidW w3.drew a cur i l) := (hF3.mono (by simp)).trans hF4 (by simp)
  clear hD3 hq3 hm3 hF3 hF4 hS hg3 hz3 hc3 hx3 hcs3
  generalize laidW w3.drew a cur i l = w4 at *
  have h3 := hD4.c3
  have f3 := hD4.f 3
  go_wp2
  go_ret
  refine ⟨rfl, heap_setCell hD4 3 _, hr4.fr (Fr.setCell w4 p 3 _) (by simpa using hpa.symm), (Fr.setCell w4 p 3 _).at hm4 (by simpa using hpm.symm), hF4'.trans (Fr.setCell w4 p 3 _) (by simp)⟩
end Go.Proofs.Ytkfomolglangdaa
