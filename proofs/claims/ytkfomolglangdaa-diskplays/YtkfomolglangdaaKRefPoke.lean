/- The document's Poke. -/
import Derived.Test.YtkfomolglangdaaKZ2
namespace Go.Proofs.Ytkfomolglangdaa
open Go Go.RowKit

theorem run_faOp {o : Oper} {a : Act} {w : World} {x : Operand} {t f : Nat} {p v : Value} (hop : o.op = .fieldAddr t x f) (hx : a.eval x = p) (hr : (Instr.fieldAt t p f).run Try.prog w = .ok v w) :
    (execOp a.eval o).run Try.prog w = .ok (.value v) w := by unfold execOp; rw [hop]; simp only [hx, Sem.run_bind, hr, Result.andThen_ok]; rfl
theorem idx35 (g n cap k : Nat) (h : k < n) (w : World) : (Instr.indexAt 35 (.slice (some ⟨g, 0, none⟩) n cap) (.int .i64 k)).run Try.prog w = .ok (.pointer (some ⟨g, k, none⟩)) w := by
  have h1 : (k : Int) < n := by omega
  go_simp
/-- A sector is put into its place, seen from a later world. -/
theorem Sf.put2 {w w3 : World} {B g n cap : Nat} {ss : List (List UInt8)} (h : Sf w B (.slice (some ⟨g, 0, none⟩) n cap) ss) (hn : ss.length = n) {i : Nat} (hi : i < n) {u : Value} {l : List UInt8} (hF : Fr [g] w w3)
    (hrow : ∀ cur, w.heap[g]? = some (.cells cur 35 (0, 0)) → w3.heap[g]? = some (.cells (cur.setIfInBounds i u) 35 (0, 0))) (hb : Bk w3 u l) : Sf w3 B (.slice (some ⟨g, 0, none⟩) n cap) (ss.set i l) := by
  obtain ⟨V, h1, h2⟩ := h
  rcases h2.2 with ⟨e, _⟩ | ⟨g', cap', cur, e, hB, hg, hc, hm, hs, ht⟩
  · cases e
  cases e
  have hV := h2.1
  have hbk : ∀ v l, Bk w v l → Bk w3 v l := fun v l hb => hb.fr hF (fun g' c hg' hm => by
    obtain rfl : g' = g := by simpa using hm
    rw [hg] at hg'; cases hg')
  refine ⟨V.set i u, fun j l' hj => ?_, by simp [hV], .inr ⟨g, cap, _, by rw [List.length_set], hB, hrow cur hg, by rw [List.length_set]; exact hc, hm, by simpa using hs, ?_⟩⟩
  · by_cases e : i = j
    · subst e
      rw [List.getElem?_set_self (by omega)] at hj
      cases hj
      exact ⟨u, by rw [List.getElem?_set_self (by omega)], hb⟩
    · rw [List.getElem?_set_ne e] at hj
      obtain ⟨u', hu', hb'⟩ := h1 j l' hj
      exact ⟨u', by rw [List.getElem?_set_ne e]; exact hu', hbk _ _ hb'⟩
  · rw [List.length_set, Array.toList_setIfInBounds, List.take_set, ht]
theorem lc_set : ∀ (K : List ((Nat × List UInt8) × Value)) (k : Nat) (x : Nat × List UInt8) (v u : Value) (l : List UInt8), K[k]? = some (x, v) → ((K.set k ((x.1, l), u)).map lc).flatten = ((K.map lc).flatten).set (k * 2 + 1) u
  | [], k, x, v, u, l, h => by simp at h
  | y :: K, 0, x, v, u, l, h => by
    simp only [List.getElem?_cons_zero, Option.some.injEq] at h
    subst h
    simp [lc]
  | y :: K, k + 1, x, v, u, l, h => by
    rw [List.getElem?_cons_succ] at h
    have ih := lc_set K k x v u l h
    simp only [List.set_cons_succ, List.map_cons, List.flatten_cons, ih]
    rw [show (k + 1) * 2 + 1 = (k * 2 + 1) + 2 by omega]
    simp [lc]
theorem Ls.put2 {w w3 : World} {B g n cap : Nat} {L : List (Nat × List UInt8)} (h : Ls w B (.slice (some ⟨g, 0, none⟩) n cap) L) {k : Nat} {x : Nat × List UInt8} (hx : L[k]? = some x) {u : Value} {l : List UInt8} (hF : Fr [g] w w3)
    (hrow : ∀ cur, w.heap[g]? = some (.cells cur 81 (0, 0)) → w3.heap[g]? = some (.cells (cur.setIfInBounds (k * 2 + 1) u) 81 (0, 0))) (hb : Bk w3 u l) : Ls w3 B (.slice (some ⟨g, 0, none⟩) n cap) (L.set k (x.1, l)) := by
  obtain ⟨K, h0, h1, h2⟩ := h
  rcases h2.2 with ⟨e, _⟩ | ⟨g', cap', cur, e, hB, hg, hc, hm, hs, ht⟩
  · cases e
  cases e
  have hk : k < L.length := (List.getElem?_eq_some_iff.1 hx).1
  have hKl : K.length = L.length := by rw [← h0, List.length_map]
  obtain ⟨⟨x', v⟩, hKk⟩ : ∃ y, K[k]? = some y := ⟨_, List.getElem?_eq_getElem (by omega)⟩
  have hxx : x' = x := by
    have := hx
    rw [← h0, List.getElem?_map, hKk] at this
    simpa using this
  subst hxx
  have hbk : ∀ v l, Bk w v l → Bk w3 v l := fun v l hb => hb.fr hF (fun g' c hg' hm => by
    obtain rfl : g' = g := by simpa using hm
    rw [hg] at hg'; cases hg')
  refine ⟨K.set k ((x'.1, l), u), ?_, fun y hy => ?_, ?_⟩
  · rw [List.map_set, h0]
  · rcases List.mem_or_eq_of_mem_set hy with hy | rfl
    · exact hbk _ _ (h1 y hy)
    · exact hb
  · rw [lc_set K k x' v u l hKk]
    refine ⟨by simpa using h2.1, .inr ⟨g, cap, _, by rw [List.length_set], hB, hrow cur hg, by rw [List.length_set]; exact hc, hm, by simpa using hs, ?_⟩⟩
    rw [List.length_set, Array.toList_setIfInBounds, List.take_set, ht]
/-- A fresh copy of a sector is put into a row's cell, and a byte of it is another one. -/
theorem poke_fresh {w w1 : World} {g j g1 c1 q : Nat} {t : TypeId} {l : List UInt8} {c : UInt8} {cur : Array Value} (hg : w.heap[g]? = some (.cells cur t (0, 0))) (hB1 : Below w.heap.size w w1) (ho : w1.ownsRow w.heap.size 5 1 (.slice (some ⟨g1, 0, none⟩) 128 c1) 128 (cells8 l)) (hl : l.length = 128) (hq : q < 128) :
    let w2 := w1.setCell ⟨g, j, none⟩ (.slice (some ⟨g1, 0, none⟩) 128 c1)
    let w3 := w2.setCell ⟨g1, q, none⟩ (.int .u8 c.toNat)
    Fr [g] w w3 ∧ w3.heap[g]? = some (.cells (cur.setIfInBounds j (.slice (some ⟨g1, 0, none⟩) 128 c1)) t (0, 0)) ∧ Bk w3 (.slice (some ⟨g1, 0, none⟩) 128 c1) (l.set q c) ∧ (∃ v, w2.cell? ⟨g1, q, none⟩ = some v) ∧ w2.frozen? ⟨g1, q, none⟩ = false ∧ w2.heap[g]? = some (.cells (cur.setIfInBounds j (.slice (some ⟨g1, 0, none⟩) 128 c1)) t (0, 0)) ∧ Fr [g] w w2 := by
  intro w2 w3
  have hgl := heap_lt hg
  have hg1 : w1.heap[g]? = some (.cells cur t (0, 0)) := below_at hB1 hg hgl
  have hgg : w.heap.size ≤ g1 := (ho.lt g1 rfl).1
  have hne : g1 ≠ g := by omega
  have h2 : w2.heap[g]? = some (.cells (cur.setIfInBounds j (.slice (some ⟨g1, 0, none⟩) 128 c1)) t (0, 0)) := heap_setCell hg1 j _
  have hF2 : Fr [g] w w2 := (Fr.of_below (X := [g]) hB1).trans (Fr.setCell w1 g j _) (by simp)
  have ho2 : w2.ownsRow w.heap.size 5 1 (.slice (some ⟨g1, 0, none⟩) 128 c1) 128 (cells8 l) := by
    rcases ho.2 with ⟨e, _⟩ | ⟨g', cap', cur', e, hB, hg', r⟩
    · cases e
    cases e
    exact ⟨ho.1, .inr ⟨g1, c1, cur', rfl, hB, (Below.heap_setCell w1 _ _ g1 hne).trans hg', r⟩⟩
  have hst := ho2.stored q (.int .u8 c.toNat)
  have hc8 : (cells8 l).set q (.int .u8 c.toNat) = cells8 (l.set q c) := (cells8_set l q c).symm
  rw [hc8] at hst
  refine ⟨hF2.trans (Fr.setCell w2 g1 q _) (by simp; omega), (Below.heap_setCell w2 _ _ g (Ne.symm hne)).trans h2, ⟨by simpa using hl, own_low hst.1⟩, ⟨_, own_cell ho2 (cells8_get l q (by omega))⟩, ho2.frozenAt q, h2, hF2⟩
set_option maxRecDepth 100000 in
set_option maxHeartbeats 3200000 in
theorem rpoke_ok {w : World} {B r : Nat} {vs vl : Value} {ops cut : Int} {off : Bool} {kept : List (List UInt8)} {L : List (Nat × List UInt8)} (h : Rc w r vs vl ops cut off) (hS : Sf w B vs kept) (hL : Ls w B vl L) (hLn : L.length ≤ 1048576) {i q : Nat} (c : UInt8) (hi : i < kept.length) (hq : q < 128) :
    Calls Try.prog 32 #[.pointer (some ⟨r, 0, none⟩), .int .i64 i, .int .i64 q, .int .u8 c.toNat] w fun e w' => e = .returned (.int .i64 0) ∧ Rc w' r vs vl ops cut off ∧ Sf w' B vs (pokeL kept i q c) ∧ Ls w' B vl (L.map (pokeW i q c)) ∧ ∃ Y, Fr Y w w' ∧ Mine w B Y := by
  obtain ⟨ga, ca, rfl⟩ : ∃ ga ca, vs = .slice (some ⟨ga, 0, none⟩) kept.length ca := by obtain ⟨V, _, h2⟩ := hS; exact own_some h2 (by omega)
  obtain ⟨al, cl, rfl⟩ := hL.shape
  obtain ⟨cga, hga, hBga⟩ : ∃ cc, w.heap[ga]? = some (.cells cc 35 (0, 0)) ∧ B ≤ ga := by
    obtain ⟨V, _, h2⟩ := hS
    obtain ⟨cc, hc⟩ := own_type h2 ga (by simp [Value.ownBlock])
    exact ⟨cc, hc, (h2.lt ga rfl).1⟩
  have hm : Mine w B (ga :: (Value.slice al L.length cl).ownBlock.toList) := fun k hk => by
    rcases List.mem_cons.1 hk with rfl | hk
    · exact ⟨hBga, _, _, hga, by decide, by decide, by decide, by decide⟩
    · obtain ⟨K, _, _, hK⟩ := hL
      obtain ⟨cc, hc⟩ := own_type hK k hk
      exact ⟨(hK.lt k (by simpa using hk)).1, _, _, hc, by decide, by decide, by decide, by decide⟩
  obtain ⟨l0, hl0⟩ : ∃ l0, kept[i]? = some l0 := ⟨_, List.getElem?_eq_getElem hi⟩
  obtain ⟨ga', ca', u1, e, hcu, hb1⟩ := hS.get hl0
  cases e
  obtain ⟨gu, cu, rfl⟩ := hb1.shape
  obtain ⟨g1, c1, w1, hrun1, hown1, hB1⟩ := copy_in (w := w.drew) (bc := cu) hb1.1 hb1.news 35
  have hB1' : Below w.heap.size w w1 := ⟨hB1.os, hB1.tape, hB1.output, hB1.size, hB1.block⟩
  obtain ⟨hF3, hrow3, hbk3, ⟨vq, hvq⟩, hfq, hrow2, hF2⟩ := poke_fresh (j := i) (c := c) hga hB1' hown1 hb1.1 hq
  have hrga : r ∉ [ga] := fun hm => by
    obtain rfl : r = ga := by simpa using hm
    rw [Rc, hga] at h; cases h
  have hS3 := hS.put2 rfl hi hF3 (fun cur hc => by rw [hga] at hc; cases hc; exact hrow3) hbk3
  have hpk : pokeL kept i q c = kept.set i (l0.set q c) := by unfold pokeL; rw [hl0]; rfl
  rw [← hpk] at hS3
  have hL3 := hL.fr hF3 (fun g cc hg hm => by
    obtain rfl : g = ga := by simpa using hm
    rw [hga] at hg; cases hg) (fun g cc hg hm => by
    obtain rfl : g = ga := by simpa using hm
    rw [hga] at hg; cases hg)
  have hR3 := h.fr hF3 hrga
  have hR1 := h.fr (Fr.of_below (X := []) hB1') (by simp)
  have hR2 := h.fr hF2 hrga
  have hcu1 : w1.cell? ⟨ga, i, none⟩ = some (.slice (some ⟨gu, 0, none⟩) 128 cu) := by rw [hB1'.cell (p := ⟨ga, i, none⟩) (heap_lt hga)]; exact hcu
  have hcu2 := cell_at hrow2 i (v := .slice (some ⟨g1, 0, none⟩) 128 c1) (by
    have hin : i < cga.size := by
      have := hcu; rw [World.cell?, hga] at this
      exact (Array.getElem?_eq_some_iff.1 (by simpa using this)).1
    simp [hin])
  have hcg1 := open_at (below_at hB1' hga (heap_lt hga)) i
  have HS0 := hid (show w.drew.cell? ⟨r, 0, none⟩ = some (.slice (some ⟨ga, 0, none⟩) kept.length ca) ∧ w.drew.cell? ⟨ga, i, none⟩ = some (.slice (some ⟨gu, 0, none⟩) 128 cu) from ⟨h.c0, hcu⟩)
  have HC1 := hid (And.intro hrun1 (And.intro (And.intro hR1.c0 hcu1) hcg1))
  have HC2 := hid (And.intro hR2.c0 (And.intro hcu2 (And.intro hvq hfq)))
  have h0 := h.c0
  have d1 : decide ((i : Int) < 0) = false := decide_eq_false (by omega)
  have d2 : decide ((kept.length : Int) ≤ (i : Int)) = false := decide_eq_false (by omega)
  have d3 : decide ((q : Int) < 0) = false := decide_eq_false (by omega)
  have d4 : decide ((128 : Int) ≤ (q : Int)) = false := decide_eq_false (by omega)
  have hL0 : pokeTo L i q c 0 = L := by simp [pokeTo]
  rw [← hL0] at hL3
  have HR3 := hid (And.intro hR3 (And.intro hS3 (And.intro hL3 hF3)))
  have HM := hid hm
  have HLn := hid hLn
  clear h hS hL hLn hm hga hBga hcu hb1 hrun1 hown1 hB1 hB1' hF3 hrow3 hbk3 hvq hfq hrow2 hF2 hrga hS3 hpk hL3 hR3 hR1 hR2 hcu1 hcu2 hcg1 hL0 hl0
  go_enter Try.func32, Try.ntmps32
  go_upto_region 5 with fail
  refine z_open (S := fun w' => w'.cell? ⟨r, 0, none⟩ = some (.slice (some ⟨ga, 0, none⟩) kept.length ca) ∧ w'.cell? ⟨ga, i, none⟩ = some (.slice (some ⟨gu, 0, none⟩) 128 cu)) 14 (by kernel_rfl) (by kernel_rfl) (fun _ _ _ _ _ h => h) (L := #[false, false, false, false, false, false, false, false, false, false, false, false, false, false, false]) (by kernel_rfl) ?_
  intro Q' hns hP hN
  have hS := HS0.out
  refine z_pure (i := 0) (v := .pointer (some ⟨r, 0, none⟩)) hns rfl rfl rfl (by kernel_rfl) (by kernel_rfl) hP (y_move rfl (by kernel_rfl) (by kernel_rfl)) (fun _ => hS) rfl (L' := #[true, false, false, false, false, false, false, false, false, false, false, false, false, false, false]) (by kernel_rfl) ?_
  refine z_pure (i := 1) (v := .pointer (some ⟨r, 0, none⟩)) hns rfl rfl rfl (by kernel_rfl) (by kernel_rfl) hP (y_nil rfl (by kernel_rfl) (by kernel_rfl)) (fun _ => hS) rfl (L' := #[true, true, false, false, false, false, false, false, false, false, false, false, false, false, false]) (by kernel_rfl) ?_
  refine z_pure (i := 2) (v := .pointer (some ⟨r, 0, none⟩)) hns rfl rfl rfl (by kernel_rfl) (by kernel_rfl) hP (y_faddr rfl (by kernel_rfl) (by kernel_rfl) (fa62_0 (r))) (fun _ => hS) rfl (L' := #[true, true, true, false, false, false, false, false, false, false, false, false, false, false, false]) (by kernel_rfl) ?_
  refine z_read (i := 3) (v := .slice (some ⟨ga, 0, none⟩) kept.length ca) hns rfl (by kernel_rfl) rfl rfl (by kernel_rfl) (by kernel_rfl) hP (y_load rfl (by kernel_rfl) (by kernel_rfl) (fun w h => load1 Try.isAgg59 h.1)) rfl hS rfl (L' := #[true, true, true, true, false, false, false, false, false, false, false, false, false, false, false]) (by kernel_rfl) ?_
  refine z_pure (i := 4) (v := .int .i64 i) hns rfl rfl rfl (by kernel_rfl) (by kernel_rfl) hP (y_move rfl (by kernel_rfl) (by kernel_rfl)) (fun _ => hS) rfl (L' := #[true, true, true, true, true, false, false, false, false, false, false, false, false, false, false]) (by kernel_rfl) ?_
  refine z_pure (i := 5) (v := .pointer (some ⟨r, 0, none⟩)) hns rfl rfl rfl (by kernel_rfl) (by kernel_rfl) hP (y_move rfl (by kernel_rfl) (by kernel_rfl)) (fun _ => hS) rfl (L' := #[true, true, true, true, true, true, false, false, false, false, false, false, false, false, false]) (by kernel_rfl) ?_
  refine z_pure (i := 6) (v := .pointer (some ⟨r, 0, none⟩)) hns rfl rfl rfl (by kernel_rfl) (by kernel_rfl) hP (y_nil rfl (by kernel_rfl) (by kernel_rfl)) (fun _ => hS) rfl (L' := #[true, true, true, true, true, true, true, false, false, false, false, false, false, false, false]) (by kernel_rfl) ?_
  simp only [List.setIfInBounds_toArray, List.set_cons_zero, List.set_cons_succ]
  refine z_pure (i := 7) (v := .pointer (some ⟨r, 0, none⟩)) hns rfl rfl rfl (by kernel_rfl) (by kernel_rfl) hP (y_faddr rfl (by kernel_rfl) (by kernel_rfl) (fa62_0 (r))) (fun _ => hS) rfl (L' := #[true, true, true, true, true, true, true, true, false, false, false, false, false, false, false]) (by kernel_rfl) ?_
  refine z_read (i := 8) (v := .slice (some ⟨ga, 0, none⟩) kept.length ca) hns rfl (by kernel_rfl) rfl rfl (by kernel_rfl) (by kernel_rfl) hP (y_load rfl (by kernel_rfl) (by kernel_rfl) (fun w h => load1 Try.isAgg59 h.1)) rfl hS rfl (L' := #[true, true, true, true, true, true, true, true, true, false, false, false, false, false, false]) (by kernel_rfl) ?_
  refine z_pure (i := 9) (v := .int .i64 i) hns rfl rfl rfl (by kernel_rfl) (by kernel_rfl) hP (y_move rfl (by kernel_rfl) (by kernel_rfl)) (fun _ => hS) rfl (L' := #[true, true, true, true, true, true, true, true, true, true, false, false, false, false, false]) (by kernel_rfl) ?_
  refine z_pure (i := 10) (v := .pointer (some ⟨ga, i, none⟩)) hns rfl rfl rfl (by kernel_rfl) (by kernel_rfl) hP (y_index rfl (by kernel_rfl) (by kernel_rfl) (by kernel_rfl) (idx59 ga kept.length ca i hi)) (fun _ => hS) rfl (L' := #[true, true, true, true, true, true, true, true, true, true, true, false, false, false, false]) (by kernel_rfl) ?_
  refine z_read (i := 11) (v := .slice (some ⟨gu, 0, none⟩) 128 cu) hns rfl (by kernel_rfl) rfl rfl (by kernel_rfl) (by kernel_rfl) hP (y_load rfl (by kernel_rfl) (by kernel_rfl) (fun w h => load1 Try.isAgg35 h.2)) rfl hS rfl (L' := #[true, true, true, true, true, true, true, true, true, true, true, true, false, false, false]) (by kernel_rfl) ?_
  refine z_val (i := 12) (v := .slice (some ⟨g1, 0, none⟩) 128 c1) (by kernel_rfl) rfl rfl (by kernel_rfl) (run_appOp rfl (by kernel_rfl) (by kernel_rfl) HC1.out.1) HC1.out.2.1 rfl (L' := #[true, true, true, true, true, true, true, true, true, true, true, true, true, false, false]) (by kernel_rfl) ?_
  refine z_val (i := 13) (v := .pointer (some ⟨ga, i, none⟩)) (by kernel_rfl) rfl rfl (by kernel_rfl) (run_idxOp rfl (by kernel_rfl) (by kernel_rfl) (idx59 ga kept.length ca i hi w1)) HC1.out.2.1 rfl (L' := #[true, true, true, true, true, true, true, true, true, true, true, true, true, true, false]) (by kernel_rfl) ?_
  refine z_last (by kernel_rfl) rfl rfl (by kernel_rfl) (run_storeOp rfl (by kernel_rfl) (by kernel_rfl) (store1 (t := 35) Try.sizeOf35 (.slice (some ⟨g1, 0, none⟩) 128 c1) rfl rfl HC1.out.2.1.2 HC1.out.2.2)) rfl (L' := #[true, true, true, true, true, true, true, true, true, true, true, true, true, true, true]) (by kernel_rfl) ?_
  try simp only [List.setIfInBounds_toArray, List.set_cons_zero, List.set_cons_succ]
  refine z_done (by kernel_rfl) ?_ _
  refine hN _ _ ?_
  clear hP hN hns
  clear hS HS0 HC1
  go_upto_region 6 with fail
  refine wp_region_lit ?_
  refine wp_y (v := .pointer (some ⟨r, 0, none⟩)) rfl rfl (y_move rfl (by kernel_rfl) (by kernel_rfl)) rfl ?_
  refine wp_y (v := .pointer (some ⟨r, 0, none⟩)) rfl rfl (y_nil rfl (by kernel_rfl) (by kernel_rfl)) rfl ?_
  refine wp_y (v := .pointer (some ⟨r, 0, none⟩)) rfl rfl (y_faddr rfl (by kernel_rfl) (by kernel_rfl) (fa62_0 (r))) rfl ?_
  refine wp_y (v := .slice (some ⟨ga, 0, none⟩) kept.length ca) rfl rfl (y_load rfl (by kernel_rfl) (by kernel_rfl) (fun w' h => by subst h; exact load1 Try.isAgg59 HC2.out.1)) rfl ?_
  refine wp_y (v := .int .i64 i) rfl rfl (y_move rfl (by kernel_rfl) (by kernel_rfl)) rfl ?_
  refine wp_y (v := .pointer (some ⟨ga, i, none⟩)) rfl rfl (y_index rfl (by kernel_rfl) (by kernel_rfl) (by kernel_rfl) (idx59 ga kept.length ca i hi)) rfl ?_
  refine wp_y (v := .slice (some ⟨g1, 0, none⟩) 128 c1) rfl rfl (y_load rfl (by kernel_rfl) (by kernel_rfl) (fun w' h => by subst h; exact load1 Try.isAgg35 HC2.out.2.1)) rfl ?_
  refine wp_y (v := .int .i64 q) rfl rfl (y_move rfl (by kernel_rfl) (by kernel_rfl)) rfl ?_
  simp only [List.setIfInBounds_toArray, List.set_cons_zero, List.set_cons_succ]
  refine wp_y (v := .int .u8 c.toNat) rfl rfl (y_move rfl (by kernel_rfl) (by kernel_rfl)) rfl ?_
  refine wp_y (v := .pointer (some ⟨g1, q, none⟩)) rfl rfl (y_index rfl (by kernel_rfl) (by kernel_rfl) (by kernel_rfl) (idx35 g1 128 c1 q hq)) rfl ?_
  refine wp_do rfl rfl (run_storeOp rfl (by kernel_rfl) (by kernel_rfl) (store1 (t := 5) Try.sizeOf5 (.int .u8 c.toNat) rfl rfl HC2.out.2.2.1 HC2.out.2.2.2)) ?_
  try simp only [List.setIfInBounds_toArray, List.set_cons_zero, List.set_cons_succ]
  refine wp_end ?_
  clear HC2 h0
  generalize (w1.setCell ⟨ga, i, none⟩ (.slice (some ⟨g1, 0, none⟩) 128 c1)).setCell ⟨g1, q, none⟩ (.int .u8 c.toNat) = w3 at *
  go_upto_region 8 with fail
  go_loopw [9] (fun x wr => ∃ k : Nat, k ≤ L.length ∧ x = .int .i64 k ∧ Rc wr r (.slice (some ⟨ga, 0, none⟩) kept.length ca) (.slice al L.length cl) ops cut off ∧ Sf wr B (.slice (some ⟨ga, 0, none⟩) kept.length ca) (pokeL kept i q c) ∧ Ls wr B (.slice al L.length cl) (pokeTo L i q c k) ∧ Fr (ga :: (Value.slice al L.length cl).ownBlock.toList) w wr) (fun x _ => L.length - (intOf x).toNat)
  case atStart => exact ⟨0, Nat.zero_le _, rfl, HR3.out.1, HR3.out.2.1, HR3.out.2.2.1, HR3.out.2.2.2.mono (by simp)⟩
  case round =>
    obtain ⟨k, hk, rfl, hRr, hSr, hLr, hFr⟩ := hrel
    have hLn' := HLn.out
    have HWk := hid (incR (k := k) (by omega))
    have h1 := hRr.c1
    clear HR3 hLn'
    by_cases hlt : k < L.length
    · have hlt' : decide ((k : Int) < (L.length : Int)) = true := decide_eq_true (by omega)
      have hmes : L.length - ((k + 1 : Nat) : Int).toNat < L.length - (k : Int).toNat := by omega
      obtain ⟨⟨i1, l1⟩, hx⟩ : ∃ x, L[k]? = some x := ⟨_, List.getElem?_eq_getElem hlt⟩
      have hx2 : (pokeTo L i q c k)[k]? = some (i1, l1) := by rw [pokeTo_get hlt]; exact hx
      have hst := pokeTo_step (i := i) (q := q) (c := c) hx
      obtain ⟨gl, u1, rfl, q0, q1, hb1⟩ := hLr.get hx2
      obtain ⟨gu, cu, rfl⟩ := hb1.shape
      have hlt2 : (k : Int) < (L.length : Int) := by omega
      replace q0 : wr.cell? ⟨gl, k * 2, none⟩ = some (.int .i64 i1) := q0
      by_cases hie : i1 = i
      · subst hie
        have hpw : pokeW i1 q c (i1, l1) = (i1, l1.set q c) := by simp [pokeW]
        rw [hpw] at hst
        obtain ⟨cgl, hgl, hBgl⟩ : ∃ cc, wr.heap[gl]? = some (.cells cc 81 (0, 0)) ∧ B ≤ gl := by
          obtain ⟨K, _, _, h2⟩ := hLr
          obtain ⟨cc, hc⟩ := own_type h2 gl (by simp [Value.ownBlock])
          exact ⟨cc, hc, (h2.lt gl rfl).1⟩
        obtain ⟨g1, c1, w1, hrun1, hown1, hB1⟩ := copy_in (w := wr.drew) (bc := cu) hb1.1 hb1.news 35
        have hB1' : Below wr.heap.size wr w1 := ⟨hB1.os, hB1.tape, hB1.output, hB1.size, hB1.block⟩
        obtain ⟨hF3, hrow3, hbk3, ⟨vq, hvq⟩, hfq, hrow2, hF2⟩ := poke_fresh (j := k * 2 + 1) (c := c) hgl hB1' hown1 hb1.1 hq
        have hrgl : r ∉ [gl] := fun hm => by
          obtain rfl : r = gl := by simpa using hm
          rw [Rc, hgl] at hRr; cases hRr
        have hL3 := hLr.put2 hx2 hF3 (fun cur hc => by rw [hgl] at hc; cases hc; exact hrow3) hbk3
        rw [hst] at hL3
        have hS3 := hSr.fr hF3 (fun g cc hg hm => by
          obtain rfl : g = gl := by simpa using hm
          rw [hgl] at hg; cases hg) (fun g cc hg hm => by
          obtain rfl : g = gl := by simpa using hm
          rw [hgl] at hg; cases hg)
        have hR3 := hRr.fr hF3 hrgl
        have hR1 := hRr.fr (Fr.of_below (X := []) hB1') (by simp)
        have hR2 := hRr.fr hF2 hrgl
        have hcu1 : w1.cell? ⟨gl, k * 2 + 1, none⟩ = some (.slice (some ⟨gu, 0, none⟩) 128 cu) := by rw [hB1'.cell (p := ⟨gl, k * 2 + 1, none⟩) (heap_lt hgl)]; exact q1
        have hcu2 := cell_at hrow2 (k * 2 + 1) (v := .slice (some ⟨g1, 0, none⟩) 128 c1) (by
          have hin : k * 2 + 1 < cgl.size := by
            have := q1; rw [World.cell?, hgl] at this
            exact (Array.getElem?_eq_some_iff.1 (by simpa using this)).1
          simp [hin])
        have hcg1 := open_at (below_at hB1' hgl (heap_lt hgl)) (k * 2 + 1)
        have HS0 := hid (show wr.drew.cell? ⟨r, 1, none⟩ = some (.slice (some ⟨gl, 0, none⟩) L.length cl) ∧ wr.drew.cell? ⟨gl, k * 2 + 1, none⟩ = some (.slice (some ⟨gu, 0, none⟩) 128 cu) from ⟨hRr.c1, q1⟩)
        have HC1 := hid (And.intro hrun1 (And.intro (And.intro hR1.c1 hcu1) hcg1))
        have HC2 := hid (And.intro hR2.c1 (And.intro hcu2 (And.intro hvq hfq)))
        have HN := hid (And.intro hR3 (And.intro hS3 (And.intro hL3 (hFr.trans hF3 (by simp [Value.ownBlock])))))
        clear hRr hSr hLr hFr hgl hBgl hb1 hrun1 hown1 hB1 hB1' hF3 hrow3 hbk3 hvq hfq hrow2 hF2 hrgl hL3 hS3 hR3 hR1 hR2 hcu1 hcu2 hcg1 q1 hx hx2 hst hpw
        go_upto_region 11 with fail
        refine z_open (S := fun w' => w'.cell? ⟨r, 1, none⟩ = some (.slice (some ⟨gl, 0, none⟩) L.length cl) ∧ w'.cell? ⟨gl, k * 2 + 1, none⟩ = some (.slice (some ⟨gu, 0, none⟩) 128 cu)) 16 (by kernel_rfl) (by kernel_rfl) (fun _ _ _ _ _ h => h) (L := #[false, false, false, false, false, false, false, false, false, false, false, false, false, false, false, false, false]) (by kernel_rfl) ?_
        intro Q' hns hP hN
        have hS := HS0.out
        refine z_pure (i := 0) (v := .pointer (some ⟨r, 0, none⟩)) hns rfl rfl rfl (by kernel_rfl) (by kernel_rfl) hP (y_move rfl (by kernel_rfl) (by kernel_rfl)) (fun _ => hS) rfl (L' := #[true, false, false, false, false, false, false, false, false, false, false, false, false, false, false, false, false]) (by kernel_rfl) ?_
        refine z_pure (i := 1) (v := .pointer (some ⟨r, 0, none⟩)) hns rfl rfl rfl (by kernel_rfl) (by kernel_rfl) hP (y_nil rfl (by kernel_rfl) (by kernel_rfl)) (fun _ => hS) rfl (L' := #[true, true, false, false, false, false, false, false, false, false, false, false, false, false, false, false, false]) (by kernel_rfl) ?_
        refine z_pure (i := 2) (v := .pointer (some ⟨r, 1, none⟩)) hns rfl rfl rfl (by kernel_rfl) (by kernel_rfl) hP (y_faddr rfl (by kernel_rfl) (by kernel_rfl) (fa62_1 (r))) (fun _ => hS) rfl (L' := #[true, true, true, false, false, false, false, false, false, false, false, false, false, false, false, false, false]) (by kernel_rfl) ?_
        refine z_read (i := 3) (v := .slice (some ⟨gl, 0, none⟩) L.length cl) hns rfl (by kernel_rfl) rfl rfl (by kernel_rfl) (by kernel_rfl) hP (y_load rfl (by kernel_rfl) (by kernel_rfl) (fun w h => load1 Try.isAgg60 h.1)) rfl hS rfl (L' := #[true, true, true, true, false, false, false, false, false, false, false, false, false, false, false, false, false]) (by kernel_rfl) ?_
        refine z_pure (i := 4) (v := .int .i64 k) hns rfl rfl rfl (by kernel_rfl) (by kernel_rfl) hP (y_move rfl (by kernel_rfl) (by kernel_rfl)) (fun _ => hS) rfl (L' := #[true, true, true, true, true, false, false, false, false, false, false, false, false, false, false, false, false]) (by kernel_rfl) ?_
        refine z_pure (i := 5) (v := .pointer (some ⟨r, 0, none⟩)) hns rfl rfl rfl (by kernel_rfl) (by kernel_rfl) hP (y_move rfl (by kernel_rfl) (by kernel_rfl)) (fun _ => hS) rfl (L' := #[true, true, true, true, true, true, false, false, false, false, false, false, false, false, false, false, false]) (by kernel_rfl) ?_
        refine z_pure (i := 6) (v := .pointer (some ⟨r, 0, none⟩)) hns rfl rfl rfl (by kernel_rfl) (by kernel_rfl) hP (y_nil rfl (by kernel_rfl) (by kernel_rfl)) (fun _ => hS) rfl (L' := #[true, true, true, true, true, true, true, false, false, false, false, false, false, false, false, false, false]) (by kernel_rfl) ?_
        simp only [List.setIfInBounds_toArray, List.set_cons_zero, List.set_cons_succ]
        refine z_pure (i := 7) (v := .pointer (some ⟨r, 1, none⟩)) hns rfl rfl rfl (by kernel_rfl) (by kernel_rfl) hP (y_faddr rfl (by kernel_rfl) (by kernel_rfl) (fa62_1 (r))) (fun _ => hS) rfl (L' := #[true, true, true, true, true, true, true, true, false, false, false, false, false, false, false, false, false]) (by kernel_rfl) ?_
        refine z_read (i := 8) (v := .slice (some ⟨gl, 0, none⟩) L.length cl) hns rfl (by kernel_rfl) rfl rfl (by kernel_rfl) (by kernel_rfl) hP (y_load rfl (by kernel_rfl) (by kernel_rfl) (fun w h => load1 Try.isAgg60 h.1)) rfl hS rfl (L' := #[true, true, true, true, true, true, true, true, true, false, false, false, false, false, false, false, false]) (by kernel_rfl) ?_
        refine z_pure (i := 9) (v := .int .i64 k) hns rfl rfl rfl (by kernel_rfl) (by kernel_rfl) hP (y_move rfl (by kernel_rfl) (by kernel_rfl)) (fun _ => hS) rfl (L' := #[true, true, true, true, true, true, true, true, true, true, false, false, false, false, false, false, false]) (by kernel_rfl) ?_
        refine z_pure (i := 10) (v := .pointer (some ⟨gl, k * 2, none⟩)) hns rfl rfl rfl (by kernel_rfl) (by kernel_rfl) hP (y_index rfl (by kernel_rfl) (by kernel_rfl) (by kernel_rfl) (idx60 gl L.length cl k hlt)) (fun _ => hS) rfl (L' := #[true, true, true, true, true, true, true, true, true, true, true, false, false, false, false, false, false]) (by kernel_rfl) ?_
        refine z_pure (i := 11) (v := .pointer (some ⟨gl, k * 2 + 1, none⟩)) hns rfl rfl rfl (by kernel_rfl) (by kernel_rfl) hP (y_faddr rfl (by kernel_rfl) (by kernel_rfl) (fa81_1 gl (k * 2))) (fun _ => hS) rfl (L' := #[true, true, true, true, true, true, true, true, true, true, true, true, false, false, false, false, false]) (by kernel_rfl) ?_
        refine z_read (i := 12) (v := .slice (some ⟨gu, 0, none⟩) 128 cu) hns rfl (by kernel_rfl) rfl rfl (by kernel_rfl) (by kernel_rfl) hP (y_load rfl (by kernel_rfl) (by kernel_rfl) (fun w h => load1 Try.isAgg35 h.2)) rfl hS rfl (L' := #[true, true, true, true, true, true, true, true, true, true, true, true, true, false, false, false, false]) (by kernel_rfl) ?_
        refine z_val (i := 13) (v := .slice (some ⟨g1, 0, none⟩) 128 c1) (by kernel_rfl) rfl rfl (by kernel_rfl) (run_appOp rfl (by kernel_rfl) (by kernel_rfl) HC1.out.1) HC1.out.2.1 rfl (L' := #[true, true, true, true, true, true, true, true, true, true, true, true, true, true, false, false, false]) (by kernel_rfl) ?_
        refine z_val (i := 14) (v := .pointer (some ⟨gl, k * 2, none⟩)) (by kernel_rfl) rfl rfl (by kernel_rfl) (run_idxOp rfl (by kernel_rfl) (by kernel_rfl) (idx60 gl L.length cl k hlt w1)) HC1.out.2.1 rfl (L' := #[true, true, true, true, true, true, true, true, true, true, true, true, true, true, true, false, false]) (by kernel_rfl) ?_
        simp only [List.setIfInBounds_toArray, List.set_cons_zero, List.set_cons_succ]
        refine z_val (i := 15) (v := .pointer (some ⟨gl, k * 2 + 1, none⟩)) (by kernel_rfl) rfl rfl (by kernel_rfl) (run_faOp rfl (by kernel_rfl) (fa81_1 gl (k * 2) w1)) HC1.out.2.1 rfl (L' := #[true, true, true, true, true, true, true, true, true, true, true, true, true, true, true, true, false]) (by kernel_rfl) ?_
        refine z_last (by kernel_rfl) rfl rfl (by kernel_rfl) (run_storeOp rfl (by kernel_rfl) (by kernel_rfl) (store1 (t := 35) Try.sizeOf35 (.slice (some ⟨g1, 0, none⟩) 128 c1) rfl rfl HC1.out.2.1.2 HC1.out.2.2)) rfl (L' := #[true, true, true, true, true, true, true, true, true, true, true, true, true, true, true, true, true]) (by kernel_rfl) ?_
        try simp only [List.setIfInBounds_toArray, List.set_cons_zero, List.set_cons_succ]
        refine z_done (by kernel_rfl) ?_ _
        refine hN _ _ ?_
        clear hP hN hns
        clear hS HS0 HC1
        go_upto_region 12 with fail
        refine wp_region_lit ?_
        refine wp_y (v := .pointer (some ⟨r, 0, none⟩)) rfl rfl (y_move rfl (by kernel_rfl) (by kernel_rfl)) rfl ?_
        refine wp_y (v := .pointer (some ⟨r, 0, none⟩)) rfl rfl (y_nil rfl (by kernel_rfl) (by kernel_rfl)) rfl ?_
        refine wp_y (v := .pointer (some ⟨r, 1, none⟩)) rfl rfl (y_faddr rfl (by kernel_rfl) (by kernel_rfl) (fa62_1 (r))) rfl ?_
        refine wp_y (v := .slice (some ⟨gl, 0, none⟩) L.length cl) rfl rfl (y_load rfl (by kernel_rfl) (by kernel_rfl) (fun w' h => by subst h; exact load1 Try.isAgg60 HC2.out.1)) rfl ?_
        refine wp_y (v := .int .i64 k) rfl rfl (y_move rfl (by kernel_rfl) (by kernel_rfl)) rfl ?_
        refine wp_y (v := .pointer (some ⟨gl, k * 2, none⟩)) rfl rfl (y_index rfl (by kernel_rfl) (by kernel_rfl) (by kernel_rfl) (idx60 gl L.length cl k hlt)) rfl ?_
        refine wp_y (v := .pointer (some ⟨gl, k * 2 + 1, none⟩)) rfl rfl (y_faddr rfl (by kernel_rfl) (by kernel_rfl) (fa81_1 gl (k * 2))) rfl ?_
        refine wp_y (v := .slice (some ⟨g1, 0, none⟩) 128 c1) rfl rfl (y_load rfl (by kernel_rfl) (by kernel_rfl) (fun w' h => by subst h; exact load1 Try.isAgg35 HC2.out.2.1)) rfl ?_
        simp only [List.setIfInBounds_toArray, List.set_cons_zero, List.set_cons_succ]
        refine wp_y (v := .int .i64 q) rfl rfl (y_move rfl (by kernel_rfl) (by kernel_rfl)) rfl ?_
        refine wp_y (v := .int .u8 c.toNat) rfl rfl (y_move rfl (by kernel_rfl) (by kernel_rfl)) rfl ?_
        refine wp_y (v := .pointer (some ⟨g1, q, none⟩)) rfl rfl (y_index rfl (by kernel_rfl) (by kernel_rfl) (by kernel_rfl) (idx35 g1 128 c1 q hq)) rfl ?_
        refine wp_do rfl rfl (run_storeOp rfl (by kernel_rfl) (by kernel_rfl) (store1 (t := 5) Try.sizeOf5 (.int .u8 c.toNat) rfl rfl HC2.out.2.2.1 HC2.out.2.2.2)) ?_
        try simp only [List.setIfInBounds_toArray, List.set_cons_zero, List.set_cons_succ]
        refine wp_end ?_
        clear HC2
        generalize (w1.setCell ⟨gl, k * 2 + 1, none⟩ (.slice (some ⟨g1, 0, none⟩) 128 c1)).setCell ⟨g1, q, none⟩ (.int .u8 c.toNat) = w9 at *
        go_upto_region 9 with fail
        refine wp_region_lit ?_
        refine wp_move (v := .int .i64 k) (by kernel_rfl) ?_
        refine wp_addi (z := ((k + 1 : Nat) : Int)) (by kernel_rfl) (by kernel_rfl) HWk.out ?_
        refine wp_assign (v := .int .i64 (k + 1 : Nat)) (by kernel_rfl) ?_
        dsimp only [Act.put]
        simp only [List.setIfInBounds_toArray, List.set_cons_zero, List.set_cons_succ]
        refine wp_end ?_
        go_wp2
        go_roundw
        case rel => exact ⟨k + 1, hlt, rfl, HN.out⟩
        case measure => exact hmes
      · have hpw : pokeW i q c (i1, l1) = (i1, l1) := by simp [pokeW, hie]
        rw [hpw, List.set_getElem?_self' hx2] at hst
        rw [hst] at hLr
        have hie' : (i1 : Int) ≠ (i : Int) := by omega
        have HN := hid (And.intro hRr (And.intro hSr (And.intro hLr hFr)))
        clear hRr hSr hLr hFr hb1 q1 hx hx2 hst hpw
        go_upto_region 9 with fail
        refine wp_region_lit ?_
        refine wp_move (v := .int .i64 k) (by kernel_rfl) ?_
        refine wp_addi (z := ((k + 1 : Nat) : Int)) (by kernel_rfl) (by kernel_rfl) HWk.out ?_
        refine wp_assign (v := .int .i64 (k + 1 : Nat)) (by kernel_rfl) ?_
        dsimp only [Act.put]
        simp only [List.setIfInBounds_toArray, List.set_cons_zero, List.set_cons_succ]
        refine wp_end ?_
        go_wp2
        go_roundw
        case rel => exact ⟨k + 1, hlt, rfl, HN.out⟩
        case measure => exact hmes
    · have hlt' : decide ((k : Int) < (L.length : Int)) = false := decide_eq_false (by omega)
      have hkL : k = L.length := by omega
      have hpe : pokeTo L i q c L.length = L.map (pokeW i q c) := by simp [pokeTo]
      rw [hkL, hpe] at hLr
      have HZ := hid (And.intro hRr (And.intro hSr (And.intro hLr hFr)))
      clear hRr hSr hLr hFr hkL hk HWk hpe
      go_wp2
      go_ret
      exact ⟨rfl, HZ.out.1, HZ.out.2.1, HZ.out.2.2.1, _, HZ.out.2.2.2, HM.out⟩
end Go.Proofs.Ytkfomolglangdaa
