/- The document's Write. -/
import Derived.Test.YtkfomolglangdaaKZ
namespace Go.Proofs.Ytkfomolglangdaa
open Go Go.RowKit

section
variable {o : Oper} {a : Act} {w w1 : World}
theorem run_appOp {t : TypeId} {x y : Operand} {p q v : Value} (hop : o.op = .call { callee := .builtin .append, args := #[x, y], argTypes := #[t, t] }) (hx : a.eval x = p) (hy : a.eval y = q) (hr : (Builtin.append_ #[t, t] o.type #[p, q]).run Try.prog w = .ok v w1) :
    (execOp a.eval o).run Try.prog w = .ok (.value v) w1 := by
  unfold execOp
  simp only [hop, resolve, invoke, builtin, Sem.run_bind, Sem.run_pure, Result.andThen_ok, List.map_toArray, List.map_cons, List.map_nil, hx, hy, hr]
theorem run_buildOp {t : TypeId} {p q : Operand} {i j : Nat} {x y v : Value} (hop : o.op = .build t #[(i, p), (j, q)]) (hp : a.eval p = x) (hq : a.eval q = y) (hr : (Instr.build t #[(i, x), (j, y)]).run Try.prog w = .ok v w1) :
    (execOp a.eval o).run Try.prog w = .ok (.value v) w1 := by
  have e : (#[(i, p), (j, q)] : Array (Nat × Operand)).map (fun (i, x) => (i, a.eval x)) = #[(i, x), (j, y)] := by simp [hp, hq]
  unfold execOp; rw [hop]; simp only [e, Sem.run_bind, hr, Result.andThen_ok]; rfl
theorem run_bsliceOp {t : TypeId} {p : Operand} {i n : Nat} {x v : Value} (hop : o.op = .buildSlice t n #[(i, p)]) (hp : a.eval p = x) (hr : (Instr.buildSlice t n #[(i, x)]).run Try.prog w = .ok v w1) :
    (execOp a.eval o).run Try.prog w = .ok (.value v) w1 := by
  have e : (#[(i, p)] : Array (Nat × Operand)).map (fun (i, x) => (i, a.eval x)) = #[(i, x)] := by simp [hp]
  unfold execOp; rw [hop]; simp only [e, Sem.run_bind, hr, Result.andThen_ok]; rfl
end
theorem fa62_0 (b : Nat) (w : World) : (Instr.fieldAt 62 (.pointer (some ⟨b, 0, none⟩)) 0).run Try.prog w = .ok (.pointer (some ⟨b, 0, none⟩)) w := by go_simp
theorem fa62_1 (b : Nat) (w : World) : (Instr.fieldAt 62 (.pointer (some ⟨b, 0, none⟩)) 1).run Try.prog w = .ok (.pointer (some ⟨b, 1, none⟩)) w := by go_simp
theorem build81 (w : World) (i g n cap : Nat) : (Instr.build 81 #[(0, .int .i64 i), (1, .slice (some ⟨g, 0, none⟩) n cap)]).run Try.prog w = .ok (.agg #[.int .i64 i, .slice (some ⟨g, 0, none⟩) n cap]) w := by go_simp
theorem bslice81 (w : World) (i g n cap : Nat) : (Instr.buildSlice 60 1 #[(0, .agg #[.int .i64 i, .slice (some ⟨g, 0, none⟩) n cap])]).run Try.prog w = .ok (.slice (some ⟨w.heap.size, 0, none⟩) 1 1) (w.alloc (.cells #[.int .i64 i, .slice (some ⟨g, 0, none⟩) n cap] 81)) := by go_simp
theorem info81 : (Try.prog.info? 81).map (fun i => (i.zero, i.size, i.bytes)) = some (some (.agg #[.int .i64 0, .slice none 0 0]), 2, 32) := by kernel_rfl
theorem info35 : (Try.prog.info? 35).map (fun i => (i.zero, i.size, i.bytes)) = some (some (.slice none 0 0), 1, 24) := by kernel_rfl
/-- Bytes that are handed in are copied. -/
theorem copy_in {w : World} {bb bo bc : Nat} {l : List UInt8} (hl : l.length = 128) (hr : ∀ (j : Nat) (u : Value), (cells8 l)[j]? = some u → w.cell? ((⟨bb, bo, none⟩ : Addr).add j) = some u) (ty : TypeId) :
    ∃ g c w', (Builtin.append_ #[35, 35] ty #[.slice none 0 0, .slice (some ⟨bb, bo, none⟩) 128 bc]).run Try.prog w = .ok (.slice (some ⟨g, 0, none⟩) 128 c) w' ∧ w'.ownsRow w.heap.size 5 1 (.slice (some ⟨g, 0, none⟩) 128 c) 128 (cells8 l) ∧ Below w.heap.size w w' := by
  obtain ⟨i0, hi, hz0, hz1, hz2⟩ := info_parts info8
  obtain ⟨v', w', hr, ho, hg, _⟩ := run_append_own (P := Try.prog) w w.heap.size 35 ty 5 i0 (.int .u8 0) 1 1 Try.underlying35 hi hz0 hz1 hz2 rfl (by decide) (.slice none 0 0) 0 [] (World.ownsRow_nil _ _ _ _) ⟨bb, bo, none⟩ 128 bc (cells8 l)
    (by rw [cells8_len, hl]) hr (cells8_one l) (by unfold maxLen; omega) (by omega) (Nat.le_refl _)
  have ho' : w'.ownsRow w.heap.size 5 1 v' 128 (cells8 l) := by simpa using ho
  obtain ⟨g, c, rfl⟩ := own_some ho' (by omega)
  exact ⟨g, c, w', hr, ho', grown_below hg⟩
/-- A loose write is laid behind those there are. -/
theorem more_in {w : World} {B : Nat} {vl : Value} {L : List (Nat × List UInt8)} {i : Nat} {l : List UInt8} {g1 c1 : Nat} (hL : Ls w B vl L) (hb : Bk w (.slice (some ⟨g1, 0, none⟩) 128 c1) l) (hn : L.length ≤ 1048576) (hBs : B ≤ w.heap.size) (ty : TypeId) :
    ∃ g c w', (Builtin.append_ #[60, 60] ty #[vl, .slice (some ⟨w.heap.size, 0, none⟩) 1 1]).run Try.prog (w.alloc (.cells #[.int .i64 i, .slice (some ⟨g1, 0, none⟩) 128 c1] 81)) = .ok (.slice (some ⟨g, 0, none⟩) (L.length + 1) c) w' ∧
      Ls w' B (.slice (some ⟨g, 0, none⟩) (L.length + 1) c) (L ++ [(i, l)]) ∧ Fr vl.ownBlock.toList w w' ∧ (∀ k ∈ vl.ownBlock.toList, B ≤ k ∧ ∃ c, w.heap[k]? = some (.cells c 81 (0, 0))) := by
  obtain ⟨i0, hi, hz0, hz1, hz2⟩ := info_parts info81
  obtain ⟨K, hK1, hK2, hK3⟩ := hL
  have hB : Fr [] w (w.alloc (.cells #[.int .i64 i, .slice (some ⟨g1, 0, none⟩) 128 c1] 81)) := Fr.alloc _ _
  obtain ⟨v', w', hr, ho, hg, _⟩ := run_append_own (P := Try.prog) (w.alloc (.cells #[.int .i64 i, .slice (some ⟨g1, 0, none⟩) 128 c1] 81)) B 60 ty 81 i0 (.agg #[.int .i64 0, .slice none 0 0]) 2 32 Try.underlying60 hi hz0 hz1 hz2 rfl (by decide) vl L.length _ (hK3.alloc _) ⟨w.heap.size, 0, none⟩ 1 1 [.int .i64 i, .slice (some ⟨g1, 0, none⟩) 128 c1]
    rfl (fun j u hj => by rw [Addr.add_lit, Nat.zero_add]; exact cell_at (heap_alloc_last w _) j (by simpa using hj)) (fun u hu => by simp only [List.mem_cons, List.not_mem_nil, or_false] at hu; rcases hu with rfl | rfl <;> rfl) (by unfold maxLen; omega) (by omega) (by simp; omega)
  obtain ⟨g, c, rfl⟩ := own_some ho (by omega)
  have hF : Fr vl.ownBlock.toList w w' := (hB.mono (Y := vl.ownBlock.toList) (by simp)).trans (grown_fr hg) (fun x hx => .inl hx)
  have ht := own_type hK3
  have hbk : ∀ v l, Bk w v l → Bk w' v l := fun v l h => h.fr hF (fun g c hg' hm => by obtain ⟨c', hc⟩ := ht g hm; rw [hg'] at hc; cases hc)
  refine ⟨g, c, w', hr, ⟨K ++ [((i, l), .slice (some ⟨g1, 0, none⟩) 128 c1)], by simp [hK1], fun k hk => ?_, by simpa [lc] using ho⟩, hF, fun k hk => ⟨(hK3.lt k (by simpa using hk)).1, ht k hk⟩⟩
  rcases List.mem_append.1 hk with hk | hk
  · exact hbk _ _ (hK2 k hk)
  · obtain rfl : k = ((i, l), .slice (some ⟨g1, 0, none⟩) 128 c1) := by simpa using hk
    exact hbk _ _ hb

section
variable {w : World} {r : Nat} {vs vl : Value} {ops cut : Int} {off : Bool}
set_option maxRecDepth 100000
set_option maxHeartbeats 800000
theorem rwrite_gone (h : Rc w r vs vl ops cut off) (hlo : (lost cut ops || off) = true) (x v : Value) :
    Calls Try.prog 27 #[.pointer (some ⟨r, 0, none⟩), x, v] w fun e w' => e = .returned (.int .i64 43) ∧ Rc w' r vs vl ops cut true ∧ Fr [r] w w' := by
  have H := hid (rbegins_any w r vs vl ops cut off h)
  rw [hlo, if_pos rfl] at H
  clear h hlo
  go_enter Try.func27, Try.ntmps27
  go_wp2_with fail
  refine H.out.mono ?_
  rintro e w1 ⟨rfl, hR, hF⟩
  go_wp2
  go_ret
  exact ⟨rfl, hR, hF⟩
theorem rwrite_at {a : Option Addr} {n ca : Nat} (h : Rc w r (.slice a n ca) vl ops cut off) (hlo : (lost cut ops || off) = false) (x : Int) (v : Value) (hx : x < 0 ∨ (n : Int) ≤ x) :
    Calls Try.prog 27 #[.pointer (some ⟨r, 0, none⟩), .int .i64 x, v] w fun e w' => e = .returned (.int .i64 41) ∧ Rc w' r (.slice a n ca) vl ops cut false ∧ Fr [r] w w' := by
  have H := hid (rbegins_any w r _ vl ops cut off h)
  rw [hlo, if_neg (by decide)] at H
  clear h hlo
  by_cases e : x < 0
  · have d0 : decide (x < 0) = true := decide_eq_true e
    clear hx
    go_enter Try.func27, Try.ntmps27
    go_wp2_with fail
    refine H.out.mono ?_
    rintro e w1 ⟨rfl, hR, hF⟩
    have h0 := hR.c0
    have HR := hid hR
    clear hR
    go_wp2
    go_ret
    exact ⟨rfl, HR.out, hF⟩
  · have d0 : decide (x < 0) = false := decide_eq_false e
    have d1 : decide ((n : Int) ≤ x) = true := decide_eq_true (by omega)
    clear hx
    go_enter Try.func27, Try.ntmps27
    go_wp2_with fail
    refine H.out.mono ?_
    rintro e w1 ⟨rfl, hR, hF⟩
    have h0 := hR.c0
    have HR := hid hR
    clear hR
    go_wp2
    go_ret
    exact ⟨rfl, HR.out, hF⟩
theorem rwrite_len {a : Option Addr} {n ca : Nat} (h : Rc w r (.slice a n ca) vl ops cut off) (hlo : (lost cut ops || off) = false) (i : Nat) (hi : i < n) (va : Option Addr) (ln cap : Nat) (hl : ln ≠ 128) :
    Calls Try.prog 27 #[.pointer (some ⟨r, 0, none⟩), .int .i64 i, .slice va ln cap] w fun e w' => e = .returned (.int .i64 42) ∧ Rc w' r (.slice a n ca) vl ops cut false ∧ Fr [r] w w' := by
  have H := hid (rbegins_any w r _ vl ops cut off h)
  rw [hlo, if_neg (by decide)] at H
  clear h hlo
  have d0 : decide ((i : Int) < 0) = false := decide_eq_false (by omega)
  have d1 : decide ((n : Int) ≤ (i : Int)) = false := decide_eq_false (by omega)
  have d2 : ¬ n ≤ i := by omega
  have d3 : ((ln : Int) == 128) = false := by rw [beq_eq_false_iff_ne]; omega
  clear hi
  go_enter Try.func27, Try.ntmps27
  go_wp2_with fail
  refine H.out.mono ?_
  rintro e w1 ⟨rfl, hR, hF⟩
  have h0 := hR.c0
  have HR := hid hR
  clear hR
  go_wp2
  go_ret
  exact ⟨rfl, HR.out, hF⟩
theorem rwrite_full {a : Option Addr} {n ca : Nat} (h : Rc w r (.slice a n ca) vl ops cut off) (hlo : (lost cut ops || off) = false) (i : Nat) (hi : i < n) (va : Option Addr) (cap : Nat) (ho : 1048576 ≤ ops) :
    Calls Try.prog 27 #[.pointer (some ⟨r, 0, none⟩), .int .i64 i, .slice va 128 cap] w fun e w' => e = .returned (.int .i64 44) ∧ Rc w' r (.slice a n ca) vl ops cut false ∧ Fr [r] w w' := by
  have H := hid (rbegins_any w r _ vl ops cut off h)
  rw [hlo, if_neg (by decide)] at H
  clear h hlo
  have d0 : decide ((i : Int) < 0) = false := decide_eq_false (by omega)
  have d1 : decide ((n : Int) ≤ (i : Int)) = false := decide_eq_false (by omega)
  have d2 : ¬ n ≤ i := by omega
  have d3 : decide (1048576 ≤ ops) = true := decide_eq_true ho
  clear hi
  go_enter Try.func27, Try.ntmps27
  go_wp2_with fail
  refine H.out.mono ?_
  rintro e w1 ⟨rfl, hR, hF⟩
  have h0 := hR.c0
  have h2 := hR.c2
  have HR := hid hR
  clear hR
  go_wp2
  go_ret
  exact ⟨rfl, HR.out, hF⟩
theorem rwrite_ok {a : Option Addr} {n ca B : Nat} {L : List (Nat × List UInt8)} (h : Rc w r (.slice a n ca) vl ops cut off) (hlo : (lost cut ops || off) = false) (hL : Ls w B vl L) (hB : B ≤ r) (i : Nat) (hi : i < n) (bb bo bc : Nat) (l : List UInt8) (hl : l.length = 128)
    (hr : ∀ (j : Nat) (u : Value), (cells8 l)[j]? = some u → w.cell? ((⟨bb, bo, none⟩ : Addr).add j) = some u) (hne : bb ≠ r) (ho0 : 0 ≤ ops) (ho : ops < 1048576) (hLn : L.length ≤ 1048576) :
    Calls Try.prog 27 #[.pointer (some ⟨r, 0, none⟩), .int .i64 i, .slice (some ⟨bb, bo, none⟩) 128 bc] w fun e w' => e = .returned (.int .i64 0) ∧ ∃ vl', Rc w' r (.slice a n ca) vl' (ops + 1) cut false ∧ Ls w' B vl' (L ++ [(i, l)]) ∧ Fr (r :: vl.ownBlock.toList) w w' ∧ Mine w B (r :: vl.ownBlock.toList) := by
  have H := hid (rbegins_any w r _ vl ops cut off h)
  rw [hlo, if_neg (by decide)] at H
  have hrm : Mine w B [r] := h.mine hB
  have ne : ∀ (g : Nat) (c : Array Value) (t : TypeId), t ≠ 62 → w.heap[g]? = some (.cells c t (0, 0)) → g ∉ [r] := fun g c t ht hg => h.ne ht hg
  have d0 : decide ((i : Int) < 0) = false := decide_eq_false (by omega)
  have d1 : decide ((n : Int) ≤ (i : Int)) = false := decide_eq_false (by omega)
  have d2 : ¬ n ≤ i := by omega
  have d3 : decide (1048576 ≤ ops) = false := decide_eq_false (by omega)
  have HW := hid (show wrap64 (ops + 1) = ops + 1 by unfold wrap64; omega)
  have HL := hid hL
  have HLn := hid hLn
  clear h hlo hi hL hLn ho ho0
  go_enter Try.func27, Try.ntmps27
  go_wp2_with fail
  refine H.out.mono ?_
  rintro e wb ⟨rfl, hR, hF⟩
  have h0 := hR.c0
  have h2 := hR.c2
  have hrb : ∀ (j : Nat) (u : Value), (cells8 l)[j]? = some u → wb.drew.cell? ((⟨bb, bo, none⟩ : Addr).add j) = some u := fun j u hj => by
    have q := hr j u hj
    rw [Addr.add_lit] at q ⊢
    have hb := hF.block bb (World.block_lt_of_cell? w _ q) (by simpa using hne)
    rw [← q]
    exact World.cell?_of_block (w := w) (w' := wb.drew) hb
  obtain ⟨g1, c1, w1, hrun1, hown1, hB1⟩ := copy_in (w := wb.drew) (bc := bc) hl hrb 35
  have hB1' : Below wb.heap.size wb w1 := ⟨hB1.os, hB1.tape, hB1.output, hB1.size, hB1.block⟩
  have hR1 : Rc w1 r (.slice a n ca) vl ops cut false := below_at hB1 (w := wb.drew) hR (heap_lt hR)
  have hL1 : Ls w1 B vl L := (HL.out.fr hF (fun g c => ne g c _ (by decide)) (fun g c => ne g c _ (by decide))).fr (Fr.of_below (X := []) hB1') (by simp) (by simp)
  obtain ⟨g3, c3, w3, hrun3, hL3, hF3, hty⟩ := more_in (i := i) hL1 ⟨hl, own_low hown1⟩ HLn.out (Nat.le_of_lt (Nat.lt_of_le_of_lt hB (heap_lt hR1))) 60
  have hrv : r ∉ vl.ownBlock.toList := fun hm => by
    obtain ⟨_, c, hc⟩ := hty r hm
    rw [Rc, hc] at hR1; cases hR1
  have hR3 : Rc w3 r (.slice a n ca) vl ops cut false := hR1.fr hF3 hrv
  have hR4 : Rc (w3.setCell ⟨r, 1, none⟩ (.slice (some ⟨g3, 0, none⟩) (L.length + 1) c3)) r (.slice a n ca) (.slice (some ⟨g3, 0, none⟩) (L.length + 1) c3) ops cut false := heap_setCell hR3 1 _
  have hF4 : Fr [r] w3 (w3.setCell ⟨r, 1, none⟩ (.slice (some ⟨g3, 0, none⟩) (L.length + 1) c3)) := Fr.setCell _ _ _ _
  have hL4 := hL3.fr hF4 (fun g c => hR3.ne (by decide)) (fun g c => hR3.ne (by decide))
  have hFw : Fr (r :: vl.ownBlock.toList) w (w3.setCell ⟨r, 1, none⟩ (.slice (some ⟨g3, 0, none⟩) (L.length + 1) c3)) :=
    (((hF.mono (Y := r :: vl.ownBlock.toList) (by simp)).trans (Fr.of_below (X := []) hB1') (by simp)).trans hF3 (fun x hx => .inl (List.mem_cons_of_mem _ hx))).trans hF4 (by simp)
  have hmine : Mine w B (r :: vl.ownBlock.toList) := fun k hk => by
    rcases List.mem_cons.1 hk with rfl | hk
    · exact hrm k (by simp)
    · obtain ⟨K, _, _, hK⟩ := HL.out
      obtain ⟨c, hc⟩ := own_type hK k hk
      exact ⟨(hK.lt k (by simpa using hk)).1, c, _, hc, by decide, by decide, by decide, by decide⟩
  have HR := hid hR
  have HC := hid (And.intro hrun1 hR1.c1)
  have HC2 := hid ((hR1.fr (Fr.alloc w1 (.cells #[.int .i64 i, .slice (some ⟨g1, 0, none⟩) 128 c1] 81)) (by simp)).c1)
  have HC3 := hid (And.intro hrun3 (And.intro hR3.c1 (hR3.f 1)))
  have HE := hid (And.intro hR4 (And.intro hL4 (And.intro hFw hmine)))
  clear hR hF hrb hrun1 hown1 hB1 hB1' hR1 hL1 hrun3 hL3 hF3 hty hrv hR3 hR4 hF4 hL4 hFw hmine hrm ne HL HLn hr
  go_upto_region 10 with fail
  refine z_open (S := fun w' => w'.cell? ⟨r, 1, none⟩ = some vl) 13 (by kernel_rfl) (by kernel_rfl) (fun _ _ _ _ _ h => h) (L := #[false, false, false, false, false, false, false, false, false, false, false, false, false, false]) (by kernel_rfl) ?_
  intro Q' hns hP hN
  have hS := (show wb.drew.cell? ⟨r, 1, none⟩ = some vl from HR.out.c1)
  refine z_pure (i := 0) (v := .pointer (some ⟨r, 0, none⟩)) hns rfl rfl rfl (by kernel_rfl) (by kernel_rfl) hP (y_move rfl (by kernel_rfl) (by kernel_rfl)) (fun _ => hS) rfl (L' := #[true, false, false, false, false, false, false, false, false, false, false, false, false, false]) (by kernel_rfl) ?_
  refine z_pure (i := 1) (v := .pointer (some ⟨r, 0, none⟩)) hns rfl rfl rfl (by kernel_rfl) (by kernel_rfl) hP (y_move rfl (by kernel_rfl) (by kernel_rfl)) (fun _ => hS) rfl (L' := #[true, true, false, false, false, false, false, false, false, false, false, false, false, false]) (by kernel_rfl) ?_
  refine z_pure (i := 2) (v := .pointer (some ⟨r, 0, none⟩)) hns rfl rfl rfl (by kernel_rfl) (by kernel_rfl) hP (y_nil rfl (by kernel_rfl) (by kernel_rfl)) (fun _ => hS) rfl (L' := #[true, true, true, false, false, false, false, false, false, false, false, false, false, false]) (by kernel_rfl) ?_
  refine z_pure (i := 3) (v := .pointer (some ⟨r, 1, none⟩)) hns rfl rfl rfl (by kernel_rfl) (by kernel_rfl) hP (y_faddr rfl (by kernel_rfl) (by kernel_rfl) (fa62_1 (r))) (fun _ => hS) rfl (L' := #[true, true, true, true, false, false, false, false, false, false, false, false, false, false]) (by kernel_rfl) ?_
  refine z_read (i := 4) (v := vl) hns rfl (by kernel_rfl) rfl rfl (by kernel_rfl) (by kernel_rfl) hP (y_load rfl (by kernel_rfl) (by kernel_rfl) (fun w h => load1 Try.isAgg60 h)) rfl hS rfl (L' := #[true, true, true, true, true, false, false, false, false, false, false, false, false, false]) (by kernel_rfl) ?_
  refine z_pure (i := 5) (v := .int .i64 i) hns rfl rfl rfl (by kernel_rfl) (by kernel_rfl) hP (y_move rfl (by kernel_rfl) (by kernel_rfl)) (fun _ => hS) rfl (L' := #[true, true, true, true, true, true, false, false, false, false, false, false, false, false]) (by kernel_rfl) ?_
  refine z_pure (i := 6) (v := .slice (some ⟨bb, bo, none⟩) 128 bc) hns rfl rfl rfl (by kernel_rfl) (by kernel_rfl) hP (y_move rfl (by kernel_rfl) (by kernel_rfl)) (fun _ => hS) rfl (L' := #[true, true, true, true, true, true, true, false, false, false, false, false, false, false]) (by kernel_rfl) ?_
  simp only [List.setIfInBounds_toArray, List.set_cons_zero, List.set_cons_succ]
  refine z_val (i := 7) (v := .slice (some ⟨g1, 0, none⟩) 128 c1) (by kernel_rfl) rfl rfl (by kernel_rfl) (run_appOp rfl (by kernel_rfl) (by kernel_rfl) HC.out.1) HC.out.2 rfl (L' := #[true, true, true, true, true, true, true, true, false, false, false, false, false, false]) (by kernel_rfl) ?_
  refine z_val (i := 8) (v := .agg #[.int .i64 i, .slice (some ⟨g1, 0, none⟩) 128 c1]) (by kernel_rfl) rfl rfl (by kernel_rfl) (run_buildOp rfl (by kernel_rfl) (by kernel_rfl) (build81 w1 i g1 128 c1)) HC.out.2 rfl (L' := #[true, true, true, true, true, true, true, true, true, false, false, false, false, false]) (by kernel_rfl) ?_
  refine z_val (i := 9) (v := .slice (some ⟨w1.heap.size, 0, none⟩) 1 1) (by kernel_rfl) rfl rfl (by kernel_rfl) (run_bsliceOp rfl (by kernel_rfl) (bslice81 w1 i g1 128 c1)) HC2.out rfl (L' := #[true, true, true, true, true, true, true, true, true, true, false, false, false, false]) (by kernel_rfl) ?_
  refine z_val (i := 10) (v := .slice (some ⟨g3, 0, none⟩) (L.length + 1) c3) (by kernel_rfl) rfl rfl (by kernel_rfl) (run_appOp rfl (by kernel_rfl) (by kernel_rfl) HC3.out.1) HC3.out.2.1 rfl (L' := #[true, true, true, true, true, true, true, true, true, true, true, false, false, false]) (by kernel_rfl) ?_
  refine z_pure (i := 11) (v := .pointer (some ⟨r, 0, none⟩)) hns rfl rfl rfl (by kernel_rfl) (by kernel_rfl) hP (y_nil rfl (by kernel_rfl) (by kernel_rfl)) (fun _ => HC3.out.2.1) rfl (L' := #[true, true, true, true, true, true, true, true, true, true, true, true, false, false]) (by kernel_rfl) ?_
  refine z_pure (i := 12) (v := .pointer (some ⟨r, 1, none⟩)) hns rfl rfl rfl (by kernel_rfl) (by kernel_rfl) hP (y_faddr rfl (by kernel_rfl) (by kernel_rfl) (fa62_1 (r))) (fun _ => HC3.out.2.1) rfl (L' := #[true, true, true, true, true, true, true, true, true, true, true, true, true, false]) (by kernel_rfl) ?_
  refine z_last (by kernel_rfl) rfl rfl (by kernel_rfl) (run_storeOp rfl (by kernel_rfl) (by kernel_rfl) (store1 (t := 60) Try.sizeOf60 (.slice (some ⟨g3, 0, none⟩) (L.length + 1) c3) rfl rfl HC3.out.2.1 HC3.out.2.2)) rfl (L' := #[true, true, true, true, true, true, true, true, true, true, true, true, true, true]) (by kernel_rfl) ?_
  simp only [List.setIfInBounds_toArray, List.set_cons_zero, List.set_cons_succ]
  refine z_done (by kernel_rfl) ?_ _
  refine hN _ _ ?_
  clear hP hN hns
  clear HC HC2 HC3 HR hS h0 h2
  generalize w3.setCell ⟨r, 1, none⟩ (.slice (some ⟨g3, 0, none⟩) (L.length + 1) c3) = w4 at *
  have c2 := HE.out.1.c2
  have f2 := HE.out.1.f 2
  have hw : wrap64 (ops + 1) = ops + 1 := HW.out
  go_wp2
  go_ret
  refine ⟨rfl, _, heap_setCell HE.out.1 2 (.int .i64 (ops + 1)), HE.out.2.1.fr (Fr.setCell w4 r 2 _) (fun g c => HE.out.1.ne (by decide)) (fun g c => HE.out.1.ne (by decide)), HE.out.2.2.1.trans (Fr.setCell w4 r 2 _) (by simp), HE.out.2.2.2⟩
end
end Go.Proofs.Ytkfomolglangdaa
