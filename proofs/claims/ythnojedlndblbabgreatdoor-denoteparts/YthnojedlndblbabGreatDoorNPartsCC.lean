/- the text NPartsC -/
import Derived.Test.YthnojedlndblbabGreatDoorNPartsBC
import Derived.Test.DevTool
import Derived.Test.YthnojedlndblbabGreatDoorNGd
namespace Go.Proofs.YthnojedlndblbabGreatDoor
open Go Go.RowKit

set_option maxRecDepth 100000 in
set_option maxHeartbeats 8000000 in
seal rn rnN rnS Goes ans atEnd put0 put putM opened openedY putA0 putA oneSt st0 keep mkSt newSt in
theorem parts_k1 {w w1 : World} {day : Int} (hB1 : Below w.heap.size w w1) {op k : Int} {s : List UInt8} {a : Option Addr} {N cc g4 : Nat} {ca : Co} {l m X : List (Int × Int)} {t u W : List (List UInt8 × Int)} {a1 a2 a3 a5 b1 b2 b4 b6 : Option Addr} {c1 c2 c3 c5 d1 d2 d4 d6 : Nat} {f h : Int} (hN : Nc w.heap.size w (cv op k s (.slice a N cc)) ca) (hszc : szC ca ≤ 2000) (y4 : w1.heap[g4]? = some (cO op k s (.slice a N cc))) (hl : Lvs w.heap.size w1 (.slice a1 l.length c1) l) (hm : Lvs w.heap.size w1 (.slice a2 m.length c2) m) (hg : Lvs w.heap.size w1 (.slice a3 (l.map fun x => (x.1 + 1, -x.2)).length c3) (l.map fun x => (x.1 + 1, -x.2))) (ht : Trs w.heap.size day w1 (.slice b1 t.length d1) t) (hu : Trs w.heap.size day w1 (.slice b2 u.length d2) u) (hv : Trs w.heap.size day w1 (.slice b4 (t.map fun x => (x.1, -x.2)).length d4) (t.map fun x => (x.1, -x.2))) (hx : Lvs w.heap.size w1 (.slice a5 X.length c5) X) (hw : Trs w.heap.size day w1 (.slice b6 W.length d6) W) (hlb : ∀ x ∈ l, 0 ≤ x.1 ∧ x.1 ≤ 2000) (hlf : ∀ x ∈ l, inM x.2) (htf : ∀ x ∈ t, inM x.2) (hl1 : l.length ≤ 2000) (ht1 : t.length ≤ 10000)
    (hfh : (f = 150 ∧ h = 150) ∨ (f = 0 ∧ h = 150) ∨ (f = 0 ∧ h = 0 ∧ W = t ++ u ∧ X = l.map (fun x => (x.1 + 1, x.2)) ++ m.map (fun x => (x.1 + 1 + szC ca, x.2)) ∧ (∀ x ∈ m, 0 ≤ x.1 ∧ x.1 ≤ 2000) ∧ m.length ≤ 2000 ∧ u.length ≤ 10000)) (J : Nat → Value) :
    Goes Tryz.prog (PaP w) (fun w' => Ch (Mem.ids []) w1 w' ∧ True) ⟨paK1, fr 252 [(4, .pointer (some ⟨g4, 0, none⟩)), (9, .bool true), (10, .slice a1 l.length c1), (11, .slice b1 t.length d1), (13, .slice a2 m.length c2), (14, .slice b2 u.length d2), (15, .int .i64 f), (21, .slice a5 X.length c5), (22, .slice b6 W.length d6), (23, .int .i64 h), (2, .int .i64 day), (18, .slice a3 (l.map fun x => (x.1 + 1, -x.2)).length c3), (19, .slice b4 (t.map fun x => (x.1, -x.2)).length d4)] J, []⟩ := by
  unfold PaP
  obtain ⟨V, hV⟩ : ∃ V, t.map (fun x : List UInt8 × Int => (x.1, -x.2)) = V := ⟨_, rfl⟩
  obtain ⟨G, hG⟩ : ∃ G, l.map (fun x : Int × Int => (x.1 + 1, -x.2)) = G := ⟨_, rfl⟩
  rw [hV] at hv ⊢
  rw [hG] at hg ⊢
  have hVl : V.length = t.length := by rw [← hV, List.length_map]
  have hGl : G.length = l.length := by rw [← hG, List.length_map]
  refine Goes.run [0, 0] [((G.length : Int) != (l.length : Int), false), ((V.length : Int) != (t.length : Int), false)] ⟨by rw [hGl]; simp, by rw [hVl]; simp, trivial⟩ ?_
  refine Goes.loop0 (α := Nat) 252 (fun i => [(4, .pointer (some ⟨g4, 0, none⟩)), (9, .bool true), (10, .slice a1 l.length c1), (11, .slice b1 t.length d1), (13, .slice a2 m.length c2), (14, .slice b2 u.length d2), (15, .int .i64 f), (21, .slice a5 X.length c5), (22, .slice b6 W.length d6), (23, .int .i64 h), (2, .int .i64 day), (18, .slice a3 G.length c3), (19, .slice b4 V.length d4), (24, .int .i64 i)]) [] (fun i => i ≤ V.length) (fun i => V.length - i) 0 (Nat.zero_le _) ?_
  rintro i J1 hi back
  cases hlt : decide ((i : Int) < (V.length : Int)) with
  | true =>
    have hil : i < V.length := by have := of_decide_eq_true hlt; omega
    obtain ⟨q, hq⟩ : ∃ q, t[i]? = some q := ⟨t[i]'(by omega), by simp⟩
    have hqV : V[i]? = some (q.1, -q.2) := by rw [← hV, List.getElem?_map, hq]; rfl
    have hqm := htf q (List.mem_of_getElem? hq)
    unfold inM at hqm
    obtain ⟨g, cap, cur, he, hg0, -, -, hc⟩ := own_open ht (by omega)
    obtain ⟨g', cap', cur', he', hg', -, -, hc'⟩ := own_open hv (by omega)
    cases he
    cases he'
    refine Goes.run [0, 1] [(decide ((i : Int) < (V.length : Int)), true)] ⟨hlt, trivial⟩ ?_
    refine Goes.openY [] [(g, .cells cur 33 (0, 0)), (g', .cells cur' 33 (0, 0))] (fun w' hI => hex2 hg0 hg' hI.1) ?_
    refine Goes.run [0, 1] [] trivial ?_
    refine Goes.valA 2 (Instr.indexAt 28 (.slice (some ⟨g', 0, none⟩) V.length d4) (.int .i64 i)) (.pointer (some ⟨g', i * 3, none⟩)) (fun w' _ => idxTr g' V.length d4 i (by omega) w') ?_
    refine Goes.run [3] [] trivial ?_
    refine Goes.valA 4 (Instr.loadAt 2 (.pointer (some ⟨g', i * 3 + 2, none⟩))) (.int .i64 (-q.2)) (fun w' hm => load1 Tryz.isAgg2 (cell_obj (t := 33) (z := (0, 0)) (hm.get 1) (hc' _ _ (trC_at hqV 2 _ rfl)))) ?_
    refine Goes.run [5, 6] [] trivial ?_
    refine Goes.valA 7 (Instr.indexAt 28 (.slice (some ⟨g, 0, none⟩) t.length d1) (.int .i64 i)) (.pointer (some ⟨g, i * 3, none⟩)) (fun w' _ => idxTr g t.length d1 i (by omega) w') ?_
    refine Goes.run [8] [] trivial ?_
    refine Goes.valA 9 (Instr.loadAt 2 (.pointer (some ⟨g, i * 3 + 2, none⟩))) (.int .i64 q.2) (fun w' hm => load1 Tryz.isAgg2 (cell_obj (t := 33) (z := (0, 0)) (hm.get 0) (hc _ _ (trC_at hq 2 _ rfl)))) ?_
    refine Goes.run [10] [] trivial ?_
    refine Goes.slot 114 (.int .i64 (-q.2)) (u := .int .i64 (IntKind.i64.wrap (0 - q.2))) (congrArg _ (by rw [IntWalk.i64_in _ ⟨by omega, by omega⟩]; omega)) ?_
    refine Goes.run [11] [] trivial ?_
    refine Goes.slot 115 (.bool false) (u := .bool ((-q.2) != (-q.2))) (congrArg _ (by simp)) ?_
    refine Goes.run [12, 13, 14] [] trivial ?_
    refine Goes.valA 15 (Instr.indexAt 28 (.slice (some ⟨g', 0, none⟩) V.length d4) (.int .i64 i)) (.pointer (some ⟨g', i * 3, none⟩)) (fun w' _ => idxTr g' V.length d4 i (by omega) w') ?_
    refine Goes.run [16] [] trivial ?_
    refine Goes.valA 17 (Instr.loadAt 9 (.pointer (some ⟨g', i * 3 + 1, none⟩))) (strV q.1) (fun w' hm => load1 Tryz.isAgg9 (cell_obj (t := 33) (z := (0, 0)) (hm.get 1) (hc' _ _ (trC_at hqV 1 _ rfl)))) ?_
    refine Goes.run [18, 19] [] trivial ?_
    refine Goes.valA 20 (Instr.indexAt 28 (.slice (some ⟨g, 0, none⟩) t.length d1) (.int .i64 i)) (.pointer (some ⟨g, i * 3, none⟩)) (fun w' _ => idxTr g t.length d1 i (by omega) w') ?_
    refine Goes.run [21] [] trivial ?_
    refine Goes.valA 22 (Instr.loadAt 9 (.pointer (some ⟨g, i * 3 + 1, none⟩))) (strV q.1) (fun w' hm => load1 Tryz.isAgg9 (cell_obj (t := 33) (z := (0, 0)) (hm.get 0) (hc _ _ (trC_at hq 1 _ rfl)))) ?_
    refine Goes.valA 23 (do eqGuard .neq 9 (.tmp 121) (.tmp 126) (strV q.1) (strV q.1); binOp .neq 9 (strV q.1) (strV q.1)) (.bool false) (fun w' _ => by have := neT (.tmp 121) (.tmp 126) q.1 q.1 rfl w'; simpa using this) ?_
    refine Goes.run [24, 25, 26, 27] [] trivial ?_
    refine Goes.valA 28 (Instr.indexAt 28 (.slice (some ⟨g', 0, none⟩) V.length d4) (.int .i64 i)) (.pointer (some ⟨g', i * 3, none⟩)) (fun w' _ => idxTr g' V.length d4 i (by omega) w') ?_
    refine Goes.run [29] [] trivial ?_
    refine Goes.valA 30 (Instr.loadAt 3 (.pointer (some ⟨g', i * 3, none⟩))) (.int .i64 day) (fun w' hm => load1 Tryz.isAgg3 (cell_obj (t := 33) (z := (0, 0)) (hm.get 1) (hc' _ _ (trC_at hqV 0 _ rfl)))) ?_
    refine Goes.run [31, 32] [] trivial ?_
    refine Goes.slot 136 (.bool false) (u := .bool (day != day)) (congrArg _ (by simp)) ?_
    refine Goes.run [33, 0] [(false, false)] ⟨rfl, trivial⟩ ?_
    refine Goes.slot 24 (.int .i64 (i + 1 : Nat)) (u := .int .i64 (IntKind.i64.wrap ((i : Int) + 1))) (congrArg _ (wrap_nat (by omega))) ?_
    exact back (i + 1) _ hil (by omega) (by kernel_chk) (by kernel_chk) (by kernel_chk)
  | false =>
  refine Goes.upto 25 [0, 0] [(decide ((i : Int) < (V.length : Int)), false)] ⟨hlt, trivial⟩ ?_
  refine Goes.at (K := paK2) (n := 252) (S := [(4, .pointer (some ⟨g4, 0, none⟩)), (9, .bool true), (10, .slice a1 l.length c1), (11, .slice b1 t.length d1), (13, .slice a2 m.length c2), (14, .slice b2 u.length d2), (15, .int .i64 f), (21, .slice a5 X.length c5), (22, .slice b6 W.length d6), (23, .int .i64 h), (2, .int .i64 day), (18, .slice a3 G.length c3), (19, .slice b4 V.length d4)]) (m := []) (fun J3 => ?_)
  refine Goes.run [] [] trivial ?_
  refine Goes.loop0 (α := Nat) 252 (fun i => [(4, .pointer (some ⟨g4, 0, none⟩)), (9, .bool true), (10, .slice a1 l.length c1), (11, .slice b1 t.length d1), (13, .slice a2 m.length c2), (14, .slice b2 u.length d2), (15, .int .i64 f), (21, .slice a5 X.length c5), (22, .slice b6 W.length d6), (23, .int .i64 h), (2, .int .i64 day), (18, .slice a3 G.length c3), (19, .slice b4 V.length d4), (25, .int .i64 i)]) [] (fun i => i ≤ G.length) (fun i => G.length - i) 0 (Nat.zero_le _) ?_
  rintro i J2 hi back
  cases hlt2 : decide ((i : Int) < (G.length : Int)) with
  | true =>
    have hil : i < G.length := by have := of_decide_eq_true hlt2; omega
    obtain ⟨q, hq⟩ : ∃ q, l[i]? = some q := ⟨l[i]'(by omega), by simp⟩
    have hqG : G[i]? = some (q.1 + 1, -q.2) := by rw [← hG, List.getElem?_map, hq]; rfl
    have hqm := hlf q (List.mem_of_getElem? hq)
    unfold inM at hqm
    obtain ⟨hq0, hq1⟩ := hlb q (List.mem_of_getElem? hq)
    obtain ⟨g, cap, cur, he, hg0, -, -, hc⟩ := own_open hl (by omega)
    obtain ⟨g', cap', cur', he', hg', -, -, hc'⟩ := own_open hg (by omega)
    cases he
    cases he'
    refine Goes.run [0, 1] [(decide ((i : Int) < (G.length : Int)), true)] ⟨hlt2, trivial⟩ ?_
    refine Goes.openY [] [(g, .cells cur 35 (0, 0)), (g', .cells cur' 35 (0, 0))] (fun w' hI => hex2 hg0 hg' hI.1) ?_
    refine Goes.run [0, 1] [] trivial ?_
    refine Goes.valA 2 (Instr.indexAt 27 (.slice (some ⟨g', 0, none⟩) G.length c3) (.int .i64 i)) (.pointer (some ⟨g', i * 2, none⟩)) (fun w' _ => idxLv0 g' G.length c3 i (by omega) w') ?_
    refine Goes.run [3] [] trivial ?_
    refine Goes.valA 4 (Instr.loadAt 3 (.pointer (some ⟨g', i * 2, none⟩))) (.int .i64 (q.1 + 1)) (fun w' hm => load1 Tryz.isAgg3 (cell_obj (t := 35) (z := (0, 0)) (hm.get 1) (hc' _ _ ((lvC_at hqG).1)))) ?_
    refine Goes.run [5, 6] [] trivial ?_
    refine Goes.valA 7 (Instr.indexAt 27 (.slice (some ⟨g, 0, none⟩) l.length c1) (.int .i64 i)) (.pointer (some ⟨g, i * 2, none⟩)) (fun w' _ => idxLv0 g l.length c1 i (by omega) w') ?_
    refine Goes.run [8] [] trivial ?_
    refine Goes.valA 9 (Instr.loadAt 3 (.pointer (some ⟨g, i * 2, none⟩))) (.int .i64 q.1) (fun w' hm => load1 Tryz.isAgg3 (cell_obj (t := 35) (z := (0, 0)) (hm.get 0) (hc _ _ ((lvC_at hq).1)))) ?_
    refine Goes.run [10] [] trivial ?_
    refine Goes.slot 154 (.int .i64 (q.1 + 1)) (u := .int .i64 (IntKind.i64.wrap (q.1 + 1))) (congrArg _ (IntWalk.i64_in _ ⟨by omega, by omega⟩)) ?_
    refine Goes.run [11] [] trivial ?_
    refine Goes.slot 155 (.bool false) (u := .bool ((q.1 + 1) != (q.1 + 1))) (congrArg _ (by simp)) ?_
    refine Goes.run [12, 13, 14] [] trivial ?_
    refine Goes.valA 15 (Instr.indexAt 27 (.slice (some ⟨g', 0, none⟩) G.length c3) (.int .i64 i)) (.pointer (some ⟨g', i * 2, none⟩)) (fun w' _ => idxLv0 g' G.length c3 i (by omega) w') ?_
    refine Goes.run [16] [] trivial ?_
    refine Goes.valA 17 (Instr.loadAt 2 (.pointer (some ⟨g', i * 2 + 1, none⟩))) (.int .i64 (-q.2)) (fun w' hm => load1 Tryz.isAgg2 (cell_obj (t := 35) (z := (0, 0)) (hm.get 1) (hc' _ _ ((lvC_at hqG).2)))) ?_
    refine Goes.run [18, 19] [] trivial ?_
    refine Goes.valA 20 (Instr.indexAt 27 (.slice (some ⟨g, 0, none⟩) l.length c1) (.int .i64 i)) (.pointer (some ⟨g, i * 2, none⟩)) (fun w' _ => idxLv0 g l.length c1 i (by omega) w') ?_
    refine Goes.run [21] [] trivial ?_
    refine Goes.valA 22 (Instr.loadAt 2 (.pointer (some ⟨g, i * 2 + 1, none⟩))) (.int .i64 q.2) (fun w' hm => load1 Tryz.isAgg2 (cell_obj (t := 35) (z := (0, 0)) (hm.get 0) (hc _ _ ((lvC_at hq).2)))) ?_
    refine Goes.run [23] [] trivial ?_
    refine Goes.slot 167 (.int .i64 (-q.2)) (u := .int .i64 (IntKind.i64.wrap (0 - q.2))) (congrArg _ (by rw [IntWalk.i64_in _ ⟨by omega, by omega⟩]; omega)) ?_
    refine Goes.run [24] [] trivial ?_
    refine Goes.slot 168 (.bool false) (u := .bool ((-q.2) != (-q.2))) (congrArg _ (by simp)) ?_
    refine Goes.run [25, 0] [(false, false)] ⟨rfl, trivial⟩ ?_
    refine Goes.slot 25 (.int .i64 (i + 1 : Nat)) (u := .int .i64 (IntKind.i64.wrap ((i : Int) + 1))) (congrArg _ (wrap_nat (by omega))) ?_
    exact back (i + 1) _ hil (by omega) (by kernel_chk) (by kernel_chk) (by kernel_chk)
  | false =>
  rcases hfh with ⟨rfl, rfl⟩ | ⟨rfl, rfl⟩ | ⟨rfl, rfl, hW, hX, hmb, hm1, hu1⟩
  · refine Goes.run [0, 0, 1, 1, 1, 0] [(false, false), (true, true), (true, true), (true, true), (decide ((i : Int) < (G.length : Int)), false)] ⟨rfl, rfl, rfl, rfl, hlt2, trivial⟩ ?_
    exact Goes.ret [] (.bool true) fun w' hm hI => ⟨rfl, hB1.trans ((bel0 hI).mono hB1.size)⟩
  · refine Goes.run [0, 0, 0, 1, 1, 1] [(true, true), (true, true), (true, true), (false, false), (decide ((i : Int) < (G.length : Int)), false)] ⟨rfl, rfl, rfl, rfl, hlt2, trivial⟩ ?_
    exact Goes.ret [] (.bool true) fun w' hm hI => ⟨rfl, hB1.trans ((bel0 hI).mono hB1.size)⟩
  · subst hW
    refine Goes.run [0, 0, 0, 0] [(false, false), (false, false), (decide ((i : Int) < (G.length : Int)), false)] ⟨rfl, rfl, hlt2, trivial⟩ ?_
    refine Goes.val (Instr.loadAt 24 (.pointer (some ⟨g4, 0, none⟩))) (cv op k s (.slice a N cc)) (fun w' _ hI => loadC (cl_of' ((hI.now.1.block g4 (lt_of_get y4) (by simp [Mem.ids])).trans y4))) ?_
    refine Goes.call0 8 #[cv op k s (.slice a N cc)] (.int .i64 (szC ca)) (fun w' _ hI => rsizeC_any ca _ w' hszc (hN.at (hB1.trans ((bel0 hI).mono hB1.size)))) ?_
    refine Goes.upto 27 [] [] trivial ?_
    exact Goes.at (K := paK3) (n := 252) (S := [(9, .bool true), (11, .slice b1 t.length d1), (14, .slice b2 u.length d2), (21, .slice a5 X.length c5), (22, .slice b6 (t ++ u).length d6), (10, .slice a1 l.length c1), (13, .slice a2 m.length c2), (26, .int .i64 (szC ca))]) (m := []) (fun J5 => parts_k3 hB1 hl hm ht hu hx hw hX ⟨by have := szC_pos ca; omega, hszc⟩ hlb hmb hl1 hm1 (by omega) J5)
end Go.Proofs.YthnojedlndblbabGreatDoor
