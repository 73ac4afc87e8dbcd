/- the text NPartsB -/
import Derived.Test.YthnojedlndblbabGreatDoorNPartsAC
import Derived.Test.DevTool
import Derived.Test.YthnojedlndblbabGreatDoorNGj
namespace Go.Proofs.YthnojedlndblbabGreatDoor
open Go Go.RowKit

section
variable {P : Program} {F : Exit → Act → World → Prop} {Inv : World → Prop} {s : St}
theorem TookS.effZ (i : Nat) (I : Sem Value) (hr : ∀ w, Holds s.mem w → s.mem.ids.Nodup → Stay s.mem.ids w Inv → Holds (anyM s) w → ∃ v w' Inv' m, I.run P w = .ok v w' ∧ Holds (anyM s) w' ∧ Holds m w' ∧ m.ids.Nodup ∧ Stay m.ids w' Inv' ∧ Goes P F Inv' (putA i s v m)) (hw : anyWant i s = true := by kernel_chk) (ho' : (anyOp i s).map (execOp (evalL s.tmps)) = some (vS I) := by kernel_chk) : TookS P F Inv i s := by
  intro ops m0 n l k ht w h1 h2 h3 h0
  unfold anyWant at hw
  unfold anyM at hr
  unfold anyOp at ho'
  rw [ht] at hw hr ho'
  simp only at hw hr ho'
  cases ho : ops[i]? with
  | none => rw [ho] at hw; simp at hw
  | some o =>
    rw [ho] at hw ho'
    simp only [Option.map_some, Option.some.injEq] at hw ho'
    obtain ⟨v, w', Inv', m, he, h10, h4, h5, h6, h7⟩ := hr w h1 h2 h3 h0
    have h9 := h7 w'
    unfold putA at h9
    rw [ht] at h9
    simp only [ho] at h9
    unfold wpOp
    rw [ho]
    simp only [hw, if_true]
    unfold Oper.wp
    rw [evalL_eq, ho', vS_run he, Oper.upon_value, putL_eq]
    exact .inl ⟨h10, h9 h4 h5 h6 h10⟩
end

set_option maxRecDepth 100000 in
set_option maxHeartbeats 8000000 in
seal rn rnN rnS Goes ans atEnd put0 put putM opened openedY putA0 putA oneSt st0 keep mkSt newSt in
theorem parts_k3 {w w1 : World} {day : Int} (hB1 : Below w.heap.size w w1) {l m X : List (Int × Int)} {t u : List (List UInt8 × Int)} {a1 a2 a5 b1 b2 b6 : Option Addr} {c1 c2 c5 d1 d2 d6 : Nat} {sz : Int} (hl : Lvs w.heap.size w1 (.slice a1 l.length c1) l) (hm : Lvs w.heap.size w1 (.slice a2 m.length c2) m) (ht : Trs w.heap.size day w1 (.slice b1 t.length d1) t) (hu : Trs w.heap.size day w1 (.slice b2 u.length d2) u) (hx : Lvs w.heap.size w1 (.slice a5 X.length c5) X) (hw : Trs w.heap.size day w1 (.slice b6 (t ++ u).length d6) (t ++ u)) (hX : X = l.map (fun x => (x.1 + 1, x.2)) ++ m.map (fun x => (x.1 + 1 + sz, x.2))) (hsz : 0 ≤ sz ∧ sz ≤ 2000) (hlb : ∀ x ∈ l, 0 ≤ x.1 ∧ x.1 ≤ 2000) (hmb : ∀ x ∈ m, 0 ≤ x.1 ∧ x.1 ≤ 2000) (hl1 : l.length ≤ 2000) (hm1 : m.length ≤ 2000) (hl2 : t.length + u.length ≤ 100000) (J : Nat → Value) :
    Goes Tryz.prog (PaP w) (fun w' => Ch (Mem.ids []) w1 w' ∧ True) ⟨paK3, fr 252 [(9, .bool true), (11, .slice b1 t.length d1), (14, .slice b2 u.length d2), (21, .slice a5 X.length c5), (22, .slice b6 (t ++ u).length d6), (10, .slice a1 l.length c1), (13, .slice a2 m.length c2), (26, .int .i64 sz)] J, []⟩ := by
  unfold PaP
  have hXl : X.length ≤ 100000 := by rw [hX, List.length_append, List.length_map, List.length_map]; omega
  refine Goes.run [] [] trivial ?_
  refine Goes.loop (α := PQ) 252 (fun q => [(9, .bool true), (11, .slice b1 t.length d1), (14, .slice b2 u.length d2), (21, .slice a5 X.length c5), (22, .slice b6 (t ++ u).length d6), (10, .slice a1 l.length c1), (13, .slice a2 m.length c2), (26, .int .i64 sz), (27, .slice q.a q.X.length q.c), (28, .int .i64 q.i)]) (fun _ => []) (fun q w' => Ch (Mem.ids []) w1 w' ∧ Lvs w1.heap.size w' (.slice q.a q.X.length q.c) q.X) (fun q => q.i ≤ l.length ∧ q.X = (l.take q.i).map (fun x : Int × Int => (x.1 + 1, x.2))) (fun q => l.length - q.i) ⟨0, [], none, 0⟩ ⟨Nat.zero_le _, by simp⟩ (fun w' h => ⟨h.1, Lvs.nil⟩) ?_
  rintro ⟨i, Y, ay, cy⟩ J3 ⟨hi, hY⟩ back
  simp only at hi hY back ⊢
  cases hlt : decide ((i : Int) < (l.length : Int)) with
  | false =>
    obtain rfl : i = l.length := by have := of_decide_eq_false hlt; omega
    rw [List.take_length] at hY
    refine Goes.run [0, 0] [(decide ((l.length : Int) < (l.length : Int)), false)] ⟨hlt, trivial⟩ ?_
    refine Goes.loop (α := PQ) 252 (fun q => [(9, .bool true), (11, .slice b1 t.length d1), (14, .slice b2 u.length d2), (21, .slice a5 X.length c5), (22, .slice b6 (t ++ u).length d6), (13, .slice a2 m.length c2), (26, .int .i64 sz), (27, .slice q.a q.X.length q.c), (29, .int .i64 q.i)]) (fun _ => []) (fun q w' => Ch (Mem.ids []) w1 w' ∧ Lvs w1.heap.size w' (.slice q.a q.X.length q.c) q.X) (fun q => q.i ≤ m.length ∧ q.X = l.map (fun x : Int × Int => (x.1 + 1, x.2)) ++ (m.take q.i).map (fun x : Int × Int => (x.1 + 1 + sz, x.2))) (fun q => m.length - q.i) ⟨0, Y, ay, cy⟩ ⟨Nat.zero_le _, by simp [hY]⟩ (fun w' h => h) ?_
    rintro ⟨i, Y, ay, cy⟩ J4 ⟨hi, hY⟩ back
    simp only at hi hY back ⊢
    cases hlt : decide ((i : Int) < (m.length : Int)) with
    | false =>
      obtain rfl : i = m.length := by have := of_decide_eq_false hlt; omega
      rw [List.take_length] at hY
      refine Goes.upto 231 [0, 0] [(decide ((m.length : Int) < (m.length : Int)), false)] ⟨hlt, trivial⟩ ?_
      obtain rfl : Y = X := by rw [hY, hX]
      exact Goes.at (K := paK4) (n := 252) (S := [(9, .bool true), (11, .slice b1 t.length d1), (14, .slice b2 u.length d2), (21, .slice a5 Y.length c5), (22, .slice b6 (t ++ u).length d6), (27, .slice ay Y.length cy)]) (m := []) (fun J5 => parts_k4 hB1 ht hu hx hw hXl hl2 J5)
    | true =>
      have hil : i < m.length := by have := of_decide_eq_true hlt; omega
      obtain ⟨q, hq⟩ : ∃ q, m[i]? = some q := ⟨m[i]'(by omega), by simp⟩
      obtain ⟨hq0, hq1⟩ := hmb q (List.mem_of_getElem? hq)
      obtain ⟨g, cap, cur, he, hg, -, -, hc⟩ := own_open hm (by omega)
      cases he
      have hgl := lt_of_get hg
      have hYl : Y.length ≤ 5000 := by rw [hY]; simp; omega
      refine Goes.run [0, 1] [(decide ((i : Int) < (m.length : Int)), true)] ⟨hlt, trivial⟩ ?_
      refine Goes.openY [] [(g, .cells cur 35 (0, 0))] (fun w' hI => holds1 ((hI.1.block g hgl (by simp [Mem.ids])).trans hg)) ?_
      refine Goes.run [0, 1, 2] [] trivial ?_
      refine Goes.valA 3 (Instr.indexAt 27 (.slice (some ⟨g, 0, none⟩) m.length c2) (.int .i64 i)) (.pointer (some ⟨g, i * 2, none⟩)) (fun w' _ => idxLv0 g m.length c2 i hil w') ?_
      refine Goes.run [4] [] trivial ?_
      refine Goes.valA 5 (Instr.loadAt 3 (.pointer (some ⟨g, i * 2, none⟩))) (.int .i64 q.1) (fun w' hm => load1 Tryz.isAgg3 (cell_obj (t := 35) (z := (0, 0)) (hm.get 0) (hc _ _ (lvC_at hq).1))) ?_
      refine Goes.run [6] [] trivial ?_
      refine Goes.slot 220 (.int .i64 (q.1 + 1)) (u := .int .i64 (IntKind.i64.wrap (q.1 + 1))) (congrArg _ (IntWalk.i64_in _ ⟨by omega, by omega⟩)) ?_
      refine Goes.run [7, 8] [] trivial ?_
      refine Goes.slot 222 (.int .i64 (q.1 + 1 + sz)) (u := .int .i64 (IntKind.i64.wrap (q.1 + 1 + sz))) (congrArg _ (IntWalk.i64_in _ ⟨by omega, by omega⟩)) ?_
      refine Goes.run [9, 10] [] trivial ?_
      refine Goes.valA 11 (Instr.indexAt 27 (.slice (some ⟨g, 0, none⟩) m.length c2) (.int .i64 i)) (.pointer (some ⟨g, i * 2, none⟩)) (fun w' _ => idxLv0 g m.length c2 i hil w') ?_
      refine Goes.run [12] [] trivial ?_
      refine Goes.valA 13 (Instr.loadAt 2 (.pointer (some ⟨g, i * 2 + 1, none⟩))) (.int .i64 q.2) (fun w' hm => load1 Tryz.isAgg2 (cell_obj (t := 35) (z := (0, 0)) (hm.get 0) (hc _ _ (lvC_at hq).2))) ?_
      refine Goes.run [14] [] trivial ?_
      refine Goes.lone1 15 (TookS.new1Z 15 0 [(g, .cells cur 35 (0, 0))] (fun _ _ => Nat.zero_le _) fun gb _ => ?_)
      refine Goes.lone1 16 (TookS.effZ 16 (Builtin.append_ #[27, 27] 27 #[.slice ay Y.length cy, .slice (some ⟨gb, 0, none⟩) 1 1]) fun w2 hm2 hn2 hI2 h02 => ?_)
      have zb : w2.heap[gb]? = some (.cells #[.int .i64 (q.1 + 1 + sz), .int .i64 q.2] 35 (0, 0)) := hm2.get 0
      obtain ⟨b, c', w3, hr, hL3, hgr, -⟩ := hI2.now.2.add hI2.now.1.size ((q.1 + 1 + sz), q.2) zb (by omega) (ty := 27) (c := 1)
      have hc3 : Ch (Mem.ids []) w1 w3 := hI2.now.1.grown hgr fun b hb => .inr ((hI2.now.2.lt b hb).1)
      refine ⟨_, w3, fun w' => Ch (Mem.ids []) w1 w' ∧ Lvs w1.heap.size w' (.slice (some ⟨b, 0, none⟩) (Y.length + 1) c') (Y ++ [((q.1 + 1 + sz), q.2)]), [], hr, holds_of (m := [(g, .cells cur 35 (0, 0))]) (by kernel_chk) (holds1 ((hc3.block g hgl (by simp [Mem.ids])).trans hg)), Holds.nil, by simp [Mem.ids], fun w' h => ⟨hc3.trans h (fun _ hx => .inl hx), own_ch hL3 h (by simp [Mem.ids])⟩, ?_⟩
      refine Goes.run [17] [] trivial ?_
      refine Goes.slot 29 (.int .i64 (i + 1 : Nat)) (u := .int .i64 (IntKind.i64.wrap ((i : Int) + 1))) (congrArg _ (wrap_nat (by omega))) ?_
      have eL : (Y ++ [((q.1 + 1 + sz), q.2)]).length = Y.length + 1 := by simp
      refine Goes.slot 27 (.slice (some ⟨b, 0, none⟩) (Y ++ [((q.1 + 1 + sz), q.2)]).length c') (u := .slice (some ⟨b, 0, none⟩) (Y.length + 1) c') (by rw [eL]) ?_
      refine Goes.inv (Inv' := fun w' => Ch (Mem.ids []) w1 w' ∧ Lvs w1.heap.size w' (.slice (some ⟨b, 0, none⟩) (Y ++ [((q.1 + 1 + sz), q.2)]).length c') (Y ++ [((q.1 + 1 + sz), q.2)])) (fun w' h => by rw [eL]; exact h) ?_
      refine back ⟨i + 1, Y ++ [((q.1 + 1 + sz), q.2)], some ⟨b, 0, none⟩, c'⟩ _ ⟨hil, by rw [hY, take_more hq, List.map_append, List.append_assoc]; rfl⟩ (by simp only; omega) ?_ ?_ ?_
      · kernel_chk
      · kernel_chk
      · kernel_chk
  | true =>
    have hil : i < l.length := by have := of_decide_eq_true hlt; omega
    obtain ⟨q, hq⟩ : ∃ q, l[i]? = some q := ⟨l[i]'(by omega), by simp⟩
    obtain ⟨hq0, hq1⟩ := hlb q (List.mem_of_getElem? hq)
    obtain ⟨g, cap, cur, he, hg, -, -, hc⟩ := own_open hl (by omega)
    cases he
    have hgl := lt_of_get hg
    have hYl : Y.length ≤ 5000 := by rw [hY]; simp; omega
    refine Goes.run [0, 1] [(decide ((i : Int) < (l.length : Int)), true)] ⟨hlt, trivial⟩ ?_
    refine Goes.openY [] [(g, .cells cur 35 (0, 0))] (fun w' hI => holds1 ((hI.1.block g hgl (by simp [Mem.ids])).trans hg)) ?_
    refine Goes.run [0, 1, 2] [] trivial ?_
    refine Goes.valA 3 (Instr.indexAt 27 (.slice (some ⟨g, 0, none⟩) l.length c1) (.int .i64 i)) (.pointer (some ⟨g, i * 2, none⟩)) (fun w' _ => idxLv0 g l.length c1 i hil w') ?_
    refine Goes.run [4] [] trivial ?_
    refine Goes.valA 5 (Instr.loadAt 3 (.pointer (some ⟨g, i * 2, none⟩))) (.int .i64 q.1) (fun w' hm => load1 Tryz.isAgg3 (cell_obj (t := 35) (z := (0, 0)) (hm.get 0) (hc _ _ (lvC_at hq).1))) ?_
    refine Goes.run [6] [] trivial ?_
    refine Goes.slot 199 (.int .i64 (q.1 + 1)) (u := .int .i64 (IntKind.i64.wrap (q.1 + 1))) (congrArg _ (IntWalk.i64_in _ ⟨by omega, by omega⟩)) ?_
    refine Goes.run [7, 8] [] trivial ?_
    refine Goes.valA 9 (Instr.indexAt 27 (.slice (some ⟨g, 0, none⟩) l.length c1) (.int .i64 i)) (.pointer (some ⟨g, i * 2, none⟩)) (fun w' _ => idxLv0 g l.length c1 i hil w') ?_
    refine Goes.run [10] [] trivial ?_
    refine Goes.valA 11 (Instr.loadAt 2 (.pointer (some ⟨g, i * 2 + 1, none⟩))) (.int .i64 q.2) (fun w' hm => load1 Tryz.isAgg2 (cell_obj (t := 35) (z := (0, 0)) (hm.get 0) (hc _ _ (lvC_at hq).2))) ?_
    refine Goes.run [12] [] trivial ?_
    refine Goes.lone1 13 (TookS.new1Z 13 0 [(g, .cells cur 35 (0, 0))] (fun _ _ => Nat.zero_le _) fun gb _ => ?_)
    refine Goes.lone1 14 (TookS.effZ 14 (Builtin.append_ #[27, 27] 27 #[.slice ay Y.length cy, .slice (some ⟨gb, 0, none⟩) 1 1]) fun w2 hm2 hn2 hI2 h02 => ?_)
    have zb : w2.heap[gb]? = some (.cells #[.int .i64 (q.1 + 1), .int .i64 q.2] 35 (0, 0)) := hm2.get 0
    obtain ⟨b, c', w3, hr, hL3, hgr, -⟩ := hI2.now.2.add hI2.now.1.size ((q.1 + 1), q.2) zb (by omega) (ty := 27) (c := 1)
    have hc3 : Ch (Mem.ids []) w1 w3 := hI2.now.1.grown hgr fun b hb => .inr ((hI2.now.2.lt b hb).1)
    refine ⟨_, w3, fun w' => Ch (Mem.ids []) w1 w' ∧ Lvs w1.heap.size w' (.slice (some ⟨b, 0, none⟩) (Y.length + 1) c') (Y ++ [((q.1 + 1), q.2)]), [], hr, holds_of (m := [(g, .cells cur 35 (0, 0))]) (by kernel_chk) (holds1 ((hc3.block g hgl (by simp [Mem.ids])).trans hg)), Holds.nil, by simp [Mem.ids], fun w' h => ⟨hc3.trans h (fun _ hx => .inl hx), own_ch hL3 h (by simp [Mem.ids])⟩, ?_⟩
    refine Goes.run [15] [] trivial ?_
    refine Goes.slot 28 (.int .i64 (i + 1 : Nat)) (u := .int .i64 (IntKind.i64.wrap ((i : Int) + 1))) (congrArg _ (wrap_nat (by omega))) ?_
    have eL : (Y ++ [((q.1 + 1), q.2)]).length = Y.length + 1 := by simp
    refine Goes.slot 27 (.slice (some ⟨b, 0, none⟩) (Y ++ [((q.1 + 1), q.2)]).length c') (u := .slice (some ⟨b, 0, none⟩) (Y.length + 1) c') (by rw [eL]) ?_
    refine Goes.inv (Inv' := fun w' => Ch (Mem.ids []) w1 w' ∧ Lvs w1.heap.size w' (.slice (some ⟨b, 0, none⟩) (Y ++ [((q.1 + 1), q.2)]).length c') (Y ++ [((q.1 + 1), q.2)])) (fun w' h => by rw [eL]; exact h) ?_
    refine back ⟨i + 1, Y ++ [((q.1 + 1), q.2)], some ⟨b, 0, none⟩, c'⟩ _ ⟨hil, by rw [hY, take_more hq, List.map_append]; rfl⟩ (by simp only; omega) ?_ ?_ ?_
    · kernel_chk
    · kernel_chk
    · kernel_chk
end Go.Proofs.YthnojedlndblbabGreatDoor
