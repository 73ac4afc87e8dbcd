/- the text NTd -/
import Derived.Test.YthnojedlndblbaaGreatDoorNGm
import Derived.Test.DevTool
import Derived.Test.YthnojedlndblbaaGreatDoorNGk
import Derived.Test.YthnojedlndblbaaGreatDoorNGo
namespace Go.Proofs.YthnojedlndblbaaGreatDoor
open Go Go.RowKit

structure TF where
  i : Nat
  X : List (Fx × Value)
  a : Option Addr
  c : Nat
structure TS where
  j : Nat
  n : Nat
  Y : List (Int × Int)
  a : Option Addr
  c : Nat
def upToD (day : Int) (l : List (Int × Int)) : List (Int × Int) := l.filter fun q => decide (q.1 ≤ day)
theorem upTo_snoc (day : Int) (l : List (Int × Int)) (q : Int × Int) : upToD day (l ++ [q]) = bif decide (q.1 ≤ day) then upToD day l ++ [q] else upToD day l := by
  unfold upToD
  rw [List.filter_append]
  cases h : decide (q.1 ≤ day) <;> simp [h]
theorem told_snoc (day : Int) (fs : Fs) (f : Fx) : toldP day (fs ++ [f]) = toldP day fs ++ [(f.1, upToD day f.2)] := by
  unfold toldP upToD
  simp
theorem sizeStm : (Tryz.prog.info? 81).map (·.size) = some 2 := by kernel_chk
theorem loadStm {w : World} {b o : Nat} {x y : Value} (h0 : w.cell? ⟨b, o, none⟩ = some x) (h1 : w.cell? ⟨b, o + 1, none⟩ = some y) : (Instr.loadAt 81 (.pointer (some ⟨b, o, none⟩))).run Tryz.prog w = .ok (.agg #[x, y]) w :=
  loadAgg Tryz.isAgg81 sizeStm [x, y] rfl (cells2 h0 h1)
theorem FdW.chN {base : Nat} {w w' : World} {v : Value} {X : List (Fx × Value)} (h : FdW base w v X) (hc : Ch (Mem.ids []) w w') : FdW base w' v X :=
  ⟨own_ch h.row hc (by simp [Mem.ids]), fun x hx => own_ch (h.kid x hx) hc (by simp [Mem.ids])⟩
def fO (nm : List UInt8) (v : Value) : Obj := .cells #[strV nm, v] 79 (0, 0)
set_option maxRecDepth 100000 in
set_option maxHeartbeats 8000000 in
seal rn rnN rnS Goes ans atEnd put0 put putM opened openedY putA0 putA oneSt st0 keep mkSt newSt in
theorem toldL_any {fs : Fs} {fv : Value} {w : World} (day : Int) (hF : Fds w.heap.size w fv fs) (hL : fs.length * 40 ≤ 140737488351232) (hLs : ∀ f ∈ fs, f.2.length * 16 ≤ 140737488351232) : Calls Tryz.prog 19 #[fv, .int .i64 day] w fun e w' => ∃ v X, e = .returned v ∧ FdW w.heap.size w' v X ∧ X.map (fun x : Fx × Value => x.1) = toldP day fs ∧ Below w.heap.size w w' := by
  obtain ⟨aF, cF, rfl, hcF, hfs⟩ := hF
  obtain ⟨N, hN⟩ : ∃ N, fs.length = N := ⟨_, rfl⟩
  rw [hN] at hcF ⊢
  refine Goes.begin Tryz.func19 [] (fun _ => True) Holds.nil (by simp [Mem.ids]) (fun _ _ => trivial) ?_
  refine Goes.run [] [] trivial ?_
  refine Goes.loop (α := TF) 60 (fun q => [(0, .slice aF N cF), (1, .int .i64 day), (5, .slice q.a q.X.length q.c), (6, .int .i64 q.i)]) (fun _ => []) (fun q w' => Ch (Mem.ids []) w w' ∧ FdW w.heap.size w' (.slice q.a q.X.length q.c) q.X) (fun q => q.i ≤ N ∧ q.X.map (fun x : Fx × Value => x.1) = toldP day (fs.take q.i)) (fun q => N - q.i) ⟨0, [], none, 0⟩ ⟨Nat.zero_le _, rfl⟩ (fun w' h => ⟨h.1, FdW.nil⟩) ?_
  rintro ⟨i, X, a2, c2⟩ J ⟨hi, hX⟩ back
  simp only at hi hX back ⊢
  cases hlt : decide ((i : Int) < (N : Int)) with
  | false =>
    obtain rfl : i = N := by have := of_decide_eq_false hlt; omega
    refine Goes.run [0, 0] [(decide ((i : Int) < (i : Int)), false)] ⟨hlt, trivial⟩ ?_
    exact Goes.ret [] (.slice a2 X.length c2) fun w' hm hI => ⟨_, X, rfl, hI.now.2, by rw [hX, List.take_of_length_le (by omega)], hI.now.1.toB (by simp [Mem.ids])⟩
  | true =>
    have hil : i < N := by have := of_decide_eq_true hlt; omega
    obtain ⟨f, hf⟩ : ∃ f, fs[i]? = some f := ⟨fs[i]'(by omega), by simp⟩
    have hXl : X.length = i := by
      have := congrArg List.length hX
      unfold toldP at this
      rw [List.length_map, List.length_map, List.length_take] at this
      omega
    obtain ⟨b, o, u, rfl, hb, x1, x2, a3, c3, rfl, hc3, hstm⟩ := hfs i f hf
    obtain ⟨ob, hob⟩ := blk_of hb
    obtain ⟨M, hM⟩ : ∃ M, f.2.length = M := ⟨_, rfl⟩
    have hM1 : M * 16 ≤ 140737488351232 := by rw [← hM]; exact hLs f (List.mem_of_getElem? hf)
    rw [hM] at x2 hc3
    refine Goes.run [0, 1] [(decide ((i : Int) < (N : Int)), true)] ⟨hlt, trivial⟩ ?_
    refine Goes.val (Instr.indexAt 25 (.slice (some ⟨b, o, none⟩) N cF) (.int .i64 i)) (.pointer (some ⟨b, o + i * 2, none⟩)) (fun w' _ _ => idxF b o N cF i hil w') ?_
    refine Goes.run [] [] trivial ?_
    refine Goes.val (Instr.loadAt 9 (.pointer (some ⟨b, o + i * 2, none⟩))) (strV f.1) (fun w' _ hI => load1 Tryz.isAgg9 (((bel0 hI).cell (p := ⟨b, o + i * 2, none⟩) hb).trans x1)) ?_
    refine Goes.run [] [] trivial ?_
    refine Goes.rebase fun w1 hm1 hn1 hI1 => ?_
    have hC1 : Ch (Mem.ids []) w w1 := hI1.now.1
    have hF1 := hI1.now.2
    have hB1 : Below w.heap.size w w1 := bel0 hI1
    have bel1 : ∀ {w' : World}, Ch (Mem.ids []) w1 w' → Below w.heap.size w w' := fun h => hB1.trans ((h.toB (by simp [Mem.ids])).mono hB1.size)
    refine ⟨fun w' => Ch (Mem.ids []) w1 w', [], Holds.nil, by simp [Mem.ids], fun w' h => h, ?_⟩
    refine Goes.new1 w1.heap.size (fun w' h => h.size) fun g7 hg7 => ?_
    refine Goes.run [0] [] trivial ?_
    have hws := hB1.size
    refine Goes.loop (α := TS) 60 (fun q => [(0, .slice (some ⟨b, o, none⟩) N cF), (1, .int .i64 day), (5, .slice a2 X.length c2), (6, .int .i64 i), (7, .pointer (some ⟨g7, 0, none⟩)), (8, .int .i64 q.j)]) (fun q => [(g7, fO f.1 (.slice q.a q.n q.c))]) (fun q w' => Ch (Mem.ids []) w1 w' ∧ StR w1.heap.size w' (.slice q.a q.n q.c) q.Y) (fun q => q.j ≤ M ∧ q.Y = upToD day (f.2.take q.j) ∧ q.n = q.Y.length) (fun q => M - q.j) ⟨0, 0, [], none, 0⟩ ⟨Nat.zero_le _, rfl, rfl⟩ (fun w' h => ⟨h, StR.nil⟩) ?_
    rintro ⟨j, n, Y, a4, c4⟩ J2 ⟨hj, hY, hn⟩ back2
    simp only at hj hY hn back2 ⊢
    subst hn
    have hYl : Y.length ≤ j := by rw [hY]; unfold upToD; exact Nat.le_trans (List.length_filter_le _ _) (by rw [List.length_take]; omega)
    refine Goes.run [0] [] trivial ?_
    refine Goes.val (Instr.indexAt 25 (.slice (some ⟨b, o, none⟩) N cF) (.int .i64 i)) (.pointer (some ⟨b, o + i * 2, none⟩)) (fun w' _ _ => idxF b o N cF i hil w') ?_
    refine Goes.run [] [] trivial ?_
    refine Goes.val (Instr.loadAt 77 (.pointer (some ⟨b, o + i * 2 + 1, none⟩))) (.slice a3 M c3) (fun w' _ hI => load1 Tryz.isAgg77 (((bel1 hI.now.1).cell (p := ⟨b, o + i * 2 + 1, none⟩) hb).trans x2)) ?_
    cases hlt2 : decide ((j : Int) < (M : Int)) with
    | false =>
      obtain rfl : j = M := by have := of_decide_eq_false hlt2; omega
      rw [List.take_of_length_le (by omega)] at hY
      refine Goes.run1 [0, 0] [(decide ((j : Int) < (j : Int)), false)] ⟨hlt2, trivial⟩ fun gb => ?_
      refine Goes.eff (Builtin.append_ #[25, 25] 25 #[.slice a2 X.length c2, .slice (some ⟨gb, 0, none⟩) 1 1]) fun w3 hm3 hn3 hI3 => ?_
      have zf : w3.heap[gb]? = some (.cells #[strV f.1, .slice a4 Y.length c4] 79 (0, 0)) := hm3.get 1
      have hF3 : FdW w.heap.size w3 (.slice a2 X.length c2) X := hF1.chN hI3.now.1
      obtain ⟨b', c', w4, hr, hF4, hgr, hob'⟩ := hF3.add (Nat.le_trans hws hI3.now.1.size) (f.1, Y) (own_more hI3.now.2 hws) zf (by omega) (ty := 25) (c := 1)
      have hc4 : Ch (Mem.ids []) w w4 := (hC1.trans hI3.now.1 (fun _ hx => .inl hx)).grown hgr fun b hb => .inr ((hF3.row.lt b hb).1)
      refine ⟨_, w4, fun w' => Ch (Mem.ids []) w w' ∧ FdW w.heap.size w' (.slice (some ⟨b', 0, none⟩) (X.length + 1) c') (X ++ [((f.1, Y), .slice a4 Y.length c4)]), [], hr, Holds.nil, by simp [Mem.ids], fun w' h => ⟨hc4.trans h (fun _ hx => .inl hx), hF4.chN h⟩, ?_⟩
      refine Goes.run [] [] trivial ?_
      refine Goes.slot 6 (.int .i64 (i + 1 : Nat)) (u := .int .i64 (IntKind.i64.wrap ((i : Int) + 1))) (congrArg _ (wrap_nat (by omega))) ?_
      have eL : (X ++ [((f.1, Y), Value.slice a4 Y.length c4)]).length = X.length + 1 := by simp
      refine Goes.slot 5 (.slice (some ⟨b', 0, none⟩) (X ++ [((f.1, Y), Value.slice a4 Y.length c4)]).length c') (u := .slice (some ⟨b', 0, none⟩) (X.length + 1) c') (by rw [eL]) ?_
      refine Goes.inv (Inv' := fun w' => Ch (Mem.ids []) w w' ∧ FdW w.heap.size w' (.slice (some ⟨b', 0, none⟩) (X ++ [((f.1, Y), Value.slice a4 Y.length c4)]).length c') (X ++ [((f.1, Y), .slice a4 Y.length c4)])) (fun w' h => by rw [eL]; exact h) ?_
      have hX2 : (X ++ [((f.1, Y), Value.slice a4 Y.length c4)] : List (Fx × Value)).map (fun x : Fx × Value => x.1) = toldP day (fs.take (i + 1)) := by
        rw [List.map_append, hX, take_more hf, told_snoc, hY]
        rfl
      refine back ⟨i + 1, X ++ [((f.1, Y), .slice a4 Y.length c4)], some ⟨b', 0, none⟩, c'⟩ _ ⟨hil, hX2⟩ (by simp only; omega) ?_ ?_ ?_
      · kernel_chk
      · kernel_chk
      · kernel_chk
    | true =>
      have hjl : j < M := by have := of_decide_eq_true hlt2; omega
      obtain ⟨q, hq⟩ : ∃ q, f.2[j]? = some q := ⟨f.2[j]'(by omega), by simp⟩
      obtain ⟨b2, o2, rfl, hb2, y1, y2⟩ := hstm j q hq
      obtain ⟨ob2, hob2⟩ := blk_of hb2
      refine Goes.run [1] [(decide ((j : Int) < (M : Int)), true)] ⟨hlt2, trivial⟩ ?_
      refine Goes.val (Instr.indexAt 25 (.slice (some ⟨b, o, none⟩) N cF) (.int .i64 i)) (.pointer (some ⟨b, o + i * 2, none⟩)) (fun w' _ _ => idxF b o N cF i hil w') ?_
      refine Goes.run [] [] trivial ?_
      refine Goes.val (Instr.loadAt 77 (.pointer (some ⟨b, o + i * 2 + 1, none⟩))) (.slice (some ⟨b2, o2, none⟩) M c3) (fun w' _ hI => load1 Tryz.isAgg77 (((bel1 hI.now.1).cell (p := ⟨b, o + i * 2 + 1, none⟩) hb).trans x2)) ?_
      refine Goes.run [] [] trivial ?_
      refine Goes.val (Instr.indexAt 77 (.slice (some ⟨b2, o2, none⟩) M c3) (.int .i64 j)) (.pointer (some ⟨b2, o2 + j * 2, none⟩)) (fun w' _ _ => idxT b2 o2 M c3 j hjl w') ?_
      refine Goes.run [] [] trivial ?_
      refine Goes.val (Instr.loadAt 3 (.pointer (some ⟨b2, o2 + j * 2, none⟩))) (.int .i64 q.1) (fun w' _ hI => load1 Tryz.isAgg3 (((bel1 hI.now.1).cell (p := ⟨b2, o2 + j * 2, none⟩) hb2).trans y1)) ?_
      cases h3 : decide (q.1 ≤ day) with
      | false =>
        refine Goes.run [0] [(decide (q.1 ≤ day), false)] ⟨h3, trivial⟩ ?_
        refine Goes.slot 8 (.int .i64 (j + 1 : Nat)) (u := .int .i64 (IntKind.i64.wrap ((j : Int) + 1))) (congrArg _ (wrap_nat (by omega))) ?_
        refine back2 ⟨j + 1, Y.length, Y, a4, c4⟩ _ ⟨hjl, by simp only; rw [hY, take_more hq, upTo_snoc, h3]; rfl, rfl⟩ (by simp only; omega) ?_ ?_ ?_
        · kernel_chk
        · kernel_chk
        · kernel_chk
      | true =>
        refine Goes.run [1] [(decide (q.1 ≤ day), true)] ⟨h3, trivial⟩ ?_
        have hex1' : ∀ x ∈ [(b, ob), (b2, ob2)], x.1 ∉ [g7] := fun x hx => by
          simp only [List.mem_cons, List.not_mem_nil, or_false] at hx ⊢
          rcases hx with rfl | rfl <;> simp only <;> omega
        refine Goes.openY [] [(b, ob), (b2, ob2)] (fun w' hI => hex2 hob hob2 (hC1.trans hI.1 (fun _ hx => .inl hx))) ?_
        refine Goes.run [0, 2, 3, 7] [] trivial ?_
        refine Goes.valA 4 (Instr.indexAt 25 (.slice (some ⟨b, o, none⟩) N cF) (.int .i64 i)) (.pointer (some ⟨b, o + i * 2, none⟩)) (fun w' _ => idxF b o N cF i hil w') ?_
        refine Goes.run [5] [] trivial ?_
        refine Goes.valA 6 (Instr.loadAt 77 (.pointer (some ⟨b, o + i * 2 + 1, none⟩))) (.slice (some ⟨b2, o2, none⟩) M c3) (fun w' hm => load1 Tryz.isAgg77 (Cel.same x2 hob (hm.get 0))) ?_
        refine Goes.valA 8 (Instr.indexAt 77 (.slice (some ⟨b2, o2, none⟩) M c3) (.int .i64 j)) (.pointer (some ⟨b2, o2 + j * 2, none⟩)) (fun w' _ => idxT b2 o2 M c3 j hjl w') ?_
        refine Goes.valA 9 (Instr.loadAt 81 (.pointer (some ⟨b2, o2 + j * 2, none⟩))) (.agg #[.int .i64 q.1, .int .i64 q.2]) (fun w' hm => loadStm (Cel.same y1 hob2 (hm.get 1)) (Cel.same y2 hob2 (hm.get 1))) ?_
        refine Goes.two 1 10 (TookS.runY 1 0 [] [(b, ob), (b2, ob2)] [g7] hex1' ?_) (TookS.new1Y 10 w1.heap.size [] [(b, ob), (b2, ob2)] [g7] hex1' (fun w' h => h.1.size) fun gb fb => ?_)
        · refine Goes.lone1 10 (TookS.new1Y 10 w1.heap.size [] [(b, ob), (b2, ob2)] [g7] hex1' (fun w' h => h.1.size) fun gb fb => ?_)
          refine Goes.lone1 11 (TookS.effM 11 (Builtin.append_ #[77, 77] 77 #[.slice a4 Y.length c4, .slice (some ⟨gb, 0, none⟩) 1 1]) fun w2 hm2 hn2 hI2 h02 => ?_)
          have z7 : w2.heap[g7]? = some (fO f.1 (.slice a4 Y.length c4)) := hm2.get 0
          have zb : w2.heap[gb]? = some (.cells #[.int .i64 q.1, .int .i64 q.2] 81 (0, 0)) := hm2.get 1
          obtain ⟨b', c', w3, hr, hY3, hgr, hob'⟩ := hI2.now.2.add hI2.now.1.size q zb (by omega) (ty := 77) (c := 1)
          have hc3 : Ch (Mem.ids []) w1 w3 := hI2.now.1.grown hgr fun b hb => .inr ((hI2.now.2.lt b hb).1)
          have z73 : w3.heap[g7]? = some (fO f.1 (.slice a4 Y.length c4)) := (hgr.block g7 (lt_of_get z7) (fun e => own_not hI2.now.2 z7 (by decide) e.symm)).trans z7
          refine ⟨_, w3, fun w' => Ch (Mem.ids []) w1 w' ∧ StR w1.heap.size w' (.slice (some ⟨b', 0, none⟩) (Y.length + 1) c') (Y ++ [q]), [(g7, fO f.1 (.slice a4 Y.length c4))], hr, holds_of (m := [(b, ob), (b2, ob2)]) (by kernel_chk) (hex2 hob hob2 (hC1.trans hc3 (fun _ hx => .inl hx))), holds1 z73, by simp [Mem.ids], fun w' h => ⟨hc3.trans h (fun x hx => .inr (by simp [Mem.ids] at hx; omega)), own_ch hY3 h (fun b hb hx => by simp [Mem.ids] at hx; subst hx; exact own_not hY3 z73 (by decide) hb)⟩, ?_⟩
          refine Goes.run [12] [] trivial ?_
          refine Goes.lone1 13 (TookS.runY 13 0 [] [(b, ob), (b2, ob2)] [g7] hex1' ?_)
          refine Goes.run [] [] trivial ?_
          refine Goes.slot 8 (.int .i64 (j + 1 : Nat)) (u := .int .i64 (IntKind.i64.wrap ((j : Int) + 1))) (congrArg _ (wrap_nat (by omega))) ?_
          refine back2 ⟨j + 1, Y.length + 1, Y ++ [q], some ⟨b', 0, none⟩, c'⟩ _ ⟨hjl, by simp only; rw [hY, take_more hq, upTo_snoc, h3]; rfl, by simp⟩ (by simp only; omega) ?_ ?_ ?_
          · kernel_chk
          · kernel_chk
          · kernel_chk
        · refine Goes.lone1 1 (TookS.runY 1 0 [] [(b, ob), (b2, ob2)] [g7, gb] (fun x hx => by
            simp only [List.mem_cons, List.not_mem_nil, or_false] at hx ⊢
            rcases hx with rfl | rfl <;> simp only <;> omega) ?_)
          refine Goes.lone1 11 (TookS.effM 11 (Builtin.append_ #[77, 77] 77 #[.slice a4 Y.length c4, .slice (some ⟨gb, 0, none⟩) 1 1]) fun w2 hm2 hn2 hI2 h02 => ?_)
          have z7 : w2.heap[g7]? = some (fO f.1 (.slice a4 Y.length c4)) := hm2.get 0
          have zb : w2.heap[gb]? = some (.cells #[.int .i64 q.1, .int .i64 q.2] 81 (0, 0)) := hm2.get 1
          obtain ⟨b', c', w3, hr, hY3, hgr, hob'⟩ := hI2.now.2.add hI2.now.1.size q zb (by omega) (ty := 77) (c := 1)
          have hc3 : Ch (Mem.ids []) w1 w3 := hI2.now.1.grown hgr fun b hb => .inr ((hI2.now.2.lt b hb).1)
          have z73 : w3.heap[g7]? = some (fO f.1 (.slice a4 Y.length c4)) := (hgr.block g7 (lt_of_get z7) (fun e => own_not hI2.now.2 z7 (by decide) e.symm)).trans z7
          refine ⟨_, w3, fun w' => Ch (Mem.ids []) w1 w' ∧ StR w1.heap.size w' (.slice (some ⟨b', 0, none⟩) (Y.length + 1) c') (Y ++ [q]), [(g7, fO f.1 (.slice a4 Y.length c4))], hr, holds_of (m := [(b, ob), (b2, ob2)]) (by kernel_chk) (hex2 hob hob2 (hC1.trans hc3 (fun _ hx => .inl hx))), holds1 z73, by simp [Mem.ids], fun w' h => ⟨hc3.trans h (fun x hx => .inr (by simp [Mem.ids] at hx; omega)), own_ch hY3 h (fun b hb hx => by simp [Mem.ids] at hx; subst hx; exact own_not hY3 z73 (by decide) hb)⟩, ?_⟩
          refine Goes.run [12] [] trivial ?_
          refine Goes.lone1 13 (TookS.runY 13 0 [] [(b, ob), (b2, ob2)] [g7] hex1' ?_)
          refine Goes.run [] [] trivial ?_
          refine Goes.slot 8 (.int .i64 (j + 1 : Nat)) (u := .int .i64 (IntKind.i64.wrap ((j : Int) + 1))) (congrArg _ (wrap_nat (by omega))) ?_
          refine back2 ⟨j + 1, Y.length + 1, Y ++ [q], some ⟨b', 0, none⟩, c'⟩ _ ⟨hjl, by simp only; rw [hY, take_more hq, upTo_snoc, h3]; rfl, by simp⟩ (by simp only; omega) ?_ ?_ ?_
          · kernel_chk
          · kernel_chk
          · kernel_chk
end Go.Proofs.YthnojedlndblbaaGreatDoor
