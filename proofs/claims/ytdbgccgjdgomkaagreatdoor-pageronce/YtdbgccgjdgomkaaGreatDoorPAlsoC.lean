/- alsoWrite: blocks that follow each other, and their bytes, are put to those that are to be written. -/
import Derived.Test.YtdbgccgjdgomkaaGreatDoorPChunkC
namespace Go.Proofs.YtdbgccgjdgomkaaGreatDoor
open Go Go.RowKit Go.Shelf Go.Sort

attribute [local go_sem] Oper.semAt_some

/-- All blocks but numbers' and parts' rows are as they were. -/
structure Ot2 (w w' : World) : Prop where
  size : w.heap.size ≤ w'.heap.size
  block : ∀ (k : Nat) (o : Obj), w.heap[k]? = some o → (∀ c, o ≠ .cells c 3 (0, 0)) → (∀ c, o ≠ .cells c 49 (0, 0)) → w'.heap[k]? = some o
theorem Ot2.refl (w : World) : Ot2 w w := ⟨Nat.le_refl _, fun _ _ h _ _ => h⟩
theorem Ot2.trans {a b c : World} (h : Ot2 a b) (k : Ot2 b c) : Ot2 a c := ⟨Nat.le_trans h.size k.size, fun i o hi h1 h2 => k.block i o (h.block i o hi h1 h2) h1 h2⟩
theorem Ot2.of_below {w w' : World} (h : Below w.heap.size w w') : Ot2 w w' := ⟨h.size, fun _ _ hk _ _ => below_at h hk (heap_lt hk)⟩
theorem wpListIn_app {F : Fence} {n : Nat} {w w' : World} {ops : Array Oper} {rest : List Oper} {o : Oper} {a : Act} {Q : Exit → Act → World → Prop}
    (hg : o.guard = none) (s x : Operand) (t : TypeId) (hop : o.op = Op.call { callee := Callee.builtin Builtin.append, args := #[s, x], argTypes := #[t, t] }) {v src v' : Value} (hs : a.eval s = v) (hx : a.eval x = src)
    (hrun : (Builtin.append_ #[t, t] o.type #[v, src]).run Tryz.prog w = .ok v' w') (hK : wpListIn F n Tryz.prog ops Q rest (a.put o.dst v') w') : wpListIn F n Tryz.prog ops Q (o :: rest) a w := by
  refine wpListIn_plain hg fun K hK' => ?_
  unfold Oper.wpIn
  refine ⟨?_, ?_⟩
  · simp [Oper.about, hop, resolve, Target.leads, Sem.run_pure]
  · rw [Oper.semAt_plain F _ _ (by rw [hop]; intro c hc'; cases hc')]
    simp [execOp, hop, resolve, invoke, builtin, hs, hx, hrun, Result.andThen]
    exact hK' _ _ hK
theorem more_at {t ts : TypeId} {z : Value} {by_ : Nat} (hu : Tryz.prog.underlying ts = some (.slice t)) (hi : (Tryz.prog.info? t).map (fun i => (i.zero, i.size, i.bytes)) = some (some z, 1, by_)) (hzc : z.cells.size = 1) (hby : by_ ≤ 24)
    {w : World} {B : Nat} {v : Value} {xs : List Value} (h : w.ownsRow B t 1 v xs.length xs) (x : Value) (hx : x.oneCell' = true) (hn : xs.length ≤ 1000000) (hB : B ≤ w.heap.size) (ty : TypeId) :
    ∃ g cap w', (Builtin.append_ #[ts, ts] ty #[v, .slice (some ⟨w.heap.size, 0, none⟩) 1 1]).run Tryz.prog (w.alloc (.cells #[x] t)) = .ok (.slice (some ⟨g, 0, none⟩) (xs ++ [x]).length cap) w' ∧ w'.ownsRow B t 1 (.slice (some ⟨g, 0, none⟩) (xs ++ [x]).length cap) (xs ++ [x]).length (xs ++ [x]) ∧
      (w.alloc (.cells #[x] t)).grownBy w' v.ownBlock ∧ (some g = v.ownBlock ∨ g = w.heap.size + 1) := by
  obtain ⟨i0, hie, hz0, hz1, hz2⟩ := info_parts hi
  have hnb : (xs.length + 1) * by_ ≤ 1000001 * 24 := Nat.mul_le_mul (by omega) hby
  obtain ⟨v', w', hr, ho, hg, _, hob⟩ := run_append_own_at (P := Tryz.prog) (w := w.alloc (.cells #[x] t)) B ts ty t i0 z 1 by_ hu hie hz0 hz1 hz2 hzc (by decide) v xs.length _ (h.alloc _) ⟨w.heap.size, 0, none⟩ 1 1 [x]
    rfl (fun j u hj => by rw [Addr.add_lit, Nat.zero_add]; exact cell_at (heap_alloc_last w _) j (by simpa using hj)) (fun u hu => by have e : u = x := List.mem_singleton.1 hu; rw [e]; exact hx) (by unfold maxLen; omega) (by omega) (by show B ≤ (w.heap.push _).size; simp; omega)
  obtain ⟨g, cap, rfl⟩ := ownsRow_succ ho
  refine ⟨g, cap, w', ?_, ?_, hg, ?_⟩
  · rw [List.length_append]; exact hr
  · rw [List.length_append]; exact ho
  · rcases hob with h | h
    · exact .inl h
    · right
      have : g = (w.alloc (.cells #[x] t)).heap.size := by simpa [Value.ownBlock] using h
      rw [this]; show (w.heap.push _).size = _; simp
/-- A slice's row is none of the five boxes behind w, nor the block N. -/
def Off5 (N : Nat) (w : World) (v : Value) : Prop := ∀ k, v.ownBlock = some k → (k < w.heap.size ∧ k ≠ N) ∨ w.heap.size + 5 ≤ k
/-- Between two rounds. -/
structure AI (N : Nat) (w : World) (B : Nat) (zs : List Int) (ps : List Value) (f : Int) (W : World) : Prop where
  a : ∃ va, Boxed W w.heap.size 42 va ∧ W.ownsRow B 3 1 va zs.length (zs.map (Value.int .i64)) ∧ Off5 N w va
  b : ∃ vb, Boxed W (w.heap.size + 1) 104 vb ∧ W.ownsRow B 49 1 vb ps.length ps ∧ Off5 N w vb
  f : Boxed W (w.heap.size + 2) 3 (.int .i64 f)
  below : Below B w W
  ot : Ot2 w W
  size : w.heap.size + 5 ≤ W.heap.size
  nk : N < w.heap.size → W.heap[N]? = w.heap[N]?
theorem not_row {W : World} {row : Option Nat} {k : Nat} {c : Array Value} {t : TypeId} {z : Nat × Nat} (hk : W.heap[k]? = some (.cells c t z)) (hr : ∀ r, row = some r → ∃ o : Obj, W.heap[r]? = some o ∧ o.isCells = false) : some k ≠ row := fun e => by
  obtain ⟨o, ho, hc⟩ := hr k e.symm
  rw [hk] at ho; cases ho; cases hc
theorem owns_grown {W W' : World} {row : Option Nat} {B : Nat} {t : TypeId} {v : Value} {n : Nat} {xs : List Value} (h : W.ownsRow B t 1 v n xs) (hg : W.grownBy W' row) (hr : ∀ r, row = some r → ∃ o : Obj, W.heap[r]? = some o ∧ o.isCells = false) : W'.ownsRow B t 1 v n xs := by
  refine h.kept hg ?_
  rcases h.2 with ⟨rfl, _⟩ | ⟨g, cap, cur, rfl, _, hgb, _⟩
  · exact .inl rfl
  · exact .inr (fun e => not_row hgb hr (by simpa [Value.ownBlock] using e))
theorem AI.own {N : Nat} {w : World} {B : Nat} {zs : List Int} {ps : List Value} {f : Int} {W W' : World} {row : Option Nat} (h : AI N w B zs ps f W) (hB : B ≤ w.heap.size) (hg : W.grownBy W' row) (hr : ∀ r, row = some r → w.heap.size + 5 ≤ r ∧ ∃ o : Obj, W.heap[r]? = some o ∧ o.isCells = false) : AI N w B zs ps f W' := by
  have hr' : ∀ r, row = some r → ∃ o : Obj, W.heap[r]? = some o ∧ o.isCells = false := fun r e => (hr r e).2
  obtain ⟨va, a1, a2, a3⟩ := h.a
  obtain ⟨vb, b1, b2, b3⟩ := h.b
  refine ⟨⟨va, a1.kept hg (not_row a1 hr'), owns_grown a2 hg hr', a3⟩, ⟨vb, b1.kept hg (not_row b1 hr'), owns_grown b2 hg hr', b3⟩, h.f.kept hg (not_row h.f hr'), h.below.grown hg (Nat.le_trans hB h.below.size) (fun k e => by have := (hr k e).1; omega), ⟨Nat.le_trans h.ot.size hg.size, fun k o hk h1 h2 => ?_⟩, Nat.le_trans h.size hg.size, fun hN => (hg.block N (by have := h.size; omega) (fun e => by have := (hr N e.symm).1; omega)).trans (h.nk hN)⟩
  have hk2 := h.ot.block k o hk h1 h2
  rw [hg.block k (heap_lt hk2) (fun e => by have := (hr k e.symm).1; have := heap_lt hk; omega)]
  exact hk2
/-- One number and one part more. -/
theorem AI.step {N : Nat} {w : World} {B : Nat} {zs : List Int} {ps : List Value} {f : Int} {W : World} (h : AI N w B zs ps f W) (hB : B ≤ w.heap.size) (x : Value) (hx : x.oneCell' = true) (hz : zs.length ≤ 1000000) (hp : ps.length ≤ 1000000) (f' : Int) :
    ∃ va vb g1 c1 w1 g2 c2 w2, Boxed W w.heap.size 42 va ∧ Boxed W (w.heap.size + 1) 104 vb ∧
      (Builtin.append_ #[42, 42] 42 #[va, .slice (some ⟨W.heap.size, 0, none⟩) 1 1]).run Tryz.prog (W.alloc (.cells #[.int .i64 f] 3)) = .ok (.slice (some ⟨g1, 0, none⟩) (zs.length + 1) c1) w1 ∧
      Boxed w1 w.heap.size 42 va ∧ Boxed (w1.setCell ⟨w.heap.size, 0, none⟩ (.slice (some ⟨g1, 0, none⟩) (zs.length + 1) c1)) (w.heap.size + 1) 104 vb ∧
      (Builtin.append_ #[104, 104] 104 #[vb, .slice (some ⟨(w1.setCell ⟨w.heap.size, 0, none⟩ (.slice (some ⟨g1, 0, none⟩) (zs.length + 1) c1)).heap.size, 0, none⟩) 1 1]).run Tryz.prog ((w1.setCell ⟨w.heap.size, 0, none⟩ (.slice (some ⟨g1, 0, none⟩) (zs.length + 1) c1)).alloc (.cells #[x] 49)) = .ok (.slice (some ⟨g2, 0, none⟩) (ps.length + 1) c2) w2 ∧
      Boxed w2 (w.heap.size + 1) 104 vb ∧ Boxed (w2.setCell ⟨w.heap.size + 1, 0, none⟩ (.slice (some ⟨g2, 0, none⟩) (ps.length + 1) c2)) (w.heap.size + 2) 3 (.int .i64 f) ∧
      AI N w B (zs ++ [f]) (ps ++ [x]) f' ((w2.setCell ⟨w.heap.size + 1, 0, none⟩ (.slice (some ⟨g2, 0, none⟩) (ps.length + 1) c2)).setCell ⟨w.heap.size + 2, 0, none⟩ (.int .i64 f')) ∧
      W.heap.size ≤ ((w2.setCell ⟨w.heap.size + 1, 0, none⟩ (.slice (some ⟨g2, 0, none⟩) (ps.length + 1) c2)).setCell ⟨w.heap.size + 2, 0, none⟩ (.int .i64 f')).heap.size ∧
      (∀ (k : Nat) (o : Obj), W.heap[k]? = some o → o.isCells = false ∨ (w.heap.size + 3 ≤ k ∧ k < w.heap.size + 5) → ((w2.setCell ⟨w.heap.size + 1, 0, none⟩ (.slice (some ⟨g2, 0, none⟩) (ps.length + 1) c2)).setCell ⟨w.heap.size + 2, 0, none⟩ (.int .i64 f')).heap[k]? = some o) := by
  obtain ⟨va, a1, a2, a3⟩ := h.a
  obtain ⟨vb, b1, b2, b3⟩ := h.b
  have hBW : B ≤ W.heap.size := Nat.le_trans hB h.below.size
  have hsz := h.size
  have a2' : W.ownsRow B 3 1 va (zs.map (Value.int .i64)).length (zs.map (Value.int .i64)) := by rw [List.length_map]; exact a2
  obtain ⟨g1, c1, w1, r1, o1, gr1, ob1⟩ := more_at Tryz.underlying42 info3 rfl (by decide) a2' (.int .i64 f) rfl (by rw [List.length_map]; exact hz) hBW 42
  have e1 : (zs.map (Value.int .i64) ++ [Value.int .i64 f]).length = zs.length + 1 := by simp
  rw [e1] at r1 o1
  -- what the first append leaves
  have kp1 : ∀ (k : Nat) (o : Obj), W.heap[k]? = some o → some k ≠ va.ownBlock → w1.heap[k]? = some o := fun k o hk hne => by
    rw [gr1.block k (by show k < (W.heap.push _).size; simp; have := heap_lt hk; omega) hne]
    exact (Below.heap_alloc W _ k (heap_lt hk)).trans hk
  have na : ∀ (k : Nat) (c : Array Value) (t : TypeId) (z : Nat × Nat), W.heap[k]? = some (.cells c t z) → t ≠ 3 → some k ≠ va.ownBlock := fun k c t z hk hne e => by
    rcases a2.2 with ⟨rfl, _⟩ | ⟨g, cap, cur, rfl, _, hgb, _⟩
    · simp [Value.ownBlock] at e
    · obtain rfl : k = g := by simpa [Value.ownBlock] using e
      rw [hk] at hgb
      injection hgb with hgb
      injection hgb with _ e2
      exact hne e2
  have fa : ∀ k, w.heap.size ≤ k → k < w.heap.size + 5 → some k ≠ va.ownBlock := fun k h1 h2 e => by
    rcases a3 k e.symm with h | h <;> omega
  have nb : ∀ (k : Nat) (o : Obj), W.heap[k]? = some o → o.isCells = false → some k ≠ va.ownBlock := fun k o hk ho e => by
    rcases a2.2 with ⟨rfl, _⟩ | ⟨g, cap, cur, rfl, _, hgb, _⟩
    · simp [Value.ownBlock] at e
    · obtain rfl : k = g := by simpa [Value.ownBlock] using e
      rw [hk] at hgb; cases hgb; cases ho
  obtain ⟨v1, hv1⟩ : ∃ v1, v1 = Value.slice (some ⟨g1, 0, none⟩) (zs.length + 1) c1 := ⟨_, rfl⟩
  rw [← hv1] at r1 o1
  have a11 : Boxed w1 w.heap.size 42 va := kp1 _ _ a1 (fa _ (by omega) (by omega))
  have hs1 : W.heap.size < w1.heap.size := by
    have := gr1.size
    have : (W.alloc (.cells #[.int .i64 f] 3)).heap.size = W.heap.size + 1 := by show (W.heap.push _).size = _; simp
    omega
  obtain ⟨W1, hW1⟩ : ∃ W1, W1 = w1.setCell ⟨w.heap.size, 0, none⟩ v1 := ⟨_, rfl⟩
  have kp2 : ∀ (k : Nat) (o : Obj), W.heap[k]? = some o → some k ≠ va.ownBlock → k ≠ w.heap.size → W1.heap[k]? = some o := fun k o hk h1 h2 => by
    rw [hW1, Below.heap_setCell w1 _ _ k h2]
    exact kp1 k o hk h1
  have hsW1 : W1.heap.size = w1.heap.size := by rw [hW1]; simp
  have a12 : Boxed W1 w.heap.size 42 v1 := by rw [hW1]; exact a11.set v1
  have b12 : Boxed W1 (w.heap.size + 1) 104 vb := kp2 _ _ b1 (fa _ (by omega) (by omega)) (by omega)
  have f12 : Boxed W1 (w.heap.size + 2) 3 (.int .i64 f) := kp2 _ _ h.f (fa _ (by omega) (by omega)) (by omega)
  have o12 : W1.ownsRow B 3 1 v1 (zs.length + 1) (zs.map (Value.int .i64) ++ [.int .i64 f]) := by
    rw [hW1]
    exact o1.kept (grownBy_setCell' w1 w.heap.size v1) (.inr (a11.not_row (by decide) o1).symm)
  have r12 : W1.ownsRow B 49 1 vb ps.length ps := by
    refine ⟨b2.1, ?_⟩
    rcases b2.2 with h0 | ⟨g, cap, cur, e, hb, hg, rr⟩
    · exact .inl h0
    · exact .inr ⟨g, cap, cur, e, hb, kp2 g _ hg (na g _ _ _ hg (by decide)) (fun e2 => by rw [e2] at hg; rw [show W.heap[w.heap.size]? = _ from a1] at hg; injection hg with hg; injection hg with _ e3; exact absurd e3 (by decide)), rr⟩
  have hBW1 : B ≤ W1.heap.size := by omega
  obtain ⟨g2, c2, w2, r2, o2, gr2, ob2⟩ := more_at Tryz.underlying104 infoSl rfl (by decide) r12 x hx hp hBW1 104
  have e2 : (ps ++ [x]).length = ps.length + 1 := by simp
  rw [e2] at r2 o2
  obtain ⟨v2, hv2⟩ : ∃ v2, v2 = Value.slice (some ⟨g2, 0, none⟩) (ps.length + 1) c2 := ⟨_, rfl⟩
  have kp3 : ∀ (k : Nat) (o : Obj), W1.heap[k]? = some o → some k ≠ vb.ownBlock → w2.heap[k]? = some o := fun k o hk hne => by
    rw [gr2.block k (by show k < (W1.heap.push _).size; simp; have := heap_lt hk; omega) hne]
    exact (Below.heap_alloc W1 _ k (heap_lt hk)).trans hk
  have nb2 : ∀ (k : Nat) (c : Array Value) (t : TypeId) (z : Nat × Nat), W1.heap[k]? = some (.cells c t z) → t ≠ 49 → some k ≠ vb.ownBlock := fun k c t z hk hne e => by
    rcases r12.2 with ⟨rfl, _⟩ | ⟨g, cap, cur, rfl, _, hgb, _⟩
    · simp [Value.ownBlock] at e
    · obtain rfl : k = g := by simpa [Value.ownBlock] using e
      rw [hk] at hgb
      injection hgb with hgb
      injection hgb with _ e2
      exact hne e2
  have fb : ∀ k, w.heap.size ≤ k → k < w.heap.size + 5 → some k ≠ vb.ownBlock := fun k h1 h2 e => by
    rcases b3 k e.symm with h | h <;> omega
  have nbo : ∀ (k : Nat) (o : Obj), W1.heap[k]? = some o → o.isCells = false → some k ≠ vb.ownBlock := fun k o hk ho e => by
    rcases r12.2 with ⟨rfl, _⟩ | ⟨g, cap, cur, rfl, _, hgb, _⟩
    · simp [Value.ownBlock] at e
    · obtain rfl : k = g := by simpa [Value.ownBlock] using e
      rw [hk] at hgb; cases hgb; cases ho
  have b13 : Boxed w2 (w.heap.size + 1) 104 vb := kp3 _ _ b12 (fb _ (by omega) (by omega))
  have hs2 : W1.heap.size < w2.heap.size := by
    have := gr2.size
    have : (W1.alloc (.cells #[x] 49)).heap.size = W1.heap.size + 1 := by show (W1.heap.push _).size = _; simp
    omega
  obtain ⟨W2, hW2⟩ : ∃ W2, W2 = w2.setCell ⟨w.heap.size + 1, 0, none⟩ v2 := ⟨_, rfl⟩
  have hsW2 : W2.heap.size = w2.heap.size := by rw [hW2]; simp
  have kp4 : ∀ (k : Nat) (o : Obj), W1.heap[k]? = some o → some k ≠ vb.ownBlock → k ≠ w.heap.size + 1 → W2.heap[k]? = some o := fun k o hk h1 h2 => by
    rw [hW2, Below.heap_setCell w2 _ _ k h2]
    exact kp3 k o hk h1
  have f14 : Boxed W2 (w.heap.size + 2) 3 (.int .i64 f) := kp4 _ _ f12 (fb _ (by omega) (by omega)) (by omega)
  have a14 : Boxed W2 w.heap.size 42 v1 := kp4 _ _ a12 (fb _ (by omega) (by omega)) (by omega)
  have b14 : Boxed W2 (w.heap.size + 1) 104 v2 := by rw [hW2]; exact b13.set v2
  rw [← hv2] at r2 o2
  have o14 : W2.ownsRow B 49 1 v2 (ps.length + 1) (ps ++ [x]) := by
    rw [hW2]
    exact o2.kept (grownBy_setCell' w2 (w.heap.size + 1) v2) (.inr (b13.not_row (by decide) o2).symm)
  have ow : ∀ (t : TypeId) (v : Value) (n : Nat) (xs : List Value), t ≠ 49 → t ≠ 104 → W1.ownsRow B t 1 v n xs → W2.ownsRow B t 1 v n xs := fun t v n xs h1 h2 ho => by
    refine ⟨ho.1, ?_⟩
    rcases ho.2 with h0 | ⟨g, cap, cur, e, hb, hg, rr⟩
    · exact .inl h0
    · exact .inr ⟨g, cap, cur, e, hb, kp4 g _ hg (nb2 g _ _ _ hg h1) (fun e2 => by rw [e2] at hg; rw [show W1.heap[w.heap.size + 1]? = _ from b12] at hg; injection hg with hg; injection hg with _ e3; exact h2 e3.symm), rr⟩
  have o124 := ow _ _ _ _ (by decide) (by decide) o12
  obtain ⟨W3, hW3⟩ : ∃ W3, W3 = W2.setCell ⟨w.heap.size + 2, 0, none⟩ (.int .i64 f') := ⟨_, rfl⟩
  have kp5 : ∀ (k : Nat) (o : Obj), W2.heap[k]? = some o → k ≠ w.heap.size + 2 → W3.heap[k]? = some o := fun k o hk h1 => by
    rw [hW3, Below.heap_setCell W2 _ _ k h1]; exact hk
  have os : ∀ (v : Value) (n : Nat) (t : TypeId) (xs : List Value), (∀ g, v.ownBlock = some g → g ≠ w.heap.size + 2) → W2.ownsRow B t 1 v n xs → W3.ownsRow B t 1 v n xs := fun v n t xs hne ho => by
    refine ⟨ho.1, ?_⟩
    rcases ho.2 with h0 | ⟨g, cap, cur, e, hb, hg, rr⟩
    · exact .inl h0
    · exact .inr ⟨g, cap, cur, e, hb, kp5 g _ hg (hne g (by rw [e]; rfl)), rr⟩
  have of1 : Off5 N w v1 := fun k hk => by
    have e : k = g1 := by rw [hv1] at hk; simpa [Value.ownBlock] using hk.symm
    rcases ob1 with h | h
    · exact a3 k (by rw [e]; exact h.symm)
    · right; omega
  have of2 : Off5 N w v2 := fun k hk => by
    have e : k = g2 := by rw [hv2] at hk; simpa [Value.ownBlock] using hk.symm
    rcases ob2 with h | h
    · exact b3 k (by rw [e]; exact h.symm)
    · right; omega
  have nof : ∀ {v : Value}, Off5 N w v → ∀ g, v.ownBlock = some g → g ≠ w.heap.size + 2 := fun ho g hg e => by
    rcases ho g hg with h | h <;> omega
  have hbl : Below B W W3 := by
    have s1 : Below B W w1 := ((Below.refl B W).alloc hBW _).grown gr1 (by show B ≤ (W.heap.push _).size; simp; omega) (fun j ej => by
      rcases a2.2 with ⟨rfl, _⟩ | ⟨g, cap, cur, rfl, hb, _, _⟩
      · simp [Value.ownBlock] at ej
      · obtain rfl : g = j := by simpa [Value.ownBlock] using ej
        exact hb)
    have s2 : Below B W W1 := by rw [hW1]; exact s1.setCell (p := ⟨w.heap.size, 0, none⟩) hB v1
    have s3 : Below B W1 w2 := ((Below.refl B W1).alloc hBW1 _).grown gr2 (by show B ≤ (W1.heap.push _).size; simp; omega) (fun j ej => by
      rcases r12.2 with ⟨rfl, _⟩ | ⟨g, cap, cur, rfl, hb, _, _⟩
      · simp [Value.ownBlock] at ej
      · obtain rfl : g = j := by simpa [Value.ownBlock] using ej
        exact hb)
    have s4 : Below B W1 W2 := by rw [hW2]; exact s3.setCell (p := ⟨w.heap.size + 1, 0, none⟩) (Nat.le_trans hB (Nat.le_succ _)) v2
    rw [hW3]
    exact (s2.trans s4).setCell (p := ⟨w.heap.size + 2, 0, none⟩) (Nat.le_trans hB (by omega : w.heap.size ≤ w.heap.size + 2)) _
  have hs3 : W3.heap.size = W2.heap.size := by rw [hW3]; simp
  refine ⟨va, vb, g1, c1, w1, g2, c2, w2, a1, b1, ?_, a11, ?_, ?_, b13, ?_, ?_, ?_, ?_⟩
  · rw [← hv1]; exact r1
  · rw [← hv1, ← hW1]; exact b12
  · rw [← hv1, ← hW1, ← hv2]; exact r2
  · rw [← hv2, ← hW2]; exact f14
  · rw [← hv2, ← hW2, ← hW3]
    refine ⟨⟨v1, kp5 _ _ a14 (by omega), ?_, of1⟩, ⟨v2, kp5 _ _ b14 (by omega), ?_, of2⟩, ?_, h.below.trans hbl, ⟨by omega, fun k o hk h1 h2 => ?_⟩, by omega, fun hN => ?_⟩
    · have := os v1 _ _ _ (nof of1) o124
      rw [List.map_append, List.length_append]; exact this
    · have := os v2 _ _ _ (nof of2) o14
      rw [List.length_append]; exact this
    · rw [hW3]; exact f14.set _
    · have hkl := heap_lt hk
      have q0 := h.ot.block k o hk h1 h2
      have q1 := kp2 k o q0 (fun e => by
        rcases a2.2 with ⟨rfl, _⟩ | ⟨g, cap, cur, rfl, _, hgb, _⟩
        · simp [Value.ownBlock] at e
        · obtain rfl : k = g := by simpa [Value.ownBlock] using e
          rw [q0] at hgb
          exact h1 _ (Option.some.inj hgb)) (by omega)
      exact kp5 k o (kp4 k o q1 (fun e => by
        rcases r12.2 with ⟨rfl, _⟩ | ⟨g, cap, cur, rfl, _, hgb, _⟩
        · simp [Value.ownBlock] at e
        · obtain rfl : k = g := by simpa [Value.ownBlock] using e
          rw [q1] at hgb
          exact h2 _ (Option.some.inj hgb)) (by omega)) (by omega)
    · have hw : w.heap[N]? = some w.heap[N] := Array.getElem?_eq_getElem hN
      have q0 := (h.nk hN).trans hw
      have q1 := kp2 N _ q0 (fun e => by rcases a3 N e.symm with h | h <;> omega) (by omega)
      exact (kp5 N _ (kp4 N _ q1 (fun e => by rcases b3 N e.symm with h | h <;> omega) (by omega)) (by omega)).trans hw.symm
  · rw [← hv2, ← hW2, ← hW3]; omega
  · rw [← hv2, ← hW2, ← hW3]
    intro k o hk hor
    rcases hor with ho | ⟨h1, h2⟩
    · have k1 : k ≠ w.heap.size := fun e => by rw [e, show W.heap[w.heap.size]? = _ from a1] at hk; cases hk; cases ho
      have k2 : k ≠ w.heap.size + 1 := fun e => by rw [e, show W.heap[w.heap.size + 1]? = _ from b1] at hk; cases hk; cases ho
      have k3 : k ≠ w.heap.size + 2 := fun e => by rw [e, show W.heap[w.heap.size + 2]? = _ from h.f] at hk; cases hk; cases ho
      have q1 := kp2 k o hk (nb k o hk ho) k1
      exact kp5 k o (kp4 k o q1 (nbo k o q1 ho) k2) k3
    · have q1 := kp2 k o hk (fa k (by omega) h2) (by omega)
      exact kp5 k o (kp4 k o q1 (fb k (by omega) h2) (by omega)) (by omega)
end Go.Proofs.YtdbgccgjdgomkaaGreatDoor
