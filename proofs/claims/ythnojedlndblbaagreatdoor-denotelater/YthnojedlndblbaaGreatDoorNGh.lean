/- texts put together: NSp NLay NAc NRd NAcq0 -/
import Derived.Test.YthnojedlndblbaaGreatDoorNGg
import Derived.Test.YthnojedlndblbaaGreatDoorNGd
namespace Go.Proofs.YthnojedlndblbaaGreatDoor
open Go Go.RowKit

section
variable {P : Program} {F : Exit → Act → World → Prop} {Inv : World → Prop} {s : St}
def skS (I : Sem Unit) : Sem Next := do I; pure .skip
theorem skS_run {I : Sem Unit} {w w' : World} (h : I.run P w = .ok () w') : (skS I).run P w = .ok .skip w' := by
  unfold skS
  simp only [Sem.run_bind, h, Result.andThen_ok, Sem.run_pure]
/-- A store that is known otherwise. -/
theorem Goes.sto (I : Sem Unit)
 (hr : ∀ w, Holds s.mem w → s.mem.ids.Nodup → Stay s.mem.ids w Inv → ∃ w' Inv' m, I.run P w = .ok () w' ∧ Holds m w' ∧ m.ids.Nodup ∧ Stay m.ids w' Inv' ∧ Goes P F Inv' (put s undef m)) (ho : (nextOp s).map (fun q => execOp (evalL s.tmps) q.2.1) = some (skS I) := by kernel_rfl) (hw : wants s = true := by kernel_rfl) : Goes P F Inv s := by
  intro w hm hn hI
  cases hno : nextOp s with
  | none => rw [hno] at ho; cases ho
  | some q =>
    obtain ⟨ops, o', rest, res, k⟩ := q
    rw [hno] at ho
    have ho : execOp (evalL s.tmps) o' = skS I := by simpa using ho
    rw [nextOp_todo hno]
    show wpList P ops (QK P F k) (o' :: rest) ⟨s.tmps.toArray, []⟩ w
    refine wpList_step fun K hK => ?_
    rw [if_pos (wants_ok hno hw)]
    unfold Oper.wp
    obtain ⟨w', Inv', m, he, h1, h2, h3, h4⟩ := hr w hm hn hI
    have h5 := h4 w'
    unfold put at h5
    rw [hno] at h5
    rw [evalL_eq, ho, skS_run he, Oper.upon_skip]
    refine hK _ _ ?_
    rw [putL_eq]
    exact h5 h1 h2 h3
/-- A block is made, and it is no elder one. -/
def mkSt (P : Program) (g : Nat) (s : St) : St :=
  match mkG P ⟨s, [], [], []⟩ [g] with
  | some (y, _) => y.st
  | none => s
theorem Goes.new1 (n1 : Nat) (hn1 : ∀ w, Inv w → n1 ≤ w.heap.size) (h : ∀ g, n1 ≤ g → Goes P F Inv (mkSt P g s)) (hs : ∀ g, (mkG P ⟨s, [], [], []⟩ [g]).map (fun q => (q.1.on, q.1.ob)) = some ([], []) := by intro g; kernel_rfl) : Goes P F Inv s := by
  intro w hm hn hI
  have hg := hs w.heap.size
  have hG := h w.heap.size (hn1 w hI.now)
  cases hmk : mkG P ⟨s, [], [], []⟩ [w.heap.size] with
  | none => rw [hmk] at hg; cases hg
  | some q =>
    obtain ⟨y, gs⟩ := q
    unfold mkSt at hG
    rw [hmk] at hG hg
    simp only at hG
    simp only [Option.map_some, Option.some.injEq, Prod.mk.injEq] at hg
    unfold mkG at hmk
    simp only at hmk
    split at hmk
    · rename_i ops o rest res k hno
      split at hmk
      · rename_i hc
        simp only [Bool.and_eq_true] at hc
        split at hmk
        · rename_i y' hd
          cases hmk
          exact doOp_goes (x := ⟨s, [], [], []⟩) (nextOp_todo hno) hd (wants_ok hno hc.2) ⟨by rw [hg.1]; simp, by rw [hg.2]; simp⟩ hG hm hn hI (fun n e => by cases e; rfl)
        · cases hmk
      · cases hmk
    · cases hmk
end
/-- Rows of two types lie apart. -/
theorem own_ne {w : World} {b1 e1 s1 n1 b2 e2 s2 n2 : Nat} {v1 v2 : Value} {x1 x2 : List Value} (h : w.ownsRow b1 e1 s1 v1 n1 x1) (h' : w.ownsRow b2 e2 s2 v2 n2 x2) (he : e1 ≠ e2) {b : Nat} (hb : v1.ownBlock = some b) : v2.ownBlock ≠ some b := by
  intro hb'
  rcases h.2 with ⟨rfl, -⟩ | ⟨g, cap, cur, rfl, -, hg, -⟩
  · cases hb
  · rcases h'.2 with ⟨rfl, -⟩ | ⟨g', cap', cur', rfl, -, hg', -⟩
    · cases hb'
    · cases hb
      cases hb'
      rw [hg] at hg'
      simp at hg'
      exact he hg'.2
/-- A row lies in no block of another type. -/
theorem own_not {w : World} {b1 e1 s1 n1 e g : Nat} {v1 : Value} {x1 : List Value} {c : Array Value} {z : Nat × Nat} (h : w.ownsRow b1 e1 s1 v1 n1 x1) (hg : w.heap[g]? = some (.cells c e z)) (he : e1 ≠ e) : v1.ownBlock ≠ some g := by
  intro hb
  rcases h.2 with ⟨rfl, -⟩ | ⟨g', cap, cur, rfl, -, hg', -⟩
  · cases hb
  · cases hb
    rw [hg] at hg'
    simp at hg'
    exact he hg'.2.1.symm
theorem own_ch {w w' : World} {b1 e1 s1 n1 : Nat} {v1 : Value} {x1 : List Value} {L : List Nat} (h : w.ownsRow b1 e1 s1 v1 n1 x1) (hc : Ch L w w') (ha : ∀ b, v1.ownBlock = some b → b ∉ L) : w'.ownsRow b1 e1 s1 v1 n1 x1 := by
  refine ⟨h.1, ?_⟩
  rcases h.2 with hn | ⟨g, cap, cur, rfl, hb, hg, rest⟩
  · exact .inl hn
  · exact .inr ⟨g, cap, cur, rfl, hb, (hc.block g (lt_of_get hg) (ha g rfl)).trans hg, rest⟩
theorem own_kept {w w' : World} {b1 e1 s1 n1 : Nat} {v1 : Value} {x1 : List Value} {o : Option Nat} (h : w.ownsRow b1 e1 s1 v1 n1 x1) (hg : w.grownBy w' o) (ha : ∀ b, v1.ownBlock = some b → o ≠ some b) : w'.ownsRow b1 e1 s1 v1 n1 x1 :=
  h.kept hg (by
    cases hb : v1.ownBlock with
    | none => exact .inl rfl
    | some b => exact .inr fun e => ha b hb e.symm)
/-- A spot: a term, its kids' places. -/
structure Sp where
  op : Int
  k : Int
  s : List UInt8
  kv : Value
  pl : List Int
def spC (x : Sp × Value) : List Value := [.int .i64 x.1.op, .int .i64 x.1.k, strV x.1.s, x.1.kv, x.2]
def spCs (X : List (Sp × Value)) : List Value := X.flatMap spC
theorem spCs_app (X Y : List (Sp × Value)) : spCs (X ++ Y) = spCs X ++ spCs Y := by unfold spCs; simp
theorem spCs_cons (x : Sp × Value) (Y : List (Sp × Value)) : spCs (x :: Y) = spC x ++ spCs Y := by unfold spCs; simp
theorem spCs_len : ∀ X : List (Sp × Value), (spCs X).length = X.length * 5
  | [] => rfl
  | x :: r => by rw [spCs_cons, List.length_append, spCs_len r]; simp [spC]; omega
def IzR (base : Nat) (w : World) (pv : Value) (pl : List Int) : Prop := w.ownsRow base 3 1 pv pl.length (pl.map (Value.int .i64))
def Apt (X : List (Sp × Value)) : Prop := X.Pairwise fun x y => ∀ b, x.2.ownBlock = some b → y.2.ownBlock ≠ some b
/-- A row of spots in memory. -/
structure SpW (base : Nat) (w : World) (v : Value) (X : List (Sp × Value)) : Prop where
  row : w.ownsRow base 99 5 v X.length (spCs X)
  kid : ∀ x ∈ X, IzR base w x.2 x.1.pl
  apart : Apt X
theorem SpW.ch {base : Nat} {w w' : World} {v : Value} {X : List (Sp × Value)} {L : List Nat} (h : SpW base w v X) (hc : Ch L w w') (hL : ∀ g ∈ L, ∃ c e z, w.heap[g]? = some (.cells c e z) ∧ e ≠ 99 ∧ e ≠ 3) : SpW base w' v X := by
  refine ⟨own_ch h.row hc fun b hb hm => ?_, fun x hx => own_ch (h.kid x hx) hc fun b hb hm => ?_, h.apart⟩
  · obtain ⟨c, e, z, hg, h1, -⟩ := hL b hm
    exact own_not h.row hg (fun e => h1 e.symm) hb
  · obtain ⟨c, e, z, hg, -, h2⟩ := hL b hm
    exact own_not (h.kid x hx) hg (fun e => h2 e.symm) hb
theorem spC_one {x : Sp × Value} (h1 : x.1.kv.oneCell' = true) (h2 : x.2.oneCell' = true) : ∀ u ∈ spC x, u.oneCell' = true := by
  intro u hu
  unfold spC at hu
  simp only [List.mem_cons, List.not_mem_nil, or_false] at hu
  rcases hu with rfl | rfl | rfl | rfl | rfl
  · rfl
  · rfl
  · rfl
  · exact h1
  · exact h2
theorem cell_row {w : World} {g : Nat} {l : List Value} {e : TypeId} {z : Nat × Nat} (hg : w.heap[g]? = some (.cells l.toArray e z)) : ∀ j u, l[j]? = some u → w.cell? ((⟨g, 0, none⟩ : Addr).add j) = some u := fun j u hu => by
  have e1 : (⟨g, 0, none⟩ : Addr).add j = ⟨g, j, none⟩ := by unfold Addr.add; split <;> simp_all
  rw [e1]
  unfold World.cell?
  rw [hg]
  simpa using hu
/-- One more spot, without kids so far. -/
theorem SpW.add {base : Nat} {w : World} {v : Value} {X : List (Sp × Value)} (h : SpW base w v X) (hb : base ≤ w.heap.size) {x : Sp} (hp : x.pl = []) (h1 : x.kv.oneCell' = true) {bj c : Nat} {et ty : TypeId} {z : Nat × Nat} (hj : w.heap[bj]? = some (.cells (spC (x, .slice none 0 0)).toArray et z)) (hl : X.length + 1 ≤ 100000) :
    ∃ b c' w', (Builtin.append_ #[60, 60] ty #[v, .slice (some ⟨bj, 0, none⟩) 1 c]).run Tryz.prog w = .ok (.slice (some ⟨b, 0, none⟩) (X.length + 1) c') w' ∧ SpW base w' (.slice (some ⟨b, 0, none⟩) (X.length + 1) c') (X ++ [(x, .slice none 0 0)]) ∧ w.grownBy w' v.ownBlock ∧ (v.ownBlock = some b ∨ b = w.heap.size) := by
  obtain ⟨b, c', w', hr, hrow, hgr, hob⟩ := append_coreA (P := Tryz.prog) (t := 60) (e := 99) (ty := ty) (size := 5) (bytes := 80) (a := ⟨bj, 0, none⟩) (m := 1) (c := c) (news := spC (x, .slice none 0 0)) h.row hb (by simp [spC]) (cell_row hj) (spC_one h1 rfl) (.inr (by omega)) (by unfold maxLen; omega) (by omega) (by kernel_rfl)
  refine ⟨b, c', w', hr, ⟨?_, fun y hy => ?_, ?_⟩, hgr, ?_⟩
  · rw [spCs_app, List.length_append, List.length_singleton, show spCs [(x, Value.slice none 0 0)] = spC (x, .slice none 0 0) by rw [spCs_cons]; simp [spCs]]
    exact hrow
  · rcases List.mem_append.1 hy with hy | hy
    · exact own_kept (h.kid y hy) hgr fun b hb => own_ne (h.kid y hy) h.row (by decide) hb
    · rw [List.mem_singleton] at hy
      subst hy
      unfold IzR
      simp only [hp]
      exact w'.ownsRow_nil _ _ _
  · unfold Apt
    rw [List.pairwise_append]
    refine ⟨h.apart, by simp, fun x hx y hy b hb => ?_⟩
    rw [List.mem_singleton] at hy
    subst hy
    simp [Value.ownBlock]
  · rcases hob with h | h
    · exact .inl h.symm
    · refine .inr ?_
      simp [Value.ownBlock] at h
      exact h
/-- A row of spots, one of which is about to have another row of places. -/
structure SpB (base : Nat) (w : World) (v : Value) (X1 : List (Sp × Value)) (x : Sp × Value) (X2 : List (Sp × Value)) (pv : Value) (pl : List Int) : Prop where
  row : w.ownsRow base 99 5 v (X1 ++ x :: X2).length (spCs (X1 ++ x :: X2))
  kid : ∀ y ∈ X1 ++ X2, IzR base w y.2 y.1.pl
  apart : Apt (X1 ++ X2)
  new : IzR base w pv pl
  ne : ∀ y ∈ X1 ++ X2, ∀ b, pv.ownBlock = some b → y.2.ownBlock ≠ some b
theorem Apt.cut {X1 X2 : List (Sp × Value)} {x : Sp × Value} (h : Apt (X1 ++ x :: X2)) : Apt (X1 ++ X2) ∧ ∀ y ∈ X1 ++ X2, ∀ b, x.2.ownBlock = some b → y.2.ownBlock ≠ some b := by
  unfold Apt at h ⊢
  rw [List.pairwise_append, List.pairwise_cons] at h
  obtain ⟨h1, ⟨h2, h3⟩, h4⟩ := h
  refine ⟨List.pairwise_append.2 ⟨h1, h3, fun a ha b hb => h4 a ha b (List.mem_cons_of_mem _ hb)⟩, fun y hy b hb => ?_⟩
  rcases List.mem_append.1 hy with hy | hy
  · intro e
    exact h4 y hy x (by simp) b e hb
  · exact h2 y hy b hb
theorem Apt.join {X1 X2 : List (Sp × Value)} {x : Sp × Value} (h : Apt (X1 ++ X2)) (hx : ∀ y ∈ X1 ++ X2, ∀ b, x.2.ownBlock = some b → y.2.ownBlock ≠ some b) : Apt (X1 ++ x :: X2) := by
  unfold Apt at h ⊢
  rw [List.pairwise_append] at h ⊢
  rw [List.pairwise_cons]
  obtain ⟨h1, h3, h4⟩ := h
  refine ⟨h1, ⟨fun y hy => hx y (List.mem_append_right _ hy), h3⟩, fun a ha b hb => ?_⟩
  rcases List.mem_cons.1 hb with rfl | hb
  · intro c hc e
    exact hx a (List.mem_append_left _ ha) c e hc
  · exact h4 a ha b hb
/-- A place more for a spot. -/
theorem SpW.place {base : Nat} {w : World} {v : Value} {X1 X2 : List (Sp × Value)} {x : Sp × Value} (h : SpW base w v (X1 ++ x :: X2)) (hb : base ≤ w.heap.size) (q : Int) {bj c : Nat} {et ty : TypeId} {z : Nat × Nat} (hj : w.heap[bj]? = some (.cells #[.int .i64 q] et z)) (hl : x.1.pl.length + 1 ≤ 100000) :
    ∃ b c' w', (Builtin.append_ #[97, 97] ty #[x.2, .slice (some ⟨bj, 0, none⟩) 1 c]).run Tryz.prog w = .ok (.slice (some ⟨b, 0, none⟩) (x.1.pl.length + 1) c') w' ∧ SpB base w' v X1 x X2 (.slice (some ⟨b, 0, none⟩) (x.1.pl.length + 1) c') (x.1.pl ++ [q]) ∧ w.grownBy w' x.2.ownBlock ∧ (x.2.ownBlock = some b ∨ b = w.heap.size) := by
  have hx := h.kid x (by simp)
  obtain ⟨h1, h2⟩ := h.apart.cut
  obtain ⟨b, c', w', hr, hrow, hgr, hob⟩ := append_coreA (P := Tryz.prog) (t := 97) (e := 3) (ty := ty) (size := 1) (bytes := 8) (a := ⟨bj, 0, none⟩) (m := 1) (c := c) (news := [.int .i64 q]) hx hb (by simp) (cell_row hj) (by simp [Value.oneCell']) (.inr (by omega)) (by unfold maxLen; omega) (by omega) (by kernel_rfl)
  have hob' : x.2.ownBlock = some b ∨ b = w.heap.size := by
    rcases hob with h | h
    · exact .inl h.symm
    · refine .inr ?_
      simp [Value.ownBlock] at h
      exact h
  have hin : ∀ y ∈ X1 ++ X2, y ∈ X1 ++ x :: X2 := fun y hy => by
    rcases List.mem_append.1 hy with hy | hy
    · simp [hy]
    · simp [hy]
  refine ⟨b, c', w', hr, ⟨own_kept h.row hgr fun b hb e => ?_, fun y hy => own_kept (h.kid y (hin y hy)) hgr fun b hb e => h2 y hy b e hb, h1, ?_, fun y hy b0 hb0 e => ?_⟩, hgr, hob'⟩
  · exact own_ne hx h.row (by decide) e hb
  · unfold IzR
    simpa using hrow
  · simp [Value.ownBlock] at hb0
    subst hb0
    rcases hob' with h3 | h3
    · exact h2 y hy _ h3 e
    · have := ((h.kid y (hin y hy)).lt _ e).2
      omega
theorem take_set {α : Type} (l : List α) (m i : Nat) (a : α) : (l.set i a).take m = (l.take m).set i a := by
  rw [List.take_set]
theorem spCs_set (X1 X2 : List (Sp × Value)) (x : Sp × Value) (pv : Value) (pl : List Int) : (spCs (X1 ++ x :: X2)).set (X1.length * 5 + 4) pv = spCs (X1 ++ ({ x.1 with pl := pl }, pv) :: X2) := by
  rw [spCs_app, spCs_app, spCs_cons, spCs_cons, List.set_append_right _ _ (by rw [spCs_len]; omega), spCs_len, show X1.length * 5 + 4 - X1.length * 5 = 4 by omega]
  rfl
theorem spCs_at (X1 X2 : List (Sp × Value)) (x : Sp × Value) (j : Nat) (hj : j < 5) : (spCs (X1 ++ x :: X2))[X1.length * 5 + j]? = (spC x)[j]? := by
  rw [spCs_app, spCs_cons, List.getElem?_append_right (by rw [spCs_len]; omega), spCs_len, show X1.length * 5 + j - X1.length * 5 = j by omega, List.getElem?_append_left (by simp [spC]; omega)]
/-- A cell of a row. -/
theorem own_cell {w : World} {base e size n b cap i : Nat} {xs : List Value} {u : Value} (h : w.ownsRow base e size (.slice (some ⟨b, 0, none⟩) n cap) n xs) (hi : xs[i]? = some u) : w.cell? ⟨b, i, none⟩ = some u ∧ w.frozen? ⟨b, i, none⟩ = false := by
  rcases h.2 with ⟨e, -⟩ | ⟨g, cap', cur, e, -, hg, -, -, -, ht⟩
  · cases e
  · cases e
    have hi' := hi
    rw [← ht, List.getElem?_take] at hi'
    split at hi'
    · refine ⟨?_, ?_⟩
      · unfold World.cell?
        rw [hg]
        simpa using hi'
      · unfold World.frozen?
        rw [hg]
        simp
    · cases hi'
/-- It has it. -/
theorem SpB.store {base N b cap : Nat} {w : World} {X1 X2 : List (Sp × Value)} {x : Sp × Value} {pv : Value} {pl : List Int} (h : SpB base w (.slice (some ⟨b, 0, none⟩) N cap) X1 x X2 pv pl) (hN : (X1 ++ x :: X2).length = N) (h1 : pv.oneCell' = true) (hv : pv.cells = #[pv]) :
    (Instr.storeAt 97 (.pointer (some ⟨b, X1.length * 5 + 4, none⟩)) pv).run Tryz.prog w = .ok () (w.setCell ⟨b, X1.length * 5 + 4, none⟩ pv) ∧ SpW base (w.setCell ⟨b, X1.length * 5 + 4, none⟩ pv) (.slice (some ⟨b, 0, none⟩) N cap) (X1 ++ ({ x.1 with pl := pl }, pv) :: X2) ∧ Ch [b] w (w.setCell ⟨b, X1.length * 5 + 4, none⟩ pv) := by
  have hrow := h.row
  rw [hN] at hrow
  obtain ⟨hc, hf⟩ := own_cell hrow ((spCs_at X1 X2 x 4 (by omega)).trans rfl)
  have hoth : ∀ i, i ≠ b → (w.setCell ⟨b, X1.length * 5 + 4, none⟩ pv).heap[i]? = w.heap[i]? := by
    intro i hne
    unfold World.setCell
    simp only
    rw [Array.getElem?_modify, if_neg (fun e => hne e.symm)]
  have hsz : (w.setCell ⟨b, X1.length * 5 + 4, none⟩ pv).heap.size = w.heap.size := by unfold World.setCell; simp
  have hch : Ch [b] w (w.setCell ⟨b, X1.length * 5 + 4, none⟩ pv) := ⟨rfl, rfl, rfl, by rw [hsz]; exact Nat.le_refl _, fun i hi hx => hoth i (by simpa using hx)⟩
  have hnot : ∀ {v : Value} {n : Nat} {xs : List Value}, w.ownsRow base 3 1 v n xs → ∀ b', v.ownBlock = some b' → b' ∉ [b] := fun hr b' hb' hm => by
    rw [List.mem_singleton] at hm
    subst hm
    exact own_ne hr hrow (by decide) hb' rfl
  refine ⟨store1 Tryz.sizeOf97 pv h1 hv hc hf, ⟨?_, fun y hy => ?_, ?_⟩, hch⟩
  · have hlen : (X1 ++ ({ x.1 with pl := pl }, pv) :: X2).length = N := by rw [← hN]; simp
    rw [hlen]
    refine ⟨by rw [spCs_len, hlen], ?_⟩
    rcases hrow.2 with ⟨e, -⟩ | ⟨g, cap', cur, e, hg0, hg, hn, hm, hs, ht⟩
    · cases e
    · cases e
      refine .inr ⟨b, cap, cur.setIfInBounds (X1.length * 5 + 4) pv, rfl, hg0, ?_, hn, hm, by simpa using hs, ?_⟩
      · unfold World.setCell
        simp only
        rw [Array.getElem?_modify, if_pos rfl, hg]
        simp
      · rw [← spCs_set X1 X2 x pv pl, ← ht, Array.toList_setIfInBounds, take_set]
  · rcases List.mem_append.1 hy with hy1 | hy1
    · exact own_ch (h.kid y (List.mem_append_left _ hy1)) hch (hnot (h.kid y (List.mem_append_left _ hy1)))
    · rcases List.mem_cons.1 hy1 with rfl | hy1
      · exact own_ch h.new hch (hnot h.new)
      · exact own_ch (h.kid y (List.mem_append_right _ hy1)) hch (hnot (h.kid y (List.mem_append_right _ hy1)))
  · exact h.apart.join h.ne
end Go.Proofs.YthnojedlndblbaaGreatDoor
namespace Go.Proofs.YthnojedlndblbaaGreatDoor
open Go Go.RowKit

/-- The places of kids, the first at p. -/
def placesP (p : Int) : List Co → List Int
  | [] => []
  | c :: r => p :: placesP (p + szC c) r
mutual
/-- These are a term's spots. -/
def SpC (n0 : Nat) (w : World) (p : Int) : Co → List (Sp × Value) → Prop
  | .mk op k s kids, A => ∃ kv pv M, A = (⟨op, k, s, kv, placesP (p + 1) kids⟩, pv) :: M ∧ Nc n0 w (cv op k s kv) (.mk op k s kids) ∧ SpK n0 w (p + 1) kids M
def SpK (n0 : Nat) (w : World) (p : Int) : List Co → List (Sp × Value) → Prop
  | [], M => M = []
  | c :: r, M => ∃ A B, M = A ++ B ∧ SpC n0 w p c A ∧ SpK n0 w (p + szC c) r B
end
mutual
theorem SpC.len {n0 : Nat} {w : World} : ∀ {c : Co} {p : Int} {A : List (Sp × Value)}, SpC n0 w p c A → (A.length : Int) = szC c
  | .mk op k s kids, p, A, h => by
    rw [SpC] at h
    obtain ⟨kv, pv, M, rfl, -, hM⟩ := h
    have := SpK.len hM
    rw [szC, List.length_cons]
    omega
theorem SpK.len {n0 : Nat} {w : World} : ∀ {l : List Co} {p : Int} {M : List (Sp × Value)}, SpK n0 w p l M → (M.length : Int) = szL l
  | [], p, M, h => by rw [SpK] at h; subst h; rfl
  | c :: r, p, M, h => by
    rw [SpK] at h
    obtain ⟨A, B, rfl, hA, hB⟩ := h
    have := SpC.len hA
    have := SpK.len hB
    rw [szL, List.length_append]
    omega
end
mutual
theorem SpC.later {n0 : Nat} {w w' : World} (hB : Below n0 w w') : ∀ {c : Co} {p : Int} {A : List (Sp × Value)}, SpC n0 w p c A → SpC n0 w' p c A
  | .mk op k s kids, p, A, h => by
    rw [SpC] at h ⊢
    obtain ⟨kv, pv, M, h1, h2, hM⟩ := h
    exact ⟨kv, pv, M, h1, h2.later hB, SpK.later hB hM⟩
theorem SpK.later {n0 : Nat} {w w' : World} (hB : Below n0 w w') : ∀ {l : List Co} {p : Int} {M : List (Sp × Value)}, SpK n0 w p l M → SpK n0 w' p l M
  | [], p, M, h => by rw [SpK] at h ⊢; exact h
  | c :: r, p, M, h => by
    rw [SpK] at h ⊢
    obtain ⟨A, B, h1, hA, hC⟩ := h
    exact ⟨A, B, h1, SpC.later hB hA, SpK.later hB hC⟩
end
theorem SpK.snoc {n0 : Nat} {w : World} {c : Co} {A : List (Sp × Value)} : ∀ {l : List Co} {p : Int} {M : List (Sp × Value)}, SpK n0 w p l M → SpC n0 w (p + szL l) c A → SpK n0 w p (l ++ [c]) (M ++ A)
  | [], p, M, h, hA => by
    rw [SpK] at h
    subst h
    rw [szL, Int.add_zero] at hA
    show SpK n0 w p [c] A
    rw [SpK]
    refine ⟨A, [], by simp, hA, ?_⟩
    rw [SpK]
  | y :: r, p, M, h, hA => by
    rw [SpK] at h
    obtain ⟨A1, B, rfl, h1, h2⟩ := h
    show SpK n0 w p (y :: (r ++ [c])) _
    rw [SpK]
    refine ⟨A1, B ++ A, by simp, h1, SpK.snoc h2 ?_⟩
    rw [szL] at hA
    rwa [Int.add_assoc]
theorem places_snoc {c : Co} : ∀ (l : List Co) (p : Int), placesP p (l ++ [c]) = placesP p l ++ [p + szL l]
  | [], p => by rw [szL, Int.add_zero]; rfl
  | y :: r, p => by
    show p :: placesP (p + szC y) (r ++ [c]) = (p :: placesP (p + szC y) r) ++ _
    rw [places_snoc r, szL]
    simp
    omega
theorem szL_snoc {c : Co} : ∀ l : List Co, szL (l ++ [c]) = szL l + szC c
  | [] => by show szL [c] = _; rw [szL, szL, szL]; omega
  | y :: r => by show szL (y :: (r ++ [c])) = _; rw [szL, szL, szL_snoc r]; omega
theorem places_len : ∀ (l : List Co) (p : Int), (placesP p l).length = l.length
  | [], p => rfl
  | y :: r, p => by show (p :: placesP (p + szC y) r).length = _; simp [places_len r]
theorem take_more {α : Type} {l : List α} {i : Nat} {u : α} (h : l[i]? = some u) : l.take (i + 1) = l.take i ++ [u] := by
  rw [List.take_add_one, h]
  rfl
theorem own_form {w : World} {b1 e1 s1 n1 : Nat} {v1 : Value} {x1 : List Value} (h : w.ownsRow b1 e1 s1 v1 n1 x1) : ∃ a cap, v1 = .slice a n1 cap := by
  rcases h.2 with ⟨e, hn⟩ | ⟨g, cap, cur, e, -⟩
  · exact ⟨none, 0, by rw [e, hn]⟩
  · exact ⟨_, _, e⟩
theorem Ch.grown {L : List Nat} {w w1 w2 : World} {o : Option Nat} (h : Ch L w w1) (hg : w1.grownBy w2 o) (ho : ∀ b, o = some b → b ∈ L ∨ w.heap.size ≤ b) : Ch L w w2 :=
  ⟨hg.os.trans h.os, hg.tape.trans h.tape, hg.output.trans h.output, Nat.le_trans h.size hg.size, fun i hi hx => (hg.block i (Nat.lt_of_lt_of_le hi h.size) (fun e => by
    rcases ho i e.symm with h1 | h1
    · exact hx h1
    · omega)).trans (h.block i hi hx)⟩
theorem len_szL : ∀ l : List Co, (l.length : Int) ≤ szL l
  | [] => by rw [szL]; simp
  | c :: r => by have := len_szL r; have := szC_pos c; rw [szL, List.length_cons]; omega
theorem grown_below {n0 : Nat} {w w' : World} {o : Option Nat} (h : w.grownBy w' o) (ho : ∀ b, o = some b → n0 ≤ b) (hn : n0 ≤ w.heap.size) : Below n0 w w' := ⟨h.os, h.tape, h.output, h.size, fun i hi => h.block i (by omega) (fun e => by have := ho i e.symm; omega)⟩
theorem idxSp (b n cap k : Nat) (h : k < n) (w : World) : (Instr.indexAt 60 (.slice (some ⟨b, 0, none⟩) n cap) (.int .i64 k)).run Tryz.prog w = .ok (.pointer (some ⟨b, k * 5, none⟩)) w := by go_simp
/-- A row of spots under way. -/
def LyI (base : Nat) (w : World) (v : Value) (v1 : Value) (X1 : List (Sp × Value)) (w' : World) : Prop := Ch v.ownBlock.toList w w' ∧ (SpW base w' v1 X1 ∧ ∀ b, v1.ownBlock = some b → v.ownBlock = some b ∨ w.heap.size ≤ b)
def LyB (base : Nat) (w : World) (v : Value) (v1 : Value) (X1 : List (Sp × Value)) (x : Sp × Value) (X2 : List (Sp × Value)) (pv : Value) (pl : List Int) (w' : World) : Prop := Ch v.ownBlock.toList w w' ∧ (SpB base w' v1 X1 x X2 pv pl ∧ ∀ b, v1.ownBlock = some b → v.ownBlock = some b ∨ w.heap.size ≤ b)
theorem own_mem {v : Value} {b : Nat} : v.ownBlock = some b ↔ b ∈ v.ownBlock.toList := by
  cases v.ownBlock <;> simp [eq_comm]
theorem LyI.stay {base : Nat} {w w' : World} {v v1 : Value} {X1 : List (Sp × Value)} {L : List Nat} (h : LyI base w v v1 X1 w') (hL : ∀ g ∈ L, w.heap.size ≤ g ∧ ∃ c e z, w'.heap[g]? = some (.cells c e z) ∧ e ≠ 99 ∧ e ≠ 3) : Stay L w' (LyI base w v v1 X1) :=
  fun _ hc => ⟨h.1.trans hc fun x hx => .inr (hL x hx).1, h.2.1.ch hc fun g hg => (hL g hg).2, h.2.2⟩
theorem LyB.stay {base : Nat} {w w' : World} {v v1 : Value} {X1 X2 : List (Sp × Value)} {x : Sp × Value} {pv : Value} {pl : List Int} {L : List Nat} (h : LyB base w v v1 X1 x X2 pv pl w') (hL : ∀ g ∈ L, w.heap.size ≤ g ∧ ∃ c e z, w'.heap[g]? = some (.cells c e z) ∧ e ≠ 99 ∧ e ≠ 3) : Stay L w' (LyB base w v v1 X1 x X2 pv pl) := by
  have key : ∀ {w2 : World}, Ch L w' w2 → ∀ {e1 s1 n1 : Nat} {u : Value} {xs : List Value}, (e1 = 99 ∨ e1 = 3) → w'.ownsRow base e1 s1 u n1 xs → w2.ownsRow base e1 s1 u n1 xs := fun {w2} hc {e1 s1 n1 u xs} he hr => own_ch hr hc fun b hb hm => by
    obtain ⟨-, c, e, z, hg, h1, h2⟩ := hL b hm
    refine own_not hr hg ?_ hb
    rcases he with rfl | rfl
    · exact fun e => h1 e.symm
    · exact fun e => h2 e.symm
  exact fun _ hc => ⟨h.1.trans hc fun x hx => .inr (hL x hx).1, ⟨key hc (.inl rfl) h.2.1.row, fun y hy => key hc (.inr rfl) (h.2.1.kid y hy), h.2.1.apart, key hc (.inr rfl) h.2.1.new, h.2.1.ne⟩, h.2.2⟩
theorem ch_below {n0 : Nat} {w w' : World} {L : List Nat} (h : Ch L w w') (hL : ∀ b ∈ L, n0 ≤ b) (hn : n0 ≤ w.heap.size) : Below n0 w w' := ⟨h.os, h.tape, h.output, h.size, fun i hi => h.block i (by omega) (fun hm => by have := hL i hm; omega)⟩
set_option maxRecDepth 100000 in
seal rn rnN rnS Goes ans atEnd put0 put putM opened openedY putA0 putA oneSt st0 keep mkSt in
theorem lay_any (c : Co) : ∀ (n0 base : Nat) (X : List (Sp × Value)) (v u : Value) (w : World), Nc n0 w u c → n0 ≤ base → base ≤ w.heap.size → SpW base w v X → (X.length : Int) + szC c ≤ 2000 → Calls Tryz.prog 55 #[v, u] w fun e w' => ∃ b cap A, e = .returned (.slice (some ⟨b, 0, none⟩) (X.length + A.length) cap) ∧ LyI base w v (.slice (some ⟨b, 0, none⟩) (X.length + A.length) cap) (X ++ A) w' ∧ SpC n0 w' X.length c A := by
  induction c using Co.ind with
  | h op k t kids ih =>
    intro n0 base X v u w hN hnb hbw hS hsz
    obtain ⟨a, cc, rfl, hfit, hcap, hkids⟩ := hN.open
    obtain ⟨N, hL⟩ : ∃ N, kids.length = N := ⟨_, rfl⟩
    rw [hL] at hcap hN ⊢
    obtain ⟨av, capv, rfl⟩ := own_form hS.row
    obtain ⟨n, hn⟩ : ∃ n, X.length = n := ⟨_, rfl⟩
    have hposL := szL_pos kids
    rw [szC] at hsz
    rw [hn] at hsz hS ⊢
    have hvb : ∀ b ∈ (Value.slice av n capv).ownBlock.toList, n0 ≤ b := fun b hb => by
      have := (hS.row.lt b (own_mem.2 hb)).1
      omega
    have hbel : ∀ {v1 X1 w'}, LyI base w (.slice av n capv) v1 X1 w' → Below n0 w w' := fun h => ch_below h.1 hvb (by omega)
    refine Goes.enter Tryz.func55 [] (LyI base w (.slice av n capv) (.slice av n capv) X) Holds.nil (by simp [Mem.ids]) (LyI.stay ⟨Ch.refl _ _, hS, fun b hb => .inl hb⟩ (by simp [Mem.ids])) ?_
    refine Goes.run2 [0] [] trivial fun g gb => ?_
    refine Goes.eff (Builtin.append_ #[60, 60] 60 #[.slice av n capv, .slice (some ⟨gb, 0, none⟩) 1 1]) fun w1 hm1 hn1 hI1 => ?_
    have hS1 := hI1.now.2.1
    have x1 : w1.heap[g]? = some (cO op k t (.slice a N cc)) := hm1.get 0
    have hg0 : w.heap.size ≤ g := fresh_of hI1 (g := g) (ids_get (j := 0) (o := cO op k t (.slice a N cc)) (by kernel_rfl)) (fun hm => by
      have := own_not hS1.row x1 (by decide)
      exact this (own_mem.2 hm))
    have hb1 : base ≤ w1.heap.size := Nat.le_trans hbw hI1.now.1.size
    have x0 : w1.heap[gb]? = some (.cells (spC (⟨op, k, t, .slice a N cc, []⟩, .slice none 0 0)).toArray 99 (0, 0)) := hm1.get 1
    obtain ⟨b, c', w2, hr, hS2, hgr, hob⟩ := hS1.add hb1 (x := ⟨op, k, t, .slice a N cc, []⟩) rfl rfl x0 (by omega) (c := 1) (ty := 60)
    rw [hn] at hr hS2
    have x2 : w2.heap[g]? = some (cO op k t (.slice a N cc)) := (hgr.block g (lt_of_get x1) (fun e => own_not hS1.row x1 (by decide) e.symm)).trans x1
    have hI2 : LyI base w (.slice av n capv) (.slice (some ⟨b, 0, none⟩) (n + 1) c') (X ++ [(⟨op, k, t, .slice a N cc, []⟩, .slice none 0 0)]) w2 := ⟨hI1.now.1.grown hgr (fun b hb => .inl (own_mem.1 hb)), hS2, fun b0 hb0 => by
      cases hb0
      rcases hob with h | h
      · exact .inl h
      · exact .inr (by rw [h]; exact hI1.now.1.size)⟩
    refine ⟨_, w2, _, [(g, cO op k t (.slice a N cc))], hr, fun j b o h => by match j, h with | 0, h => (cases h; exact x2), by simp [Mem.ids], hI2.stay (fun y hy => by simp [Mem.ids] at hy; subst hy; exact ⟨hg0, _, _, _, x2, by decide, by decide⟩), ?_⟩
    refine Goes.run [0] [] trivial ?_
    refine Goes.keep 0 ?_
    refine Goes.loop (α := Nat × Nat × Nat × Value × List (Sp × Value)) 40 (fun q => [(0, .slice (some ⟨q.2.1, 0, none⟩) (n + 1 + q.2.2.2.2.length) q.2.2.1), (5, .int .i64 n), (16, .slice a N cc), (17, .int .i64 N), (18, .int .i64 q.1)]) (fun _ => []) (fun q w' => LyI base w (.slice av n capv) (.slice (some ⟨q.2.1, 0, none⟩) (n + 1 + q.2.2.2.2.length) q.2.2.1) (X ++ (⟨op, k, t, .slice a N cc, placesP (n + 1) (kids.take q.1)⟩, q.2.2.2.1) :: q.2.2.2.2) w' ∧ SpK n0 w' (n + 1) (kids.take q.1) q.2.2.2.2) (fun q => q.1 ≤ N ∧ (∀ b, q.2.2.2.1.ownBlock = some b → w.heap.size ≤ b) ∧ (q.2.2.2.2.length : Int) = szL (kids.take q.1)) (fun q => N - q.1) (0, b, c', .slice none 0 0, []) ⟨Nat.zero_le _, by simp [Value.ownBlock], by simp [szL]⟩ (fun w' h => ⟨by simpa [placesP] using h, by rw [List.take_zero, SpK]⟩) ?_
    rintro ⟨i, b1, c1, pv, M⟩ J ⟨hi, hpv, hM⟩ back
    simp only at hi hpv hM back ⊢
    cases hlt : decide ((i : Int) < (N : Int)) with
    | false =>
      obtain rfl : i = N := by have := of_decide_eq_false hlt; omega
      refine Goes.run [0, 0] [(decide ((i : Int) < (i : Int)), false)] ⟨hlt, trivial⟩ ?_
      refine Goes.ret [] (.slice (some ⟨b1, 0, none⟩) (n + 1 + M.length) c1) fun w' hm hI => ?_
      obtain ⟨h1, h2⟩ := hI.now
      rw [List.take_of_length_le (by omega)] at h1 h2
      have e : n + 1 + M.length = n + ((⟨op, k, t, .slice a i cc, placesP (n + 1) kids⟩, pv) :: M : List (Sp × Value)).length := by rw [List.length_cons]; omega
      refine ⟨b1, c1, (⟨op, k, t, .slice a i cc, placesP (n + 1) kids⟩, pv) :: M, by rw [← e], by rw [← e]; exact h1, ?_⟩
      rw [SpC]
      exact ⟨_, _, _, rfl, hN.later (hbel h1), h2⟩
    | true =>
      have hil : i < N := by have := of_decide_eq_true hlt; omega
      obtain ⟨u, hu⟩ : ∃ u, kids[i]? = some u := ⟨kids[i]'(by omega), by simp⟩
      obtain ⟨bk, ok, y, rfl, hbk, hcl, hy⟩ := hkids i u hu
      obtain ⟨op', k', t', a', N', c2, rfl⟩ := hy.cells
      have htk := take_more hu
      have hsu : szL (kids.take i) + szC u ≤ szL kids := (szL_cut hu).1
      have hM0 := szL_pos (kids.take i)
      have hpu := szC_pos u
      refine Goes.run [0, 1] [(decide ((i : Int) < (N : Int)), true)] ⟨hlt, trivial⟩ ?_
      refine Goes.val (Instr.indexAt 22 (.slice (some ⟨bk, ok, none⟩) N cc) (.int .i64 i)) (.pointer (some ⟨bk, ok + i * 4, none⟩)) (fun w' _ _ => idxC bk ok N cc i hil w') ?_
      refine Goes.val (Instr.loadAt 24 (.pointer (some ⟨bk, ok + i * 4, none⟩))) (cv op' k' t' (.slice a' N' c2)) (fun w' _ hI => loadC (hcl.below hbk (hbel hI.now.1))) ?_
      refine Goes.new1 w.heap.size (fun w' h => h.1.1.size) fun g7 hg7 => ?_
      refine Goes.run [0] [] trivial ?_
      obtain ⟨NN, hNN⟩ : ∃ NN, n + 1 + M.length = NN := ⟨_, rfl⟩
      have hXl : (X ++ (⟨op, k, t, .slice (some ⟨bk, ok, none⟩) N cc, placesP (n + 1) (kids.take i)⟩, pv) :: M).length = NN := by rw [List.length_append, List.length_cons]; omega
      rw [hNN]
      refine Goes.val (Instr.indexAt 60 (.slice (some ⟨b1, 0, none⟩) NN c1) (.int .i64 n)) (.pointer (some ⟨b1, n * 5, none⟩)) (fun w' _ _ => idxSp b1 NN c1 n (by omega) w') ?_
      refine Goes.run [] [] trivial ?_
      refine Goes.val (Instr.loadAt 97 (.pointer (some ⟨b1, n * 5 + 4, none⟩))) pv (fun w' _ hI => by
        have h1 := hI.now.1.2.1.row
        rw [hXl] at h1
        have h2 := (own_cell h1 ((spCs_at X M _ 4 (by omega)).trans rfl)).1
        rw [hn] at h2
        exact load1 Tryz.isAgg97 h2) ?_
      refine Goes.run1 [] [] trivial fun gq => ?_
      have hpl : (placesP ((n : Int) + 1) (kids.take i)).length + 1 ≤ 100000 := by
        rw [places_len, List.length_take]
        have := len_szL kids
        omega
      obtain ⟨x, hx⟩ : ∃ x : Sp × Value, ((⟨op, k, t, .slice (some ⟨bk, ok, none⟩) N cc, placesP (n + 1) (kids.take i)⟩, pv) : Sp × Value) = x := ⟨_, rfl⟩
      have hx2 : x.2 = pv := by rw [← hx]
      have hx1 : x.1.pl = placesP (n + 1) (kids.take i) := by rw [← hx]
      rw [hx] at hXl
      simp only [hx]
      refine Goes.eff (Builtin.append_ #[97, 97] 97 #[pv, .slice (some ⟨gq, 0, none⟩) 1 1]) fun w3 hm3 hn3 hI3 => ?_
      obtain ⟨⟨hc3, hS3, ho3⟩, hK3⟩ := hI3.now
      have y1 : w3.heap[g7]? = some (cO op' k' t' (.slice a' N' c2)) := hm3.get 0
      have hb3 : base ≤ w3.heap.size := Nat.le_trans hbw hc3.size
      have y2 : w3.heap[gq]? = some (.cells #[.int .i64 (NN : Int)] 3 (0, 0)) := hm3.get 1
      obtain ⟨b3, c3, w4, hr4, hB4, hgr4, hob4⟩ := hS3.place hb3 (NN : Int) y2 (by rw [hx1]; exact hpl) (c := 1) (ty := 97)
      have hkx : IzR base w3 pv x.1.pl := by have := hS3.kid x (by simp); rwa [hx2] at this
      rw [hx2] at hr4 hgr4 hob4
      obtain ⟨P1, hP1⟩ : ∃ P1, x.1.pl.length + 1 = P1 := ⟨_, rfl⟩
      rw [hP1] at hr4 hB4
      have y3 : w4.heap[g7]? = some (cO op' k' t' (.slice a' N' c2)) := (hgr4.block g7 (lt_of_get y1) (fun e => own_not hkx y1 (by decide) e.symm)).trans y1
      have hB34 : Below n0 w3 w4 := grown_below hgr4 (fun b hb => by have := (hkx.lt b hb).1; omega) (by omega)
      have hI4 : LyB base w (.slice av n capv) (.slice (some ⟨b1, 0, none⟩) NN c1) X x M (.slice (some ⟨b3, 0, none⟩) P1 c3) (x.1.pl ++ [(NN : Int)]) w4 := ⟨hc3.grown hgr4 (fun b hb => .inr (hpv b hb)), hB4, ho3⟩
      have hpv3 : w.heap.size ≤ b3 := by
        rcases hob4 with h | h
        · exact hpv b3 h
        · rw [h]; exact hc3.size
      refine ⟨_, w4, fun w' => LyB base w (.slice av n capv) (.slice (some ⟨b1, 0, none⟩) NN c1) X x M (.slice (some ⟨b3, 0, none⟩) P1 c3) (x.1.pl ++ [(NN : Int)]) w' ∧ SpK n0 w' (n + 1) (kids.take i) M, [(g7, cO op' k' t' (.slice a' N' c2))], hr4, fun j b o h => by match j, h with | 0, h => (cases h; exact y3), by simp [Mem.ids], fun w' hc => ⟨hI4.stay (fun y hy => by simp [Mem.ids] at hy; subst hy; exact ⟨hg7, _, _, _, y3, by decide, by decide⟩) w' hc, (hK3.later hB34).later (ch_below hc (fun b hb => by simp [Mem.ids] at hb; subst hb; omega) (by have := hB34.size; omega))⟩, ?_⟩
      refine Goes.val (Instr.indexAt 60 (.slice (some ⟨b1, 0, none⟩) NN c1) (.int .i64 n)) (.pointer (some ⟨b1, n * 5, none⟩)) (fun w' _ _ => idxSp b1 NN c1 n (by omega) w') ?_
      refine Goes.run [] [] trivial ?_
      refine Goes.sto (Instr.storeAt 97 (.pointer (some ⟨b1, n * 5 + 4, none⟩)) (.slice (some ⟨b3, 0, none⟩) P1 c3)) fun w5 hm5 hn5 hI5 => ?_
      obtain ⟨⟨hc5, hB5, ho5⟩, hK5⟩ := hI5.now
      obtain ⟨hr6, hS6, hc6⟩ := hB5.store hXl rfl rfl
      rw [hn] at hr6 hS6 hc6
      obtain ⟨w6, hw6⟩ : ∃ w6, w5.setCell ⟨b1, n * 5 + 4, none⟩ (.slice (some ⟨b3, 0, none⟩) P1 c3) = w6 := ⟨_, rfl⟩
      rw [hw6] at hr6 hS6 hc6
      have y5 : w5.heap[g7]? = some (cO op' k' t' (.slice a' N' c2)) := hm5.get 0
      have hrow5 := hB5.row
      rw [hXl] at hrow5
      have hg7b : g7 ≠ b1 := fun e => own_not hrow5 y5 (by decide) (by rw [e]; rfl)
      have y6 : w6.heap[g7]? = some (cO op' k' t' (.slice a' N' c2)) := (hc6.block g7 (lt_of_get y5) (by simpa using hg7b)).trans y5
      have hb1 : n0 ≤ b1 := by have := (hrow5.lt b1 rfl).1; omega
      have hw5 : n0 ≤ w5.heap.size := by have := hc5.size; omega
      have hB56 : Below n0 w5 w6 := ch_below hc6 (fun b hb => by simp at hb; subst hb; exact hb1) hw5
      obtain ⟨x', hx'⟩ : ∃ x' : Sp × Value, (({ x.1 with pl := x.1.pl ++ [(NN : Int)] }, .slice (some ⟨b3, 0, none⟩) P1 c3) : Sp × Value) = x' := ⟨_, rfl⟩
      rw [hx'] at hS6
      have hI6 : LyI base w (.slice av n capv) (.slice (some ⟨b1, 0, none⟩) NN c1) (X ++ x' :: M) w6 := ⟨hc5.trans hc6 (fun y hy => by
        simp at hy
        subst hy
        rcases ho5 _ rfl with h | h
        · exact .inl (own_mem.1 h)
        · exact .inr h), hS6, ho5⟩
      refine ⟨w6, fun w' => LyI base w (.slice av n capv) (.slice (some ⟨b1, 0, none⟩) NN c1) (X ++ x' :: M) w' ∧ SpK n0 w' (n + 1) (kids.take i) M, [(g7, cO op' k' t' (.slice a' N' c2))], hr6, fun j b o h => by match j, h with | 0, h => (cases h; exact y6), by simp [Mem.ids], fun w' hc => ⟨hI6.stay (fun y hy => by simp [Mem.ids] at hy; subst hy; exact ⟨hg7, _, _, _, y6, by decide, by decide⟩) w' hc, (hK5.later hB56).later (ch_below hc (fun b hb => by simp [Mem.ids] at hb; subst hb; omega) (by have := hB56.size; omega))⟩, ?_⟩
      refine Goes.run [0] [] trivial ?_
      have hXl' : (X ++ x' :: M).length = NN := by rw [← hXl]; simp
      refine Goes.call 55 #[.slice (some ⟨b1, 0, none⟩) NN c1, cv op' k' t' (.slice a' N' c2)] fun w7 hm7 hn7 hI7 => ?_
      obtain ⟨⟨hc7, hS7, ho7⟩, hK7⟩ := hI7.now
      have hw7 : base ≤ w7.heap.size := by have := hc7.size; omega
      refine (ih u (List.mem_of_getElem? hu) n0 base (X ++ x' :: M) _ _ w7 (hy.later (hbel hI7.now.1)) hnb hw7 hS7 (by rw [hXl']; omega)).mono fun e w8 ⟨b8, cap8, A, he, hI8, hA⟩ => ?_
      rw [hXl'] at he hI8 hA
      have eL : NN + A.length = n + 1 + (M ++ A).length := by rw [List.length_append]; omega
      rw [eL] at he hI8
      have hB78 : Below n0 w7 w8 := ch_below hI8.1 (fun b hb => by
        have := own_mem.2 hb
        cases this
        exact hb1) (by omega)
      have ex' : x' = (⟨op, k, t, .slice (some ⟨bk, ok, none⟩) N cc, placesP (n + 1) (kids.take (i + 1))⟩, .slice (some ⟨b3, 0, none⟩) P1 c3) := by
        rw [← hx', ← hx, htk, places_snoc]
        simp only
        congr 3
        simp
        omega
      have hI9 : LyI base w (.slice av n capv) (.slice (some ⟨b8, 0, none⟩) (n + 1 + (M ++ A).length) cap8) (X ++ (⟨op, k, t, .slice (some ⟨bk, ok, none⟩) N cc, placesP (n + 1) (kids.take (i + 1))⟩, .slice (some ⟨b3, 0, none⟩) P1 c3) :: (M ++ A)) w8 := by
        refine ⟨hc7.trans hI8.1 (fun y hy => ?_), ?_, fun b0 hb0 => ?_⟩
        · rcases ho7 y (own_mem.2 hy) with h | h
          · exact .inl (own_mem.1 h)
          · exact .inr h
        · have := hI8.2.1
          rw [List.append_assoc, List.cons_append, ex'] at this
          exact this
        · rcases hI8.2.2 b0 hb0 with h | h
          · exact ho7 b0 h
          · exact .inr (Nat.le_trans hc7.size h)
      have hK9 : SpK n0 w8 (n + 1) (kids.take (i + 1)) (M ++ A) := by
        rw [htk]
        refine (hK7.later hB78).snoc ?_
        have : (NN : Int) = (n : Int) + 1 + szL (kids.take i) := by omega
        rwa [← this]
      refine ⟨_, fun w' => LyI base w (.slice av n capv) (.slice (some ⟨b8, 0, none⟩) (n + 1 + (M ++ A).length) cap8) (X ++ (⟨op, k, t, .slice (some ⟨bk, ok, none⟩) N cc, placesP (n + 1) (kids.take (i + 1))⟩, .slice (some ⟨b3, 0, none⟩) P1 c3) :: (M ++ A)) w' ∧ SpK n0 w' (n + 1) (kids.take (i + 1)) (M ++ A), [], he, Holds.nil, by simp [Mem.ids], fun w' hc => ⟨hI9.stay (by simp [Mem.ids]) w' hc, hK9.later (ch_below hc (by simp [Mem.ids]) (by have := hB78.size; omega))⟩, ?_⟩
      refine Goes.run [] [] trivial ?_
      refine Goes.slot 18 (.int .i64 (i + 1 : Nat)) (u := .int .i64 (IntKind.i64.wrap ((i : Int) + 1))) (congrArg _ (wrap_nat (by omega))) ?_
      exact back (i + 1, b8, cap8, .slice (some ⟨b3, 0, none⟩) P1 c3, M ++ A) _ ⟨hil, fun b hb => by cases hb; exact hpv3, by have := SpK.len hK9; simpa using this⟩ (by simp only; omega) (by kernel_rfl) (by kernel_rfl) (by kernel_rfl)
end Go.Proofs.YthnojedlndblbaaGreatDoor
namespace Go.Proofs.YthnojedlndblbaaGreatDoor
open Go Go.RowKit

section
variable {P : Program} {F : Exit → Act → World → Prop} {Inv : World → Prop} {s : St}
/-- The operation i of a drawn region makes a block. -/
def newA (P : Program) (i g : Nat) (s : St) : Option St :=
  match anyOp i s with
  | some o =>
    match srun P (execOp (evalL s.tmps) o) [0] (some g) s.mem [] false with
    | some ⟨.value v, m, [], _⟩ => some (putA i s v m)
    | _ => none
  | none => none
def newSt (P : Program) (i g : Nat) (s : St) : St := (newA P i g s).getD s
theorem TookS.new1 (i n1 : Nat) (js : List Nat) (hn1 : ∀ w, Inv w → n1 ≤ w.heap.size) (h : ∀ g, n1 ≤ g → Goes P F Inv (newSt P i g s)) (h0 : ∀ g, (newA P i g s).map (fun st => sub js st.mem) = some (anyM s) := by intro g; kernel_rfl) (hw : anyWant i s = true := by kernel_rfl) : TookS P F Inv i s := by
  intro ops m0 n l k ht w h1 h2 h3 h4
  have hG := h w.heap.size (hn1 w h3.now)
  have hk := h0 w.heap.size
  unfold newSt at hG
  cases hq : newA P i w.heap.size s with
  | none => rw [hq] at hk; cases hk
  | some st =>
    rw [hq] at hG hk
    simp only [Option.getD_some] at hG
    simp only [Option.map_some, Option.some.injEq] at hk
    have hst := hq
    unfold newA at hq
    unfold anyWant at hw
    unfold anyM at hk
    rw [ht] at hw hk
    simp only at hw hk
    cases ho : ops[i]? with
    | none => rw [ho] at hw; simp at hw
    | some o =>
      have hoo : anyOp i s = some o := by unfold anyOp; rw [ht]; exact ho
      rw [ho] at hw
      simp only at hw
      rw [hoo] at hq
      simp only at hq
      unfold wpOp
      rw [ho]
      simp only [hw, if_true]
      unfold Oper.wp
      rw [evalL_eq]
      split at hq
      · rename_i v m d hs
        cases hq
        obtain ⟨w', D⟩ := srun_did P _ _ _ _ _ _ _ w hs (by simp) h1 h2 (by simp)
        have h9 := hG w'
        unfold putA at h9 hk
        rw [ht] at h9 hk
        simp only [ho] at h9 hk
        rw [D.run, Oper.upon_value, putL_eq]
        have hm' : Holds m0 w' := by rw [← hk]; exact sub_holds D.holds
        exact .inl ⟨hm', h9 D.holds D.nd (h3.ch D.ch D.new) hm'⟩
      · cases hq
/-- It is a call; other blocks are read besides. -/
theorem TookS.callM (i : Nat) (f : FuncId) (args : Array Value) (hr : ∀ w, Holds s.mem w → s.mem.ids.Nodup → Stay s.mem.ids w Inv → Holds (anyM s) w → Calls P f args w fun e w' => ∃ v Inv' m, e = .returned v ∧ Holds (anyM s) w' ∧ Holds m w' ∧ m.ids.Nodup ∧ Stay m.ids w' Inv' ∧ Goes P F Inv' (putA i s v m)) (hw : anyWant i s = true := by kernel_rfl) (ha : askA i s = some (f, args) := by kernel_rfl) (hf : okf P f = true := by kernel_rfl) : TookS P F Inv i s := by
  intro ops m0 n l k ht w h1 h2 h3 h4
  unfold anyWant at hw
  unfold askA anyOp at ha
  unfold anyM at hr
  rw [ht] at hw ha hr
  simp only at hw ha hr
  cases ho : ops[i]? with
  | none => rw [ho] at hw; simp at hw
  | some o =>
    rw [ho] at hw ha
    simp only at hw ha
    unfold wpOp
    rw [ho]
    simp only [hw, if_true]
    unfold Oper.wp
    rw [evalL_eq]
    have he : (execOp (evalL s.tmps) o).run P w = .ok (.enter f args) w := by
      split at ha
      · rename_i x xs ats hop
        split at ha
        · rename_i g first captured hv
          cases ha
          have e : execOp (evalL s.tmps) o = callFunc f (first ++ xs.map (evalL s.tmps) ++ captured) := by
            unfold execOp; rw [hop]; simp only [resolve, hv]; rfl
          rw [e, okf_run hf]
        · cases ha
      · cases ha
    rw [he, Oper.upon_enter]
    refine .inl ?_
    refine (hr w h1 h2 h3 h4).mono fun e w' ⟨v, Inv', m, he, h10, h5, h6, h7, h8⟩ => ?_
    subst he
    have h9 := h8 w'
    unfold putA at h9
    rw [ht] at h9
    simp only [ho] at h9
    show Holds m0 w' ∧ _
    rw [putL_eq]
    exact ⟨h10, h9 h5 h6 h7 h10⟩
end
def lvC (ls : List (Int × Int)) : List Value := ls.flatMap fun x => [.int .i64 x.1, .int .i64 x.2]
def trC (day : Int) (ts : List (List UInt8 × Int)) : List Value := ts.flatMap fun x => [.int .i64 day, strV x.1, .int .i64 x.2]
theorem lvC_app (a b : List (Int × Int)) : lvC (a ++ b) = lvC a ++ lvC b := by unfold lvC; simp
theorem trC_app (day : Int) (a b : List (List UInt8 × Int)) : trC day (a ++ b) = trC day a ++ trC day b := by unfold trC; simp
/-- Lives, transfers: rows of one's own. -/
def Lvs (base : Nat) (w : World) (v : Value) (ls : List (Int × Int)) : Prop := w.ownsRow base 70 2 v ls.length (lvC ls)
def Trs (base : Nat) (day : Int) (w : World) (v : Value) (ts : List (List UInt8 × Int)) : Prop := w.ownsRow base 50 3 v ts.length (trC day ts)
theorem Lvs.nil {base : Nat} {w : World} : Lvs base w (.slice none 0 0) [] := w.ownsRow_nil _ _ _
theorem Trs.nil {base : Nat} {day : Int} {w : World} : Trs base day w (.slice none 0 0) [] := w.ownsRow_nil _ _ _
theorem Lvs.add {base : Nat} {w : World} {v : Value} {ls : List (Int × Int)} (h : Lvs base w v ls) (hb : base ≤ w.heap.size) (x : Int × Int) {bj c : Nat} {et ty : TypeId} {z : Nat × Nat} (hj : w.heap[bj]? = some (.cells #[.int .i64 x.1, .int .i64 x.2] et z)) (hl : ls.length + 1 ≤ 100000000) :
    ∃ b c' w', (Builtin.append_ #[31, 31] ty #[v, .slice (some ⟨bj, 0, none⟩) 1 c]).run Tryz.prog w = .ok (.slice (some ⟨b, 0, none⟩) (ls.length + 1) c') w' ∧ Lvs base w' (.slice (some ⟨b, 0, none⟩) (ls.length + 1) c') (ls ++ [x]) ∧ w.grownBy w' v.ownBlock ∧ (v.ownBlock = some b ∨ b = w.heap.size) := by
  obtain ⟨b, c', w', hr, hrow, hgr, hob⟩ := append_coreA (P := Tryz.prog) (t := 31) (e := 70) (ty := ty) (size := 2) (bytes := 16) (a := ⟨bj, 0, none⟩) (m := 1) (c := c) (news := [.int .i64 x.1, .int .i64 x.2]) h hb (by simp) (cell_row hj) (by simp [Value.oneCell']) (.inr (by omega)) (by unfold maxLen; omega) (by omega) (by kernel_rfl)
  refine ⟨b, c', w', hr, ?_, hgr, ?_⟩
  · unfold Lvs
    rw [lvC_app, List.length_append]
    exact hrow
  · rcases hob with h | h
    · exact .inl h.symm
    · refine .inr ?_
      simp [Value.ownBlock] at h
      exact h
theorem Trs.add {base : Nat} {day : Int} {w : World} {v : Value} {ts : List (List UInt8 × Int)} (h : Trs base day w v ts) (hb : base ≤ w.heap.size) (x : List UInt8 × Int) {bj c : Nat} {et ty : TypeId} {z : Nat × Nat} (hj : w.heap[bj]? = some (.cells #[.int .i64 day, strV x.1, .int .i64 x.2] et z)) (hl : ts.length + 1 ≤ 100000000) :
    ∃ b c' w', (Builtin.append_ #[32, 32] ty #[v, .slice (some ⟨bj, 0, none⟩) 1 c]).run Tryz.prog w = .ok (.slice (some ⟨b, 0, none⟩) (ts.length + 1) c') w' ∧ Trs base day w' (.slice (some ⟨b, 0, none⟩) (ts.length + 1) c') (ts ++ [x]) ∧ w.grownBy w' v.ownBlock ∧ (v.ownBlock = some b ∨ b = w.heap.size) := by
  obtain ⟨b, c', w', hr, hrow, hgr, hob⟩ := append_coreA (P := Tryz.prog) (t := 32) (e := 50) (ty := ty) (size := 3) (bytes := 32) (a := ⟨bj, 0, none⟩) (m := 1) (c := c) (news := [.int .i64 day, strV x.1, .int .i64 x.2]) h hb (by simp) (cell_row hj) (by simp [Value.oneCell', strV]) (.inr (by omega)) (by unfold maxLen; omega) (by omega) (by kernel_rfl)
  refine ⟨b, c', w', hr, ?_, hgr, ?_⟩
  · unfold Trs
    rw [trC_app, List.length_append]
    exact hrow
  · rcases hob with h | h
    · exact .inl h.symm
    · refine .inr ?_
      simp [Value.ownBlock] at h
      exact h
/-- The blocks that acquiring may change. -/
def Oo (g : Nat) (lv tv : Value) : List Nat := g :: (lv.ownBlock.toList ++ tv.ownBlock.toList)
/-- Of types that nothing else has. -/
def ty4 (e : TypeId) : Bool := e == 63 || e == 67 || e == 70 || e == 50
def Ty4 (w : World) (x : Nat) : Prop := ∃ c e z, w.heap[x]? = some (.cells c e z) ∧ ty4 e = true
/-- Acquiring under way: what waits and is transferred so far, and that nothing else was changed. -/
def AcI (n0 g : Nat) (day : Int) (w : World) (lv tv lv1 tv1 : Value) (ls1 : List (Int × Int)) (ts1 : List (List UInt8 × Int)) (w' : World) : Prop :=
  Ch (Oo g lv tv) w w' ∧ (Lvs n0 w' lv1 ls1 ∧ Trs n0 day w' tv1 ts1 ∧ ∀ x ∈ lv1.ownBlock.toList ++ tv1.ownBlock.toList, x ∈ Oo g lv tv ∨ w.heap.size ≤ x)
theorem own_ty {w : World} {b1 e1 s1 n1 : Nat} {v1 : Value} {x1 : List Value} (h : w.ownsRow b1 e1 s1 v1 n1 x1) {b : Nat} (hb : v1.ownBlock = some b) : ∃ c z, w.heap[b]? = some (.cells c e1 z) := by
  rcases h.2 with ⟨rfl, -⟩ | ⟨g, cap, cur, rfl, -, hg, -⟩
  · cases hb
  · cases hb; exact ⟨_, _, hg⟩
theorem AcI.refl {n0 g : Nat} {day : Int} {w : World} {lv tv : Value} {ls : List (Int × Int)} {ts : List (List UInt8 × Int)} (hl : Lvs n0 w lv ls) (ht : Trs n0 day w tv ts) : AcI n0 g day w lv tv lv tv ls ts w := ⟨Ch.refl _ _, hl, ht, fun _ hx => .inl (List.mem_cons_of_mem _ hx)⟩
/-- Other blocks may be changed. -/
theorem AcI.stay {n0 g : Nat} {day : Int} {w w' : World} {lv tv lv1 tv1 : Value} {ls1 : List (Int × Int)} {ts1 : List (List UInt8 × Int)} {L : List Nat} (h : AcI n0 g day w lv tv lv1 tv1 ls1 ts1 w') (hg : ∃ c e z, w'.heap[g]? = some (.cells c e z) ∧ e ≠ 70 ∧ e ≠ 50) (hL : ∀ x ∈ L, x = g ∨ (w.heap.size ≤ x ∧ ∃ c e z, w'.heap[x]? = some (.cells c e z) ∧ ty4 e = false)) : Stay L w' (AcI n0 g day w lv tv lv1 tv1 ls1 ts1) := by
  have key : ∀ {e1 s1 n1 : Nat} {u : Value} {xs : List Value}, (e1 = 70 ∨ e1 = 50) → w'.ownsRow n0 e1 s1 u n1 xs → ∀ b, u.ownBlock = some b → b ∉ L := by
    intro e1 s1 n1 u xs he hr b hb hm
    rcases hL b hm with rfl | ⟨-, c, e, z, hx, h4⟩
    · obtain ⟨c, e, z, hx, h1, h2⟩ := hg
      refine own_not hr hx ?_ hb
      rcases he with rfl | rfl
      · exact fun e => h1 e.symm
      · exact fun e => h2 e.symm
    · refine own_not hr hx ?_ hb
      rintro rfl
      rcases he with rfl | rfl <;> cases h4
  exact fun _ hc => ⟨h.1.trans hc fun x hx => by
    rcases hL x hx with rfl | ⟨h1, -⟩
    · exact .inl (by simp [Oo])
    · exact .inr h1, own_ch h.2.1 hc (key (.inl rfl) h.2.1), own_ch h.2.2.1 hc (key (.inr rfl) h.2.2.1), h.2.2.2⟩
/-- One part behind another. -/
theorem AcI.trans {n0 g : Nat} {day : Int} {w w1 w2 : World} {lv tv lv1 tv1 lv2 tv2 : Value} {ls1 ls2 : List (Int × Int)} {ts1 ts2 : List (List UInt8 × Int)} (h : AcI n0 g day w lv tv lv1 tv1 ls1 ts1 w1) (k : AcI n0 g day w1 lv1 tv1 lv2 tv2 ls2 ts2 w2) : AcI n0 g day w lv tv lv2 tv2 ls2 ts2 w2 := by
  have hO : ∀ x ∈ Oo g lv1 tv1, x ∈ Oo g lv tv ∨ w.heap.size ≤ x := fun x hx => by
    rcases List.mem_cons.1 hx with rfl | hx
    · exact .inl (by simp [Oo])
    · exact h.2.2.2 x hx
  refine ⟨h.1.trans k.1 hO, k.2.1, k.2.2.1, fun x hx => ?_⟩
  rcases k.2.2.2 x hx with h1 | h1
  · exact hO x h1
  · exact .inr (Nat.le_trans h.1.size h1)
/-- One more waits. -/
theorem AcI.live {n0 g : Nat} {day : Int} {w w1 : World} {lv tv lv1 tv1 : Value} {ls1 : List (Int × Int)} {ts1 : List (List UInt8 × Int)} (h : AcI n0 g day w lv tv lv1 tv1 ls1 ts1 w1) (hb : n0 ≤ w1.heap.size) (x : Int × Int) {bj c : Nat} {et ty : TypeId} {z : Nat × Nat} (hj : w1.heap[bj]? = some (.cells #[.int .i64 x.1, .int .i64 x.2] et z)) (hl : ls1.length + 1 ≤ 100000000) :
    ∃ b c' w', (Builtin.append_ #[31, 31] ty #[lv1, .slice (some ⟨bj, 0, none⟩) 1 c]).run Tryz.prog w1 = .ok (.slice (some ⟨b, 0, none⟩) (ls1.length + 1) c') w' ∧ AcI n0 g day w lv tv (.slice (some ⟨b, 0, none⟩) (ls1.length + 1) c') tv1 (ls1 ++ [x]) ts1 w' ∧ ∀ (i : Nat) (c : Array Value) (e : TypeId) (z : Nat × Nat), w1.heap[i]? = some (.cells c e z) → e ≠ 70 → w'.heap[i]? = some (.cells c e z) := by
  obtain ⟨b, c', w', hr, hrow, hgr, hob⟩ := h.2.1.add hb x hj hl (ty := ty) (c := c)
  refine ⟨b, c', w', hr, ⟨h.1.grown hgr fun b hb => h.2.2.2 b (List.mem_append_left _ (own_mem.1 hb)), hrow, own_kept h.2.2.1 hgr fun b hb => own_ne h.2.2.1 h.2.1 (by decide) hb, fun y hy => ?_⟩, fun i c e z hi he => ?_⟩
  · rcases List.mem_append.1 hy with hy | hy
    · have := own_mem.2 hy
      cases this
      rcases hob with h1 | h1
      · exact h.2.2.2 _ (List.mem_append_left _ (own_mem.1 h1))
      · exact .inr (by rw [h1]; exact h.1.size)
    · exact h.2.2.2 y (List.mem_append_right _ hy)
  · rw [hgr.block i (lt_of_get hi) (fun e1 => own_not h.2.1 hi (fun e => he e.symm) e1.symm)]
    exact hi
/-- One more is transferred. -/
theorem AcI.pay {n0 g : Nat} {day : Int} {w w1 : World} {lv tv lv1 tv1 : Value} {ls1 : List (Int × Int)} {ts1 : List (List UInt8 × Int)} (h : AcI n0 g day w lv tv lv1 tv1 ls1 ts1 w1) (hb : n0 ≤ w1.heap.size) (x : List UInt8 × Int) {bj c : Nat} {et ty : TypeId} {z : Nat × Nat} (hj : w1.heap[bj]? = some (.cells #[.int .i64 day, strV x.1, .int .i64 x.2] et z)) (hl : ts1.length + 1 ≤ 100000000) :
    ∃ b c' w', (Builtin.append_ #[32, 32] ty #[tv1, .slice (some ⟨bj, 0, none⟩) 1 c]).run Tryz.prog w1 = .ok (.slice (some ⟨b, 0, none⟩) (ts1.length + 1) c') w' ∧ AcI n0 g day w lv tv lv1 (.slice (some ⟨b, 0, none⟩) (ts1.length + 1) c') ls1 (ts1 ++ [x]) w' ∧ ∀ (i : Nat) (c : Array Value) (e : TypeId) (z : Nat × Nat), w1.heap[i]? = some (.cells c e z) → e ≠ 50 → w'.heap[i]? = some (.cells c e z) := by
  obtain ⟨b, c', w', hr, hrow, hgr, hob⟩ := h.2.2.1.add hb x hj hl (ty := ty) (c := c)
  refine ⟨b, c', w', hr, ⟨h.1.grown hgr fun b hb => h.2.2.2 b (List.mem_append_right _ (own_mem.1 hb)), own_kept h.2.1 hgr fun b hb => own_ne h.2.1 h.2.2.1 (by decide) hb, hrow, fun y hy => ?_⟩, fun i c e z hi he => ?_⟩
  · rcases List.mem_append.1 hy with hy | hy
    · exact h.2.2.2 y (List.mem_append_left _ hy)
    · have := own_mem.2 hy
      cases this
      rcases hob with h1 | h1
      · exact h.2.2.2 _ (List.mem_append_right _ (own_mem.1 h1))
      · exact .inr (by rw [h1]; exact h.1.size)
  · rw [hgr.block i (lt_of_get hi) (fun e1 => own_not h.2.2.1 hi (fun e => he e.symm) e1.symm)]
    exact hi
/-- What acquiring may change is of its types. -/
theorem oo_ty {n0 g : Nat} {day : Int} {w : World} {lv tv : Value} {ls : List (Int × Int)} {ts : List (List UInt8 × Int)} (hl : Lvs n0 w lv ls) (ht : Trs n0 day w tv ts) (hg : Ty4 w g) : ∀ x ∈ Oo g lv tv, Ty4 w x := by
  intro x hx
  rcases List.mem_cons.1 hx with rfl | hx
  · exact hg
  · rcases List.mem_append.1 hx with hx | hx
    · obtain ⟨c, z, h⟩ := own_ty hl (own_mem.2 hx)
      exact ⟨c, _, z, h, by decide⟩
    · obtain ⟨c, z, h⟩ := own_ty ht (own_mem.2 hx)
      exact ⟨c, _, z, h, by decide⟩
theorem oo_low {n0 g : Nat} {day : Int} {w : World} {lv tv : Value} {ls : List (Int × Int)} {ts : List (List UInt8 × Int)} (hl : Lvs n0 w lv ls) (ht : Trs n0 day w tv ts) (hg : n0 ≤ g) : ∀ x ∈ Oo g lv tv, n0 ≤ x := by
  intro x hx
  rcases List.mem_cons.1 hx with rfl | hx
  · exact hg
  · rcases List.mem_append.1 hx with hx | hx
    · exact (hl.lt x (own_mem.2 hx)).1
    · exact (ht.lt x (own_mem.2 hx)).1
/-- A block of another type is left alone. -/
theorem ch_other {w w' : World} {L : List Nat} (h : Ch L w w') (hL : ∀ x ∈ L, Ty4 w x) {i : Nat} {c : Array Value} {e : TypeId} {z : Nat × Nat} (hi : w.heap[i]? = some (.cells c e z)) (he : ty4 e = false) : w'.heap[i]? = some (.cells c e z) := by
  rw [h.block i (lt_of_get hi) (fun hm => by
    obtain ⟨c', e', z', hx, h4⟩ := hL i hm
    rw [hi] at hx
    cases hx
    rw [he] at h4
    cases h4)]
  exact hi
end Go.Proofs.YthnojedlndblbaaGreatDoor
namespace Go.Proofs.YthnojedlndblbaaGreatDoor
open Go Go.RowKit

/-- The spot of a term at a place. -/
def SpIs (n0 : Nat) (w : World) (x : Sp × Value) (p : Int) : Co → Prop
  | .mk op k s kids => x.1.op = op ∧ x.1.k = k ∧ x.1.s = s ∧ x.1.pl = placesP (p + 1) kids ∧ Nc n0 w (cv op k s x.1.kv) (.mk op k s kids)
mutual
theorem SpC.at {n0 : Nat} {w : World} : ∀ {c : Co} {p q : Int} {t : Co} {A : List (Sp × Value)}, SpC n0 w p c A → termP c q = some t → ∃ X1 x X2, A = X1 ++ x :: X2 ∧ (X1.length : Int) = q ∧ SpIs n0 w x (p + q) t
  | .mk op k s kids, p, q, t, A, h, ht => by
    rw [SpC] at h
    obtain ⟨kv, pv, M, rfl, hN, hK⟩ := h
    rw [termP] at ht
    cases hq : (q == 0) with
    | true =>
      rw [hq, cond_true] at ht
      cases ht
      have e := eq_of_beq hq
      exact ⟨[], _, M, rfl, by simp [e], rfl, rfl, rfl, by rw [e, Int.add_zero], hN⟩
    | false =>
      rw [hq, cond_false] at ht
      obtain ⟨X1, x, X2, rfl, h1, h2⟩ := SpK.at hK ht
      refine ⟨_ :: X1, x, X2, rfl, by rw [List.length_cons]; omega, ?_⟩
      rwa [show p + 1 + (q - 1) = p + q by omega] at h2
theorem SpK.at {n0 : Nat} {w : World} : ∀ {l : List Co} {p s q : Int} {t : Co} {M : List (Sp × Value)}, SpK n0 w p l M → termL l s q = some t → ∃ X1 x X2, M = X1 ++ x :: X2 ∧ (X1.length : Int) = q - s ∧ SpIs n0 w x (p + (q - s)) t
  | [], p, s, q, t, M, h, ht => by rw [termL] at ht; cases ht
  | c :: r, p, s, q, t, M, h, ht => by
    rw [SpK] at h
    obtain ⟨A, B, rfl, hA, hB⟩ := h
    rw [termL] at ht
    cases hq : (decide (s ≤ q) && decide (q < s + szC c)) with
    | true =>
      rw [hq, cond_true] at ht
      obtain ⟨X1, x, X2, rfl, h1, h2⟩ := SpC.at hA ht
      exact ⟨X1, x, X2 ++ B, by simp, h1, h2⟩
    | false =>
      rw [hq, cond_false] at ht
      obtain ⟨X1, x, X2, rfl, h1, h2⟩ := SpK.at hB ht
      refine ⟨A ++ X1, x, X2, by simp, by have := SpC.len hA; rw [List.length_append]; omega, ?_⟩
      rwa [show p + szC c + (q - (s + szC c)) = p + (q - s) by omega] at h2
end
theorem places_get : ∀ {l : List Co} {p : Int} {i : Nat} {c : Co}, l[i]? = some c → (placesP p l)[i]? = some (p + szL (l.take i))
  | [], p, i, c, h => by simp at h
  | y :: r, p, 0, c, h => by simp [placesP, szL]
  | y :: r, p, i + 1, c, h => by
    show (p :: placesP (p + szC y) r)[i + 1]? = _
    rw [List.getElem?_cons_succ, places_get (c := c) (by simpa using h), List.take_succ_cons, szL]
    congr 1
    omega
theorem sizeSp : (Tryz.prog.info? 99).map (·.size) = some 5 := by kernel_rfl
/-- A spot as a value. -/
def spV (op k : Int) (s : List UInt8) (kv pv : Value) : Value := .agg #[.int .i64 op, .int .i64 k, strV s, kv, pv]
def spO (op k : Int) (s : List UInt8) (kv pv : Value) : Obj := .cells #[.int .i64 op, .int .i64 k, strV s, kv, pv] 99 (0, 0)
theorem loadSp {base N b cap : Nat} {w : World} {X1 X2 : List (Sp × Value)} {x : Sp × Value} (h : SpW base w (.slice (some ⟨b, 0, none⟩) N cap) (X1 ++ x :: X2)) (hN : (X1 ++ x :: X2).length = N) : (Instr.loadAt 99 (.pointer (some ⟨b, X1.length * 5, none⟩))).run Tryz.prog w = .ok (spV x.1.op x.1.k x.1.s x.1.kv x.2) w := by
  have hrow := h.row
  rw [hN] at hrow
  refine loadAgg Tryz.isAgg99 sizeSp (spC x) rfl fun j u hu => ?_
  have hj : j < 5 := (List.getElem?_eq_some_iff.1 hu).1
  exact (own_cell hrow ((spCs_at X1 X2 x j hj).trans hu)).1
/-- What acquiring stands on. -/
structure Cx (n0 base : Nat) (fs : Fs) (fv sv : Value) (c : Co) (A : List (Sp × Value)) (w : World) : Prop where
  tab : Tab w
  fds : Fds n0 w fv fs
  spw : SpW base w sv A
  spc : SpC n0 w 0 c A
  low : n0 ≤ w.heap.size
  tlow : 1 < n0
theorem Cx.ch {n0 base : Nat} {fs : Fs} {fv sv : Value} {c : Co} {A : List (Sp × Value)} {w w' : World} {L : List Nat} (h : Cx n0 base fs fv sv c A w) (hc : Ch L w w') (hT : ∀ x ∈ L, Ty4 w x) (hL : ∀ x ∈ L, n0 ≤ x) : Cx n0 base fs fv sv c A w' := by
  have hB := ch_below hc hL h.low
  refine ⟨fun k hk => ?_, h.fds.later hB, h.spw.ch hc fun g hg => ?_, h.spc.later hB, Nat.le_trans h.low hB.size, h.tlow⟩
  · exact (hB.cell (p := ⟨1, k, none⟩) h.tlow).trans (h.tab k hk)
  · obtain ⟨c, e, z, hx, h4⟩ := hT g hg
    refine ⟨c, e, z, hx, ?_, ?_⟩
    · rintro rfl; cases h4
    · rintro rfl; cases h4
/-- A deal. -/
def dO (day : Int) (fv sv lv tv : Value) : Obj := .cells #[.int .i64 day, fv, sv, lv, tv] 63 (0, 0)
theorem dO_ty {w : World} {g : Nat} {day : Int} {fv sv lv tv : Value} (h : w.heap[g]? = some (dO day fv sv lv tv)) : Ty4 w g := ⟨_, _, _, h, by decide⟩
/-- What comes of a part of acquiring. -/
def AQ (n0 g : Nat) (day : Int) (fv sv : Value) (w : World) (lv tv : Value) (u : Value) (ls' : List (Int × Int)) (ts' : List (List UInt8 × Int)) (e : Ending) (w' : World) : Prop := ∃ lv' tv', e = .returned u ∧ w'.heap[g]? = some (dO day fv sv lv' tv') ∧ AcI n0 g day w lv tv lv' tv' ls' ts' w'
set_option maxRecDepth 100000 in
seal rn rnN rnS Goes ans atEnd put0 put putM opened openedY putA0 putA oneSt st0 keep mkSt newSt in
theorem pay_any {n0 g : Nat} {day : Int} {fv sv lv tv : Value} {ls : List (Int × Int)} {ts : List (List UInt8 × Int)} {w : World} (hl : Lvs n0 w lv ls) (ht : Trs n0 day w tv ts) (hg : w.heap[g]? = some (dO day fv sv lv tv)) (hn : n0 ≤ w.heap.size) (s : List UInt8) (f : Int) (hlen : ts.length + 1 ≤ 100000000) : Calls Tryz.prog 56 #[.pointer (some ⟨g, 0, none⟩), strV s, .int .i64 f] w (AQ n0 g day fv sv w lv tv (.tuple #[]) ls (ts ++ bif f == 0 then [] else [(s, f)])) := by
  have hm0 : Holds [(g, dO day fv sv lv tv)] w := fun j b o h => by match j, h with | 0, h => (cases h; exact hg)
  refine Goes.enter Tryz.func56 [(g, dO day fv sv lv tv)] (AcI n0 g day w lv tv lv tv ls ts) hm0 (by simp [Mem.ids]) ((AcI.refl hl ht).stay ⟨_, _, _, hg, by decide, by decide⟩ (fun x hx => .inl (by simpa [Mem.ids] using hx))) ?_
  cases h0 : (f == 0) with
  | true =>
    refine Goes.run [0] [(f != 0, false)] ⟨by rw [bne, h0]; rfl, trivial⟩ ?_
    exact Goes.ret [] (.tuple #[]) fun w' hm hI => ⟨lv, tv, rfl, hm.get 0, by simpa using hI.now⟩
  | false =>
    refine Goes.run [1] [(f != 0, true)] ⟨by rw [bne, h0]; rfl, trivial⟩ ?_
    refine Goes.open [] ?_
    refine Goes.run [0, 1, 2, 3, 5, 6, 7, 8, 10, 11] [] trivial ?_
    refine Goes.two 4 9 (TookS.run 4 0 ?_) (TookS.run 9 0 ?_)
    · refine Goes.lone1 9 (TookS.run 9 0 ?_)
      refine Goes.run [12] [] trivial ?_
      refine Goes.lone1 13 (TookS.new1 13 0 [] (fun _ _ => Nat.zero_le _) fun gb _ => ?_)
      refine Goes.lone1 14 (TookS.eff 14 (Builtin.append_ #[32, 32] 32 #[tv, .slice (some ⟨gb, 0, none⟩) 1 1]) fun w1 hm1 hn1 hI1 => ?_)
      have z1 : w1.heap[gb]? = some (.cells #[.int .i64 day, strV s, .int .i64 f] 50 (0, 0)) := hm1.get 1
      obtain ⟨b, c', w2, hr, hI2, hk⟩ := hI1.now.pay (Nat.le_trans hn hI1.now.1.size) (s, f) z1 hlen (ty := 32) (c := 1)
      have z2 : w2.heap[g]? = some (dO day fv sv lv tv) := hk g _ _ _ (hm1.get 0) (by decide)
      refine ⟨_, w2, _, [(g, dO day fv sv lv tv)], hr, fun j b o h => by match j, h with | 0, h => (cases h; exact z2), by simp [Mem.ids], hI2.stay ⟨_, _, _, z2, by decide, by decide⟩ (fun x hx => .inl (by simpa [Mem.ids] using hx)), ?_⟩
      refine Goes.run [15, 16] [] trivial ?_
      refine Goes.lone1 17 (TookS.run 17 0 ?_)
      refine Goes.run [] [] trivial ?_
      exact Goes.ret [] (.tuple #[]) fun w' hm hI => ⟨lv, _, rfl, hm.get 0, hI.now⟩
    · refine Goes.run [12] [] trivial ?_
      refine Goes.two 4 13 (TookS.run 4 0 ?_) (TookS.new1 13 0 [] (fun _ _ => Nat.zero_le _) fun gb _ => ?_)
      · refine Goes.lone1 13 (TookS.new1 13 0 [] (fun _ _ => Nat.zero_le _) fun gb _ => ?_)
        refine Goes.lone1 14 (TookS.eff 14 (Builtin.append_ #[32, 32] 32 #[tv, .slice (some ⟨gb, 0, none⟩) 1 1]) fun w1 hm1 hn1 hI1 => ?_)
        have z1 : w1.heap[gb]? = some (.cells #[.int .i64 day, strV s, .int .i64 f] 50 (0, 0)) := hm1.get 1
        obtain ⟨b, c', w2, hr, hI2, hk⟩ := hI1.now.pay (Nat.le_trans hn hI1.now.1.size) (s, f) z1 hlen (ty := 32) (c := 1)
        have z2 : w2.heap[g]? = some (dO day fv sv lv tv) := hk g _ _ _ (hm1.get 0) (by decide)
        refine ⟨_, w2, _, [(g, dO day fv sv lv tv)], hr, fun j b o h => by match j, h with | 0, h => (cases h; exact z2), by simp [Mem.ids], hI2.stay ⟨_, _, _, z2, by decide, by decide⟩ (fun x hx => .inl (by simpa [Mem.ids] using hx)), ?_⟩
        refine Goes.run [15, 16] [] trivial ?_
        refine Goes.lone1 17 (TookS.run 17 0 ?_)
        refine Goes.run [] [] trivial ?_
        exact Goes.ret [] (.tuple #[]) fun w' hm hI => ⟨lv, _, rfl, hm.get 0, hI.now⟩
      · refine Goes.lone1 4 (TookS.run 4 0 ?_)
        refine Goes.lone1 14 (TookS.eff 14 (Builtin.append_ #[32, 32] 32 #[tv, .slice (some ⟨gb, 0, none⟩) 1 1]) fun w1 hm1 hn1 hI1 => ?_)
        have z1 : w1.heap[gb]? = some (.cells #[.int .i64 day, strV s, .int .i64 f] 50 (0, 0)) := hm1.get 1
        obtain ⟨b, c', w2, hr, hI2, hk⟩ := hI1.now.pay (Nat.le_trans hn hI1.now.1.size) (s, f) z1 hlen (ty := 32) (c := 1)
        have z2 : w2.heap[g]? = some (dO day fv sv lv tv) := hk g _ _ _ (hm1.get 0) (by decide)
        refine ⟨_, w2, _, [(g, dO day fv sv lv tv)], hr, fun j b o h => by match j, h with | 0, h => (cases h; exact z2), by simp [Mem.ids], hI2.stay ⟨_, _, _, z2, by decide, by decide⟩ (fun x hx => .inl (by simpa [Mem.ids] using hx)), ?_⟩
        refine Goes.run [15, 16] [] trivial ?_
        refine Goes.lone1 17 (TookS.run 17 0 ?_)
        refine Goes.run [] [] trivial ?_
        exact Goes.ret [] (.tuple #[]) fun w' hm hI => ⟨lv, _, rfl, hm.get 0, hI.now⟩
end Go.Proofs.YthnojedlndblbaaGreatDoor
namespace Go.Proofs.YthnojedlndblbaaGreatDoor
open Go Go.RowKit

def Loc (w : World) (loc : Mem) : Prop := ∀ q ∈ loc, w.heap.size ≤ q.1 ∧ ∃ c e z, q.2 = .cells c e z ∧ ty4 e = false
theorem holds_in {m : Mem} {w : World} (h : ∀ q ∈ m, w.heap[q.1]? = some q.2) : Holds m w := fun _ _ _ hj => h _ (List.mem_of_getElem? hj)
theorem in_holds {m : Mem} {w : World} (h : Holds m w) : ∀ q ∈ m, w.heap[q.1]? = some q.2 := fun q hq => by
  obtain ⟨j, hj⟩ := List.getElem?_of_mem hq
  exact h j q.1 q.2 hj
section
variable {P : Program} {F : Exit → Act → World → Prop} {s : St} {n0 g : Nat} {day : Int} {fv sv lv tv lv1 tv1 : Value} {ls1 : List (Int × Int)} {ts1 : List (List UInt8 × Int)} {w : World}
theorem aq_next {loc : Mem} (hloc : Loc w loc) {m : Mem} (hmem : m = (g, dO day fv sv lv1 tv1) :: loc) {w1 w2 : World} (hm : Holds m w1) (hI : AcI n0 g day w lv tv lv1 tv1 ls1 ts1 w1) {lv2 tv2 : Value} {ls2 : List (Int × Int)} {ts2 : List (List UInt8 × Int)} (hg2 : w2.heap[g]? = some (dO day fv sv lv2 tv2)) (hA : AcI n0 g day w1 lv1 tv1 lv2 tv2 ls2 ts2 w2) :
    Holds ((g, dO day fv sv lv2 tv2) :: loc) w2 ∧ Stay (Mem.ids ((g, dO day fv sv lv2 tv2) :: loc)) w2 (AcI n0 g day w lv tv lv2 tv2 ls2 ts2) ∧ ∀ (i : Nat) (c : Array Value) (e : TypeId) (z : Nat × Nat), w1.heap[i]? = some (.cells c e z) → ty4 e = false → w2.heap[i]? = some (.cells c e z) := by
  subst hmem
  have hall := in_holds hm
  have hT := oo_ty hI.2.1 hI.2.2.1 (dO_ty (hall _ List.mem_cons_self))
  have hoth : ∀ (i : Nat) (c : Array Value) (e : TypeId) (z : Nat × Nat), w1.heap[i]? = some (.cells c e z) → ty4 e = false → w2.heap[i]? = some (.cells c e z) := fun i c e z hi he => ch_other hA.1 hT hi he
  have hl : ∀ q ∈ loc, w2.heap[q.1]? = some q.2 := fun q hq => by
    obtain ⟨-, c, e, z, h1, h2⟩ := hloc q hq
    have := hall q (List.mem_cons_of_mem _ hq)
    rw [h1] at this ⊢
    exact hoth _ _ _ _ this h2
  refine ⟨holds_in fun q hq => ?_, (hI.trans hA).stay ⟨_, _, _, hg2, by decide, by decide⟩ fun x hx => ?_, hoth⟩
  · rcases List.mem_cons.1 hq with rfl | hq
    · exact hg2
    · exact hl q hq
  · unfold Mem.ids at hx
    rw [List.map_cons] at hx
    rcases List.mem_cons.1 hx with rfl | hx
    · exact .inl rfl
    · obtain ⟨q, hq, rfl⟩ := List.mem_map.1 hx
      obtain ⟨h0, c, e, z, h1, h2⟩ := hloc q hq
      exact .inr ⟨h0, c, e, z, by rw [hl q hq, h1], h2⟩
/-- A part of acquiring is called. -/
theorem Goes.callAQ (f : FuncId) (args : Array Value) (u : Value) (ls2 : List (Int × Int)) (ts2 : List (List UInt8 × Int)) (loc : Mem) (hloc : Loc w loc)
    (hr : ∀ w1, Holds s.mem w1 → AcI n0 g day w lv tv lv1 tv1 ls1 ts1 w1 → Calls P f args w1 (AQ n0 g day fv sv w1 lv1 tv1 u ls2 ts2))
    (h : ∀ lv2 tv2, Goes P F (AcI n0 g day w lv tv lv2 tv2 ls2 ts2) (put s u ((g, dO day fv sv lv2 tv2) :: loc)))
    (hmem : s.mem = (g, dO day fv sv lv1 tv1) :: loc := by kernel_rfl) (ha : ask s = some (f, args) := by kernel_rfl) (hw : wants s = true := by kernel_rfl) (hf : okf P f = true := by kernel_rfl) : Goes P F (AcI n0 g day w lv tv lv1 tv1 ls1 ts1) s :=
  Goes.call f args (fun w1 hm hn hI => (hr w1 hm hI.now).mono fun e w2 ⟨lv2, tv2, he, hg2, hA⟩ => by
    obtain ⟨h1, h2, -⟩ := aq_next hloc hmem hm hI.now hg2 hA
    exact ⟨u, _, _, he, h1, by rw [hmem] at hn; exact hn, h2, h lv2 tv2⟩) ha hw hf
/-- The same, in a drawn region that reads other blocks besides. -/
theorem Goes.callAQA (i : Nat) (f : FuncId) (args : Array Value) (u : Value) (ls2 : List (Int × Int)) (ts2 : List (List UInt8 × Int)) (loc : Mem) (hloc : Loc w loc) (m0 : Mem) (hm0 : ∀ q ∈ m0, ∃ c e z, q.2 = .cells c e z ∧ ty4 e = false)
    (hr : ∀ w1, Holds s.mem w1 → AcI n0 g day w lv tv lv1 tv1 ls1 ts1 w1 → Calls P f args w1 (AQ n0 g day fv sv w1 lv1 tv1 u ls2 ts2))
    (h : ∀ lv2 tv2, Goes P F (AcI n0 g day w lv tv lv2 tv2 ls2 ts2) (putA i s u ((g, dO day fv sv lv2 tv2) :: loc)))
    (hM : anyM s = m0 := by kernel_rfl) (hmem : s.mem = (g, dO day fv sv lv1 tv1) :: loc := by kernel_rfl) (ha : askA i s = some (f, args) := by kernel_rfl) (hw : anyLone i s = true := by kernel_rfl) (hf : okf P f = true := by kernel_rfl) : Goes P F (AcI n0 g day w lv tv lv1 tv1 ls1 ts1) s :=
  Goes.callA i f args (fun ops m1 n l k ht w1 hm hn hI h0 => (hr w1 hm hI.now).mono fun e w2 ⟨lv2, tv2, he, hg2, hA⟩ => by
    obtain ⟨h1, h2, h3⟩ := aq_next hloc hmem hm hI.now hg2 hA
    refine ⟨u, _, _, he, holds_in fun q hq => ?_, h1, by rw [hmem] at hn; exact hn, h2, h lv2 tv2⟩
    have hq' : q ∈ m0 := by rw [← hM]; unfold anyM; rw [ht]; exact hq
    obtain ⟨c, e, z, e1, e2⟩ := hm0 q hq'
    have := in_holds h0 q hq
    rw [e1] at this ⊢
    exact h3 _ _ _ _ this e2) ha hw hf
end
theorem IzR.open {base : Nat} {w : World} {pv : Value} {pl : List Int} (h : IzR base w pv pl) (h0 : pl ≠ []) : ∃ kb cur cap, pv = .slice (some ⟨kb, 0, none⟩) pl.length cap ∧ w.heap[kb]? = some (.cells cur 3 (0, 0)) ∧ ∀ (i : Nat) (q : Int), pl[i]? = some q → cur[i]? = some (.int .i64 q) := by
  rcases h.2 with ⟨-, hn⟩ | ⟨g, cap, cur, e, -, hg, -, -, -, ht⟩
  · exact absurd (List.eq_nil_of_length_eq_zero hn) h0
  · refine ⟨g, cur, cap, e, hg, fun i q hq => ?_⟩
    have h1 : (pl.map (Value.int .i64))[i]? = some (.int .i64 q) := by rw [List.getElem?_map, hq]; rfl
    rw [← ht, List.getElem?_take] at h1
    split at h1
    · simpa using h1
    · cases h1
theorem cell_obj {w : World} {b i : Nat} {cur : Array Value} {t : TypeId} {z : Nat × Nat} {u : Value} (h : w.heap[b]? = some (.cells cur t z)) (hi : cur[i]? = some u) : w.cell? ⟨b, i, none⟩ = some u := by
  unfold World.cell?
  rw [h]
  simpa using hi
/-- The place of a kid. -/
theorem kid_term {c : Co} {p : Int} {op k : Int} {s : List UInt8} {kids : List Co} {i : Nat} {u : Co} (h : termP c p = some (.mk op k s kids)) (hu : kids[i]? = some u) : termP c (p + 1 + szL (kids.take i)) = some u := by
  obtain ⟨h0, h1, h2⟩ := term_in c p _ h
  have hc := szL_cut hu
  have hp := szC_pos u
  have e := h2 (1 + szL (kids.take i)) (by omega) (by rw [szC]; omega)
  rw [show p + 1 + szL (kids.take i) = p + (1 + szL (kids.take i)) by omega, e]
  have := term_kid (op := op) (k := k) (t := s) hu (d := 0) (by omega) (by omega)
  rw [Int.add_zero] at this
  rw [this, term_zero]
theorem szL_append : ∀ a b : List Co, szL (a ++ b) = szL a + szL b
  | [], b => by show szL b = _; rw [szL]; omega
  | c :: r, b => by show szL (c :: (r ++ b)) = _; rw [szL, szL, szL_append r b]; omega
/-- No more waits and is transferred than there are terms. -/
theorem acq_len (fs : Fs) (day : Int) (c : Co) : ∀ p f, (((acq fs day c p f).1.length + (acq fs day c p f).2.length : Nat) : Int) ≤ szC c := by
  induction c using Co.ind with
  | h op k t kids ih =>
    intro p f
    have hb : ∀ i g, (((brA (acqL fs day kids (p + 1)) i g).1.length + (brA (acqL fs day kids (p + 1)) i g).2.length : Nat) : Int) ≤ szL (kids.take (i + 1)) - szL (kids.take i) := by
      intro i g
      cases hc : kids[i]? with
      | none =>
        rw [acq_none fs day (p + 1) g hc]
        have : kids.take (i + 1) = kids.take i := by rw [List.take_of_length_le (by have := List.getElem?_eq_none_iff.1 hc; omega), List.take_of_length_le (List.getElem?_eq_none_iff.1 hc)]
        rw [this]
        simp [r0]
      | some u =>
        rw [acq_get fs day (p + 1) g hc, take_more hc, szL_snoc]
        have := ih u (List.mem_of_getElem? hc) (p + 1 + szL (kids.take i)) g
        omega
    have hle : ∀ i, szL (kids.take (i + 1)) - szL (kids.take i) ≤ szL kids ∧ 0 ≤ szL (kids.take i) ∧ szL (kids.take i) ≤ szL kids := by
      intro i
      have h1 := szL_pos (kids.take i)
      have h2 : ∀ j, szL (kids.take j) ≤ szL kids := by
        intro j
        have := szL_append (kids.take j) (kids.drop j)
        rw [List.take_append_drop] at this
        have := szL_pos (kids.drop j)
        omega
      have := h2 i
      have := h2 (i + 1)
      omega
    have hpos := szL_pos kids
    rw [acq, szC]
    refine acqC_ind (Q := fun r => ((r.1.length + r.2.length : Nat) : Int) ≤ 1 + szL kids) ?_ ?_ ?_ ?_ ?_
    · simp [r0]; omega
    · intro _ _; simp; omega
    · intro _ _; simp [wt]; omega
    · intro i g _
      have := hb i g
      have := hle i
      omega
    · have h0 := hb 0 f
      have h1 := hb 1 f
      have := hle 0
      have := hle 1
      have := hle 2
      simp only [R2.cat, List.length_append]
      simp only [List.take_zero, szL] at h0
      have e2 : szL (kids.take (1 + 1)) ≤ szL kids := (hle 2).2.2
      simp only [Nat.zero_add] at h0
      omega
end Go.Proofs.YthnojedlndblbaaGreatDoor
