/- causal: the types of an Op's kids. -/
import Derived.Test.YtfblnjidghijaaaCWalk
namespace Go.Proofs.Ytfblnjidghijaaa
open Go Go.RowKit

theorem Ch.toB {w w' : World} {L : List Nat} (h : Ch L w w') (hL : ∀ x ∈ L, w.heap.size ≤ x) : Below w.heap.size w w' := ⟨h.os, h.tape, h.output, h.size, fun i hi => h.block i hi (fun hm => by have := hL i hm; omega)⟩
/-- A row of types that was made. -/
def KidsAt (w w' : World) (v : Value) (ks : List Int) : Prop := (v = .slice none 0 0 ∧ ks = []) ∨ ∃ g, w.heap.size ≤ g ∧ v = .slice (some ⟨g, 0, none⟩) ks.length ks.length ∧ w'.heap[g]? = some (.cells (ks.map (Value.int .i64)).toArray 3 (0, 0)) ∧ 0 < ks.length ∧ ks.length ≤ 3
/-- What is answered of an Op's kids. -/
def Kr (r : Option (List Int)) (w : World) (e : Ending) (w' : World) : Prop := ∃ v, e = .returned (.tuple #[v, .bool r.isSome]) ∧ Below w.heap.size w w' ∧ KidsAt w w' v (r.getD [])
theorem Kr.none {r : Option (List Int)} {w w' : World} (h : r = .none) (hB : Below w.heap.size w w') : Kr r w (.returned (.tuple #[.slice .none 0 0, .bool false])) w' := by subst h; exact ⟨_, rfl, hB, .inl ⟨rfl, rfl⟩⟩
theorem Kr.nil {r : Option (List Int)} {w w' : World} (h : r = some []) (hB : Below w.heap.size w w') : Kr r w (.returned (.tuple #[.slice .none 0 0, .bool true])) w' := by subst h; exact ⟨_, rfl, hB, .inl ⟨rfl, rfl⟩⟩
theorem Kr.some {r : Option (List Int)} {w w' : World} {g : Nat} (ks : List Int) (h : r = .some ks) (hB : Below w.heap.size w w') (hg : w.heap.size ≤ g) (hb : w'.heap[g]? = .some (.cells (ks.map (Value.int .i64)).toArray 3 (0, 0))) (h0 : 0 < ks.length) (h3 : ks.length ≤ 3) : Kr r w (.returned (.tuple #[.slice (.some ⟨g, 0, .none⟩) ks.length ks.length, .bool true])) w' := by subst h; exact ⟨_, rfl, hB, .inr ⟨g, hg, rfl, hb, h0, h3⟩⟩
theorem Kr.later {r : Option (List Int)} {w w0 w' : World} {e : Ending} (h : Kr r w0 e w') (hB : Below w.heap.size w w0) : Kr r w e w' := by
  obtain ⟨v, he, hb, hk⟩ := h
  refine ⟨v, he, hB.trans (hb.mono hB.size), ?_⟩
  rcases hk with h | ⟨g, h1, h2⟩
  · exact .inl h
  · exact .inr ⟨g, Nat.le_trans hB.size h1, h2⟩

def kNumber (op : Int) : Option (List Int) :=
  bif op == 1 || op == 4 then some [] else bif op == 6 then some [0] else bif op == 7 || op == 8 || op == 9 || op == 10 then some [0, 0] else bif op == 20 || op == 21 then some [2, 2] else none
set_option maxRecDepth 100000 in
seal rn rnN Goes ans atEnd put0 putM opened putA0 oneSt st0 in
theorem kNumber_any (op : Int) (w : World) : Calls Try.prog 64 #[.int .i64 op] w (Kr (kNumber op) w) := by
  refine Goes.begin Try.func64 [] (fun _ => True) Holds.nil (by simp [Mem.ids]) (fun _ _ => trivial) ?_
  cases h1 : (op == 1) with
  | true =>
    refine Goes.run [1, 1] [(op == 1, true), (op == 1, true)] ⟨h1, h1, trivial⟩ ?_
    exact Goes.ret [] (.tuple #[.slice none 0 0, .bool true]) fun w' hm hI => Kr.nil (by unfold kNumber; rw [h1] <;> rfl) (below_end (m := []) Holds.nil hI.now.1 hm (by kernel_rfl))
  | false =>
    cases h4 : (op == 4) with
    | true =>
      refine Goes.run [0, 1] [(op == 4, true), (op == 1, false)] ⟨h4, h1, trivial⟩ ?_
      exact Goes.ret [] (.tuple #[.slice none 0 0, .bool true]) fun w' hm hI => Kr.nil (by unfold kNumber; rw [h1, h4] <;> rfl) (below_end (m := []) Holds.nil hI.now.1 hm (by kernel_rfl))
    | false =>
      cases h6 : (op == 6) with
      | true =>
        refine Goes.run1 [0, 0, 1] [(op == 6, true), (op == 4, false), (op == 1, false)] ⟨h6, h4, h1, trivial⟩ fun g => ?_
        exact Goes.ret [] (.tuple #[.slice (some ⟨g, 0, none⟩) 1 1, .bool true]) fun w' hm hI => Kr.some [0] (by unfold kNumber; rw [h1, h4, h6] <;> rfl) (below_end (m := []) Holds.nil hI.now.1 hm (by kernel_rfl)) (fresh_of hI (g := g) (ids_get (j := 0) (o := .cells #[.int .i64 0] 3 (0, 0)) (by kernel_rfl)) (by simp [Mem.ids])) (hm.get 0) (by decide) (by decide)
      | false =>
        cases h7 : (op == 7) with
        | true =>
          refine Goes.run1 [0, 0, 0, 1, 1] [(op == 7, true), (op == 7, true), (op == 6, false), (op == 4, false), (op == 1, false)] ⟨h7, h7, h6, h4, h1, trivial⟩ fun g => ?_
          exact Goes.ret [] (.tuple #[.slice (some ⟨g, 0, none⟩) 2 2, .bool true]) fun w' hm hI => Kr.some [0, 0] (by unfold kNumber; rw [h1, h4, h6, h7] <;> rfl) (below_end (m := []) Holds.nil hI.now.1 hm (by kernel_rfl)) (fresh_of hI (g := g) (ids_get (j := 0) (o := .cells #[.int .i64 0, .int .i64 0] 3 (0, 0)) (by kernel_rfl)) (by simp [Mem.ids])) (hm.get 0) (by decide) (by decide)
        | false =>
          cases h8 : (op == 8) with
          | true =>
            refine Goes.run1 [0, 0, 0, 0, 1, 1] [(op == 8, true), (op == 8, true), (op == 7, false), (op == 6, false), (op == 4, false), (op == 1, false)] ⟨h8, h8, h7, h6, h4, h1, trivial⟩ fun g => ?_
            exact Goes.ret [] (.tuple #[.slice (some ⟨g, 0, none⟩) 2 2, .bool true]) fun w' hm hI => Kr.some [0, 0] (by unfold kNumber; rw [h1, h4, h6, h7, h8] <;> rfl) (below_end (m := []) Holds.nil hI.now.1 hm (by kernel_rfl)) (fresh_of hI (g := g) (ids_get (j := 0) (o := .cells #[.int .i64 0, .int .i64 0] 3 (0, 0)) (by kernel_rfl)) (by simp [Mem.ids])) (hm.get 0) (by decide) (by decide)
          | false =>
            cases h9 : (op == 9) with
            | true =>
              refine Goes.run1 [0, 0, 0, 0, 0, 1, 1] [(op == 9, true), (op == 9, true), (op == 8, false), (op == 7, false), (op == 6, false), (op == 4, false), (op == 1, false)] ⟨h9, h9, h8, h7, h6, h4, h1, trivial⟩ fun g => ?_
              exact Goes.ret [] (.tuple #[.slice (some ⟨g, 0, none⟩) 2 2, .bool true]) fun w' hm hI => Kr.some [0, 0] (by unfold kNumber; rw [h1, h4, h6, h7, h8, h9] <;> rfl) (below_end (m := []) Holds.nil hI.now.1 hm (by kernel_rfl)) (fresh_of hI (g := g) (ids_get (j := 0) (o := .cells #[.int .i64 0, .int .i64 0] 3 (0, 0)) (by kernel_rfl)) (by simp [Mem.ids])) (hm.get 0) (by decide) (by decide)
            | false =>
              cases h10 : (op == 10) with
              | true =>
                refine Goes.run1 [0, 0, 0, 0, 0, 0, 1] [(op == 10, true), (op == 9, false), (op == 8, false), (op == 7, false), (op == 6, false), (op == 4, false), (op == 1, false)] ⟨h10, h9, h8, h7, h6, h4, h1, trivial⟩ fun g => ?_
                exact Goes.ret [] (.tuple #[.slice (some ⟨g, 0, none⟩) 2 2, .bool true]) fun w' hm hI => Kr.some [0, 0] (by unfold kNumber; rw [h1, h4, h6, h7, h8, h9, h10] <;> rfl) (below_end (m := []) Holds.nil hI.now.1 hm (by kernel_rfl)) (fresh_of hI (g := g) (ids_get (j := 0) (o := .cells #[.int .i64 0, .int .i64 0] 3 (0, 0)) (by kernel_rfl)) (by simp [Mem.ids])) (hm.get 0) (by decide) (by decide)
              | false =>
                cases h20 : (op == 20) with
                | true =>
                  refine Goes.run1 [0, 0, 0, 0, 0, 0, 0, 1, 1] [(op == 20, true), (op == 20, true), (op == 10, false), (op == 9, false), (op == 8, false), (op == 7, false), (op == 6, false), (op == 4, false), (op == 1, false)] ⟨h20, h20, h10, h9, h8, h7, h6, h4, h1, trivial⟩ fun g => ?_
                  exact Goes.ret [] (.tuple #[.slice (some ⟨g, 0, none⟩) 2 2, .bool true]) fun w' hm hI => Kr.some [2, 2] (by unfold kNumber; rw [h1, h4, h6, h7, h8, h9, h10, h20] <;> rfl) (below_end (m := []) Holds.nil hI.now.1 hm (by kernel_rfl)) (fresh_of hI (g := g) (ids_get (j := 0) (o := .cells #[.int .i64 2, .int .i64 2] 3 (0, 0)) (by kernel_rfl)) (by simp [Mem.ids])) (hm.get 0) (by decide) (by decide)
                | false =>
                  cases h21 : (op == 21) with
                  | true =>
                    refine Goes.run1 [0, 0, 0, 0, 0, 0, 0, 0, 1] [(op == 21, true), (op == 20, false), (op == 10, false), (op == 9, false), (op == 8, false), (op == 7, false), (op == 6, false), (op == 4, false), (op == 1, false)] ⟨h21, h20, h10, h9, h8, h7, h6, h4, h1, trivial⟩ fun g => ?_
                    exact Goes.ret [] (.tuple #[.slice (some ⟨g, 0, none⟩) 2 2, .bool true]) fun w' hm hI => Kr.some [2, 2] (by unfold kNumber; rw [h1, h4, h6, h7, h8, h9, h10, h20, h21] <;> rfl) (below_end (m := []) Holds.nil hI.now.1 hm (by kernel_rfl)) (fresh_of hI (g := g) (ids_get (j := 0) (o := .cells #[.int .i64 2, .int .i64 2] 3 (0, 0)) (by kernel_rfl)) (by simp [Mem.ids])) (hm.get 0) (by decide) (by decide)
                  | false =>
                    refine Goes.run [0, 0, 0, 0, 0, 0, 0, 0, 0] [(op == 21, false), (op == 20, false), (op == 10, false), (op == 9, false), (op == 8, false), (op == 7, false), (op == 6, false), (op == 4, false), (op == 1, false)] ⟨h21, h20, h10, h9, h8, h7, h6, h4, h1, trivial⟩ ?_
                    exact Goes.ret [] (.tuple #[.slice none 0 0, .bool false]) fun w' hm hI => Kr.none (by unfold kNumber; rw [h1, h4, h6, h7, h8, h9, h10, h20, h21] <;> rfl) (below_end (m := []) Holds.nil hI.now.1 hm (by kernel_rfl))
def kTruth (op : Int) : Option (List Int) :=
  bif op == 2 then some [] else bif op == 11 || op == 12 || op == 13 then some [0, 0] else bif op == 14 then some [1] else bif op == 15 || op == 16 then some [1, 1] else bif op == 17 then some [2, 2] else none
set_option maxRecDepth 100000 in
seal rn rnN Goes ans atEnd put0 putM opened putA0 oneSt st0 in
theorem kTruth_any (op : Int) (w : World) : Calls Try.prog 65 #[.int .i64 op] w (Kr (kTruth op) w) := by
  refine Goes.begin Try.func65 [] (fun _ => True) Holds.nil (by simp [Mem.ids]) (fun _ _ => trivial) ?_
  cases h2 : (op == 2) with
  | true =>
    refine Goes.run [1] [(op == 2, true)] ⟨h2, trivial⟩ ?_
    exact Goes.ret [] (.tuple #[.slice none 0 0, .bool true]) fun w' hm hI => Kr.nil (by unfold kTruth; rw [h2] <;> rfl) (below_end (m := []) Holds.nil hI.now.1 hm (by kernel_rfl))
  | false =>
    cases h11 : (op == 11) with
    | true =>
      refine Goes.run1 [0, 1, 1] [(op == 11, true), (op == 11, true), (op == 2, false)] ⟨h11, h11, h2, trivial⟩ fun g => ?_
      exact Goes.ret [] (.tuple #[.slice (some ⟨g, 0, none⟩) 2 2, .bool true]) fun w' hm hI => Kr.some [0, 0] (by unfold kTruth; rw [h2, h11] <;> rfl) (below_end (m := []) Holds.nil hI.now.1 hm (by kernel_rfl)) (fresh_of hI (g := g) (ids_get (j := 0) (o := .cells #[.int .i64 0, .int .i64 0] 3 (0, 0)) (by kernel_rfl)) (by simp [Mem.ids])) (hm.get 0) (by decide) (by decide)
    | false =>
      cases h12 : (op == 12) with
      | true =>
        refine Goes.run1 [0, 0, 1, 1] [(op == 12, true), (op == 12, true), (op == 11, false), (op == 2, false)] ⟨h12, h12, h11, h2, trivial⟩ fun g => ?_
        exact Goes.ret [] (.tuple #[.slice (some ⟨g, 0, none⟩) 2 2, .bool true]) fun w' hm hI => Kr.some [0, 0] (by unfold kTruth; rw [h2, h11, h12] <;> rfl) (below_end (m := []) Holds.nil hI.now.1 hm (by kernel_rfl)) (fresh_of hI (g := g) (ids_get (j := 0) (o := .cells #[.int .i64 0, .int .i64 0] 3 (0, 0)) (by kernel_rfl)) (by simp [Mem.ids])) (hm.get 0) (by decide) (by decide)
      | false =>
        cases h13 : (op == 13) with
        | true =>
          refine Goes.run1 [0, 0, 0, 1] [(op == 13, true), (op == 12, false), (op == 11, false), (op == 2, false)] ⟨h13, h12, h11, h2, trivial⟩ fun g => ?_
          exact Goes.ret [] (.tuple #[.slice (some ⟨g, 0, none⟩) 2 2, .bool true]) fun w' hm hI => Kr.some [0, 0] (by unfold kTruth; rw [h2, h11, h12, h13] <;> rfl) (below_end (m := []) Holds.nil hI.now.1 hm (by kernel_rfl)) (fresh_of hI (g := g) (ids_get (j := 0) (o := .cells #[.int .i64 0, .int .i64 0] 3 (0, 0)) (by kernel_rfl)) (by simp [Mem.ids])) (hm.get 0) (by decide) (by decide)
        | false =>
          cases h14 : (op == 14) with
          | true =>
            refine Goes.run1 [0, 0, 0, 0, 1] [(op == 14, true), (op == 13, false), (op == 12, false), (op == 11, false), (op == 2, false)] ⟨h14, h13, h12, h11, h2, trivial⟩ fun g => ?_
            exact Goes.ret [] (.tuple #[.slice (some ⟨g, 0, none⟩) 1 1, .bool true]) fun w' hm hI => Kr.some [1] (by unfold kTruth; rw [h2, h11, h12, h13, h14] <;> rfl) (below_end (m := []) Holds.nil hI.now.1 hm (by kernel_rfl)) (fresh_of hI (g := g) (ids_get (j := 0) (o := .cells #[.int .i64 1] 3 (0, 0)) (by kernel_rfl)) (by simp [Mem.ids])) (hm.get 0) (by decide) (by decide)
          | false =>
            cases h15 : (op == 15) with
            | true =>
              refine Goes.run1 [0, 0, 0, 0, 0, 1, 1] [(op == 15, true), (op == 15, true), (op == 14, false), (op == 13, false), (op == 12, false), (op == 11, false), (op == 2, false)] ⟨h15, h15, h14, h13, h12, h11, h2, trivial⟩ fun g => ?_
              exact Goes.ret [] (.tuple #[.slice (some ⟨g, 0, none⟩) 2 2, .bool true]) fun w' hm hI => Kr.some [1, 1] (by unfold kTruth; rw [h2, h11, h12, h13, h14, h15] <;> rfl) (below_end (m := []) Holds.nil hI.now.1 hm (by kernel_rfl)) (fresh_of hI (g := g) (ids_get (j := 0) (o := .cells #[.int .i64 1, .int .i64 1] 3 (0, 0)) (by kernel_rfl)) (by simp [Mem.ids])) (hm.get 0) (by decide) (by decide)
            | false =>
              cases h16 : (op == 16) with
              | true =>
                refine Goes.run1 [0, 0, 0, 0, 0, 0, 1] [(op == 16, true), (op == 15, false), (op == 14, false), (op == 13, false), (op == 12, false), (op == 11, false), (op == 2, false)] ⟨h16, h15, h14, h13, h12, h11, h2, trivial⟩ fun g => ?_
                exact Goes.ret [] (.tuple #[.slice (some ⟨g, 0, none⟩) 2 2, .bool true]) fun w' hm hI => Kr.some [1, 1] (by unfold kTruth; rw [h2, h11, h12, h13, h14, h15, h16] <;> rfl) (below_end (m := []) Holds.nil hI.now.1 hm (by kernel_rfl)) (fresh_of hI (g := g) (ids_get (j := 0) (o := .cells #[.int .i64 1, .int .i64 1] 3 (0, 0)) (by kernel_rfl)) (by simp [Mem.ids])) (hm.get 0) (by decide) (by decide)
              | false =>
                cases h17 : (op == 17) with
                | true =>
                  refine Goes.run1 [0, 0, 0, 0, 0, 0, 0, 1] [(op == 17, true), (op == 16, false), (op == 15, false), (op == 14, false), (op == 13, false), (op == 12, false), (op == 11, false), (op == 2, false)] ⟨h17, h16, h15, h14, h13, h12, h11, h2, trivial⟩ fun g => ?_
                  exact Goes.ret [] (.tuple #[.slice (some ⟨g, 0, none⟩) 2 2, .bool true]) fun w' hm hI => Kr.some [2, 2] (by unfold kTruth; rw [h2, h11, h12, h13, h14, h15, h16, h17] <;> rfl) (below_end (m := []) Holds.nil hI.now.1 hm (by kernel_rfl)) (fresh_of hI (g := g) (ids_get (j := 0) (o := .cells #[.int .i64 2, .int .i64 2] 3 (0, 0)) (by kernel_rfl)) (by simp [Mem.ids])) (hm.get 0) (by decide) (by decide)
                | false =>
                  refine Goes.run [0, 0, 0, 0, 0, 0, 0, 0] [(op == 17, false), (op == 16, false), (op == 15, false), (op == 14, false), (op == 13, false), (op == 12, false), (op == 11, false), (op == 2, false)] ⟨h17, h16, h15, h14, h13, h12, h11, h2, trivial⟩ ?_
                  exact Goes.ret [] (.tuple #[.slice none 0 0, .bool false]) fun w' hm hI => Kr.none (by unfold kTruth; rw [h2, h11, h12, h13, h14, h15, h16, h17] <;> rfl) (below_end (m := []) Holds.nil hI.now.1 hm (by kernel_rfl))
def kDay (op : Int) : Option (List Int) :=
  bif op == 3 || op == 5 then some [] else bif op == 18 || op == 19 then some [2, 0] else none
set_option maxRecDepth 100000 in
seal rn rnN Goes ans atEnd put0 putM opened putA0 oneSt st0 in
theorem kDay_any (op : Int) (w : World) : Calls Try.prog 66 #[.int .i64 op] w (Kr (kDay op) w) := by
  refine Goes.begin Try.func66 [] (fun _ => True) Holds.nil (by simp [Mem.ids]) (fun _ _ => trivial) ?_
  cases h3 : (op == 3) with
  | true =>
    refine Goes.run [1, 1] [(op == 3, true), (op == 3, true)] ⟨h3, h3, trivial⟩ ?_
    exact Goes.ret [] (.tuple #[.slice none 0 0, .bool true]) fun w' hm hI => Kr.nil (by unfold kDay; rw [h3] <;> rfl) (below_end (m := []) Holds.nil hI.now.1 hm (by kernel_rfl))
  | false =>
    cases h5 : (op == 5) with
    | true =>
      refine Goes.run [0, 1] [(op == 5, true), (op == 3, false)] ⟨h5, h3, trivial⟩ ?_
      exact Goes.ret [] (.tuple #[.slice none 0 0, .bool true]) fun w' hm hI => Kr.nil (by unfold kDay; rw [h3, h5] <;> rfl) (below_end (m := []) Holds.nil hI.now.1 hm (by kernel_rfl))
    | false =>
      cases h18 : (op == 18) with
      | true =>
        refine Goes.run1 [0, 0, 1, 1] [(op == 18, true), (op == 18, true), (op == 5, false), (op == 3, false)] ⟨h18, h18, h5, h3, trivial⟩ fun g => ?_
        exact Goes.ret [] (.tuple #[.slice (some ⟨g, 0, none⟩) 2 2, .bool true]) fun w' hm hI => Kr.some [2, 0] (by unfold kDay; rw [h3, h5, h18] <;> rfl) (below_end (m := []) Holds.nil hI.now.1 hm (by kernel_rfl)) (fresh_of hI (g := g) (ids_get (j := 0) (o := .cells #[.int .i64 2, .int .i64 0] 3 (0, 0)) (by kernel_rfl)) (by simp [Mem.ids])) (hm.get 0) (by decide) (by decide)
      | false =>
        cases h19 : (op == 19) with
        | true =>
          refine Goes.run1 [0, 0, 0, 1] [(op == 19, true), (op == 18, false), (op == 5, false), (op == 3, false)] ⟨h19, h18, h5, h3, trivial⟩ fun g => ?_
          exact Goes.ret [] (.tuple #[.slice (some ⟨g, 0, none⟩) 2 2, .bool true]) fun w' hm hI => Kr.some [2, 0] (by unfold kDay; rw [h3, h5, h18, h19] <;> rfl) (below_end (m := []) Holds.nil hI.now.1 hm (by kernel_rfl)) (fresh_of hI (g := g) (ids_get (j := 0) (o := .cells #[.int .i64 2, .int .i64 0] 3 (0, 0)) (by kernel_rfl)) (by simp [Mem.ids])) (hm.get 0) (by decide) (by decide)
        | false =>
          refine Goes.run [0, 0, 0, 0] [(op == 19, false), (op == 18, false), (op == 5, false), (op == 3, false)] ⟨h19, h18, h5, h3, trivial⟩ ?_
          exact Goes.ret [] (.tuple #[.slice none 0 0, .bool false]) fun w' hm hI => Kr.none (by unfold kDay; rw [h3, h5, h18, h19] <;> rfl) (below_end (m := []) Holds.nil hI.now.1 hm (by kernel_rfl))
def kContract (op : Int) : Option (List Int) :=
  bif op == 23 || op == 24 then some [] else bif op == 25 || op == 29 then some [4] else bif op == 26 then some [0, 4] else bif op == 27 || op == 31 then some [4, 4] else bif op == 28 then some [1, 4, 4] else bif op == 30 then some [1, 4] else none
set_option maxRecDepth 100000 in
seal rn rnN Goes ans atEnd put0 putM opened putA0 oneSt st0 in
theorem kContract_any (op : Int) (w : World) : Calls Try.prog 63 #[.int .i64 op] w (Kr (kContract op) w) := by
  refine Goes.begin Try.func63 [] (fun _ => True) Holds.nil (by simp [Mem.ids]) (fun _ _ => trivial) ?_
  cases h23 : (op == 23) with
  | true =>
    refine Goes.run [1, 1] [(op == 23, true), (op == 23, true)] ⟨h23, h23, trivial⟩ ?_
    exact Goes.ret [] (.tuple #[.slice none 0 0, .bool true]) fun w' hm hI => Kr.nil (by unfold kContract; rw [h23] <;> rfl) (below_end (m := []) Holds.nil hI.now.1 hm (by kernel_rfl))
  | false =>
    cases h24 : (op == 24) with
    | true =>
      refine Goes.run [0, 1] [(op == 24, true), (op == 23, false)] ⟨h24, h23, trivial⟩ ?_
      exact Goes.ret [] (.tuple #[.slice none 0 0, .bool true]) fun w' hm hI => Kr.nil (by unfold kContract; rw [h23, h24] <;> rfl) (below_end (m := []) Holds.nil hI.now.1 hm (by kernel_rfl))
    | false =>
      cases h25 : (op == 25) with
      | true =>
        refine Goes.run1 [0, 0, 1, 1] [(op == 25, true), (op == 25, true), (op == 24, false), (op == 23, false)] ⟨h25, h25, h24, h23, trivial⟩ fun g => ?_
        exact Goes.ret [] (.tuple #[.slice (some ⟨g, 0, none⟩) 1 1, .bool true]) fun w' hm hI => Kr.some [4] (by unfold kContract; rw [h23, h24, h25] <;> rfl) (below_end (m := []) Holds.nil hI.now.1 hm (by kernel_rfl)) (fresh_of hI (g := g) (ids_get (j := 0) (o := .cells #[.int .i64 4] 3 (0, 0)) (by kernel_rfl)) (by simp [Mem.ids])) (hm.get 0) (by decide) (by decide)
      | false =>
        cases h29 : (op == 29) with
        | true =>
          refine Goes.run1 [0, 0, 0, 1] [(op == 29, true), (op == 25, false), (op == 24, false), (op == 23, false)] ⟨h29, h25, h24, h23, trivial⟩ fun g => ?_
          exact Goes.ret [] (.tuple #[.slice (some ⟨g, 0, none⟩) 1 1, .bool true]) fun w' hm hI => Kr.some [4] (by unfold kContract; rw [h23, h24, h25, h29] <;> rfl) (below_end (m := []) Holds.nil hI.now.1 hm (by kernel_rfl)) (fresh_of hI (g := g) (ids_get (j := 0) (o := .cells #[.int .i64 4] 3 (0, 0)) (by kernel_rfl)) (by simp [Mem.ids])) (hm.get 0) (by decide) (by decide)
        | false =>
          cases h26 : (op == 26) with
          | true =>
            refine Goes.run1 [0, 0, 0, 0, 1] [(op == 26, true), (op == 29, false), (op == 25, false), (op == 24, false), (op == 23, false)] ⟨h26, h29, h25, h24, h23, trivial⟩ fun g => ?_
            exact Goes.ret [] (.tuple #[.slice (some ⟨g, 0, none⟩) 2 2, .bool true]) fun w' hm hI => Kr.some [0, 4] (by unfold kContract; rw [h23, h24, h25, h29, h26] <;> rfl) (below_end (m := []) Holds.nil hI.now.1 hm (by kernel_rfl)) (fresh_of hI (g := g) (ids_get (j := 0) (o := .cells #[.int .i64 0, .int .i64 4] 3 (0, 0)) (by kernel_rfl)) (by simp [Mem.ids])) (hm.get 0) (by decide) (by decide)
          | false =>
            cases h27 : (op == 27) with
            | true =>
              refine Goes.run1 [0, 0, 0, 0, 0, 1, 1] [(op == 27, true), (op == 27, true), (op == 26, false), (op == 29, false), (op == 25, false), (op == 24, false), (op == 23, false)] ⟨h27, h27, h26, h29, h25, h24, h23, trivial⟩ fun g => ?_
              exact Goes.ret [] (.tuple #[.slice (some ⟨g, 0, none⟩) 2 2, .bool true]) fun w' hm hI => Kr.some [4, 4] (by unfold kContract; rw [h23, h24, h25, h29, h26, h27] <;> rfl) (below_end (m := []) Holds.nil hI.now.1 hm (by kernel_rfl)) (fresh_of hI (g := g) (ids_get (j := 0) (o := .cells #[.int .i64 4, .int .i64 4] 3 (0, 0)) (by kernel_rfl)) (by simp [Mem.ids])) (hm.get 0) (by decide) (by decide)
            | false =>
              cases h31 : (op == 31) with
              | true =>
                refine Goes.run1 [0, 0, 0, 0, 0, 0, 1] [(op == 31, true), (op == 27, false), (op == 26, false), (op == 29, false), (op == 25, false), (op == 24, false), (op == 23, false)] ⟨h31, h27, h26, h29, h25, h24, h23, trivial⟩ fun g => ?_
                exact Goes.ret [] (.tuple #[.slice (some ⟨g, 0, none⟩) 2 2, .bool true]) fun w' hm hI => Kr.some [4, 4] (by unfold kContract; rw [h23, h24, h25, h29, h26, h27, h31] <;> rfl) (below_end (m := []) Holds.nil hI.now.1 hm (by kernel_rfl)) (fresh_of hI (g := g) (ids_get (j := 0) (o := .cells #[.int .i64 4, .int .i64 4] 3 (0, 0)) (by kernel_rfl)) (by simp [Mem.ids])) (hm.get 0) (by decide) (by decide)
              | false =>
                cases h28 : (op == 28) with
                | true =>
                  refine Goes.run1 [0, 0, 0, 0, 0, 0, 0, 1] [(op == 28, true), (op == 31, false), (op == 27, false), (op == 26, false), (op == 29, false), (op == 25, false), (op == 24, false), (op == 23, false)] ⟨h28, h31, h27, h26, h29, h25, h24, h23, trivial⟩ fun g => ?_
                  exact Goes.ret [] (.tuple #[.slice (some ⟨g, 0, none⟩) 3 3, .bool true]) fun w' hm hI => Kr.some [1, 4, 4] (by unfold kContract; rw [h23, h24, h25, h29, h26, h27, h31, h28] <;> rfl) (below_end (m := []) Holds.nil hI.now.1 hm (by kernel_rfl)) (fresh_of hI (g := g) (ids_get (j := 0) (o := .cells #[.int .i64 1, .int .i64 4, .int .i64 4] 3 (0, 0)) (by kernel_rfl)) (by simp [Mem.ids])) (hm.get 0) (by decide) (by decide)
                | false =>
                  cases h30 : (op == 30) with
                  | true =>
                    refine Goes.run1 [0, 0, 0, 0, 0, 0, 0, 0, 1] [(op == 30, true), (op == 28, false), (op == 31, false), (op == 27, false), (op == 26, false), (op == 29, false), (op == 25, false), (op == 24, false), (op == 23, false)] ⟨h30, h28, h31, h27, h26, h29, h25, h24, h23, trivial⟩ fun g => ?_
                    exact Goes.ret [] (.tuple #[.slice (some ⟨g, 0, none⟩) 2 2, .bool true]) fun w' hm hI => Kr.some [1, 4] (by unfold kContract; rw [h23, h24, h25, h29, h26, h27, h31, h28, h30] <;> rfl) (below_end (m := []) Holds.nil hI.now.1 hm (by kernel_rfl)) (fresh_of hI (g := g) (ids_get (j := 0) (o := .cells #[.int .i64 1, .int .i64 4] 3 (0, 0)) (by kernel_rfl)) (by simp [Mem.ids])) (hm.get 0) (by decide) (by decide)
                  | false =>
                    refine Goes.run [0, 0, 0, 0, 0, 0, 0, 0, 0] [(op == 30, false), (op == 28, false), (op == 31, false), (op == 27, false), (op == 26, false), (op == 29, false), (op == 25, false), (op == 24, false), (op == 23, false)] ⟨h30, h28, h31, h27, h26, h29, h25, h24, h23, trivial⟩ ?_
                    exact Goes.ret [] (.tuple #[.slice none 0 0, .bool false]) fun w' hm hI => Kr.none (by unfold kContract; rw [h23, h24, h25, h29, h26, h27, h31, h28, h30] <;> rfl) (below_end (m := []) Holds.nil hI.now.1 hm (by kernel_rfl))
theorem KidsAt.stay {w w' : World} {v : Value} {ks : List Int} (hB : Below w.heap.size w w') (h : KidsAt w w' v ks) : Stay [] w' (fun w2 => Below w.heap.size w w2 ∧ KidsAt w w2 v ks) := by
  intro w2 hc
  have hb : Below w'.heap.size w' w2 := hc.toB (fun x hx => by cases hx)
  refine ⟨hB.trans (hb.mono hB.size), ?_⟩
  rcases h with h | ⟨g, h1, h2, h3, h4⟩
  · exact .inl h
  · exact .inr ⟨g, h1, h2, (hb.block g (lt_of_get h3)).trans h3, h4⟩
def kOf (op want : Int) : Option (List Int) :=
  bif want == 4 then kContract op else bif op == 22 then some [1, want, want] else bif want == 0 then kNumber op else bif want == 1 then kTruth op else kDay op
set_option maxRecDepth 100000 in
seal rn rnN Goes ans atEnd put0 putM opened putA0 oneSt st0 in
theorem kOf_any (op want : Int) (w : World) : Calls Try.prog 45 #[.int .i64 op, .int .i64 want] w (Kr (kOf op want) w) := by
  refine Goes.begin Try.func45 [] (fun _ => True) Holds.nil (by simp [Mem.ids]) (fun _ _ => trivial) ?_
  cases h1 : (want == 4) with
  | true =>
    refine Goes.run [1] [(want == 4, true)] ⟨h1, trivial⟩ ?_
    refine Goes.call 63 #[.int .i64 op] fun w1 hm hn hI => (kContract_any op w1).mono fun e w2 hk => ?_
    have hk2 := hk.later (w := w) (hI.now.1.toB (fun x hx => by cases hx))
    obtain ⟨v, rfl, hB, hK⟩ := hk2
    refine ⟨_, fun w' => Below w.heap.size w w' ∧ KidsAt w w' v ((kContract op).getD []), [], rfl, Holds.nil, by simp [Mem.ids], KidsAt.stay hB hK, ?_⟩
    refine Goes.run [] [] trivial ?_
    exact Goes.ret [] (.tuple #[v, .bool (kContract op).isSome]) fun w' hm hI => ⟨v, by unfold kOf; rw [h1] <;> rfl, hI.now.1, by unfold kOf; rw [h1]; exact hI.now.2⟩
  | false =>
    cases h2 : (op == 22) with
    | true =>
      refine Goes.run1 [0, 1] [(op == 22, true), (want == 4, false)] ⟨h2, h1, trivial⟩ fun g => ?_
      exact Goes.ret [] (.tuple #[.slice (some ⟨g, 0, none⟩) 3 3, .bool true]) fun w' hm hI => Kr.some [1, want, want] (by unfold kOf; rw [h1, h2] <;> rfl) (below_end (m := []) Holds.nil hI.now.1 hm (by kernel_rfl)) (fresh_of hI (g := g) (ids_get (j := 0) (o := .cells #[.int .i64 1, .int .i64 want, .int .i64 want] 3 (0, 0)) (by kernel_rfl)) (by simp [Mem.ids])) (hm.get 0) (by simp) (by simp)
    | false =>
      cases h3 : (want == 0) with
      | true =>
        refine Goes.run [0, 0, 1] [(want == 0, true), (op == 22, false), (want == 4, false)] ⟨h3, h2, h1, trivial⟩ ?_
        refine Goes.call 64 #[.int .i64 op] fun w1 hm hn hI => (kNumber_any op w1).mono fun e w2 hk => ?_
        have hk2 := hk.later (w := w) (hI.now.1.toB (fun x hx => by cases hx))
        obtain ⟨v, rfl, hB, hK⟩ := hk2
        refine ⟨_, fun w' => Below w.heap.size w w' ∧ KidsAt w w' v ((kNumber op).getD []), [], rfl, Holds.nil, by simp [Mem.ids], KidsAt.stay hB hK, ?_⟩
        refine Goes.run [] [] trivial ?_
        exact Goes.ret [] (.tuple #[v, .bool (kNumber op).isSome]) fun w' hm hI => ⟨v, by unfold kOf; rw [h1, h2, h3] <;> rfl, hI.now.1, by unfold kOf; rw [h1, h2, h3]; exact hI.now.2⟩
      | false =>
        cases h4 : (want == 1) with
        | true =>
          refine Goes.run [0, 0, 0, 1] [(want == 1, true), (want == 0, false), (op == 22, false), (want == 4, false)] ⟨h4, h3, h2, h1, trivial⟩ ?_
          refine Goes.call 65 #[.int .i64 op] fun w1 hm hn hI => (kTruth_any op w1).mono fun e w2 hk => ?_
          have hk2 := hk.later (w := w) (hI.now.1.toB (fun x hx => by cases hx))
          obtain ⟨v, rfl, hB, hK⟩ := hk2
          refine ⟨_, fun w' => Below w.heap.size w w' ∧ KidsAt w w' v ((kTruth op).getD []), [], rfl, Holds.nil, by simp [Mem.ids], KidsAt.stay hB hK, ?_⟩
          refine Goes.run [] [] trivial ?_
          exact Goes.ret [] (.tuple #[v, .bool (kTruth op).isSome]) fun w' hm hI => ⟨v, by unfold kOf; rw [h1, h2, h3, h4] <;> rfl, hI.now.1, by unfold kOf; rw [h1, h2, h3, h4]; exact hI.now.2⟩
        | false =>
          refine Goes.run [0, 0, 0, 0] [(want == 1, false), (want == 0, false), (op == 22, false), (want == 4, false)] ⟨h4, h3, h2, h1, trivial⟩ ?_
          refine Goes.call 66 #[.int .i64 op] fun w1 hm hn hI => (kDay_any op w1).mono fun e w2 hk => ?_
          have hk2 := hk.later (w := w) (hI.now.1.toB (fun x hx => by cases hx))
          obtain ⟨v, rfl, hB, hK⟩ := hk2
          refine ⟨_, fun w' => Below w.heap.size w w' ∧ KidsAt w w' v ((kDay op).getD []), [], rfl, Holds.nil, by simp [Mem.ids], KidsAt.stay hB hK, ?_⟩
          refine Goes.run [] [] trivial ?_
          exact Goes.ret [] (.tuple #[v, .bool (kDay op).isSome]) fun w' hm hI => ⟨v, by unfold kOf; rw [h1, h2, h3, h4] <;> rfl, hI.now.1, by unfold kOf; rw [h1, h2, h3, h4]; exact hI.now.2⟩
end Go.Proofs.Ytfblnjidghijaaa
