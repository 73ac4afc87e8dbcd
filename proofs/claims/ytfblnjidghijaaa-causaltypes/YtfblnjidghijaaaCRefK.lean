/- The document's side of causal: the types of an operation's kids, and its own. -/
import Derived.Test.YtfblnjidghijaaaCOwn2
namespace Go.Proofs.Ytfblnjidghijaaa
open Go Go.RowKit

/-- What is answered of an Op's kids, and of its own type. -/
def Kr3 (r : Option (List Int × Int)) (w : World) (e : Ending) (w' : World) : Prop := ∃ v, e = .returned (.tuple #[v, .int .i64 ((r.map (·.2)).getD 0), .bool r.isSome]) ∧ Below w.heap.size w w' ∧ KidsAt w w' v ((r.map (·.1)).getD [])
theorem Kr3.none {r : Option (List Int × Int)} {w w' : World} (h : r = .none) (hB : Below w.heap.size w w') : Kr3 r w (.returned (.tuple #[.slice .none 0 0, .int .i64 0, .bool false])) w' := by subst h; exact ⟨_, rfl, hB, .inl ⟨rfl, rfl⟩⟩
theorem Kr3.nil {r : Option (List Int × Int)} {w w' : World} (t : Int) (h : r = some ([], t)) (hB : Below w.heap.size w w') : Kr3 r w (.returned (.tuple #[.slice .none 0 0, .int .i64 t, .bool true])) w' := by subst h; exact ⟨_, rfl, hB, .inl ⟨rfl, rfl⟩⟩
theorem Kr3.some {r : Option (List Int × Int)} {w w' : World} {g : Nat} (ks : List Int) (t : Int) (h : r = .some (ks, t)) (hB : Below w.heap.size w w') (hg : w.heap.size ≤ g) (hb : w'.heap[g]? = .some (.cells (ks.map (Value.int .i64)).toArray 3 (0, 0))) (h0 : 0 < ks.length) (h3 : ks.length ≤ 3) : Kr3 r w (.returned (.tuple #[.slice (.some ⟨g, 0, .none⟩) ks.length ks.length, .int .i64 t, .bool true])) w' := by subst h; exact ⟨_, rfl, hB, .inr ⟨g, hg, rfl, hb, h0, h3⟩⟩

def rkP (op : Int) : Option (List Int × Int) :=
  bif op == 1 || op == 4 then some ([], 0) else bif op == 2 then some ([], 1) else bif op == 3 || op == 5 then some ([], 2) else bif op == 6 then some ([0], 0) else bif op == 7 || op == 8 || op == 9 || op == 10 then some ([0, 0], 0) else bif op == 11 || op == 12 || op == 13 then some ([0, 0], 1) else bif op == 14 then some ([1], 1) else bif op == 15 || op == 16 then some ([1, 1], 1) else bif op == 17 then some ([2, 2], 1) else bif op == 18 || op == 19 then some ([2, 0], 2) else bif op == 20 || op == 21 then some ([2, 2], 0) else bif op == 23 || op == 24 then some ([], 4) else bif op == 25 || op == 29 then some ([4], 4) else bif op == 26 then some ([0, 4], 4) else bif op == 27 || op == 31 then some ([4, 4], 4) else bif op == 28 then some ([1, 4, 4], 4) else bif op == 30 then some ([1, 4], 4) else none
set_option maxRecDepth 100000 in
seal rn rnN rnS Goes ans atEnd put0 putM opened putA0 oneSt st0 in
theorem rk_any (op : Int) (w : World) : Calls Try.prog 40 #[.int .i64 op] w (Kr3 (rkP op) w) := by
  refine Goes.begin Try.func40 [] (fun _ => True) Holds.nil (by simp [Mem.ids]) (fun _ _ => trivial) ?_
  cases h1 : (op == 1) with
  | true =>
    refine Goes.run [1, 1] [(op == 1, true), (op == 1, true)] ⟨h1, h1, trivial⟩ ?_
    exact Goes.ret [] (.tuple #[.slice none 0 0, .int .i64 0, .bool true]) fun w' hm hI => Kr3.nil 0 (by unfold rkP; rw [h1] <;> rfl) (bel0 hI)
  | false =>
  cases h4 : (op == 4) with
  | true =>
    refine Goes.run [0, 1] [(op == 4, true), (op == 1, false)] ⟨h4, h1, trivial⟩ ?_
    exact Goes.ret [] (.tuple #[.slice none 0 0, .int .i64 0, .bool true]) fun w' hm hI => Kr3.nil 0 (by unfold rkP; rw [h1, h4] <;> rfl) (bel0 hI)
  | false =>
  cases h2 : (op == 2) with
  | true =>
    refine Goes.run [0, 0, 1] [(op == 2, true), (op == 4, false), (op == 1, false)] ⟨h2, h4, h1, trivial⟩ ?_
    exact Goes.ret [] (.tuple #[.slice none 0 0, .int .i64 1, .bool true]) fun w' hm hI => Kr3.nil 1 (by unfold rkP; rw [h1, h4, h2] <;> rfl) (bel0 hI)
  | false =>
  cases h3 : (op == 3) with
  | true =>
    refine Goes.run [0, 0, 0, 1, 1] [(op == 3, true), (op == 3, true), (op == 2, false), (op == 4, false), (op == 1, false)] ⟨h3, h3, h2, h4, h1, trivial⟩ ?_
    exact Goes.ret [] (.tuple #[.slice none 0 0, .int .i64 2, .bool true]) fun w' hm hI => Kr3.nil 2 (by unfold rkP; rw [h1, h4, h2, h3] <;> rfl) (bel0 hI)
  | false =>
  cases h5 : (op == 5) with
  | true =>
    refine Goes.run [0, 0, 0, 0, 1] [(op == 5, true), (op == 3, false), (op == 2, false), (op == 4, false), (op == 1, false)] ⟨h5, h3, h2, h4, h1, trivial⟩ ?_
    exact Goes.ret [] (.tuple #[.slice none 0 0, .int .i64 2, .bool true]) fun w' hm hI => Kr3.nil 2 (by unfold rkP; rw [h1, h4, h2, h3, h5] <;> rfl) (bel0 hI)
  | false =>
  cases h6 : (op == 6) with
  | true =>
    refine Goes.run1 [0, 0, 0, 0, 0, 1] [(op == 6, true), (op == 5, false), (op == 3, false), (op == 2, false), (op == 4, false), (op == 1, false)] ⟨h6, h5, h3, h2, h4, h1, trivial⟩ fun g => ?_
    exact Goes.ret [] (.tuple #[.slice (some ⟨g, 0, none⟩) 1 1, .int .i64 0, .bool true]) fun w' hm hI => Kr3.some [0] 0 (by unfold rkP; rw [h1, h4, h2, h3, h5, h6] <;> rfl) (bel0 hI) (fresh_of hI (g := g) (ids_get (j := 0) (o := .cells ([0].map (Value.int .i64)).toArray 3 (0, 0)) (by kernel_rfl)) (by simp [Mem.ids])) (hm.get 0) (by simp) (by simp)
  | false =>
  cases h7 : (op == 7) with
  | true =>
    refine Goes.run1 [0, 0, 0, 0, 0, 0, 1, 1] [(op == 7, true), (op == 7, true), (op == 6, false), (op == 5, false), (op == 3, false), (op == 2, false), (op == 4, false), (op == 1, false)] ⟨h7, h7, h6, h5, h3, h2, h4, h1, trivial⟩ fun g => ?_
    exact Goes.ret [] (.tuple #[.slice (some ⟨g, 0, none⟩) 2 2, .int .i64 0, .bool true]) fun w' hm hI => Kr3.some [0, 0] 0 (by unfold rkP; rw [h1, h4, h2, h3, h5, h6, h7] <;> rfl) (bel0 hI) (fresh_of hI (g := g) (ids_get (j := 0) (o := .cells ([0, 0].map (Value.int .i64)).toArray 3 (0, 0)) (by kernel_rfl)) (by simp [Mem.ids])) (hm.get 0) (by simp) (by simp)
  | false =>
  cases h8 : (op == 8) with
  | true =>
    refine Goes.run1 [0, 0, 0, 0, 0, 0, 0, 1, 1] [(op == 8, true), (op == 8, true), (op == 7, false), (op == 6, false), (op == 5, false), (op == 3, false), (op == 2, false), (op == 4, false), (op == 1, false)] ⟨h8, h8, h7, h6, h5, h3, h2, h4, h1, trivial⟩ fun g => ?_
    exact Goes.ret [] (.tuple #[.slice (some ⟨g, 0, none⟩) 2 2, .int .i64 0, .bool true]) fun w' hm hI => Kr3.some [0, 0] 0 (by unfold rkP; rw [h1, h4, h2, h3, h5, h6, h7, h8] <;> rfl) (bel0 hI) (fresh_of hI (g := g) (ids_get (j := 0) (o := .cells ([0, 0].map (Value.int .i64)).toArray 3 (0, 0)) (by kernel_rfl)) (by simp [Mem.ids])) (hm.get 0) (by simp) (by simp)
  | false =>
  cases h9 : (op == 9) with
  | true =>
    refine Goes.run1 [0, 0, 0, 0, 0, 0, 0, 0, 1, 1] [(op == 9, true), (op == 9, true), (op == 8, false), (op == 7, false), (op == 6, false), (op == 5, false), (op == 3, false), (op == 2, false), (op == 4, false), (op == 1, false)] ⟨h9, h9, h8, h7, h6, h5, h3, h2, h4, h1, trivial⟩ fun g => ?_
    exact Goes.ret [] (.tuple #[.slice (some ⟨g, 0, none⟩) 2 2, .int .i64 0, .bool true]) fun w' hm hI => Kr3.some [0, 0] 0 (by unfold rkP; rw [h1, h4, h2, h3, h5, h6, h7, h8, h9] <;> rfl) (bel0 hI) (fresh_of hI (g := g) (ids_get (j := 0) (o := .cells ([0, 0].map (Value.int .i64)).toArray 3 (0, 0)) (by kernel_rfl)) (by simp [Mem.ids])) (hm.get 0) (by simp) (by simp)
  | false =>
  cases h10 : (op == 10) with
  | true =>
    refine Goes.run1 [0, 0, 0, 0, 0, 0, 0, 0, 0, 1] [(op == 10, true), (op == 9, false), (op == 8, false), (op == 7, false), (op == 6, false), (op == 5, false), (op == 3, false), (op == 2, false), (op == 4, false), (op == 1, false)] ⟨h10, h9, h8, h7, h6, h5, h3, h2, h4, h1, trivial⟩ fun g => ?_
    exact Goes.ret [] (.tuple #[.slice (some ⟨g, 0, none⟩) 2 2, .int .i64 0, .bool true]) fun w' hm hI => Kr3.some [0, 0] 0 (by unfold rkP; rw [h1, h4, h2, h3, h5, h6, h7, h8, h9, h10] <;> rfl) (bel0 hI) (fresh_of hI (g := g) (ids_get (j := 0) (o := .cells ([0, 0].map (Value.int .i64)).toArray 3 (0, 0)) (by kernel_rfl)) (by simp [Mem.ids])) (hm.get 0) (by simp) (by simp)
  | false =>
  cases h11 : (op == 11) with
  | true =>
    refine Goes.run1 [0, 0, 0, 0, 0, 0, 0, 0, 0, 0, 1, 1] [(op == 11, true), (op == 11, true), (op == 10, false), (op == 9, false), (op == 8, false), (op == 7, false), (op == 6, false), (op == 5, false), (op == 3, false), (op == 2, false), (op == 4, false), (op == 1, false)] ⟨h11, h11, h10, h9, h8, h7, h6, h5, h3, h2, h4, h1, trivial⟩ fun g => ?_
    exact Goes.ret [] (.tuple #[.slice (some ⟨g, 0, none⟩) 2 2, .int .i64 1, .bool true]) fun w' hm hI => Kr3.some [0, 0] 1 (by unfold rkP; rw [h1, h4, h2, h3, h5, h6, h7, h8, h9, h10, h11] <;> rfl) (bel0 hI) (fresh_of hI (g := g) (ids_get (j := 0) (o := .cells ([0, 0].map (Value.int .i64)).toArray 3 (0, 0)) (by kernel_rfl)) (by simp [Mem.ids])) (hm.get 0) (by simp) (by simp)
  | false =>
  cases h12 : (op == 12) with
  | true =>
    refine Goes.run1 [0, 0, 0, 0, 0, 0, 0, 0, 0, 0, 0, 1, 1] [(op == 12, true), (op == 12, true), (op == 11, false), (op == 10, false), (op == 9, false), (op == 8, false), (op == 7, false), (op == 6, false), (op == 5, false), (op == 3, false), (op == 2, false), (op == 4, false), (op == 1, false)] ⟨h12, h12, h11, h10, h9, h8, h7, h6, h5, h3, h2, h4, h1, trivial⟩ fun g => ?_
    exact Goes.ret [] (.tuple #[.slice (some ⟨g, 0, none⟩) 2 2, .int .i64 1, .bool true]) fun w' hm hI => Kr3.some [0, 0] 1 (by unfold rkP; rw [h1, h4, h2, h3, h5, h6, h7, h8, h9, h10, h11, h12] <;> rfl) (bel0 hI) (fresh_of hI (g := g) (ids_get (j := 0) (o := .cells ([0, 0].map (Value.int .i64)).toArray 3 (0, 0)) (by kernel_rfl)) (by simp [Mem.ids])) (hm.get 0) (by simp) (by simp)
  | false =>
  cases h13 : (op == 13) with
  | true =>
    refine Goes.run1 [0, 0, 0, 0, 0, 0, 0, 0, 0, 0, 0, 0, 1] [(op == 13, true), (op == 12, false), (op == 11, false), (op == 10, false), (op == 9, false), (op == 8, false), (op == 7, false), (op == 6, false), (op == 5, false), (op == 3, false), (op == 2, false), (op == 4, false), (op == 1, false)] ⟨h13, h12, h11, h10, h9, h8, h7, h6, h5, h3, h2, h4, h1, trivial⟩ fun g => ?_
    exact Goes.ret [] (.tuple #[.slice (some ⟨g, 0, none⟩) 2 2, .int .i64 1, .bool true]) fun w' hm hI => Kr3.some [0, 0] 1 (by unfold rkP; rw [h1, h4, h2, h3, h5, h6, h7, h8, h9, h10, h11, h12, h13] <;> rfl) (bel0 hI) (fresh_of hI (g := g) (ids_get (j := 0) (o := .cells ([0, 0].map (Value.int .i64)).toArray 3 (0, 0)) (by kernel_rfl)) (by simp [Mem.ids])) (hm.get 0) (by simp) (by simp)
  | false =>
  cases h14 : (op == 14) with
  | true =>
    refine Goes.run1 [0, 0, 0, 0, 0, 0, 0, 0, 0, 0, 0, 0, 0, 1] [(op == 14, true), (op == 13, false), (op == 12, false), (op == 11, false), (op == 10, false), (op == 9, false), (op == 8, false), (op == 7, false), (op == 6, false), (op == 5, false), (op == 3, false), (op == 2, false), (op == 4, false), (op == 1, false)] ⟨h14, h13, h12, h11, h10, h9, h8, h7, h6, h5, h3, h2, h4, h1, trivial⟩ fun g => ?_
    exact Goes.ret [] (.tuple #[.slice (some ⟨g, 0, none⟩) 1 1, .int .i64 1, .bool true]) fun w' hm hI => Kr3.some [1] 1 (by unfold rkP; rw [h1, h4, h2, h3, h5, h6, h7, h8, h9, h10, h11, h12, h13, h14] <;> rfl) (bel0 hI) (fresh_of hI (g := g) (ids_get (j := 0) (o := .cells ([1].map (Value.int .i64)).toArray 3 (0, 0)) (by kernel_rfl)) (by simp [Mem.ids])) (hm.get 0) (by simp) (by simp)
  | false =>
  cases h15 : (op == 15) with
  | true =>
    refine Goes.run1 [0, 0, 0, 0, 0, 0, 0, 0, 0, 0, 0, 0, 0, 0, 1, 1] [(op == 15, true), (op == 15, true), (op == 14, false), (op == 13, false), (op == 12, false), (op == 11, false), (op == 10, false), (op == 9, false), (op == 8, false), (op == 7, false), (op == 6, false), (op == 5, false), (op == 3, false), (op == 2, false), (op == 4, false), (op == 1, false)] ⟨h15, h15, h14, h13, h12, h11, h10, h9, h8, h7, h6, h5, h3, h2, h4, h1, trivial⟩ fun g => ?_
    exact Goes.ret [] (.tuple #[.slice (some ⟨g, 0, none⟩) 2 2, .int .i64 1, .bool true]) fun w' hm hI => Kr3.some [1, 1] 1 (by unfold rkP; rw [h1, h4, h2, h3, h5, h6, h7, h8, h9, h10, h11, h12, h13, h14, h15] <;> rfl) (bel0 hI) (fresh_of hI (g := g) (ids_get (j := 0) (o := .cells ([1, 1].map (Value.int .i64)).toArray 3 (0, 0)) (by kernel_rfl)) (by simp [Mem.ids])) (hm.get 0) (by simp) (by simp)
  | false =>
  cases h16 : (op == 16) with
  | true =>
    refine Goes.run1 [0, 0, 0, 0, 0, 0, 0, 0, 0, 0, 0, 0, 0, 0, 0, 1] [(op == 16, true), (op == 15, false), (op == 14, false), (op == 13, false), (op == 12, false), (op == 11, false), (op == 10, false), (op == 9, false), (op == 8, false), (op == 7, false), (op == 6, false), (op == 5, false), (op == 3, false), (op == 2, false), (op == 4, false), (op == 1, false)] ⟨h16, h15, h14, h13, h12, h11, h10, h9, h8, h7, h6, h5, h3, h2, h4, h1, trivial⟩ fun g => ?_
    exact Goes.ret [] (.tuple #[.slice (some ⟨g, 0, none⟩) 2 2, .int .i64 1, .bool true]) fun w' hm hI => Kr3.some [1, 1] 1 (by unfold rkP; rw [h1, h4, h2, h3, h5, h6, h7, h8, h9, h10, h11, h12, h13, h14, h15, h16] <;> rfl) (bel0 hI) (fresh_of hI (g := g) (ids_get (j := 0) (o := .cells ([1, 1].map (Value.int .i64)).toArray 3 (0, 0)) (by kernel_rfl)) (by simp [Mem.ids])) (hm.get 0) (by simp) (by simp)
  | false =>
  cases h17 : (op == 17) with
  | true =>
    refine Goes.run1 [0, 0, 0, 0, 0, 0, 0, 0, 0, 0, 0, 0, 0, 0, 0, 0, 1] [(op == 17, true), (op == 16, false), (op == 15, false), (op == 14, false), (op == 13, false), (op == 12, false), (op == 11, false), (op == 10, false), (op == 9, false), (op == 8, false), (op == 7, false), (op == 6, false), (op == 5, false), (op == 3, false), (op == 2, false), (op == 4, false), (op == 1, false)] ⟨h17, h16, h15, h14, h13, h12, h11, h10, h9, h8, h7, h6, h5, h3, h2, h4, h1, trivial⟩ fun g => ?_
    exact Goes.ret [] (.tuple #[.slice (some ⟨g, 0, none⟩) 2 2, .int .i64 1, .bool true]) fun w' hm hI => Kr3.some [2, 2] 1 (by unfold rkP; rw [h1, h4, h2, h3, h5, h6, h7, h8, h9, h10, h11, h12, h13, h14, h15, h16, h17] <;> rfl) (bel0 hI) (fresh_of hI (g := g) (ids_get (j := 0) (o := .cells ([2, 2].map (Value.int .i64)).toArray 3 (0, 0)) (by kernel_rfl)) (by simp [Mem.ids])) (hm.get 0) (by simp) (by simp)
  | false =>
  cases h18 : (op == 18) with
  | true =>
    refine Goes.run1 [0, 0, 0, 0, 0, 0, 0, 0, 0, 0, 0, 0, 0, 0, 0, 0, 0, 1, 1] [(op == 18, true), (op == 18, true), (op == 17, false), (op == 16, false), (op == 15, false), (op == 14, false), (op == 13, false), (op == 12, false), (op == 11, false), (op == 10, false), (op == 9, false), (op == 8, false), (op == 7, false), (op == 6, false), (op == 5, false), (op == 3, false), (op == 2, false), (op == 4, false), (op == 1, false)] ⟨h18, h18, h17, h16, h15, h14, h13, h12, h11, h10, h9, h8, h7, h6, h5, h3, h2, h4, h1, trivial⟩ fun g => ?_
    exact Goes.ret [] (.tuple #[.slice (some ⟨g, 0, none⟩) 2 2, .int .i64 2, .bool true]) fun w' hm hI => Kr3.some [2, 0] 2 (by unfold rkP; rw [h1, h4, h2, h3, h5, h6, h7, h8, h9, h10, h11, h12, h13, h14, h15, h16, h17, h18] <;> rfl) (bel0 hI) (fresh_of hI (g := g) (ids_get (j := 0) (o := .cells ([2, 0].map (Value.int .i64)).toArray 3 (0, 0)) (by kernel_rfl)) (by simp [Mem.ids])) (hm.get 0) (by simp) (by simp)
  | false =>
  cases h19 : (op == 19) with
  | true =>
    refine Goes.run1 [0, 0, 0, 0, 0, 0, 0, 0, 0, 0, 0, 0, 0, 0, 0, 0, 0, 0, 1] [(op == 19, true), (op == 18, false), (op == 17, false), (op == 16, false), (op == 15, false), (op == 14, false), (op == 13, false), (op == 12, false), (op == 11, false), (op == 10, false), (op == 9, false), (op == 8, false), (op == 7, false), (op == 6, false), (op == 5, false), (op == 3, false), (op == 2, false), (op == 4, false), (op == 1, false)] ⟨h19, h18, h17, h16, h15, h14, h13, h12, h11, h10, h9, h8, h7, h6, h5, h3, h2, h4, h1, trivial⟩ fun g => ?_
    exact Goes.ret [] (.tuple #[.slice (some ⟨g, 0, none⟩) 2 2, .int .i64 2, .bool true]) fun w' hm hI => Kr3.some [2, 0] 2 (by unfold rkP; rw [h1, h4, h2, h3, h5, h6, h7, h8, h9, h10, h11, h12, h13, h14, h15, h16, h17, h18, h19] <;> rfl) (bel0 hI) (fresh_of hI (g := g) (ids_get (j := 0) (o := .cells ([2, 0].map (Value.int .i64)).toArray 3 (0, 0)) (by kernel_rfl)) (by simp [Mem.ids])) (hm.get 0) (by simp) (by simp)
  | false =>
  cases h20 : (op == 20) with
  | true =>
    refine Goes.run1 [0, 0, 0, 0, 0, 0, 0, 0, 0, 0, 0, 0, 0, 0, 0, 0, 0, 0, 0, 1, 1] [(op == 20, true), (op == 20, true), (op == 19, false), (op == 18, false), (op == 17, false), (op == 16, false), (op == 15, false), (op == 14, false), (op == 13, false), (op == 12, false), (op == 11, false), (op == 10, false), (op == 9, false), (op == 8, false), (op == 7, false), (op == 6, false), (op == 5, false), (op == 3, false), (op == 2, false), (op == 4, false), (op == 1, false)] ⟨h20, h20, h19, h18, h17, h16, h15, h14, h13, h12, h11, h10, h9, h8, h7, h6, h5, h3, h2, h4, h1, trivial⟩ fun g => ?_
    exact Goes.ret [] (.tuple #[.slice (some ⟨g, 0, none⟩) 2 2, .int .i64 0, .bool true]) fun w' hm hI => Kr3.some [2, 2] 0 (by unfold rkP; rw [h1, h4, h2, h3, h5, h6, h7, h8, h9, h10, h11, h12, h13, h14, h15, h16, h17, h18, h19, h20] <;> rfl) (bel0 hI) (fresh_of hI (g := g) (ids_get (j := 0) (o := .cells ([2, 2].map (Value.int .i64)).toArray 3 (0, 0)) (by kernel_rfl)) (by simp [Mem.ids])) (hm.get 0) (by simp) (by simp)
  | false =>
  cases h21 : (op == 21) with
  | true =>
    refine Goes.run1 [0, 0, 0, 0, 0, 0, 0, 0, 0, 0, 0, 0, 0, 0, 0, 0, 0, 0, 0, 0, 1] [(op == 21, true), (op == 20, false), (op == 19, false), (op == 18, false), (op == 17, false), (op == 16, false), (op == 15, false), (op == 14, false), (op == 13, false), (op == 12, false), (op == 11, false), (op == 10, false), (op == 9, false), (op == 8, false), (op == 7, false), (op == 6, false), (op == 5, false), (op == 3, false), (op == 2, false), (op == 4, false), (op == 1, false)] ⟨h21, h20, h19, h18, h17, h16, h15, h14, h13, h12, h11, h10, h9, h8, h7, h6, h5, h3, h2, h4, h1, trivial⟩ fun g => ?_
    exact Goes.ret [] (.tuple #[.slice (some ⟨g, 0, none⟩) 2 2, .int .i64 0, .bool true]) fun w' hm hI => Kr3.some [2, 2] 0 (by unfold rkP; rw [h1, h4, h2, h3, h5, h6, h7, h8, h9, h10, h11, h12, h13, h14, h15, h16, h17, h18, h19, h20, h21] <;> rfl) (bel0 hI) (fresh_of hI (g := g) (ids_get (j := 0) (o := .cells ([2, 2].map (Value.int .i64)).toArray 3 (0, 0)) (by kernel_rfl)) (by simp [Mem.ids])) (hm.get 0) (by simp) (by simp)
  | false =>
  cases h23 : (op == 23) with
  | true =>
    refine Goes.run [0, 0, 0, 0, 0, 0, 0, 0, 0, 0, 0, 0, 0, 0, 0, 0, 0, 0, 0, 0, 0, 1, 1] [(op == 23, true), (op == 23, true), (op == 21, false), (op == 20, false), (op == 19, false), (op == 18, false), (op == 17, false), (op == 16, false), (op == 15, false), (op == 14, false), (op == 13, false), (op == 12, false), (op == 11, false), (op == 10, false), (op == 9, false), (op == 8, false), (op == 7, false), (op == 6, false), (op == 5, false), (op == 3, false), (op == 2, false), (op == 4, false), (op == 1, false)] ⟨h23, h23, h21, h20, h19, h18, h17, h16, h15, h14, h13, h12, h11, h10, h9, h8, h7, h6, h5, h3, h2, h4, h1, trivial⟩ ?_
    exact Goes.ret [] (.tuple #[.slice none 0 0, .int .i64 4, .bool true]) fun w' hm hI => Kr3.nil 4 (by unfold rkP; rw [h1, h4, h2, h3, h5, h6, h7, h8, h9, h10, h11, h12, h13, h14, h15, h16, h17, h18, h19, h20, h21, h23] <;> rfl) (bel0 hI)
  | false =>
  cases h24 : (op == 24) with
  | true =>
    refine Goes.run [0, 0, 0, 0, 0, 0, 0, 0, 0, 0, 0, 0, 0, 0, 0, 0, 0, 0, 0, 0, 0, 0, 1] [(op == 24, true), (op == 23, false), (op == 21, false), (op == 20, false), (op == 19, false), (op == 18, false), (op == 17, false), (op == 16, false), (op == 15, false), (op == 14, false), (op == 13, false), (op == 12, false), (op == 11, false), (op == 10, false), (op == 9, false), (op == 8, false), (op == 7, false), (op == 6, false), (op == 5, false), (op == 3, false), (op == 2, false), (op == 4, false), (op == 1, false)] ⟨h24, h23, h21, h20, h19, h18, h17, h16, h15, h14, h13, h12, h11, h10, h9, h8, h7, h6, h5, h3, h2, h4, h1, trivial⟩ ?_
    exact Goes.ret [] (.tuple #[.slice none 0 0, .int .i64 4, .bool true]) fun w' hm hI => Kr3.nil 4 (by unfold rkP; rw [h1, h4, h2, h3, h5, h6, h7, h8, h9, h10, h11, h12, h13, h14, h15, h16, h17, h18, h19, h20, h21, h23, h24] <;> rfl) (bel0 hI)
  | false =>
  cases h25 : (op == 25) with
  | true =>
    refine Goes.run1 [0, 0, 0, 0, 0, 0, 0, 0, 0, 0, 0, 0, 0, 0, 0, 0, 0, 0, 0, 0, 0, 0, 0, 1, 1] [(op == 25, true), (op == 25, true), (op == 24, false), (op == 23, false), (op == 21, false), (op == 20, false), (op == 19, false), (op == 18, false), (op == 17, false), (op == 16, false), (op == 15, false), (op == 14, false), (op == 13, false), (op == 12, false), (op == 11, false), (op == 10, false), (op == 9, false), (op == 8, false), (op == 7, false), (op == 6, false), (op == 5, false), (op == 3, false), (op == 2, false), (op == 4, false), (op == 1, false)] ⟨h25, h25, h24, h23, h21, h20, h19, h18, h17, h16, h15, h14, h13, h12, h11, h10, h9, h8, h7, h6, h5, h3, h2, h4, h1, trivial⟩ fun g => ?_
    exact Goes.ret [] (.tuple #[.slice (some ⟨g, 0, none⟩) 1 1, .int .i64 4, .bool true]) fun w' hm hI => Kr3.some [4] 4 (by unfold rkP; rw [h1, h4, h2, h3, h5, h6, h7, h8, h9, h10, h11, h12, h13, h14, h15, h16, h17, h18, h19, h20, h21, h23, h24, h25] <;> rfl) (bel0 hI) (fresh_of hI (g := g) (ids_get (j := 0) (o := .cells ([4].map (Value.int .i64)).toArray 3 (0, 0)) (by kernel_rfl)) (by simp [Mem.ids])) (hm.get 0) (by simp) (by simp)
  | false =>
  cases h29 : (op == 29) with
  | true =>
    refine Goes.run1 [0, 0, 0, 0, 0, 0, 0, 0, 0, 0, 0, 0, 0, 0, 0, 0, 0, 0, 0, 0, 0, 0, 0, 0, 1] [(op == 29, true), (op == 25, false), (op == 24, false), (op == 23, false), (op == 21, false), (op == 20, false), (op == 19, false), (op == 18, false), (op == 17, false), (op == 16, false), (op == 15, false), (op == 14, false), (op == 13, false), (op == 12, false), (op == 11, false), (op == 10, false), (op == 9, false), (op == 8, false), (op == 7, false), (op == 6, false), (op == 5, false), (op == 3, false), (op == 2, false), (op == 4, false), (op == 1, false)] ⟨h29, h25, h24, h23, h21, h20, h19, h18, h17, h16, h15, h14, h13, h12, h11, h10, h9, h8, h7, h6, h5, h3, h2, h4, h1, trivial⟩ fun g => ?_
    exact Goes.ret [] (.tuple #[.slice (some ⟨g, 0, none⟩) 1 1, .int .i64 4, .bool true]) fun w' hm hI => Kr3.some [4] 4 (by unfold rkP; rw [h1, h4, h2, h3, h5, h6, h7, h8, h9, h10, h11, h12, h13, h14, h15, h16, h17, h18, h19, h20, h21, h23, h24, h25, h29] <;> rfl) (bel0 hI) (fresh_of hI (g := g) (ids_get (j := 0) (o := .cells ([4].map (Value.int .i64)).toArray 3 (0, 0)) (by kernel_rfl)) (by simp [Mem.ids])) (hm.get 0) (by simp) (by simp)
  | false =>
  cases h26 : (op == 26) with
  | true =>
    refine Goes.run1 [0, 0, 0, 0, 0, 0, 0, 0, 0, 0, 0, 0, 0, 0, 0, 0, 0, 0, 0, 0, 0, 0, 0, 0, 0, 1] [(op == 26, true), (op == 29, false), (op == 25, false), (op == 24, false), (op == 23, false), (op == 21, false), (op == 20, false), (op == 19, false), (op == 18, false), (op == 17, false), (op == 16, false), (op == 15, false), (op == 14, false), (op == 13, false), (op == 12, false), (op == 11, false), (op == 10, false), (op == 9, false), (op == 8, false), (op == 7, false), (op == 6, false), (op == 5, false), (op == 3, false), (op == 2, false), (op == 4, false), (op == 1, false)] ⟨h26, h29, h25, h24, h23, h21, h20, h19, h18, h17, h16, h15, h14, h13, h12, h11, h10, h9, h8, h7, h6, h5, h3, h2, h4, h1, trivial⟩ fun g => ?_
    exact Goes.ret [] (.tuple #[.slice (some ⟨g, 0, none⟩) 2 2, .int .i64 4, .bool true]) fun w' hm hI => Kr3.some [0, 4] 4 (by unfold rkP; rw [h1, h4, h2, h3, h5, h6, h7, h8, h9, h10, h11, h12, h13, h14, h15, h16, h17, h18, h19, h20, h21, h23, h24, h25, h29, h26] <;> rfl) (bel0 hI) (fresh_of hI (g := g) (ids_get (j := 0) (o := .cells ([0, 4].map (Value.int .i64)).toArray 3 (0, 0)) (by kernel_rfl)) (by simp [Mem.ids])) (hm.get 0) (by simp) (by simp)
  | false =>
  cases h27 : (op == 27) with
  | true =>
    refine Goes.run1 [0, 0, 0, 0, 0, 0, 0, 0, 0, 0, 0, 0, 0, 0, 0, 0, 0, 0, 0, 0, 0, 0, 0, 0, 0, 0, 1, 1] [(op == 27, true), (op == 27, true), (op == 26, false), (op == 29, false), (op == 25, false), (op == 24, false), (op == 23, false), (op == 21, false), (op == 20, false), (op == 19, false), (op == 18, false), (op == 17, false), (op == 16, false), (op == 15, false), (op == 14, false), (op == 13, false), (op == 12, false), (op == 11, false), (op == 10, false), (op == 9, false), (op == 8, false), (op == 7, false), (op == 6, false), (op == 5, false), (op == 3, false), (op == 2, false), (op == 4, false), (op == 1, false)] ⟨h27, h27, h26, h29, h25, h24, h23, h21, h20, h19, h18, h17, h16, h15, h14, h13, h12, h11, h10, h9, h8, h7, h6, h5, h3, h2, h4, h1, trivial⟩ fun g => ?_
    exact Goes.ret [] (.tuple #[.slice (some ⟨g, 0, none⟩) 2 2, .int .i64 4, .bool true]) fun w' hm hI => Kr3.some [4, 4] 4 (by unfold rkP; rw [h1, h4, h2, h3, h5, h6, h7, h8, h9, h10, h11, h12, h13, h14, h15, h16, h17, h18, h19, h20, h21, h23, h24, h25, h29, h26, h27] <;> rfl) (bel0 hI) (fresh_of hI (g := g) (ids_get (j := 0) (o := .cells ([4, 4].map (Value.int .i64)).toArray 3 (0, 0)) (by kernel_rfl)) (by simp [Mem.ids])) (hm.get 0) (by simp) (by simp)
  | false =>
  cases h31 : (op == 31) with
  | true =>
    refine Goes.run1 [0, 0, 0, 0, 0, 0, 0, 0, 0, 0, 0, 0, 0, 0, 0, 0, 0, 0, 0, 0, 0, 0, 0, 0, 0, 0, 0, 1] [(op == 31, true), (op == 27, false), (op == 26, false), (op == 29, false), (op == 25, false), (op == 24, false), (op == 23, false), (op == 21, false), (op == 20, false), (op == 19, false), (op == 18, false), (op == 17, false), (op == 16, false), (op == 15, false), (op == 14, false), (op == 13, false), (op == 12, false), (op == 11, false), (op == 10, false), (op == 9, false), (op == 8, false), (op == 7, false), (op == 6, false), (op == 5, false), (op == 3, false), (op == 2, false), (op == 4, false), (op == 1, false)] ⟨h31, h27, h26, h29, h25, h24, h23, h21, h20, h19, h18, h17, h16, h15, h14, h13, h12, h11, h10, h9, h8, h7, h6, h5, h3, h2, h4, h1, trivial⟩ fun g => ?_
    exact Goes.ret [] (.tuple #[.slice (some ⟨g, 0, none⟩) 2 2, .int .i64 4, .bool true]) fun w' hm hI => Kr3.some [4, 4] 4 (by unfold rkP; rw [h1, h4, h2, h3, h5, h6, h7, h8, h9, h10, h11, h12, h13, h14, h15, h16, h17, h18, h19, h20, h21, h23, h24, h25, h29, h26, h27, h31] <;> rfl) (bel0 hI) (fresh_of hI (g := g) (ids_get (j := 0) (o := .cells ([4, 4].map (Value.int .i64)).toArray 3 (0, 0)) (by kernel_rfl)) (by simp [Mem.ids])) (hm.get 0) (by simp) (by simp)
  | false =>
  cases h28 : (op == 28) with
  | true =>
    refine Goes.run1 [0, 0, 0, 0, 0, 0, 0, 0, 0, 0, 0, 0, 0, 0, 0, 0, 0, 0, 0, 0, 0, 0, 0, 0, 0, 0, 0, 0, 1] [(op == 28, true), (op == 31, false), (op == 27, false), (op == 26, false), (op == 29, false), (op == 25, false), (op == 24, false), (op == 23, false), (op == 21, false), (op == 20, false), (op == 19, false), (op == 18, false), (op == 17, false), (op == 16, false), (op == 15, false), (op == 14, false), (op == 13, false), (op == 12, false), (op == 11, false), (op == 10, false), (op == 9, false), (op == 8, false), (op == 7, false), (op == 6, false), (op == 5, false), (op == 3, false), (op == 2, false), (op == 4, false), (op == 1, false)] ⟨h28, h31, h27, h26, h29, h25, h24, h23, h21, h20, h19, h18, h17, h16, h15, h14, h13, h12, h11, h10, h9, h8, h7, h6, h5, h3, h2, h4, h1, trivial⟩ fun g => ?_
    exact Goes.ret [] (.tuple #[.slice (some ⟨g, 0, none⟩) 3 3, .int .i64 4, .bool true]) fun w' hm hI => Kr3.some [1, 4, 4] 4 (by unfold rkP; rw [h1, h4, h2, h3, h5, h6, h7, h8, h9, h10, h11, h12, h13, h14, h15, h16, h17, h18, h19, h20, h21, h23, h24, h25, h29, h26, h27, h31, h28] <;> rfl) (bel0 hI) (fresh_of hI (g := g) (ids_get (j := 0) (o := .cells ([1, 4, 4].map (Value.int .i64)).toArray 3 (0, 0)) (by kernel_rfl)) (by simp [Mem.ids])) (hm.get 0) (by simp) (by simp)
  | false =>
  cases h30 : (op == 30) with
  | true =>
    refine Goes.run1 [0, 0, 0, 0, 0, 0, 0, 0, 0, 0, 0, 0, 0, 0, 0, 0, 0, 0, 0, 0, 0, 0, 0, 0, 0, 0, 0, 0, 0, 1] [(op == 30, true), (op == 28, false), (op == 31, false), (op == 27, false), (op == 26, false), (op == 29, false), (op == 25, false), (op == 24, false), (op == 23, false), (op == 21, false), (op == 20, false), (op == 19, false), (op == 18, false), (op == 17, false), (op == 16, false), (op == 15, false), (op == 14, false), (op == 13, false), (op == 12, false), (op == 11, false), (op == 10, false), (op == 9, false), (op == 8, false), (op == 7, false), (op == 6, false), (op == 5, false), (op == 3, false), (op == 2, false), (op == 4, false), (op == 1, false)] ⟨h30, h28, h31, h27, h26, h29, h25, h24, h23, h21, h20, h19, h18, h17, h16, h15, h14, h13, h12, h11, h10, h9, h8, h7, h6, h5, h3, h2, h4, h1, trivial⟩ fun g => ?_
    exact Goes.ret [] (.tuple #[.slice (some ⟨g, 0, none⟩) 2 2, .int .i64 4, .bool true]) fun w' hm hI => Kr3.some [1, 4] 4 (by unfold rkP; rw [h1, h4, h2, h3, h5, h6, h7, h8, h9, h10, h11, h12, h13, h14, h15, h16, h17, h18, h19, h20, h21, h23, h24, h25, h29, h26, h27, h31, h28, h30] <;> rfl) (bel0 hI) (fresh_of hI (g := g) (ids_get (j := 0) (o := .cells ([1, 4].map (Value.int .i64)).toArray 3 (0, 0)) (by kernel_rfl)) (by simp [Mem.ids])) (hm.get 0) (by simp) (by simp)
  | false =>
    refine Goes.run [0, 0, 0, 0, 0, 0, 0, 0, 0, 0, 0, 0, 0, 0, 0, 0, 0, 0, 0, 0, 0, 0, 0, 0, 0, 0, 0, 0, 0, 0] [(op == 30, false), (op == 28, false), (op == 31, false), (op == 27, false), (op == 26, false), (op == 29, false), (op == 25, false), (op == 24, false), (op == 23, false), (op == 21, false), (op == 20, false), (op == 19, false), (op == 18, false), (op == 17, false), (op == 16, false), (op == 15, false), (op == 14, false), (op == 13, false), (op == 12, false), (op == 11, false), (op == 10, false), (op == 9, false), (op == 8, false), (op == 7, false), (op == 6, false), (op == 5, false), (op == 3, false), (op == 2, false), (op == 4, false), (op == 1, false)] ⟨h30, h28, h31, h27, h26, h29, h25, h24, h23, h21, h20, h19, h18, h17, h16, h15, h14, h13, h12, h11, h10, h9, h8, h7, h6, h5, h3, h2, h4, h1, trivial⟩ ?_
    exact Goes.ret [] (.tuple #[.slice none 0 0, .int .i64 0, .bool false]) fun w' hm hI => Kr3.none (by unfold rkP; rw [h1, h4, h2, h3, h5, h6, h7, h8, h9, h10, h11, h12, h13, h14, h15, h16, h17, h18, h19, h20, h21, h23, h24, h25, h29, h26, h27, h31, h28, h30] <;> rfl) (bel0 hI)
end Go.Proofs.Ytfblnjidghijaaa
