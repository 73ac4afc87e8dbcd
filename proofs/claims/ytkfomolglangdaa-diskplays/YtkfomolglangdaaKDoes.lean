/- Both disks, side by side, as the law's does has them. -/
import Derived.Test.YtkfomolglangdaaKAlike
namespace Go.Proofs.Ytkfomolglangdaa
open Go Go.RowKit

/-- Both disks hold the same. -/
structure Both (w : World) (q B p : Nat) (X : List Nat) (r : Nat) (s : DS) : Prop where
  bo : Bo w q p r
  disk : Disk w p X s
  own : ∀ k ∈ X, B ≤ k
  ref : Ref w B r s
  goes : s.Goes
  base : B ≤ q
  small : B ≤ w.heap.size
/-- What does answers. -/
def Did (w : World) (q B : Nat) (e : Ending) (w' : World) : Prop := e = .returned (.bool true) ∧ ∃ p X r s, Both w' q B p X r s ∧ Below B w w'
def ocs (x : OpV) : Array Value := #[.int .i64 x.kind, .int .i64 x.at_, .int .i64 x.nn, .slice x.ba x.bl x.bc, .slice x.sa x.sl x.sc]
/-- The call that is to be done, in a block of its own. -/
def Ob (w : World) (ob : Nat) (x : OpV) : Prop := w.heap[ob]? = some (.cells (ocs x) 38 (0, 0))
/-- What is so of a call: its bytes and numbers lie below B. -/
def OpIn (w : World) (B : Nat) (x : OpV) (l : List UInt8) (zs : List Int) : Prop :=
  i64 x.kind ∧ i64 x.at_ ∧ i64 x.nn ∧ (∀ w', Below B w w' → Sl w' (.slice x.ba x.bl x.bc) l) ∧ (l.length = x.bl ∧ x.bl ≤ 140737488351232) ∧ x.sl * 8 ≤ 140737488351232 ∧ (∀ w', Below B w w' → Ints w'.heap.size w' x.sa x.sl zs) ∧ zs.length = x.sl
theorem bo_other {w w' : World} {q p r : Nat} {X : List Nat} {s : DS} (hb : Bo w q p r) (hD : Disk w p X s) (hF : Fr X w w') : Bo w' q p r := hF.at hb (hD.other hb (by decide) (by decide))
theorem bo_mine {w w' : World} {q p r B : Nat} {Y : List Nat} (hb : Bo w q p r) (hM : Mine w B Y) (hF : Fr Y w w') : Bo w' q p r := hF.at hb (fun hm => by
  obtain ⟨_, c, t, hc, _, _, h3, _⟩ := hM q hm
  rw [Bo, hc] at hb; cases hb; exact h3 rfl)
theorem ob_mine {w : World} {ob B : Nat} {x : OpV} {Y : List Nat} (ho : Ob w ob x) (hM : Mine w B Y) : ob ∉ Y := fun hm => by
  obtain ⟨_, c, t, hc, _, _, _, h4⟩ := hM ob hm
  rw [Ob, hc] at ho; cases ho; exact h4 rfl
/-- A call on the program's disk. -/
structure Half (w w' : World) (q B p : Nat) (X : List Nat) (r : Nat) (s s' : DS) : Prop where
  bo : Bo w' q p r
  disk : Disk w' p X s'
  own : ∀ k ∈ X, B ≤ k
  ref : Ref w' B r s
  goes : s'.Goes
  base : B ≤ q
  small : B ≤ w'.heap.size
  below : Below B w w'
theorem Both.prog {w w' : World} {q B p r : Nat} {X X' : List Nat} {s s' : DS} (h : Both w q B p X r s) (hF : Fr X w w') (hD : Disk w' p X' s') (hG : s'.Goes) (hX : ∀ k ∈ X', k ∈ X ∨ w.heap.size ≤ k) : Half w w' q B p X' r s s' :=
  ⟨bo_other h.bo h.disk hF, hD, fun k hk => by
    rcases hX k hk with h1 | h1
    · exact h.own k h1
    · exact Nat.le_trans h.small h1, h.ref.fr hF h.disk.far, hG, h.base, Nat.le_trans h.small hF.size, hF.below h.small h.own⟩
structure Whole (w w' : World) (q B p : Nat) (X : List Nat) (r : Nat) (s' : DS) : Prop where
  bo : Bo w' q p r
  out : Both w' q B p X r s'
  below : Below B w w'
theorem Half.doc {w w1 w' : World} {q B p r : Nat} {X Y : List Nat} {s s' : DS} (h : Half w w1 q B p X r s s') (hF : Fr Y w1 w') (hM : Mine w1 B Y) (hR : Ref w' B r s') : Whole w w' q B p X r s' :=
  have hb := bo_mine h.bo hM hF
  have hB : Below B w1 w' := hF.below h.small (fun k hk => (hM k hk).1)
  ⟨hb, ⟨hb, h.disk.mine hM hF, h.own, hR, h.goes, h.base, Nat.le_trans h.small hF.size⟩, h.below.trans hB⟩
theorem Both.below {w w' : World} {q B p r : Nat} {X : List Nat} {s : DS} (h : Both w q B p X r s) (hB : Below w.heap.size w w') : Both w' q B p X r s :=
  ⟨below_at hB h.bo (heap_lt h.bo), h.disk.below hB, h.own, h.ref.below hB, h.goes, h.base, Nat.le_trans h.small hB.size⟩
theorem both_box {w : World} {q B p r : Nat} {X : List Nat} {s : DS} (h : Both w q B p X r s) (x : OpV) :
    ∃ w0 ob, w0 = w.alloc (.cells #[.int .i64 x.kind, .int .i64 x.at_, .int .i64 x.nn, .slice x.ba x.bl x.bc, .slice x.sa x.sl x.sc] 38) ∧ ob = w.heap.size ∧ Both w0 q B p X r s ∧ Ob w0 ob x ∧ Below B w w0 := by
  have hB : Below w.heap.size w (w.alloc (.cells (ocs x) 38)) := (Below.refl _ _).alloc (Nat.le_refl _) _
  exact ⟨_, _, rfl, rfl, h.below hB, heap_alloc_last w _, hB.mono h.small⟩
theorem fa38_0 (b : Nat) (w : World) : (Instr.fieldAt 38 (.pointer (some ⟨b, 0, none⟩)) 0).run Try.prog w = .ok (.pointer (some ⟨b, 0, none⟩)) w := by go_simp
theorem fa38_1 (b : Nat) (w : World) : (Instr.fieldAt 38 (.pointer (some ⟨b, 0, none⟩)) 1).run Try.prog w = .ok (.pointer (some ⟨b, 1, none⟩)) w := by go_simp
theorem fa38_2 (b : Nat) (w : World) : (Instr.fieldAt 38 (.pointer (some ⟨b, 0, none⟩)) 2).run Try.prog w = .ok (.pointer (some ⟨b, 2, none⟩)) w := by go_simp
theorem fa38_3 (b : Nat) (w : World) : (Instr.fieldAt 38 (.pointer (some ⟨b, 0, none⟩)) 3).run Try.prog w = .ok (.pointer (some ⟨b, 3, none⟩)) w := by go_simp
theorem fa38_4 (b : Nat) (w : World) : (Instr.fieldAt 38 (.pointer (some ⟨b, 0, none⟩)) 4).run Try.prog w = .ok (.pointer (some ⟨b, 4, none⟩)) w := by go_simp
theorem run_asgK {o : Oper} {a : Act} {x : Operand} {v : Value} {w : World} (hop : o.op = .assign x) (hv : a.eval x = v) : (execOp a.eval o).run Try.prog w = .ok (.value v) w := by
  unfold execOp; rw [hop]; simp only [hv, Sem.run_pure]
theorem y_ext {ops : Array Oper} {S : World → Prop} {o : Oper} {a : Act} {x : Operand} {i : Nat} {p v : Value} (hop : o.op = .extract x i) (hw : Region.wanted o (yielded ops a.tmps) = true) (hx : a.eval x = p)
    (hr : ∀ w, (Instr.extract p i).run Try.prog w = .ok v w) : YieldsIf Try.prog ops S o v a :=
  .inl ⟨hw, fun w _ => by unfold execOp; rw [hop]; simp only [hx, Sem.run_bind, hr w, Result.andThen_ok]; rfl⟩
end Go.Proofs.Ytkfomolglangdaa
