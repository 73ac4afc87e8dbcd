/- Regions that draw their order, whichever operation comes up: makers of blocks, and calls. -/
import Derived.Test.YtfblnjidghijaaaELaw
namespace Go.Proofs.Ytfblnjidghijaaa
open Go Go.RowKit

section
variable {P : Program} {F : Exit → Act → World → Prop} {Inv : World → Prop} {ops : Array Oper} {m0 : Mem} {n : Nat} {l : Array Bool} {k : List TI} {T : List Value} {m : Mem} {i : Nat} {o : Oper}
/-- What must be shown where the operation i comes up. -/
def Took (P : Program) (F : Exit → Act → World → Prop) (Inv : World → Prop) (ops : Array Oper) (m0 : Mem) (n : Nat) (l : Array Bool) (k : List TI) (T : List Value) (m : Mem) (i : Nat) : Prop :=
  ∀ w, Holds m w → m.ids.Nodup → Stay m.ids w Inv → Holds m0 w → wpOp P ops (QK P F k) i (fun a' w' => Holds m0 w' ∧ wpAnyH P .any ops (QK P F k) (Holds m0) n (l.setIfInBounds i true) a' w') ⟨T.toArray, []⟩ w
theorem Goes.choose (hne : Region.ready .any ops l ≠ []) (h : ∀ i ∈ Region.ready .any ops l, Took P F Inv ops m0 n l k T m i) : Goes P F Inv ⟨.any ops m0 (n + 1) l :: k, T, m⟩ :=
  fun w h1 h2 h3 h0 => wpAnyH_all rfl hne fun i hi => h i hi w h1 h2 h3 h0
/-- A block is made. -/
theorem Took.new (z : Obj) (ho : ops[i]? = some o) (hg : Region.wanted o (yielded ops T.toArray) = true) (hm : ∀ p ∈ m0, p ∈ m)
    (hs : ∀ g, srun P (execOp (evalL T) o) [] (some g) m [] false = some ⟨.value (.pointer (some ⟨g, 0, none⟩)), m ++ [(g, z)], [], true⟩)
    (h : ∀ g, Goes P F Inv ⟨.any ops m0 n (l.setIfInBounds i true) :: k, putL T o.dst (.pointer (some ⟨g, 0, none⟩)), m ++ [(g, z)]⟩) : Took P F Inv ops m0 n l k T m i := by
  intro w h1 h2 h3 h0
  unfold wpOp
  rw [ho]
  simp only [hg, if_true]
  unfold Oper.wp
  rw [evalL_eq]
  obtain ⟨w', D⟩ := srun_did P _ _ _ _ _ _ _ w (hs w.heap.size) (by simp) h1 h2 (by simp)
  have h4 : Holds m0 w' := fun j b o hj => by
    obtain ⟨j', hj'⟩ := List.getElem?_of_mem (List.mem_append_left [(w.heap.size, z)] (hm _ (List.mem_of_getElem? hj)))
    exact D.holds.at hj'
  rw [D.run, Oper.upon_value, putL_eq]
  exact .inl ⟨h4, h _ w' D.holds D.nd (h3.ch D.ch D.new) h4⟩
/-- A function is called that only makes new blocks, and tells a fact. -/
theorem Took.call (f : FuncId) (args : Array Value) (ho : ops[i]? = some o) (hg : Region.wanted o (yielded ops T.toArray) = true) (hm : ∀ p ∈ m0, p ∈ m)
    (hr : ∀ w, Holds m w → Stay m.ids w Inv → Calls P f args w fun e w' => ∃ v Fact, e = .returned v ∧ Below w.heap.size w w' ∧ Stay m.ids w' Fact ∧ Goes P F (fun w => Inv w ∧ Fact w) ⟨.any ops m0 n (l.setIfInBounds i true) :: k, putL T o.dst v, m⟩)
    (he : execOp (evalL T) o = callFunc f args) (hf : okf P f = true) : Took P F Inv ops m0 n l k T m i := by
  intro w h1 h2 h3 h0
  unfold wpOp
  rw [ho]
  simp only [hg, if_true]
  unfold Oper.wp
  rw [evalL_eq, he, okf_run hf, Oper.upon_enter]
  refine .inl ((hr w h1 h3).mono fun e w' ⟨v, Fact, e1, hB, hS, hG⟩ => ?_)
  subst e1
  have h5 : Holds m w' := fun j b o hj => by rw [hB.block b (lt_of_get (h1.at hj))]; exact h1.at hj
  have h4 : Holds m0 w' := fun j b o hj => by
    obtain ⟨j', hj'⟩ := List.getElem?_of_mem (hm _ (List.mem_of_getElem? hj))
    exact h5.at hj'
  show Holds m0 w' ∧ _
  rw [putL_eq]
  exact ⟨h4, hG w' h5 h2 ((h3.ch ⟨hB.os, hB.tape, hB.output, hB.size, fun i hi _ => hB.block i hi⟩ (fun x hx => .inl hx)).and hS) h4⟩
/-- What the fact says of things that no world holds. -/
theorem Goes.pure {s : St} {Q : Prop} (hQ : ∀ w, Inv w → Q) (h : Q → Goes P F Inv s) : Goes P F Inv s := fun w h1 h2 h3 => h (hQ w h3.now) w h1 h2 h3
/-- The blocks in another order. -/
theorem Goes.perm {m' : Mem} {t : List TI} (hp : m.Perm m') (h : Goes P F Inv ⟨t, T, m'⟩) : Goes P F Inv ⟨t, T, m⟩ := by
  intro w h1 h2 h3
  have hi : m.ids.Perm m'.ids := hp.map _
  refine h w (fun j b o hj => ?_) (hi.nodup_iff.1 h2) (h3.ch (Ch.refl _ _) fun x hx => .inl (hi.mem_iff.2 hx))
  obtain ⟨j', hj'⟩ := List.getElem?_of_mem (hp.mem_iff.2 (List.mem_of_getElem? hj))
  exact h1.at hj'
end
end Go.Proofs.Ytfblnjidghijaaa
