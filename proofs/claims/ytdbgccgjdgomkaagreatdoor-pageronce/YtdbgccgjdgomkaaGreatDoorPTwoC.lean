/- A region that draws its order: where one of two operations may come up. -/
import Derived.Test.YtdbgccgjdgomkaaGreatDoorPGetC
namespace Go.Proofs.YtdbgccgjdgomkaaGreatDoor
open Go Go.RowKit

variable {ops : Array Oper} {S : World → Prop} {o o2 : Oper} {a : Act} {Q : Exit → Act → World → Prop} {md : Region.Mode} {fuel : Nat} {w w1 : World} {i i2 : Nat} {L L' : Array Bool}
theorem h_two (hr : Region.ready md ops L = [i, i2]) (hi : ops[i]? = some o) (hi2 : ops[i2]? = some o2) (hw : Region.wanted o (yielded ops a.tmps) = true) (hw2 : Region.wanted o2 (yielded ops a.tmps) = true)
    (h : o.wp Tryz.prog a w (fun a' w' => S w' ∧ wpAnyH Tryz.prog md ops Q S fuel (L.setIfInBounds i true) a' w') Q)
    (h2 : o2.wp Tryz.prog a w (fun a' w' => S w' ∧ wpAnyH Tryz.prog md ops Q S fuel (L.setIfInBounds i2 true) a' w') Q) : wpAnyH Tryz.prog md ops Q S (fuel + 1) L a w := by
  refine wpAnyH_all hr (by simp) (fun j hj => ?_)
  simp only [List.mem_cons, List.not_mem_nil, or_false] at hj
  unfold wpOp
  rcases hj with rfl | rfl
  · rw [hi]
    simp only [hw, if_true]
    exact .inl h
  · rw [hi2]
    simp only [hw2, if_true]
    exact .inl h2
theorem o_val {d : Nat} {v : Value} {tmps T : Array Value} {ds : List Deferred} (hd : o.dst = some d)
    (he : (execOp (Act.mk tmps ds).eval o).run Tryz.prog w = .ok (.value v) w1) (hS : S w1) (hT : tmps.setIfInBounds d v = T) (hL : L.setIfInBounds i true = L')
    (h : wpAnyH Tryz.prog md ops Q S fuel L' ⟨T, ds⟩ w1) : o.wp Tryz.prog ⟨tmps, ds⟩ w (fun a' w' => S w' ∧ wpAnyH Tryz.prog md ops Q S fuel (L.setIfInBounds i true) a' w') Q := by
  subst hL
  subst hT
  unfold Oper.wp
  rw [he, Oper.upon_value, hd]
  exact ⟨hS, h⟩
theorem o_call {d : Nat} {f : FuncId} {args : Array Value} {tmps : Array Value} {ds : List Deferred} (hd : o.dst = some d)
    (he : ∀ w, (execOp (Act.mk tmps ds).eval o).run Tryz.prog w = .ok (.enter f args) w) (hL : L.setIfInBounds i true = L')
    (h : Calls Tryz.prog f args w fun e w' => ∃ v, e = .returned v ∧ S w' ∧ wpAnyH Tryz.prog md ops Q S fuel L' ⟨tmps.setIfInBounds d v, ds⟩ w') : o.wp Tryz.prog ⟨tmps, ds⟩ w (fun a' w' => S w' ∧ wpAnyH Tryz.prog md ops Q S fuel (L.setIfInBounds i true) a' w') Q := by
  subst hL
  unfold Oper.wp
  rw [he w, Oper.upon_enter]
  refine h.mono fun e w' ⟨v, he, h1, h2⟩ => ?_
  subst he
  rw [hd]
  exact ⟨h1, h2⟩
end Go.Proofs.YtdbgccgjdgomkaaGreatDoor
