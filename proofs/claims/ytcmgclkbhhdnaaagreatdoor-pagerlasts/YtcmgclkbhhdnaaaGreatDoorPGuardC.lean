/- the text PGuard -/
import Derived.Test.YtcmgclkbhhdnaaaGreatDoorPOfC
namespace Go.Proofs.YtcmgclkbhhdnaaaGreatDoor
open Go Go.RowKit

section
variable {ops : Array Oper} {o : Oper} {w : World} {rest : List Oper} {Q : Exit → Act → World → Prop}
/-- As wp_y, guarded or not: where it is not wanted, it yields nothing. -/
theorem wp_yg {v : Value} {d : Nat} {tmps T : Array Value} {ds : List Deferred} (hd : o.dst = some d) (hy : YieldsIf Tryz.prog ops (fun w' => w' = w) o v ⟨tmps, ds⟩) (hT : tmps.setIfInBounds d v = T) (hK : wpList Tryz.prog ops Q rest ⟨T, ds⟩ w) : wpList Tryz.prog ops Q (o :: rest) ⟨tmps, ds⟩ w := by
  subst hT
  rcases hy with ⟨hw, h⟩ | ⟨hw, rfl⟩
  · refine wpList_step fun K hK' => ?_
    simp only [hw, if_true]
    unfold Oper.wp
    rw [h w rfl, Oper.upon_value]
    refine hK' _ _ ?_
    rw [hd]; exact hK
  · refine wpList_skip hw ?_
    rw [hd]; exact hK
end
end Go.Proofs.YtcmgclkbhhdnaaaGreatDoor
