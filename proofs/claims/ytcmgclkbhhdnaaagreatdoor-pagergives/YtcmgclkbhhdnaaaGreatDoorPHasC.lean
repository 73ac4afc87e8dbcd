/- the text PHas -/
import Derived.Test.YtcmgclkbhhdnaaaGreatDoorPBothC
namespace Go.Proofs.YtcmgclkbhhdnaaaGreatDoor
open Go Go.RowKit

theorem neqI (a b : Int) (r : Bool) (h : (a != b) = r) (w : World) : (binOp .neq 3 (.int .i64 a) (.int .i64 b)).run Tryz.prog w = .ok (.bool r) w := by subst h; go_simp
theorem y_convS {ops : Array Oper} {S : World → Prop} {o : Oper} {a : Act} {x : Operand} {v u : Value} (hop : o.op = .convert 49 9 x) (hw : Region.wanted o (yielded ops a.tmps) = true) (hv : a.eval x = v)
    (hc : ∀ w, S w → (convert 49 9 v).run Tryz.prog w = .ok u w) : YieldsIf Tryz.prog ops S o u a :=
  .inl ⟨hw, fun w h => by unfold execOp; rw [hop]; simp [hv, hc w h]⟩
end Go.Proofs.YtcmgclkbhhdnaaaGreatDoor
