/- the text PHas -/
import Derived.Test.YtcmgclkbhhdnaaaGreatDoorPBothC
namespace Go.Proofs.YtcmgclkbhhdnaaaGreatDoor
open Go Go.RowKit

theorem y_lenT {t : TypeId} (hl : ∀ (p : Option Addr) (n c : Nat) (ty : TypeId) (w : World), (Builtin.len_ #[t] ty #[.slice p n c]).run Tryz.prog w = .ok (.int .i64 n) w) {ops : Array Oper} {S : World → Prop} {o : Oper} {a : Act} {x : Operand} {p : Option Addr} {n c : Nat} (hop : o.op = .call { callee := .builtin .len, args := #[x], argTypes := #[t] }) (hw : Region.wanted o (yielded ops a.tmps) = true) (hx : a.eval x = .slice p n c) : YieldsIf Tryz.prog ops S o (.int .i64 n) a :=
  .inl ⟨hw, fun w _ => by
    have h1 : (Builtin.len_ #[t] o.type #[a.eval x]).run Tryz.prog w = .ok (.int .i64 n) w := by rw [hx]; exact hl p n c o.type w
    unfold execOp
    simp only [hop, resolve, invoke, builtin, Sem.run_bind, Sem.run_pure, Result.andThen_ok, List.map_toArray, List.map_cons, List.map_nil, h1]⟩
theorem y_convS {ops : Array Oper} {S : World → Prop} {o : Oper} {a : Act} {x : Operand} {v u : Value} (hop : o.op = .convert 49 9 x) (hw : Region.wanted o (yielded ops a.tmps) = true) (hv : a.eval x = v)
    (hc : ∀ w, S w → (convert 49 9 v).run Tryz.prog w = .ok u w) : YieldsIf Tryz.prog ops S o u a :=
  .inl ⟨hw, fun w h => by unfold execOp; rw [hop]; simp [hv, hc w h]⟩
end Go.Proofs.YtcmgclkbhhdnaaaGreatDoor
