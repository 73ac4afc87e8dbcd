/- texts put together: OP2 OP3 ON1 ON2 ON3 -/
import Derived.Test.YtddbiiejilcbbaaGreatDoorAG16
import Derived.Test.YtddbiiejilcbbaaGreatDoorAG5
import Derived.Test.YtddbiiejilcbbaaGreatDoorAG4
import Derived.Test.YtddbiiejilcbbaaGreatDoorAG2
namespace Go.Proofs.YtddbiiejilcbbaaGreatDoor
open Go

/-- A term of an Op with so many kids. -/
theorem shape {z d op k : Int} {s : List UInt8} {kids : List Co} (hz : tyOk z) (h : okT z d (.mk op k s kids) = true) {ks : List Int} {t : Int} (hr : rkP op = some (ks, t)) (h22 : op ≠ 22) : z = t ∧ ownC op k s = true ∧ d ≤ 200 ∧ kids.length = ks.length ∧ okTs (d + 1) ks kids = true := by
  obtain ⟨ks', hl, ho, hd, hk, hr'⟩ := ok_inv hz h
  rcases hr' with ⟨e, -⟩ | hr'
  · exact absurd e h22
  · rw [hr] at hr'
    simp only [Option.some.injEq, Prod.mk.injEq] at hr'
    obtain ⟨rfl, rfl⟩ := hr'
    exact ⟨rfl, ho, hd, hl, hk⟩
end Go.Proofs.YtddbiiejilcbbaaGreatDoor
namespace Go.Proofs.YtddbiiejilcbbaaGreatDoor
open Go

theorem t1 : tyOk 1 := by unfold tyOk; omega
end Go.Proofs.YtddbiiejilcbbaaGreatDoor
namespace Go.Proofs.YtddbiiejilcbbaaGreatDoor
open Go Go.RowKit

section
variable {P : Program} {F : Exit → Act → World → Prop} {Inv : World → Prop} {s : St}
/-- What a call asks, its arguments not yet put together. -/
def askC (s : St) : Option (FuncId × Array Value × Array Value × Array Value) :=
  match nextOp s with
  | some (_, o, _, _, _) =>
    match o.op with
    | .call { callee := .value x, args, .. } =>
      match evalL s.tmps x with
      | .func (.func f) first captured => some (f, first, args.map (evalL s.tmps), captured)
      | _ => none
    | _ => none
  | none => none
theorem ask_of {f : FuncId} {a b c : Array Value} (h : askC s = some (f, a, b, c)) : ask s = some (f, a ++ b ++ c) := by
  unfold askC at h
  unfold ask
  split at h
  · rename_i o _ _ _ hn
    rw [hn]
    simp only
    split at h
    · rename_i hop
      rw [hop]
      simp only
      split at h
      · rename_i hv
        rw [hv]
        cases h
        rfl
      · cases h
    · cases h
  · cases h
/-- A call of a function value that leaves all blocks as they are. -/
theorem Goes.callV0 (f : FuncId) (a b c : Array Value) (v : Value) (hf : okf P f = true)
    (hr : ∀ w, Holds s.mem w → Stay s.mem.ids w Inv → Calls P f (a ++ b ++ c) w fun e w' => e = .returned v ∧ Below w.heap.size w w') (h : Goes P F Inv (put0 s v)) (ha : askC s = some (f, a, b, c) := by kernel_rfl) (hw : wants s = true := by kernel_rfl) : Goes P F Inv s :=
  Goes.call0 f _ v hr h (ask_of ha) hw hf
end
end Go.Proofs.YtddbiiejilcbbaaGreatDoor
namespace Go.Proofs.YtddbiiejilcbbaaGreatDoor
open Go Go.RowKit

end Go.Proofs.YtddbiiejilcbbaaGreatDoor
namespace Go.Proofs.YtddbiiejilcbbaaGreatDoor
open Go Go.RowKit

end Go.Proofs.YtddbiiejilcbbaaGreatDoor
