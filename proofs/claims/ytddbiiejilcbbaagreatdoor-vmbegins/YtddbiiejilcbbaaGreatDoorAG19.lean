/- texts put together: ON7 ON8 OP4 ON9 ONA ONB ONC OND GOne -/
import Derived.Test.YtddbiiejilcbbaaGreatDoorAG18
import Derived.Laws.AppendOwn
import Derived.Test.YtddbiiejilcbbaaGreatDoorAG3
import Derived.Test.YtddbiiejilcbbaaGreatDoorAG17
import Derived.Test.YtddbiiejilcbbaaGreatDoorAG16
namespace Go.Proofs.YtddbiiejilcbbaaGreatDoor
open Go Go.RowKit

/-- What is to be done at the loop's head. -/
noncomputable def strikeK : List TI := (rn Tryz.prog [0] [] (put (rn Tryz.prog [] [] (st0 Tryz.f125 #[.slice none 0 0, .nilFunc] [])).st (.int .i64 0) [])).st.todo
noncomputable def rulesN (n : Int) : List Rl := rulesP.filter fun r => !delP r.pass n
end Go.Proofs.YtddbiiejilcbbaaGreatDoor
namespace Go.Proofs.YtddbiiejilcbbaaGreatDoor
open Go Go.RowKit

end Go.Proofs.YtddbiiejilcbbaaGreatDoor
namespace Go.Proofs.YtddbiiejilcbbaaGreatDoor
open Go

noncomputable def fixF (rs : List Rl) : Nat → Co → Co
  | 0, c => c
  | n + 1, c => match findP rs c with | some r => fixF rs n (r.becomes c) | none => c
noncomputable def fixP (rs : List Rl) (c : Co) : Co := fixF rs ((mu c).toNat + 1) c
mutual
/-- A term, made less by rules: its kids first. -/
noncomputable def rwP (rs : List Rl) : Co → Co
  | .mk op k s kids => fixP rs (.mk op k s (rwL rs kids))
noncomputable def rwL (rs : List Rl) : List Co → List Co
  | [] => []
  | c :: r => rwP rs c :: rwL rs r
end
section
variable {rs : List Rl} (hrs : ∀ r ∈ rs, r ∈ rulesP)
include hrs
end
end Go.Proofs.YtddbiiejilcbbaaGreatDoor
namespace Go.Proofs.YtddbiiejilcbbaaGreatDoor
open Go Go.RowKit

section
variable {P : Program} {F : Exit → Act → World → Prop} {Inv : World → Prop} {s : St}
end
section
variable {w : World} {B : Nat → Prop} {wf : World} {rv : Value} {n : Nat} {X : List Value} {w1 : World} {L : List Nat}
end
end Go.Proofs.YtddbiiejilcbbaaGreatDoor
namespace Go.Proofs.YtddbiiejilcbbaaGreatDoor
open Go Go.RowKit

/-- What is to be done at the head of the kids' loop, behind an element's parts, at the head of the rules' loop. -/
noncomputable def rwSt : St := (rn Tryz.prog [0, 0, 0, 2, 0] [1, 2, 3] (st0 Tryz.f73 #[cv 0 0 [] (.slice (some ⟨0, 0, none⟩) 1 1), .slice none 0 0] [])).st
noncomputable def rwHead : List TI := rwSt.todo
noncomputable def rwR0 : List TI := (rn Tryz.prog [3] [4] (put0 (put0 (rn Tryz.prog [0, 1] [] rwSt).st (.pointer (some ⟨0, 0, none⟩))) (cv 0 0 [] (.slice none 0 0)))).st.todo
noncomputable def rwReg : List TI := (opened [] ⟨rwR0, [], []⟩).todo
noncomputable def rwK : List TI := match rwReg with
  | .any ops m _ _ :: k => .any ops m 5 #[true, true, true, true, true, true, true, false, false, false, false, false] :: k
  | k => k
noncomputable def rwFix : List TI := (rn Tryz.prog [0, 0] [] rwSt).st.todo
end Go.Proofs.YtddbiiejilcbbaaGreatDoor
namespace Go.Proofs.YtddbiiejilcbbaaGreatDoor
open Go Go.RowKit

/-- No block. -/
abbrev F0 : Nat → Prop := fun _ => False
end Go.Proofs.YtddbiiejilcbbaaGreatDoor
namespace Go.Proofs.YtddbiiejilcbbaaGreatDoor
open Go Go.RowKit

/-- Are passes none? -/
def badP (n : Int) : Bool := !(IntKind.i64.wrap ((BitVec.ofInt 64 n &&& ~~~(BitVec.ofInt 64 15)).toNat : Nat) == 0)
/-- What passes make of a contract. -/
noncomputable def doP (c : Co) (n : Int) : Option Co := bif badP n || !(chkP c == 0) then none else some (rwP (rulesN n) c)
end Go.Proofs.YtddbiiejilcbbaaGreatDoor
namespace Go.Proofs.YtddbiiejilcbbaaGreatDoor
open Go Go.RowKit

end Go.Proofs.YtddbiiejilcbbaaGreatDoor
namespace Go.Proofs.YtddbiiejilcbbaaGreatDoor
open Go Go.RowKit

section
variable {P : Program} {F : Exit → Act → World → Prop} {s : St} {n0 g : Nat} {rg : Int} {wv tv v v1 : Value} {sh : Bool} {xs : List Ik} {w : World}
end
section
variable {n0 g : Nat} {rg : Int} {wv v tv : Value} {sh : Bool} {xs : List Ik} {w : World}
end
end Go.Proofs.YtddbiiejilcbbaaGreatDoor
