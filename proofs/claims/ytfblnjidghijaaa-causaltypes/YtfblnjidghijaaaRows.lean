/-
  NARROWER THAN 'FOR EVERY INPUT', by the rows' own cells (each row's printed sentence says how): CausalTypes: loops · CausalKids: loops · CausalBoth: loops.
  DERIVED. THE GIVEN ROWS OF THIS SEAT. 3 by the template 'for every input the law returns true; each argument reads behind the call as it read before'; 0 by the template 'total and deterministic' (their statements: YtfblnjidghijaaaTotals.lean).
  GIVEN WITH THE SEED: the statements are not yours to turn. If you find one false, say at which input.
  Laid BY PROGRAM, IN A SANDBOX (cutbox-rows.mjs): the forced cells as the released guide's own fill.sh prints them over the translation fe2f8ab154f409a2… (all of the seat's roots in one cut). By AI agents, Wed Nov 11 2026. No macro, syntax, notation, axiom, sorry.
-/
import Derived.Test.YtfblnjidghijaaaChecked
import GoSem.Claim
import GoSem.ClaimJoined
import GoSem.ClaimMapViews
import Derived.JoinedTies
import Derived.KernelRfl
namespace Go.Proofs.Ytfblnjidghijaaa
/- THE CELL 'sum', in the pinned program and in every row, IS THE sha256 OF THE DUMP (.gsa) THAT YtfblnjidghijaaaProg.lean LOADS. Nothing in Lean hashes anything: it is a label: what it is worth is what the hold of that sum in a sandbox is worth. -/
noncomputable def Try.pinned : Pinned := { name := "ytfblnjidghijaaa", sum := "fe2f8ab154f409a274c39ace6f4318bfb2f017d3c8d0689ae824893c0e704c4b", checked := Try.checked }
namespace Rows
def none {H : Type} : Left H := { results := [], args := [] }

/-- 'usancelaw14.CausalTypes': WHATEVER THE INPUT: true; the input reads as it did. -/
def causalTypesSpec : ChangeSpec := { name := "causalTypes", fn := fun _ => fun
  | [d] => { results := [.lit (.bool true)], args := [d] }
  | _ => none }
def causalTypesRow : OpenClaim := { program := "ytfblnjidghijaaa", sum := "fe2f8ab154f409a274c39ace6f4318bfb2f017d3c8d0689ae824893c0e704c4b", func := "usance/usancelaw14.CausalTypes", spec := "causalTypes", unfollowed := true, recurses := true, loops := true, apart := false }
def CausalTypesSaid : Prop := causalTypesRow.holds Try.pinned (OpenSpec.ofChange causalTypesSpec)

/-- ITS FALSE NEIGHBOUR: 'it returns false'. Refute it at one input. -/
def causalTypesWrong : ChangeSpec := { name := "causalTypes", fn := fun _ => fun
  | [d] => { results := [.lit (.bool false)], args := [d] }
  | _ => none }
def CausalTypesWrongFalsely : Prop := causalTypesRow.holds Try.pinned (OpenSpec.ofChange causalTypesWrong)

/-- 'usancelaw14.CausalKids': WHATEVER THE INPUT: true; the input reads as it did. -/
def causalKidsSpec : ChangeSpec := { name := "causalKids", fn := fun _ => fun
  | [d1, d2] => { results := [.lit (.bool true)], args := [d1, d2] }
  | _ => none }
def causalKidsRow : OpenClaim := { program := "ytfblnjidghijaaa", sum := "fe2f8ab154f409a274c39ace6f4318bfb2f017d3c8d0689ae824893c0e704c4b", func := "usance/usancelaw14.CausalKids", spec := "causalKids", unfollowed := true, recurses := true, loops := true, apart := false }
def CausalKidsSaid : Prop := causalKidsRow.holds Try.pinned (OpenSpec.ofChange causalKidsSpec)

/-- ITS FALSE NEIGHBOUR: 'it returns false'. Refute it at one input. -/
def causalKidsWrong : ChangeSpec := { name := "causalKids", fn := fun _ => fun
  | [d1, d2] => { results := [.lit (.bool false)], args := [d1, d2] }
  | _ => none }
def CausalKidsWrongFalsely : Prop := causalKidsRow.holds Try.pinned (OpenSpec.ofChange causalKidsWrong)

/-- 'usancelaw14.CausalBoth': WHATEVER THE INPUT: true; the input reads as it did. -/
def causalBothSpec : ChangeSpec := { name := "causalBoth", fn := fun _ => fun
  | [d1, d2] => { results := [.lit (.bool true)], args := [d1, d2] }
  | _ => none }
def causalBothRow : OpenClaim := { program := "ytfblnjidghijaaa", sum := "fe2f8ab154f409a274c39ace6f4318bfb2f017d3c8d0689ae824893c0e704c4b", func := "usance/usancelaw14.CausalBoth", spec := "causalBoth", unfollowed := true, recurses := true, loops := true, apart := false }
def CausalBothSaid : Prop := causalBothRow.holds Try.pinned (OpenSpec.ofChange causalBothSpec)

/-- ITS FALSE NEIGHBOUR: 'it returns false'. Refute it at one input. -/
def causalBothWrong : ChangeSpec := { name := "causalBoth", fn := fun _ => fun
  | [d1, d2] => { results := [.lit (.bool false)], args := [d1, d2] }
  | _ => none }
def CausalBothWrongFalsely : Prop := causalBothRow.holds Try.pinned (OpenSpec.ofChange causalBothWrong)

/- THE SECOND FORM. 'bulk': how many values and letters a reading holds, each counted each time it is reached (what is shared counts as often as it is met; a slice's spare places count too). A statement '..UptoSaid' is the law's where the arguments, and the package variables that the reading takes, are together of bulk at most 1048576: NARROWER than '..Said'. Prove '..Said' where nothing that the law and all that it calls make is longer than what came in: it says more and counts as full. Else prove '..UptoSaid'. A law counts once. -/
mutual
def uptoBulk {H : Type} : DataW H → Nat
  | .lit (.string bytes) => bytes.length + 1
  | .lit _ => 1
  | .nil => 1
  | .ptr d => uptoBulk d + 1
  | .slice elems spare => uptoBulkAll elems + uptoBulkAll spare + 1
  | .agg parts => uptoBulkAll parts + 1
  | .iface _ d => uptoBulk d + 1
  | .map entries => uptoBulkEntries entries + 1
  | .held _ => 1
def uptoBulkAll {H : Type} : List (DataW H) → Nat
  | [] => 0
  | d :: r => uptoBulk d + uptoBulkAll r
def uptoBulkEntries {H : Type} : List (Lit × DataW H) → Nat
  | [] => 0
  | x :: r => uptoBulkEntry x + uptoBulkEntries r
def uptoBulkEntry {H : Type} : Lit × DataW H → Nat
  | (.string bytes, d) => bytes.length + uptoBulk d + 1
  | (_, d) => uptoBulk d + 1
 end
def uptoSmall : (H : Type) → List (DataW H) → Bool := fun _ ds => decide (uptoBulkAll ds ≤ 1048576)
def OpenSpec.upto (s : _root_.Go.ChangeSpec) : _root_.Go.OpenSpec := { _root_.Go.OpenSpec.ofChange s with cond := some uptoSmall }

/-- 'usancelaw14.CausalTypes', WHERE WHAT IT READS IS OF BULK AT MOST 1048576: true; the input reads as it did. -/
def causalTypesUptoRow : OpenClaim := { program := "ytfblnjidghijaaa", sum := "fe2f8ab154f409a274c39ace6f4318bfb2f017d3c8d0689ae824893c0e704c4b", func := "usance/usancelaw14.CausalTypes", spec := "causalTypes", unfollowed := true, recurses := true, loops := true, apart := false, narrowed := true }
def CausalTypesUptoSaid : Prop := causalTypesUptoRow.holds Try.pinned (OpenSpec.upto causalTypesSpec)

/-- 'usancelaw14.CausalKids', WHERE WHAT IT READS IS OF BULK AT MOST 1048576: true; the input reads as it did. -/
def causalKidsUptoRow : OpenClaim := { program := "ytfblnjidghijaaa", sum := "fe2f8ab154f409a274c39ace6f4318bfb2f017d3c8d0689ae824893c0e704c4b", func := "usance/usancelaw14.CausalKids", spec := "causalKids", unfollowed := true, recurses := true, loops := true, apart := false, narrowed := true }
def CausalKidsUptoSaid : Prop := causalKidsUptoRow.holds Try.pinned (OpenSpec.upto causalKidsSpec)

/-- 'usancelaw14.CausalBoth', WHERE WHAT IT READS IS OF BULK AT MOST 1048576: true; the input reads as it did. -/
def causalBothUptoRow : OpenClaim := { program := "ytfblnjidghijaaa", sum := "fe2f8ab154f409a274c39ace6f4318bfb2f017d3c8d0689ae824893c0e704c4b", func := "usance/usancelaw14.CausalBoth", spec := "causalBoth", unfollowed := true, recurses := true, loops := true, apart := false, narrowed := true }
def CausalBothUptoSaid : Prop := causalBothUptoRow.holds Try.pinned (OpenSpec.upto causalBothSpec)

end Rows
end Go.Proofs.Ytfblnjidghijaaa
