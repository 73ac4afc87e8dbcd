/-
  NARROWER THAN 'FOR EVERY INPUT', by the rows' own cells (each row's printed sentence says how): DenoteParts: loops, laid · DenoteEnds: loops, laid · DenoteTimes: loops, laid.
  DERIVED. THE GIVEN ROWS OF THIS SEAT. 3 by the template 'for every input the law returns true; each argument reads behind the call as it read before'; 0 by the template 'total and deterministic' (their statements: YthnojedlndblbabGreatDoorTotals.lean).
  GIVEN WITH THE SEED: the statements are not yours to turn. If you find one false, say at which input.
  Laid BY PROGRAM, IN A SANDBOX (cutbox-rows.mjs): the forced cells as the released guide's own fill.sh prints them over the translation be3da497221f4dfd… (all of the seat's roots in one cut). By AI agents, Wed Nov 11 2026. No macro, syntax, notation, axiom, sorry.
-/
import Derived.Test.YthnojedlndblbabGreatDoorChecked
import GoSem.Claim
import GoSem.ClaimJoined
import GoSem.ClaimMapViews
import Derived.JoinedTies
import Derived.KernelRfl
namespace Go.Proofs.YthnojedlndblbabGreatDoor
/- THE CELL 'sum', in the pinned program and in every row, IS THE sha256 OF THE DUMP (.gsa) THAT YthnojedlndblbabGreatDoorProg.lean LOADS. Nothing in Lean hashes anything: it is a label: what it is worth is what the hold of that sum in a sandbox is worth. -/
noncomputable def Tryz.pinned : Pinned := { name := "ythnojedlndblbabgreatdoor", sum := "be3da497221f4dfd4c06e37675074f45d64ea468f5cf4ca28ddf6c5c515307bf", checked := Tryz.checked }
namespace Rows
def none {H : Type} : Left H := { results := [], args := [] }

/- WHAT THE LISTED PACKAGE-LEVEL VARIABLES READ AS WHEN THE CALL BEGINS. Each datum BY PROGRAM (the guide's laid-datum.mjs) off the statement by which the dump's own 'gosem.cut.vars' lays the variable. In a bare row this is a premise. The card (YthnojedlndblbabGreatDoorCards.lean) ties it to the program's text. -/
def laid_usance_date_monthDays {H : Type} : DataW H := .agg [.lit (.int .i64 31), .lit (.int .i64 28), .lit (.int .i64 31), .lit (.int .i64 30), .lit (.int .i64 31), .lit (.int .i64 30), .lit (.int .i64 31), .lit (.int .i64 31), .lit (.int .i64 30), .lit (.int .i64 31), .lit (.int .i64 30), .lit (.int .i64 31)]

/-- 'usancelaw15.DenoteParts': WHATEVER THE INPUT: true; the input reads as it did. -/
def denotePartsSpec : ChangeSpec := { name := "denoteParts", fn := fun _ => fun
  | [d1, d2, d3, d4] => { results := [.lit (.bool true)], args := [d1, d2, d3, d4] }
  | _ => none }
def denotePartsRow : OpenClaim := { program := "ythnojedlndblbabgreatdoor", sum := "be3da497221f4dfd4c06e37675074f45d64ea468f5cf4ca28ddf6c5c515307bf", func := "usance/usancelaw15.DenoteParts", spec := "denoteParts", inPlace := ["internal/bytealg.abigen_runtime_cmpstring"], unfollowed := true, recurses := true, named := ["math/bits.divideError", "math/bits.overflowError", "usance/date.monthDays"], loops := true, apart := false, laid := [("usance/date.monthDays", laid_usance_date_monthDays)] }
def DenotePartsSaid : Prop := denotePartsRow.holds Tryz.pinned (OpenSpec.ofChange denotePartsSpec)

/-- ITS FALSE NEIGHBOUR: 'it returns false'. Refute it at one input. -/
def denotePartsWrong : ChangeSpec := { name := "denoteParts", fn := fun _ => fun
  | [d1, d2, d3, d4] => { results := [.lit (.bool false)], args := [d1, d2, d3, d4] }
  | _ => none }
def DenotePartsWrongFalsely : Prop := denotePartsRow.holds Tryz.pinned (OpenSpec.ofChange denotePartsWrong)

/-- 'usancelaw15.DenoteEnds': WHATEVER THE INPUT: true; the input reads as it did. -/
def denoteEndsSpec : ChangeSpec := { name := "denoteEnds", fn := fun _ => fun
  | [d1, d2, d3, d4] => { results := [.lit (.bool true)], args := [d1, d2, d3, d4] }
  | _ => none }
def denoteEndsRow : OpenClaim := { program := "ythnojedlndblbabgreatdoor", sum := "be3da497221f4dfd4c06e37675074f45d64ea468f5cf4ca28ddf6c5c515307bf", func := "usance/usancelaw15.DenoteEnds", spec := "denoteEnds", inPlace := ["internal/bytealg.abigen_runtime_cmpstring"], unfollowed := true, recurses := true, named := ["math/bits.divideError", "math/bits.overflowError", "usance/date.monthDays"], loops := true, apart := false, laid := [("usance/date.monthDays", laid_usance_date_monthDays)] }
def DenoteEndsSaid : Prop := denoteEndsRow.holds Tryz.pinned (OpenSpec.ofChange denoteEndsSpec)

/-- ITS FALSE NEIGHBOUR: 'it returns false'. Refute it at one input. -/
def denoteEndsWrong : ChangeSpec := { name := "denoteEnds", fn := fun _ => fun
  | [d1, d2, d3, d4] => { results := [.lit (.bool false)], args := [d1, d2, d3, d4] }
  | _ => none }
def DenoteEndsWrongFalsely : Prop := denoteEndsRow.holds Tryz.pinned (OpenSpec.ofChange denoteEndsWrong)

/-- 'usancelaw15.DenoteTimes': WHATEVER THE INPUT: true; the input reads as it did. -/
def denoteTimesSpec : ChangeSpec := { name := "denoteTimes", fn := fun _ => fun
  | [d1, d2, d3, d4] => { results := [.lit (.bool true)], args := [d1, d2, d3, d4] }
  | _ => none }
def denoteTimesRow : OpenClaim := { program := "ythnojedlndblbabgreatdoor", sum := "be3da497221f4dfd4c06e37675074f45d64ea468f5cf4ca28ddf6c5c515307bf", func := "usance/usancelaw15.DenoteTimes", spec := "denoteTimes", inPlace := ["internal/bytealg.abigen_runtime_cmpstring"], unfollowed := true, recurses := true, named := ["math/bits.divideError", "math/bits.overflowError", "usance/date.monthDays"], loops := true, apart := false, laid := [("usance/date.monthDays", laid_usance_date_monthDays)] }
def DenoteTimesSaid : Prop := denoteTimesRow.holds Tryz.pinned (OpenSpec.ofChange denoteTimesSpec)

/-- ITS FALSE NEIGHBOUR: 'it returns false'. Refute it at one input. -/
def denoteTimesWrong : ChangeSpec := { name := "denoteTimes", fn := fun _ => fun
  | [d1, d2, d3, d4] => { results := [.lit (.bool false)], args := [d1, d2, d3, d4] }
  | _ => none }
def DenoteTimesWrongFalsely : Prop := denoteTimesRow.holds Tryz.pinned (OpenSpec.ofChange denoteTimesWrong)

/- THE SECOND FORM. 'bulk': how many values and letters a reading holds, each counted each time it is reached (what is shared counts as often as it is met; a slice's spare places count too). A statement '..UptoSaid' is the law's where the arguments, and the package variables that the reading takes, are together of bulk at most 1048576: NARROWER than '..Said'. Prove '..Said' where nothing that the law and all that it calls make is longer than what came in: it says more and counts as full. Else prove '..UptoSaid'. A law counts once. -/
mutual
def uptoBulk {H : Type} : DataW H → Nat
  | .lit (.string bytes) => bytes.length + 1
  | .lit _ => 1
  | .nil => 1
  | .ptr d => uptoBulk d + 1
  | .slice elems spare => uptoBulkAll elems + uptoBulkAll spare + 1
  | .agg parts => uptoBulkAll parts + 1
  | .iface _ d => uptoBulk d + 1
  | .map entries => uptoBulkEntries entries + 1
  | .held _ => 1
def uptoBulkAll {H : Type} : List (DataW H) → Nat
  | [] => 0
  | d :: r => uptoBulk d + uptoBulkAll r
def uptoBulkEntries {H : Type} : List (Lit × DataW H) → Nat
  | [] => 0
  | x :: r => uptoBulkEntry x + uptoBulkEntries r
def uptoBulkEntry {H : Type} : Lit × DataW H → Nat
  | (.string bytes, d) => bytes.length + uptoBulk d + 1
  | (_, d) => uptoBulk d + 1
 end
def uptoSmall : (H : Type) → List (DataW H) → Bool := fun _ ds => decide (uptoBulkAll ds ≤ 1048576)
def OpenSpec.upto (s : _root_.Go.ChangeSpec) : _root_.Go.OpenSpec := { _root_.Go.OpenSpec.ofChange s with cond := some uptoSmall }

/-- 'usancelaw15.DenoteParts', WHERE WHAT IT READS IS OF BULK AT MOST 1048576: true; the input reads as it did. -/
def denotePartsUptoRow : OpenClaim := { program := "ythnojedlndblbabgreatdoor", sum := "be3da497221f4dfd4c06e37675074f45d64ea468f5cf4ca28ddf6c5c515307bf", func := "usance/usancelaw15.DenoteParts", spec := "denoteParts", inPlace := ["internal/bytealg.abigen_runtime_cmpstring"], unfollowed := true, recurses := true, named := ["math/bits.divideError", "math/bits.overflowError", "usance/date.monthDays"], loops := true, apart := false, laid := [("usance/date.monthDays", laid_usance_date_monthDays)], narrowed := true }
def DenotePartsUptoSaid : Prop := denotePartsUptoRow.holds Tryz.pinned (OpenSpec.upto denotePartsSpec)

/-- 'usancelaw15.DenoteEnds', WHERE WHAT IT READS IS OF BULK AT MOST 1048576: true; the input reads as it did. -/
def denoteEndsUptoRow : OpenClaim := { program := "ythnojedlndblbabgreatdoor", sum := "be3da497221f4dfd4c06e37675074f45d64ea468f5cf4ca28ddf6c5c515307bf", func := "usance/usancelaw15.DenoteEnds", spec := "denoteEnds", inPlace := ["internal/bytealg.abigen_runtime_cmpstring"], unfollowed := true, recurses := true, named := ["math/bits.divideError", "math/bits.overflowError", "usance/date.monthDays"], loops := true, apart := false, laid := [("usance/date.monthDays", laid_usance_date_monthDays)], narrowed := true }
def DenoteEndsUptoSaid : Prop := denoteEndsUptoRow.holds Tryz.pinned (OpenSpec.upto denoteEndsSpec)

/-- 'usancelaw15.DenoteTimes', WHERE WHAT IT READS IS OF BULK AT MOST 1048576: true; the input reads as it did. -/
def denoteTimesUptoRow : OpenClaim := { program := "ythnojedlndblbabgreatdoor", sum := "be3da497221f4dfd4c06e37675074f45d64ea468f5cf4ca28ddf6c5c515307bf", func := "usance/usancelaw15.DenoteTimes", spec := "denoteTimes", inPlace := ["internal/bytealg.abigen_runtime_cmpstring"], unfollowed := true, recurses := true, named := ["math/bits.divideError", "math/bits.overflowError", "usance/date.monthDays"], loops := true, apart := false, laid := [("usance/date.monthDays", laid_usance_date_monthDays)], narrowed := true }
def DenoteTimesUptoSaid : Prop := denoteTimesUptoRow.holds Tryz.pinned (OpenSpec.upto denoteTimesSpec)

end Rows
end Go.Proofs.YthnojedlndblbabGreatDoor
