/-
  NARROWER THAN 'FOR EVERY INPUT', by the rows' own cells (each row's printed sentence says how): DenoteValues: loops, laid · DenoteBegins: loops, laid · DenoteSteps: loops, laid · DenoteRuns: loops, laid · DenoteAgain: loops, laid · DenoteLater: loops, laid.
  DERIVED. THE GIVEN ROWS OF THIS SEAT. 6 by the template 'for every input the law returns true; each argument reads behind the call as it read before'; 0 by the template 'total and deterministic' (their statements: YthnojedlndblbaaGreatDoorTotals.lean).
  GIVEN WITH THE SEED: the statements are not yours to turn. If you find one false, say at which input.
  Laid BY PROGRAM, IN A SANDBOX (cutbox-rows.mjs): the forced cells as the released guide's own fill.sh prints them over the translation 4587ebc62837520d… (all of the seat's roots in one cut). By AI agents, Wed Nov 11 2026. No macro, syntax, notation, axiom, sorry.
-/
import Derived.Test.YthnojedlndblbaaGreatDoorChecked
import GoSem.Claim
import GoSem.ClaimJoined
import GoSem.ClaimMapViews
import Derived.JoinedTies
import Derived.KernelRfl
namespace Go.Proofs.YthnojedlndblbaaGreatDoor
/- THE CELL 'sum', in the pinned program and in every row, IS THE sha256 OF THE DUMP (.gsa) THAT YthnojedlndblbaaGreatDoorProg.lean LOADS. Nothing in Lean hashes anything: it is a label: what it is worth is what the hold of that sum in a sandbox is worth. -/
noncomputable def Tryz.pinned : Pinned := { name := "ythnojedlndblbaagreatdoor", sum := "4587ebc62837520de991ca3f7387335314b00ace79074661f6cf1ab8fe81d0d3", checked := Tryz.checked }
namespace Rows
def none {H : Type} : Left H := { results := [], args := [] }

/- WHAT THE LISTED PACKAGE-LEVEL VARIABLES READ AS WHEN THE CALL BEGINS. Each datum BY PROGRAM (the guide's laid-datum.mjs) off the statement by which the dump's own 'gosem.cut.vars' lays the variable. In a bare row this is a premise. The card (YthnojedlndblbaaGreatDoorCards.lean) ties it to the program's text. -/
def laid_usance_date_monthDays {H : Type} : DataW H := .agg [.lit (.int .i64 31), .lit (.int .i64 28), .lit (.int .i64 31), .lit (.int .i64 30), .lit (.int .i64 31), .lit (.int .i64 30), .lit (.int .i64 31), .lit (.int .i64 31), .lit (.int .i64 30), .lit (.int .i64 31), .lit (.int .i64 30), .lit (.int .i64 31)]

/-- 'usancelaw15.DenoteValues': WHATEVER THE INPUT: true; the input reads as it did. -/
def denoteValuesSpec : ChangeSpec := { name := "denoteValues", fn := fun _ => fun
  | [d1, d2, d3] => { results := [.lit (.bool true)], args := [d1, d2, d3] }
  | _ => none }
def denoteValuesRow : OpenClaim := { program := "ythnojedlndblbaagreatdoor", sum := "4587ebc62837520de991ca3f7387335314b00ace79074661f6cf1ab8fe81d0d3", func := "usance/usancelaw15.DenoteValues", spec := "denoteValues", inPlace := ["internal/bytealg.abigen_runtime_cmpstring"], unfollowed := true, recurses := true, named := ["math/bits.divideError", "math/bits.overflowError", "usance/date.monthDays"], loops := true, apart := false, laid := [("usance/date.monthDays", laid_usance_date_monthDays)] }
def DenoteValuesSaid : Prop := denoteValuesRow.holds Tryz.pinned (OpenSpec.ofChange denoteValuesSpec)

/-- ITS FALSE NEIGHBOUR: 'it returns false'. Refute it at one input. -/
def denoteValuesWrong : ChangeSpec := { name := "denoteValues", fn := fun _ => fun
  | [d1, d2, d3] => { results := [.lit (.bool false)], args := [d1, d2, d3] }
  | _ => none }
def DenoteValuesWrongFalsely : Prop := denoteValuesRow.holds Tryz.pinned (OpenSpec.ofChange denoteValuesWrong)

/-- 'usancelaw15.DenoteBegins': WHATEVER THE INPUT: true; the input reads as it did. -/
def denoteBeginsSpec : ChangeSpec := { name := "denoteBegins", fn := fun _ => fun
  | [d1, d2, d3] => { results := [.lit (.bool true)], args := [d1, d2, d3] }
  | _ => none }
def denoteBeginsRow : OpenClaim := { program := "ythnojedlndblbaagreatdoor", sum := "4587ebc62837520de991ca3f7387335314b00ace79074661f6cf1ab8fe81d0d3", func := "usance/usancelaw15.DenoteBegins", spec := "denoteBegins", inPlace := ["internal/bytealg.abigen_runtime_cmpstring"], unfollowed := true, recurses := true, named := ["math/bits.divideError", "math/bits.overflowError", "usance/date.monthDays"], loops := true, apart := false, laid := [("usance/date.monthDays", laid_usance_date_monthDays)] }
def DenoteBeginsSaid : Prop := denoteBeginsRow.holds Tryz.pinned (OpenSpec.ofChange denoteBeginsSpec)

/-- ITS FALSE NEIGHBOUR: 'it returns false'. Refute it at one input. -/
def denoteBeginsWrong : ChangeSpec := { name := "denoteBegins", fn := fun _ => fun
  | [d1, d2, d3] => { results := [.lit (.bool false)], args := [d1, d2, d3] }
  | _ => none }
def DenoteBeginsWrongFalsely : Prop := denoteBeginsRow.holds Tryz.pinned (OpenSpec.ofChange denoteBeginsWrong)

/-- 'usancelaw15.DenoteSteps': WHATEVER THE INPUT: true; the input reads as it did. -/
def denoteStepsSpec : ChangeSpec := { name := "denoteSteps", fn := fun _ => fun
  | [d1, d2, d3, d4, d5] => { results := [.lit (.bool true)], args := [d1, d2, d3, d4, d5] }
  | _ => none }
def denoteStepsRow : OpenClaim := { program := "ythnojedlndblbaagreatdoor", sum := "4587ebc62837520de991ca3f7387335314b00ace79074661f6cf1ab8fe81d0d3", func := "usance/usancelaw15.DenoteSteps", spec := "denoteSteps", inPlace := ["internal/bytealg.abigen_runtime_cmpstring"], unfollowed := true, recurses := true, named := ["math/bits.divideError", "math/bits.overflowError", "usance/date.monthDays"], loops := true, apart := false, laid := [("usance/date.monthDays", laid_usance_date_monthDays)] }
def DenoteStepsSaid : Prop := denoteStepsRow.holds Tryz.pinned (OpenSpec.ofChange denoteStepsSpec)

/-- ITS FALSE NEIGHBOUR: 'it returns false'. Refute it at one input. -/
def denoteStepsWrong : ChangeSpec := { name := "denoteSteps", fn := fun _ => fun
  | [d1, d2, d3, d4, d5] => { results := [.lit (.bool false)], args := [d1, d2, d3, d4, d5] }
  | _ => none }
def DenoteStepsWrongFalsely : Prop := denoteStepsRow.holds Tryz.pinned (OpenSpec.ofChange denoteStepsWrong)

/-- 'usancelaw15.DenoteRuns': WHATEVER THE INPUT: true; the input reads as it did. -/
def denoteRunsSpec : ChangeSpec := { name := "denoteRuns", fn := fun _ => fun
  | [d1, d2, d3] => { results := [.lit (.bool true)], args := [d1, d2, d3] }
  | _ => none }
def denoteRunsRow : OpenClaim := { program := "ythnojedlndblbaagreatdoor", sum := "4587ebc62837520de991ca3f7387335314b00ace79074661f6cf1ab8fe81d0d3", func := "usance/usancelaw15.DenoteRuns", spec := "denoteRuns", inPlace := ["internal/bytealg.abigen_runtime_cmpstring"], unfollowed := true, recurses := true, named := ["math/bits.divideError", "math/bits.overflowError", "usance/date.monthDays"], loops := true, apart := false, laid := [("usance/date.monthDays", laid_usance_date_monthDays)] }
def DenoteRunsSaid : Prop := denoteRunsRow.holds Tryz.pinned (OpenSpec.ofChange denoteRunsSpec)

/-- ITS FALSE NEIGHBOUR: 'it returns false'. Refute it at one input. -/
def denoteRunsWrong : ChangeSpec := { name := "denoteRuns", fn := fun _ => fun
  | [d1, d2, d3] => { results := [.lit (.bool false)], args := [d1, d2, d3] }
  | _ => none }
def DenoteRunsWrongFalsely : Prop := denoteRunsRow.holds Tryz.pinned (OpenSpec.ofChange denoteRunsWrong)

/-- 'usancelaw15.DenoteAgain': WHATEVER THE INPUT: true; the input reads as it did. -/
def denoteAgainSpec : ChangeSpec := { name := "denoteAgain", fn := fun _ => fun
  | [d1, d2, d3, d4, d5, d6] => { results := [.lit (.bool true)], args := [d1, d2, d3, d4, d5, d6] }
  | _ => none }
def denoteAgainRow : OpenClaim := { program := "ythnojedlndblbaagreatdoor", sum := "4587ebc62837520de991ca3f7387335314b00ace79074661f6cf1ab8fe81d0d3", func := "usance/usancelaw15.DenoteAgain", spec := "denoteAgain", inPlace := ["internal/bytealg.abigen_runtime_cmpstring"], unfollowed := true, recurses := true, named := ["math/bits.divideError", "math/bits.overflowError", "usance/date.monthDays"], loops := true, apart := false, laid := [("usance/date.monthDays", laid_usance_date_monthDays)] }
def DenoteAgainSaid : Prop := denoteAgainRow.holds Tryz.pinned (OpenSpec.ofChange denoteAgainSpec)

/-- ITS FALSE NEIGHBOUR: 'it returns false'. Refute it at one input. -/
def denoteAgainWrong : ChangeSpec := { name := "denoteAgain", fn := fun _ => fun
  | [d1, d2, d3, d4, d5, d6] => { results := [.lit (.bool false)], args := [d1, d2, d3, d4, d5, d6] }
  | _ => none }
def DenoteAgainWrongFalsely : Prop := denoteAgainRow.holds Tryz.pinned (OpenSpec.ofChange denoteAgainWrong)

/-- 'usancelaw15.DenoteLater': WHATEVER THE INPUT: true; the input reads as it did. -/
def denoteLaterSpec : ChangeSpec := { name := "denoteLater", fn := fun _ => fun
  | [d1, d2, d3, d4, d5] => { results := [.lit (.bool true)], args := [d1, d2, d3, d4, d5] }
  | _ => none }
def denoteLaterRow : OpenClaim := { program := "ythnojedlndblbaagreatdoor", sum := "4587ebc62837520de991ca3f7387335314b00ace79074661f6cf1ab8fe81d0d3", func := "usance/usancelaw15.DenoteLater", spec := "denoteLater", inPlace := ["internal/bytealg.abigen_runtime_cmpstring"], unfollowed := true, recurses := true, named := ["math/bits.divideError", "math/bits.overflowError", "usance/date.monthDays"], loops := true, apart := false, laid := [("usance/date.monthDays", laid_usance_date_monthDays)] }
def DenoteLaterSaid : Prop := denoteLaterRow.holds Tryz.pinned (OpenSpec.ofChange denoteLaterSpec)

/-- ITS FALSE NEIGHBOUR: 'it returns false'. Refute it at one input. -/
def denoteLaterWrong : ChangeSpec := { name := "denoteLater", fn := fun _ => fun
  | [d1, d2, d3, d4, d5] => { results := [.lit (.bool false)], args := [d1, d2, d3, d4, d5] }
  | _ => none }
def DenoteLaterWrongFalsely : Prop := denoteLaterRow.holds Tryz.pinned (OpenSpec.ofChange denoteLaterWrong)

/- THE SECOND FORM. 'bulk': how many values and letters a reading holds, each counted each time it is reached (what is shared counts as often as it is met; a slice's spare places count too). A statement '..UptoSaid' is the law's where the arguments, and the package variables that the reading takes, are together of bulk at most 1048576: NARROWER than '..Said'. Prove '..Said' where nothing that the law and all that it calls make is longer than what came in: it says more and counts as full. Else prove '..UptoSaid'. A law counts once. -/
mutual
def uptoBulk {H : Type} : DataW H → Nat
  | .lit (.string bytes) => bytes.length + 1
  | .lit _ => 1
  | .nil => 1
  | .ptr d => uptoBulk d + 1
  | .slice elems spare => uptoBulkAll elems + uptoBulkAll spare + 1
  | .agg parts => uptoBulkAll parts + 1
  | .iface _ d => uptoBulk d + 1
  | .map entries => uptoBulkEntries entries + 1
  | .held _ => 1
def uptoBulkAll {H : Type} : List (DataW H) → Nat
  | [] => 0
  | d :: r => uptoBulk d + uptoBulkAll r
def uptoBulkEntries {H : Type} : List (Lit × DataW H) → Nat
  | [] => 0
  | x :: r => uptoBulkEntry x + uptoBulkEntries r
def uptoBulkEntry {H : Type} : Lit × DataW H → Nat
  | (.string bytes, d) => bytes.length + uptoBulk d + 1
  | (_, d) => uptoBulk d + 1
 end
def uptoSmall : (H : Type) → List (DataW H) → Bool := fun _ ds => decide (uptoBulkAll ds ≤ 1048576)
def OpenSpec.upto (s : _root_.Go.ChangeSpec) : _root_.Go.OpenSpec := { _root_.Go.OpenSpec.ofChange s with cond := some uptoSmall }

/-- 'usancelaw15.DenoteValues', WHERE WHAT IT READS IS OF BULK AT MOST 1048576: true; the input reads as it did. -/
def denoteValuesUptoRow : OpenClaim := { program := "ythnojedlndblbaagreatdoor", sum := "4587ebc62837520de991ca3f7387335314b00ace79074661f6cf1ab8fe81d0d3", func := "usance/usancelaw15.DenoteValues", spec := "denoteValues", inPlace := ["internal/bytealg.abigen_runtime_cmpstring"], unfollowed := true, recurses := true, named := ["math/bits.divideError", "math/bits.overflowError", "usance/date.monthDays"], loops := true, apart := false, laid := [("usance/date.monthDays", laid_usance_date_monthDays)], narrowed := true }
def DenoteValuesUptoSaid : Prop := denoteValuesUptoRow.holds Tryz.pinned (OpenSpec.upto denoteValuesSpec)

/-- 'usancelaw15.DenoteBegins', WHERE WHAT IT READS IS OF BULK AT MOST 1048576: true; the input reads as it did. -/
def denoteBeginsUptoRow : OpenClaim := { program := "ythnojedlndblbaagreatdoor", sum := "4587ebc62837520de991ca3f7387335314b00ace79074661f6cf1ab8fe81d0d3", func := "usance/usancelaw15.DenoteBegins", spec := "denoteBegins", inPlace := ["internal/bytealg.abigen_runtime_cmpstring"], unfollowed := true, recurses := true, named := ["math/bits.divideError", "math/bits.overflowError", "usance/date.monthDays"], loops := true, apart := false, laid := [("usance/date.monthDays", laid_usance_date_monthDays)], narrowed := true }
def DenoteBeginsUptoSaid : Prop := denoteBeginsUptoRow.holds Tryz.pinned (OpenSpec.upto denoteBeginsSpec)

/-- 'usancelaw15.DenoteSteps', WHERE WHAT IT READS IS OF BULK AT MOST 1048576: true; the input reads as it did. -/
def denoteStepsUptoRow : OpenClaim := { program := "ythnojedlndblbaagreatdoor", sum := "4587ebc62837520de991ca3f7387335314b00ace79074661f6cf1ab8fe81d0d3", func := "usance/usancelaw15.DenoteSteps", spec := "denoteSteps", inPlace := ["internal/bytealg.abigen_runtime_cmpstring"], unfollowed := true, recurses := true, named := ["math/bits.divideError", "math/bits.overflowError", "usance/date.monthDays"], loops := true, apart := false, laid := [("usance/date.monthDays", laid_usance_date_monthDays)], narrowed := true }
def DenoteStepsUptoSaid : Prop := denoteStepsUptoRow.holds Tryz.pinned (OpenSpec.upto denoteStepsSpec)

/-- 'usancelaw15.DenoteRuns', WHERE WHAT IT READS IS OF BULK AT MOST 1048576: true; the input reads as it did. -/
def denoteRunsUptoRow : OpenClaim := { program := "ythnojedlndblbaagreatdoor", sum := "4587ebc62837520de991ca3f7387335314b00ace79074661f6cf1ab8fe81d0d3", func := "usance/usancelaw15.DenoteRuns", spec := "denoteRuns", inPlace := ["internal/bytealg.abigen_runtime_cmpstring"], unfollowed := true, recurses := true, named := ["math/bits.divideError", "math/bits.overflowError", "usance/date.monthDays"], loops := true, apart := false, laid := [("usance/date.monthDays", laid_usance_date_monthDays)], narrowed := true }
def DenoteRunsUptoSaid : Prop := denoteRunsUptoRow.holds Tryz.pinned (OpenSpec.upto denoteRunsSpec)

/-- 'usancelaw15.DenoteAgain', WHERE WHAT IT READS IS OF BULK AT MOST 1048576: true; the input reads as it did. -/
def denoteAgainUptoRow : OpenClaim := { program := "ythnojedlndblbaagreatdoor", sum := "4587ebc62837520de991ca3f7387335314b00ace79074661f6cf1ab8fe81d0d3", func := "usance/usancelaw15.DenoteAgain", spec := "denoteAgain", inPlace := ["internal/bytealg.abigen_runtime_cmpstring"], unfollowed := true, recurses := true, named := ["math/bits.divideError", "math/bits.overflowError", "usance/date.monthDays"], loops := true, apart := false, laid := [("usance/date.monthDays", laid_usance_date_monthDays)], narrowed := true }
def DenoteAgainUptoSaid : Prop := denoteAgainUptoRow.holds Tryz.pinned (OpenSpec.upto denoteAgainSpec)

/-- 'usancelaw15.DenoteLater', WHERE WHAT IT READS IS OF BULK AT MOST 1048576: true; the input reads as it did. -/
def denoteLaterUptoRow : OpenClaim := { program := "ythnojedlndblbaagreatdoor", sum := "4587ebc62837520de991ca3f7387335314b00ace79074661f6cf1ab8fe81d0d3", func := "usance/usancelaw15.DenoteLater", spec := "denoteLater", inPlace := ["internal/bytealg.abigen_runtime_cmpstring"], unfollowed := true, recurses := true, named := ["math/bits.divideError", "math/bits.overflowError", "usance/date.monthDays"], loops := true, apart := false, laid := [("usance/date.monthDays", laid_usance_date_monthDays)], narrowed := true }
def DenoteLaterUptoSaid : Prop := denoteLaterUptoRow.holds Tryz.pinned (OpenSpec.upto denoteLaterSpec)

end Rows
end Go.Proofs.YthnojedlndblbaaGreatDoor
