/-
  NARROWER THAN 'FOR EVERY INPUT', by the rows' own cells (each row's printed sentence says how): GenBytes: laid · GenBack: laid · VmBegins: laid · VmSteps: laid.
  DERIVED. THE GIVEN ROWS OF THIS SEAT. 4 by the template 'for every input the law returns true; each argument reads behind the call as it read before'; 0 by the template 'total and deterministic' (their statements: YtddbiiejilcbbaaGreatDoorTotals.lean).
  GIVEN WITH THE SEED: the statements are not yours to turn. If you find one false, say at which input.
  Laid BY PROGRAM, IN A SANDBOX (cutbox-rows.mjs): the forced cells as the released guide's own fill.sh prints them over the translation 7f7eb6faaa2a7e5f… (all of the seat's roots in one cut). By AI agents, Wed Nov 11 2026. No macro, syntax, notation, axiom, sorry.
-/
import Derived.Test.YtddbiiejilcbbaaGreatDoorChecked
import GoSem.Claim
import GoSem.ClaimJoined
import GoSem.ClaimMapViews
import Derived.JoinedTies
import Derived.KernelRfl
namespace Go.Proofs.YtddbiiejilcbbaaGreatDoor
/- THE CELL 'sum', in the pinned program and in every row, IS THE sha256 OF THE DUMP (.gsa) THAT YtddbiiejilcbbaaGreatDoorProg.lean LOADS. Nothing in Lean hashes anything: it is a label: what it is worth is what the hold of that sum in a sandbox is worth. -/
noncomputable def Tryz.pinned : Pinned := { name := "ytddbiiejilcbbaagreatdoor", sum := "7f7eb6faaa2a7e5f0897e322e9718488323006e7061a081d97555bc31c306877", checked := Tryz.checked }
namespace Rows
def none {H : Type} : Left H := { results := [], args := [] }

/- WHAT THE LISTED PACKAGE-LEVEL VARIABLES READ AS WHEN THE CALL BEGINS. Each datum BY PROGRAM (the guide's laid-datum.mjs) off the statement by which the dump's own 'gosem.cut.vars' lays the variable. In a bare row this is a premise. The card (YtddbiiejilcbbaaGreatDoorCards.lean) ties it to the program's text. -/
def laid_usance_date_monthDays {H : Type} : DataW H := .agg [.lit (.int .i64 31), .lit (.int .i64 28), .lit (.int .i64 31), .lit (.int .i64 30), .lit (.int .i64 31), .lit (.int .i64 30), .lit (.int .i64 31), .lit (.int .i64 31), .lit (.int .i64 30), .lit (.int .i64 31), .lit (.int .i64 30), .lit (.int .i64 31)]
def laid_usance_gen_reckonOps {H : Type} : DataW H := .agg [.lit (.int .i64 0), .lit (.int .i64 1), .lit (.int .i64 1), .lit (.int .i64 1), .lit (.int .i64 0), .lit (.int .i64 3), .lit (.int .i64 4), .lit (.int .i64 5), .lit (.int .i64 6), .lit (.int .i64 7), .lit (.int .i64 8), .lit (.int .i64 9), .lit (.int .i64 10), .lit (.int .i64 11), .lit (.int .i64 12), .lit (.int .i64 0), .lit (.int .i64 0), .lit (.int .i64 13), .lit (.int .i64 14), .lit (.int .i64 15), .lit (.int .i64 16), .lit (.int .i64 17)]
def laid_usance_gen_uses {H : Type} : DataW H := .agg [.lit (.int .i64 0), .lit (.int .i64 1), .lit (.int .i64 9), .lit (.int .i64 1), .lit (.int .i64 3), .lit (.int .i64 7), .lit (.int .i64 7), .lit (.int .i64 7), .lit (.int .i64 7), .lit (.int .i64 7), .lit (.int .i64 7), .lit (.int .i64 7), .lit (.int .i64 3), .lit (.int .i64 7), .lit (.int .i64 7), .lit (.int .i64 7), .lit (.int .i64 7), .lit (.int .i64 7), .lit (.int .i64 3), .lit (.int .i64 10), .lit (.int .i64 8), .lit (.int .i64 8), .lit (.int .i64 8), .lit (.int .i64 2), .lit (.int .i64 0), .lit (.int .i64 1), .lit (.int .i64 2), .lit (.int .i64 0), .lit (.int .i64 0), .lit (.int .i64 0), .lit (.int .i64 0)]

/-- 'usancelaw17.GenBytes': WHATEVER THE INPUT: true; the input reads as it did. -/
def genBytesSpec : ChangeSpec := { name := "genBytes", fn := fun _ => fun
  | [d] => { results := [.lit (.bool true)], args := [d] }
  | _ => none }
def genBytesRow : OpenClaim := { program := "ytddbiiejilcbbaagreatdoor", sum := "7f7eb6faaa2a7e5f0897e322e9718488323006e7061a081d97555bc31c306877", func := "usance/usancelaw17.GenBytes", spec := "genBytes", unfollowed := true, recurses := true, named := ["math/bits.divideError", "math/bits.overflowError", "usance/date.monthDays", "usance/gen.reckonOps", "usance/gen.uses"], plainKeys := false, apart := false, laid := [("usance/date.monthDays", laid_usance_date_monthDays), ("usance/gen.reckonOps", laid_usance_gen_reckonOps), ("usance/gen.uses", laid_usance_gen_uses)] }
def GenBytesSaid : Prop := genBytesRow.holds Tryz.pinned (OpenSpec.ofChange genBytesSpec)

/-- ITS FALSE NEIGHBOUR: 'it returns false'. Refute it at one input. -/
def genBytesWrong : ChangeSpec := { name := "genBytes", fn := fun _ => fun
  | [d] => { results := [.lit (.bool false)], args := [d] }
  | _ => none }
def GenBytesWrongFalsely : Prop := genBytesRow.holds Tryz.pinned (OpenSpec.ofChange genBytesWrong)

/-- 'usancelaw17.GenBack': WHATEVER THE INPUT: true; the input reads as it did. -/
def genBackSpec : ChangeSpec := { name := "genBack", fn := fun _ => fun
  | [d1, d2] => { results := [.lit (.bool true)], args := [d1, d2] }
  | _ => none }
def genBackRow : OpenClaim := { program := "ytddbiiejilcbbaagreatdoor", sum := "7f7eb6faaa2a7e5f0897e322e9718488323006e7061a081d97555bc31c306877", func := "usance/usancelaw17.GenBack", spec := "genBack", unfollowed := true, recurses := true, named := ["math/bits.divideError", "math/bits.overflowError", "usance/date.monthDays", "usance/gen.reckonOps", "usance/gen.uses"], plainKeys := false, apart := false, laid := [("usance/date.monthDays", laid_usance_date_monthDays), ("usance/gen.reckonOps", laid_usance_gen_reckonOps), ("usance/gen.uses", laid_usance_gen_uses)] }
def GenBackSaid : Prop := genBackRow.holds Tryz.pinned (OpenSpec.ofChange genBackSpec)

/-- ITS FALSE NEIGHBOUR: 'it returns false'. Refute it at one input. -/
def genBackWrong : ChangeSpec := { name := "genBack", fn := fun _ => fun
  | [d1, d2] => { results := [.lit (.bool false)], args := [d1, d2] }
  | _ => none }
def GenBackWrongFalsely : Prop := genBackRow.holds Tryz.pinned (OpenSpec.ofChange genBackWrong)

/-- 'usancelaw18.VmBegins': WHATEVER THE INPUT: true; the input reads as it did. -/
def vmBeginsSpec : ChangeSpec := { name := "vmBegins", fn := fun _ => fun
  | [d1, d2, d3] => { results := [.lit (.bool true)], args := [d1, d2, d3] }
  | _ => none }
def vmBeginsRow : OpenClaim := { program := "ytddbiiejilcbbaagreatdoor", sum := "7f7eb6faaa2a7e5f0897e322e9718488323006e7061a081d97555bc31c306877", func := "usance/usancelaw18.VmBegins", spec := "vmBegins", inPlace := ["internal/bytealg.abigen_runtime_cmpstring"], unfollowed := true, recurses := true, named := ["usance/gen.uses", "math/bits.divideError", "math/bits.overflowError", "usance/date.monthDays"], plainKeys := false, apart := false, laid := [("usance/date.monthDays", laid_usance_date_monthDays), ("usance/gen.uses", laid_usance_gen_uses)] }
def VmBeginsSaid : Prop := vmBeginsRow.holds Tryz.pinned (OpenSpec.ofChange vmBeginsSpec)

/-- ITS FALSE NEIGHBOUR: 'it returns false'. Refute it at one input. -/
def vmBeginsWrong : ChangeSpec := { name := "vmBegins", fn := fun _ => fun
  | [d1, d2, d3] => { results := [.lit (.bool false)], args := [d1, d2, d3] }
  | _ => none }
def VmBeginsWrongFalsely : Prop := vmBeginsRow.holds Tryz.pinned (OpenSpec.ofChange vmBeginsWrong)

/-- 'usancelaw18.VmSteps': WHATEVER THE INPUT: true; the input reads as it did. -/
def vmStepsSpec : ChangeSpec := { name := "vmSteps", fn := fun _ => fun
  | [d1, d2, d3, d4, d5] => { results := [.lit (.bool true)], args := [d1, d2, d3, d4, d5] }
  | _ => none }
def vmStepsRow : OpenClaim := { program := "ytddbiiejilcbbaagreatdoor", sum := "7f7eb6faaa2a7e5f0897e322e9718488323006e7061a081d97555bc31c306877", func := "usance/usancelaw18.VmSteps", spec := "vmSteps", inPlace := ["internal/bytealg.abigen_runtime_cmpstring"], unfollowed := true, recurses := true, named := ["usance/gen.uses", "math/bits.divideError", "math/bits.overflowError", "usance/date.monthDays"], plainKeys := false, apart := false, laid := [("usance/date.monthDays", laid_usance_date_monthDays), ("usance/gen.uses", laid_usance_gen_uses)] }
def VmStepsSaid : Prop := vmStepsRow.holds Tryz.pinned (OpenSpec.ofChange vmStepsSpec)

/-- ITS FALSE NEIGHBOUR: 'it returns false'. Refute it at one input. -/
def vmStepsWrong : ChangeSpec := { name := "vmSteps", fn := fun _ => fun
  | [d1, d2, d3, d4, d5] => { results := [.lit (.bool false)], args := [d1, d2, d3, d4, d5] }
  | _ => none }
def VmStepsWrongFalsely : Prop := vmStepsRow.holds Tryz.pinned (OpenSpec.ofChange vmStepsWrong)

/- THE SECOND FORM. 'bulk': how many values and letters a reading holds, each counted each time it is reached (what is shared counts as often as it is met; a slice's spare places count too). A statement '..UptoSaid' is the law's where the arguments, and the package variables that the reading takes, are together of bulk at most 1048576: NARROWER than '..Said'. Prove '..Said' where nothing that the law and all that it calls make is longer than what came in: it says more and counts as full. Else prove '..UptoSaid'. A law counts once. -/
mutual
def uptoBulk {H : Type} : DataW H → Nat
  | .lit (.string bytes) => bytes.length + 1
  | .lit _ => 1
  | .nil => 1
  | .ptr d => uptoBulk d + 1
  | .slice elems spare => uptoBulkAll elems + uptoBulkAll spare + 1
  | .agg parts => uptoBulkAll parts + 1
  | .iface _ d => uptoBulk d + 1
  | .map entries => uptoBulkEntries entries + 1
  | .held _ => 1
def uptoBulkAll {H : Type} : List (DataW H) → Nat
  | [] => 0
  | d :: r => uptoBulk d + uptoBulkAll r
def uptoBulkEntries {H : Type} : List (Lit × DataW H) → Nat
  | [] => 0
  | x :: r => uptoBulkEntry x + uptoBulkEntries r
def uptoBulkEntry {H : Type} : Lit × DataW H → Nat
  | (.string bytes, d) => bytes.length + uptoBulk d + 1
  | (_, d) => uptoBulk d + 1
 end
def uptoSmall : (H : Type) → List (DataW H) → Bool := fun _ ds => decide (uptoBulkAll ds ≤ 1048576)
def OpenSpec.upto (s : _root_.Go.ChangeSpec) : _root_.Go.OpenSpec := { _root_.Go.OpenSpec.ofChange s with cond := some uptoSmall }

/-- 'usancelaw17.GenBytes', WHERE WHAT IT READS IS OF BULK AT MOST 1048576: true; the input reads as it did. -/
def genBytesUptoRow : OpenClaim := { program := "ytddbiiejilcbbaagreatdoor", sum := "7f7eb6faaa2a7e5f0897e322e9718488323006e7061a081d97555bc31c306877", func := "usance/usancelaw17.GenBytes", spec := "genBytes", unfollowed := true, recurses := true, named := ["math/bits.divideError", "math/bits.overflowError", "usance/date.monthDays", "usance/gen.reckonOps", "usance/gen.uses"], plainKeys := false, apart := false, laid := [("usance/date.monthDays", laid_usance_date_monthDays), ("usance/gen.reckonOps", laid_usance_gen_reckonOps), ("usance/gen.uses", laid_usance_gen_uses)], narrowed := true }
def GenBytesUptoSaid : Prop := genBytesUptoRow.holds Tryz.pinned (OpenSpec.upto genBytesSpec)

/-- 'usancelaw17.GenBack', WHERE WHAT IT READS IS OF BULK AT MOST 1048576: true; the input reads as it did. -/
def genBackUptoRow : OpenClaim := { program := "ytddbiiejilcbbaagreatdoor", sum := "7f7eb6faaa2a7e5f0897e322e9718488323006e7061a081d97555bc31c306877", func := "usance/usancelaw17.GenBack", spec := "genBack", unfollowed := true, recurses := true, named := ["math/bits.divideError", "math/bits.overflowError", "usance/date.monthDays", "usance/gen.reckonOps", "usance/gen.uses"], plainKeys := false, apart := false, laid := [("usance/date.monthDays", laid_usance_date_monthDays), ("usance/gen.reckonOps", laid_usance_gen_reckonOps), ("usance/gen.uses", laid_usance_gen_uses)], narrowed := true }
def GenBackUptoSaid : Prop := genBackUptoRow.holds Tryz.pinned (OpenSpec.upto genBackSpec)

/-- 'usancelaw18.VmBegins', WHERE WHAT IT READS IS OF BULK AT MOST 1048576: true; the input reads as it did. -/
def vmBeginsUptoRow : OpenClaim := { program := "ytddbiiejilcbbaagreatdoor", sum := "7f7eb6faaa2a7e5f0897e322e9718488323006e7061a081d97555bc31c306877", func := "usance/usancelaw18.VmBegins", spec := "vmBegins", inPlace := ["internal/bytealg.abigen_runtime_cmpstring"], unfollowed := true, recurses := true, named := ["usance/gen.uses", "math/bits.divideError", "math/bits.overflowError", "usance/date.monthDays"], plainKeys := false, apart := false, laid := [("usance/date.monthDays", laid_usance_date_monthDays), ("usance/gen.uses", laid_usance_gen_uses)], narrowed := true }
def VmBeginsUptoSaid : Prop := vmBeginsUptoRow.holds Tryz.pinned (OpenSpec.upto vmBeginsSpec)

/-- 'usancelaw18.VmSteps', WHERE WHAT IT READS IS OF BULK AT MOST 1048576: true; the input reads as it did. -/
def vmStepsUptoRow : OpenClaim := { program := "ytddbiiejilcbbaagreatdoor", sum := "7f7eb6faaa2a7e5f0897e322e9718488323006e7061a081d97555bc31c306877", func := "usance/usancelaw18.VmSteps", spec := "vmSteps", inPlace := ["internal/bytealg.abigen_runtime_cmpstring"], unfollowed := true, recurses := true, named := ["usance/gen.uses", "math/bits.divideError", "math/bits.overflowError", "usance/date.monthDays"], plainKeys := false, apart := false, laid := [("usance/date.monthDays", laid_usance_date_monthDays), ("usance/gen.uses", laid_usance_gen_uses)], narrowed := true }
def VmStepsUptoSaid : Prop := vmStepsUptoRow.holds Tryz.pinned (OpenSpec.upto vmStepsSpec)

end Rows
end Go.Proofs.YtddbiiejilcbbaaGreatDoor
