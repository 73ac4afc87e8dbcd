/-
  NARROWER THAN 'FOR EVERY INPUT', by the rows' own cells (each row's printed sentence says how): PagerPlays: laid · PagerLasts: laid · PagerOnce: laid · PagerAnew: laid · PagerStays: laid · PagerGives: laid.
  DERIVED. THE GIVEN ROWS OF THIS SEAT. 6 by the template 'for every input the law returns true; each argument reads behind the call as it read before'; 0 by the template 'total and deterministic' (their statements: YtcmgclkbhhdnaaaGreatDoorTotals.lean).
  GIVEN WITH THE SEED: the statements are not yours to turn. If you find one false, say at which input.
  Laid BY PROGRAM, IN A SANDBOX (cutbox-rows.mjs): the forced cells as the released guide's own fill.sh prints them over the translation 1ad1b478c24d0570… (all of the seat's roots in one cut). By AI agents, Wed Nov 11 2026. No macro, syntax, notation, axiom, sorry.
-/
import Derived.Test.YtcmgclkbhhdnaaaGreatDoorChecked
import GoSem.Claim
import GoSem.ClaimJoined
import GoSem.ClaimMapViews
import Derived.JoinedTies
import Derived.KernelRfl
namespace Go.Proofs.YtcmgclkbhhdnaaaGreatDoor
/- THE CELL 'sum', in the pinned program and in every row, IS THE sha256 OF THE DUMP (.gsa) THAT YtcmgclkbhhdnaaaGreatDoorProg.lean LOADS. Nothing in Lean hashes anything: it is a label: what it is worth is what the hold of that sum in a sandbox is worth. -/
noncomputable def Tryz.pinned : Pinned := { name := "ytcmgclkbhhdnaaagreatdoor", sum := "1ad1b478c24d0570d623e575b68aadd88456f6c71b24ffecbcd87ff4fdbaabc3", checked := Tryz.checked }
namespace Rows
def none {H : Type} : Left H := { results := [], args := [] }

/- WHAT THE LISTED PACKAGE-LEVEL VARIABLES READ AS WHEN THE CALL BEGINS. Each datum BY PROGRAM (the guide's laid-datum.mjs) off the statement by which the dump's own 'gosem.cut.vars' lays the variable. In a bare row this is a premise. The card (YtcmgclkbhhdnaaaGreatDoorCards.lean) ties it to the program's text. -/
def laid_usance_wire_crcSteps {H : Type} : DataW H := .agg [.lit (.int .u32 0), .lit (.int .u32 498536548), .lit (.int .u32 997073096), .lit (.int .u32 651767980), .lit (.int .u32 1994146192), .lit (.int .u32 1802195444), .lit (.int .u32 1303535960), .lit (.int .u32 1342533948), .lit (.int .u32 3988292384), .lit (.int .u32 4027552580), .lit (.int .u32 3604390888), .lit (.int .u32 3412177804), .lit (.int .u32 2607071920), .lit (.int .u32 2262029012), .lit (.int .u32 2685067896), .lit (.int .u32 3183342108)]

/-- 'usancelaw08.PagerPlays': WHATEVER THE INPUT: true; the input reads as it did. -/
def pagerPlaysSpec : ChangeSpec := { name := "pagerPlays", fn := fun _ => fun
  | [d1, d2] => { results := [.lit (.bool true)], args := [d1, d2] }
  | _ => none }
def pagerPlaysRow : OpenClaim := { program := "ytcmgclkbhhdnaaagreatdoor", sum := "1ad1b478c24d0570d623e575b68aadd88456f6c71b24ffecbcd87ff4fdbaabc3", func := "usance/usancelaw08.PagerPlays", spec := "pagerPlays", unfollowed := true, recurses := true, named := ["usance/wire.crcSteps"], apart := false, laid := [("usance/wire.crcSteps", laid_usance_wire_crcSteps)] }
def PagerPlaysSaid : Prop := pagerPlaysRow.holds Tryz.pinned (OpenSpec.ofChange pagerPlaysSpec)

/-- ITS FALSE NEIGHBOUR: 'it returns false'. Refute it at one input. -/
def pagerPlaysWrong : ChangeSpec := { name := "pagerPlays", fn := fun _ => fun
  | [d1, d2] => { results := [.lit (.bool false)], args := [d1, d2] }
  | _ => none }
def PagerPlaysWrongFalsely : Prop := pagerPlaysRow.holds Tryz.pinned (OpenSpec.ofChange pagerPlaysWrong)

/-- 'usancelaw08.PagerLasts': WHATEVER THE INPUT: true; the input reads as it did. -/
def pagerLastsSpec : ChangeSpec := { name := "pagerLasts", fn := fun _ => fun
  | [d1, d2] => { results := [.lit (.bool true)], args := [d1, d2] }
  | _ => none }
def pagerLastsRow : OpenClaim := { program := "ytcmgclkbhhdnaaagreatdoor", sum := "1ad1b478c24d0570d623e575b68aadd88456f6c71b24ffecbcd87ff4fdbaabc3", func := "usance/usancelaw08.PagerLasts", spec := "pagerLasts", unfollowed := true, recurses := true, named := ["usance/wire.crcSteps"], apart := false, laid := [("usance/wire.crcSteps", laid_usance_wire_crcSteps)] }
def PagerLastsSaid : Prop := pagerLastsRow.holds Tryz.pinned (OpenSpec.ofChange pagerLastsSpec)

/-- ITS FALSE NEIGHBOUR: 'it returns false'. Refute it at one input. -/
def pagerLastsWrong : ChangeSpec := { name := "pagerLasts", fn := fun _ => fun
  | [d1, d2] => { results := [.lit (.bool false)], args := [d1, d2] }
  | _ => none }
def PagerLastsWrongFalsely : Prop := pagerLastsRow.holds Tryz.pinned (OpenSpec.ofChange pagerLastsWrong)

/-- 'usancelaw08.PagerOnce': WHATEVER THE INPUT: true; the input reads as it did. -/
def pagerOnceSpec : ChangeSpec := { name := "pagerOnce", fn := fun _ => fun
  | [d1, d2] => { results := [.lit (.bool true)], args := [d1, d2] }
  | _ => none }
def pagerOnceRow : OpenClaim := { program := "ytcmgclkbhhdnaaagreatdoor", sum := "1ad1b478c24d0570d623e575b68aadd88456f6c71b24ffecbcd87ff4fdbaabc3", func := "usance/usancelaw08.PagerOnce", spec := "pagerOnce", unfollowed := true, recurses := true, named := ["usance/wire.crcSteps"], apart := false, laid := [("usance/wire.crcSteps", laid_usance_wire_crcSteps)] }
def PagerOnceSaid : Prop := pagerOnceRow.holds Tryz.pinned (OpenSpec.ofChange pagerOnceSpec)

/-- ITS FALSE NEIGHBOUR: 'it returns false'. Refute it at one input. -/
def pagerOnceWrong : ChangeSpec := { name := "pagerOnce", fn := fun _ => fun
  | [d1, d2] => { results := [.lit (.bool false)], args := [d1, d2] }
  | _ => none }
def PagerOnceWrongFalsely : Prop := pagerOnceRow.holds Tryz.pinned (OpenSpec.ofChange pagerOnceWrong)

/-- 'usancelaw08.PagerAnew': WHATEVER THE INPUT: true; the input reads as it did. -/
def pagerAnewSpec : ChangeSpec := { name := "pagerAnew", fn := fun _ => fun
  | [d1, d2] => { results := [.lit (.bool true)], args := [d1, d2] }
  | _ => none }
def pagerAnewRow : OpenClaim := { program := "ytcmgclkbhhdnaaagreatdoor", sum := "1ad1b478c24d0570d623e575b68aadd88456f6c71b24ffecbcd87ff4fdbaabc3", func := "usance/usancelaw08.PagerAnew", spec := "pagerAnew", unfollowed := true, recurses := true, named := ["usance/wire.crcSteps"], apart := false, laid := [("usance/wire.crcSteps", laid_usance_wire_crcSteps)] }
def PagerAnewSaid : Prop := pagerAnewRow.holds Tryz.pinned (OpenSpec.ofChange pagerAnewSpec)

/-- ITS FALSE NEIGHBOUR: 'it returns false'. Refute it at one input. -/
def pagerAnewWrong : ChangeSpec := { name := "pagerAnew", fn := fun _ => fun
  | [d1, d2] => { results := [.lit (.bool false)], args := [d1, d2] }
  | _ => none }
def PagerAnewWrongFalsely : Prop := pagerAnewRow.holds Tryz.pinned (OpenSpec.ofChange pagerAnewWrong)

/-- 'usancelaw08.PagerStays': WHATEVER THE INPUT: true; the input reads as it did. -/
def pagerStaysSpec : ChangeSpec := { name := "pagerStays", fn := fun _ => fun
  | [d1, d2, d3] => { results := [.lit (.bool true)], args := [d1, d2, d3] }
  | _ => none }
def pagerStaysRow : OpenClaim := { program := "ytcmgclkbhhdnaaagreatdoor", sum := "1ad1b478c24d0570d623e575b68aadd88456f6c71b24ffecbcd87ff4fdbaabc3", func := "usance/usancelaw08.PagerStays", spec := "pagerStays", unfollowed := true, recurses := true, named := ["usance/wire.crcSteps"], apart := false, laid := [("usance/wire.crcSteps", laid_usance_wire_crcSteps)] }
def PagerStaysSaid : Prop := pagerStaysRow.holds Tryz.pinned (OpenSpec.ofChange pagerStaysSpec)

/-- ITS FALSE NEIGHBOUR: 'it returns false'. Refute it at one input. -/
def pagerStaysWrong : ChangeSpec := { name := "pagerStays", fn := fun _ => fun
  | [d1, d2, d3] => { results := [.lit (.bool false)], args := [d1, d2, d3] }
  | _ => none }
def PagerStaysWrongFalsely : Prop := pagerStaysRow.holds Tryz.pinned (OpenSpec.ofChange pagerStaysWrong)

/-- 'usancelaw08.PagerGives': WHATEVER THE INPUT: true; the input reads as it did. -/
def pagerGivesSpec : ChangeSpec := { name := "pagerGives", fn := fun _ => fun
  | [d1, d2, d3] => { results := [.lit (.bool true)], args := [d1, d2, d3] }
  | _ => none }
def pagerGivesRow : OpenClaim := { program := "ytcmgclkbhhdnaaagreatdoor", sum := "1ad1b478c24d0570d623e575b68aadd88456f6c71b24ffecbcd87ff4fdbaabc3", func := "usance/usancelaw08.PagerGives", spec := "pagerGives", unfollowed := true, recurses := true, named := ["usance/wire.crcSteps"], apart := false, laid := [("usance/wire.crcSteps", laid_usance_wire_crcSteps)] }
def PagerGivesSaid : Prop := pagerGivesRow.holds Tryz.pinned (OpenSpec.ofChange pagerGivesSpec)

/-- ITS FALSE NEIGHBOUR: 'it returns false'. Refute it at one input. -/
def pagerGivesWrong : ChangeSpec := { name := "pagerGives", fn := fun _ => fun
  | [d1, d2, d3] => { results := [.lit (.bool false)], args := [d1, d2, d3] }
  | _ => none }
def PagerGivesWrongFalsely : Prop := pagerGivesRow.holds Tryz.pinned (OpenSpec.ofChange pagerGivesWrong)

/- THE SECOND FORM. 'bulk': how many values and letters a reading holds, each counted each time it is reached (what is shared counts as often as it is met; a slice's spare places count too). A statement '..UptoSaid' is the law's where the arguments, and the package variables that the reading takes, are together of bulk at most 1048576: NARROWER than '..Said'. Prove '..Said' where nothing that the law and all that it calls make is longer than what came in: it says more and counts as full. Else prove '..UptoSaid'. A law counts once. -/
mutual
def uptoBulk {H : Type} : DataW H → Nat
  | .lit (.string bytes) => bytes.length + 1
  | .lit _ => 1
  | .nil => 1
  | .ptr d => uptoBulk d + 1
  | .slice elems spare => uptoBulkAll elems + uptoBulkAll spare + 1
  | .agg parts => uptoBulkAll parts + 1
  | .iface _ d => uptoBulk d + 1
  | .map entries => uptoBulkEntries entries + 1
  | .held _ => 1
def uptoBulkAll {H : Type} : List (DataW H) → Nat
  | [] => 0
  | d :: r => uptoBulk d + uptoBulkAll r
def uptoBulkEntries {H : Type} : List (Lit × DataW H) → Nat
  | [] => 0
  | x :: r => uptoBulkEntry x + uptoBulkEntries r
def uptoBulkEntry {H : Type} : Lit × DataW H → Nat
  | (.string bytes, d) => bytes.length + uptoBulk d + 1
  | (_, d) => uptoBulk d + 1
 end
def uptoSmall : (H : Type) → List (DataW H) → Bool := fun _ ds => decide (uptoBulkAll ds ≤ 1048576)
def OpenSpec.upto (s : _root_.Go.ChangeSpec) : _root_.Go.OpenSpec := { _root_.Go.OpenSpec.ofChange s with cond := some uptoSmall }

/-- 'usancelaw08.PagerPlays', WHERE WHAT IT READS IS OF BULK AT MOST 1048576: true; the input reads as it did. -/
def pagerPlaysUptoRow : OpenClaim := { program := "ytcmgclkbhhdnaaagreatdoor", sum := "1ad1b478c24d0570d623e575b68aadd88456f6c71b24ffecbcd87ff4fdbaabc3", func := "usance/usancelaw08.PagerPlays", spec := "pagerPlays", unfollowed := true, recurses := true, named := ["usance/wire.crcSteps"], apart := false, laid := [("usance/wire.crcSteps", laid_usance_wire_crcSteps)], narrowed := true }
def PagerPlaysUptoSaid : Prop := pagerPlaysUptoRow.holds Tryz.pinned (OpenSpec.upto pagerPlaysSpec)

/-- 'usancelaw08.PagerLasts', WHERE WHAT IT READS IS OF BULK AT MOST 1048576: true; the input reads as it did. -/
def pagerLastsUptoRow : OpenClaim := { program := "ytcmgclkbhhdnaaagreatdoor", sum := "1ad1b478c24d0570d623e575b68aadd88456f6c71b24ffecbcd87ff4fdbaabc3", func := "usance/usancelaw08.PagerLasts", spec := "pagerLasts", unfollowed := true, recurses := true, named := ["usance/wire.crcSteps"], apart := false, laid := [("usance/wire.crcSteps", laid_usance_wire_crcSteps)], narrowed := true }
def PagerLastsUptoSaid : Prop := pagerLastsUptoRow.holds Tryz.pinned (OpenSpec.upto pagerLastsSpec)

/-- 'usancelaw08.PagerOnce', WHERE WHAT IT READS IS OF BULK AT MOST 1048576: true; the input reads as it did. -/
def pagerOnceUptoRow : OpenClaim := { program := "ytcmgclkbhhdnaaagreatdoor", sum := "1ad1b478c24d0570d623e575b68aadd88456f6c71b24ffecbcd87ff4fdbaabc3", func := "usance/usancelaw08.PagerOnce", spec := "pagerOnce", unfollowed := true, recurses := true, named := ["usance/wire.crcSteps"], apart := false, laid := [("usance/wire.crcSteps", laid_usance_wire_crcSteps)], narrowed := true }
def PagerOnceUptoSaid : Prop := pagerOnceUptoRow.holds Tryz.pinned (OpenSpec.upto pagerOnceSpec)

/-- 'usancelaw08.PagerAnew', WHERE WHAT IT READS IS OF BULK AT MOST 1048576: true; the input reads as it did. -/
def pagerAnewUptoRow : OpenClaim := { program := "ytcmgclkbhhdnaaagreatdoor", sum := "1ad1b478c24d0570d623e575b68aadd88456f6c71b24ffecbcd87ff4fdbaabc3", func := "usance/usancelaw08.PagerAnew", spec := "pagerAnew", unfollowed := true, recurses := true, named := ["usance/wire.crcSteps"], apart := false, laid := [("usance/wire.crcSteps", laid_usance_wire_crcSteps)], narrowed := true }
def PagerAnewUptoSaid : Prop := pagerAnewUptoRow.holds Tryz.pinned (OpenSpec.upto pagerAnewSpec)

/-- 'usancelaw08.PagerStays', WHERE WHAT IT READS IS OF BULK AT MOST 1048576: true; the input reads as it did. -/
def pagerStaysUptoRow : OpenClaim := { program := "ytcmgclkbhhdnaaagreatdoor", sum := "1ad1b478c24d0570d623e575b68aadd88456f6c71b24ffecbcd87ff4fdbaabc3", func := "usance/usancelaw08.PagerStays", spec := "pagerStays", unfollowed := true, recurses := true, named := ["usance/wire.crcSteps"], apart := false, laid := [("usance/wire.crcSteps", laid_usance_wire_crcSteps)], narrowed := true }
def PagerStaysUptoSaid : Prop := pagerStaysUptoRow.holds Tryz.pinned (OpenSpec.upto pagerStaysSpec)

/-- 'usancelaw08.PagerGives', WHERE WHAT IT READS IS OF BULK AT MOST 1048576: true; the input reads as it did. -/
def pagerGivesUptoRow : OpenClaim := { program := "ytcmgclkbhhdnaaagreatdoor", sum := "1ad1b478c24d0570d623e575b68aadd88456f6c71b24ffecbcd87ff4fdbaabc3", func := "usance/usancelaw08.PagerGives", spec := "pagerGives", unfollowed := true, recurses := true, named := ["usance/wire.crcSteps"], apart := false, laid := [("usance/wire.crcSteps", laid_usance_wire_crcSteps)], narrowed := true }
def PagerGivesUptoSaid : Prop := pagerGivesUptoRow.holds Tryz.pinned (OpenSpec.upto pagerGivesSpec)

end Rows
end Go.Proofs.YtcmgclkbhhdnaaaGreatDoor
