/-
  NARROWER THAN 'FOR EVERY INPUT', by the rows' own cells (each row's printed sentence says how): DateDays: laid · DateTexts: laid · DateMoves: laid · DateBack: laid · DateSums: laid · DateMonths: laid.
  DERIVED. THE GIVEN ROWS OF THIS SEAT. 6 by the template 'for every input the law returns true; each argument reads behind the call as it read before'; 0 by the template 'total and deterministic' (their statements: YtdjncmcmplnnhaaDoorTotals.lean).
  GIVEN WITH THE SEED: the statements are not yours to turn. If you find one false, say at which input.
  Laid BY PROGRAM, IN A SANDBOX (cutbox-rows.mjs): the forced cells as the released guide's own fill.sh prints them over the translation 38b3c9c0b610166c… (all of the seat's roots in one cut). By AI agents, Wed Nov 11 2026. No macro, syntax, notation, axiom, sorry.
-/
import Derived.Test.YtdjncmcmplnnhaaDoorChecked
import GoSem.Claim
import GoSem.ClaimJoined
import GoSem.ClaimMapViews
import Derived.JoinedTies
import Derived.KernelRfl
namespace Go.Proofs.YtdjncmcmplnnhaaDoor
/- THE CELL 'sum', in the pinned program and in every row, IS THE sha256 OF THE DUMP (.gsa) THAT YtdjncmcmplnnhaaDoorProg.lean LOADS. Nothing in Lean hashes anything: it is a label: what it is worth is what the hold of that sum in a sandbox is worth. -/
noncomputable def Tryd.pinned : Pinned := { name := "ytdjncmcmplnnhaadoor", sum := "38b3c9c0b610166cc010c234bc680dc3e7e6b2f43c652087d50bc07cbdc1a6fe", checked := Tryd.checked }
namespace Rows
def none {H : Type} : Left H := { results := [], args := [] }

/- WHAT THE LISTED PACKAGE-LEVEL VARIABLES READ AS WHEN THE CALL BEGINS. Each datum BY PROGRAM (the guide's laid-datum.mjs) off the statement by which the dump's own 'gosem.cut.vars' lays the variable. In a bare row this is a premise. The card (YtdjncmcmplnnhaaDoorCards.lean) ties it to the program's text. -/
def laid_usance_date_monthDays {H : Type} : DataW H := .agg [.lit (.int .i64 31), .lit (.int .i64 28), .lit (.int .i64 31), .lit (.int .i64 30), .lit (.int .i64 31), .lit (.int .i64 30), .lit (.int .i64 31), .lit (.int .i64 31), .lit (.int .i64 30), .lit (.int .i64 31), .lit (.int .i64 30), .lit (.int .i64 31)]

/-- 'usancelaw03.DateDays': WHATEVER THE INPUT: true; the input reads as it did. -/
def dateDaysSpec : ChangeSpec := { name := "dateDays", fn := fun _ => fun
  | [d1, d2, d3, d4] => { results := [.lit (.bool true)], args := [d1, d2, d3, d4] }
  | _ => none }
def dateDaysRow : OpenClaim := { program := "ytdjncmcmplnnhaadoor", sum := "38b3c9c0b610166cc010c234bc680dc3e7e6b2f43c652087d50bc07cbdc1a6fe", func := "usance/usancelaw03.DateDays", spec := "dateDays", unfollowed := true, recurses := true, named := ["usance/date.monthDays"], apart := false, laid := [("usance/date.monthDays", laid_usance_date_monthDays)] }
def DateDaysSaid : Prop := dateDaysRow.holds Tryd.pinned (OpenSpec.ofChange dateDaysSpec)

/-- ITS FALSE NEIGHBOUR: 'it returns false'. Refute it at one input. -/
def dateDaysWrong : ChangeSpec := { name := "dateDays", fn := fun _ => fun
  | [d1, d2, d3, d4] => { results := [.lit (.bool false)], args := [d1, d2, d3, d4] }
  | _ => none }
def DateDaysWrongFalsely : Prop := dateDaysRow.holds Tryd.pinned (OpenSpec.ofChange dateDaysWrong)

/-- 'usancelaw03.DateTexts': WHATEVER THE INPUT: true; the input reads as it did. -/
def dateTextsSpec : ChangeSpec := { name := "dateTexts", fn := fun _ => fun
  | [d1, d2] => { results := [.lit (.bool true)], args := [d1, d2] }
  | _ => none }
def dateTextsRow : OpenClaim := { program := "ytdjncmcmplnnhaadoor", sum := "38b3c9c0b610166cc010c234bc680dc3e7e6b2f43c652087d50bc07cbdc1a6fe", func := "usance/usancelaw03.DateTexts", spec := "dateTexts", unfollowed := true, recurses := true, named := ["usance/date.monthDays"], apart := false, laid := [("usance/date.monthDays", laid_usance_date_monthDays)] }
def DateTextsSaid : Prop := dateTextsRow.holds Tryd.pinned (OpenSpec.ofChange dateTextsSpec)

/-- ITS FALSE NEIGHBOUR: 'it returns false'. Refute it at one input. -/
def dateTextsWrong : ChangeSpec := { name := "dateTexts", fn := fun _ => fun
  | [d1, d2] => { results := [.lit (.bool false)], args := [d1, d2] }
  | _ => none }
def DateTextsWrongFalsely : Prop := dateTextsRow.holds Tryd.pinned (OpenSpec.ofChange dateTextsWrong)

/-- 'usancelaw03.DateMoves': WHATEVER THE INPUT: true; the input reads as it did. -/
def dateMovesSpec : ChangeSpec := { name := "dateMoves", fn := fun _ => fun
  | [d1, d2, d3] => { results := [.lit (.bool true)], args := [d1, d2, d3] }
  | _ => none }
def dateMovesRow : OpenClaim := { program := "ytdjncmcmplnnhaadoor", sum := "38b3c9c0b610166cc010c234bc680dc3e7e6b2f43c652087d50bc07cbdc1a6fe", func := "usance/usancelaw03.DateMoves", spec := "dateMoves", unfollowed := true, recurses := true, named := ["usance/date.monthDays", "math/bits.divideError", "math/bits.overflowError"], apart := false, laid := [("usance/date.monthDays", laid_usance_date_monthDays)] }
def DateMovesSaid : Prop := dateMovesRow.holds Tryd.pinned (OpenSpec.ofChange dateMovesSpec)

/-- ITS FALSE NEIGHBOUR: 'it returns false'. Refute it at one input. -/
def dateMovesWrong : ChangeSpec := { name := "dateMoves", fn := fun _ => fun
  | [d1, d2, d3] => { results := [.lit (.bool false)], args := [d1, d2, d3] }
  | _ => none }
def DateMovesWrongFalsely : Prop := dateMovesRow.holds Tryd.pinned (OpenSpec.ofChange dateMovesWrong)

/-- 'usancelaw03.DateBack': WHATEVER THE INPUT: true; the input reads as it did. -/
def dateBackSpec : ChangeSpec := { name := "dateBack", fn := fun _ => fun
  | [d1, d2] => { results := [.lit (.bool true)], args := [d1, d2] }
  | _ => none }
def dateBackRow : OpenClaim := { program := "ytdjncmcmplnnhaadoor", sum := "38b3c9c0b610166cc010c234bc680dc3e7e6b2f43c652087d50bc07cbdc1a6fe", func := "usance/usancelaw03.DateBack", spec := "dateBack", unfollowed := true, recurses := true, named := ["usance/date.monthDays"], apart := false, laid := [("usance/date.monthDays", laid_usance_date_monthDays)] }
def DateBackSaid : Prop := dateBackRow.holds Tryd.pinned (OpenSpec.ofChange dateBackSpec)

/-- ITS FALSE NEIGHBOUR: 'it returns false'. Refute it at one input. -/
def dateBackWrong : ChangeSpec := { name := "dateBack", fn := fun _ => fun
  | [d1, d2] => { results := [.lit (.bool false)], args := [d1, d2] }
  | _ => none }
def DateBackWrongFalsely : Prop := dateBackRow.holds Tryd.pinned (OpenSpec.ofChange dateBackWrong)

/-- 'usancelaw03.DateSums': WHATEVER THE INPUT: true; the input reads as it did. -/
def dateSumsSpec : ChangeSpec := { name := "dateSums", fn := fun _ => fun
  | [d1, d2, d3] => { results := [.lit (.bool true)], args := [d1, d2, d3] }
  | _ => none }
def dateSumsRow : OpenClaim := { program := "ytdjncmcmplnnhaadoor", sum := "38b3c9c0b610166cc010c234bc680dc3e7e6b2f43c652087d50bc07cbdc1a6fe", func := "usance/usancelaw03.DateSums", spec := "dateSums", unfollowed := true, recurses := true, named := ["usance/date.monthDays", "math/bits.divideError", "math/bits.overflowError"], apart := false, laid := [("usance/date.monthDays", laid_usance_date_monthDays)] }
def DateSumsSaid : Prop := dateSumsRow.holds Tryd.pinned (OpenSpec.ofChange dateSumsSpec)

/-- ITS FALSE NEIGHBOUR: 'it returns false'. Refute it at one input. -/
def dateSumsWrong : ChangeSpec := { name := "dateSums", fn := fun _ => fun
  | [d1, d2, d3] => { results := [.lit (.bool false)], args := [d1, d2, d3] }
  | _ => none }
def DateSumsWrongFalsely : Prop := dateSumsRow.holds Tryd.pinned (OpenSpec.ofChange dateSumsWrong)

/-- 'usancelaw03.DateMonths': WHATEVER THE INPUT: true; the input reads as it did. -/
def dateMonthsSpec : ChangeSpec := { name := "dateMonths", fn := fun _ => fun
  | [d1, d2, d3, d4] => { results := [.lit (.bool true)], args := [d1, d2, d3, d4] }
  | _ => none }
def dateMonthsRow : OpenClaim := { program := "ytdjncmcmplnnhaadoor", sum := "38b3c9c0b610166cc010c234bc680dc3e7e6b2f43c652087d50bc07cbdc1a6fe", func := "usance/usancelaw03.DateMonths", spec := "dateMonths", unfollowed := true, recurses := true, named := ["usance/date.monthDays"], apart := false, laid := [("usance/date.monthDays", laid_usance_date_monthDays)] }
def DateMonthsSaid : Prop := dateMonthsRow.holds Tryd.pinned (OpenSpec.ofChange dateMonthsSpec)

/-- ITS FALSE NEIGHBOUR: 'it returns false'. Refute it at one input. -/
def dateMonthsWrong : ChangeSpec := { name := "dateMonths", fn := fun _ => fun
  | [d1, d2, d3, d4] => { results := [.lit (.bool false)], args := [d1, d2, d3, d4] }
  | _ => none }
def DateMonthsWrongFalsely : Prop := dateMonthsRow.holds Tryd.pinned (OpenSpec.ofChange dateMonthsWrong)

/- THE SECOND FORM. 'bulk': how many values and letters a reading holds, each counted each time it is reached (what is shared counts as often as it is met; a slice's spare places count too). A statement '..UptoSaid' is the law's where the arguments, and the package variables that the reading takes, are together of bulk at most 1048576: NARROWER than '..Said'. Prove '..Said' where nothing that the law and all that it calls make is longer than what came in: it says more and counts as full. Else prove '..UptoSaid'. A law counts once. -/
mutual
def uptoBulk {H : Type} : DataW H → Nat
  | .lit (.string bytes) => bytes.length + 1
  | .lit _ => 1
  | .nil => 1
  | .ptr d => uptoBulk d + 1
  | .slice elems spare => uptoBulkAll elems + uptoBulkAll spare + 1
  | .agg parts => uptoBulkAll parts + 1
  | .iface _ d => uptoBulk d + 1
  | .map entries => uptoBulkEntries entries + 1
  | .held _ => 1
def uptoBulkAll {H : Type} : List (DataW H) → Nat
  | [] => 0
  | d :: r => uptoBulk d + uptoBulkAll r
def uptoBulkEntries {H : Type} : List (Lit × DataW H) → Nat
  | [] => 0
  | x :: r => uptoBulkEntry x + uptoBulkEntries r
def uptoBulkEntry {H : Type} : Lit × DataW H → Nat
  | (.string bytes, d) => bytes.length + uptoBulk d + 1
  | (_, d) => uptoBulk d + 1
 end
def uptoSmall : (H : Type) → List (DataW H) → Bool := fun _ ds => decide (uptoBulkAll ds ≤ 1048576)
def OpenSpec.upto (s : _root_.Go.ChangeSpec) : _root_.Go.OpenSpec := { _root_.Go.OpenSpec.ofChange s with cond := some uptoSmall }

/-- 'usancelaw03.DateDays', WHERE WHAT IT READS IS OF BULK AT MOST 1048576: true; the input reads as it did. -/
def dateDaysUptoRow : OpenClaim := { program := "ytdjncmcmplnnhaadoor", sum := "38b3c9c0b610166cc010c234bc680dc3e7e6b2f43c652087d50bc07cbdc1a6fe", func := "usance/usancelaw03.DateDays", spec := "dateDays", unfollowed := true, recurses := true, named := ["usance/date.monthDays"], apart := false, laid := [("usance/date.monthDays", laid_usance_date_monthDays)], narrowed := true }
def DateDaysUptoSaid : Prop := dateDaysUptoRow.holds Tryd.pinned (OpenSpec.upto dateDaysSpec)

/-- 'usancelaw03.DateTexts', WHERE WHAT IT READS IS OF BULK AT MOST 1048576: true; the input reads as it did. -/
def dateTextsUptoRow : OpenClaim := { program := "ytdjncmcmplnnhaadoor", sum := "38b3c9c0b610166cc010c234bc680dc3e7e6b2f43c652087d50bc07cbdc1a6fe", func := "usance/usancelaw03.DateTexts", spec := "dateTexts", unfollowed := true, recurses := true, named := ["usance/date.monthDays"], apart := false, laid := [("usance/date.monthDays", laid_usance_date_monthDays)], narrowed := true }
def DateTextsUptoSaid : Prop := dateTextsUptoRow.holds Tryd.pinned (OpenSpec.upto dateTextsSpec)

/-- 'usancelaw03.DateMoves', WHERE WHAT IT READS IS OF BULK AT MOST 1048576: true; the input reads as it did. -/
def dateMovesUptoRow : OpenClaim := { program := "ytdjncmcmplnnhaadoor", sum := "38b3c9c0b610166cc010c234bc680dc3e7e6b2f43c652087d50bc07cbdc1a6fe", func := "usance/usancelaw03.DateMoves", spec := "dateMoves", unfollowed := true, recurses := true, named := ["usance/date.monthDays", "math/bits.divideError", "math/bits.overflowError"], apart := false, laid := [("usance/date.monthDays", laid_usance_date_monthDays)], narrowed := true }
def DateMovesUptoSaid : Prop := dateMovesUptoRow.holds Tryd.pinned (OpenSpec.upto dateMovesSpec)

/-- 'usancelaw03.DateBack', WHERE WHAT IT READS IS OF BULK AT MOST 1048576: true; the input reads as it did. -/
def dateBackUptoRow : OpenClaim := { program := "ytdjncmcmplnnhaadoor", sum := "38b3c9c0b610166cc010c234bc680dc3e7e6b2f43c652087d50bc07cbdc1a6fe", func := "usance/usancelaw03.DateBack", spec := "dateBack", unfollowed := true, recurses := true, named := ["usance/date.monthDays"], apart := false, laid := [("usance/date.monthDays", laid_usance_date_monthDays)], narrowed := true }
def DateBackUptoSaid : Prop := dateBackUptoRow.holds Tryd.pinned (OpenSpec.upto dateBackSpec)

/-- 'usancelaw03.DateSums', WHERE WHAT IT READS IS OF BULK AT MOST 1048576: true; the input reads as it did. -/
def dateSumsUptoRow : OpenClaim := { program := "ytdjncmcmplnnhaadoor", sum := "38b3c9c0b610166cc010c234bc680dc3e7e6b2f43c652087d50bc07cbdc1a6fe", func := "usance/usancelaw03.DateSums", spec := "dateSums", unfollowed := true, recurses := true, named := ["usance/date.monthDays", "math/bits.divideError", "math/bits.overflowError"], apart := false, laid := [("usance/date.monthDays", laid_usance_date_monthDays)], narrowed := true }
def DateSumsUptoSaid : Prop := dateSumsUptoRow.holds Tryd.pinned (OpenSpec.upto dateSumsSpec)

/-- 'usancelaw03.DateMonths', WHERE WHAT IT READS IS OF BULK AT MOST 1048576: true; the input reads as it did. -/
def dateMonthsUptoRow : OpenClaim := { program := "ytdjncmcmplnnhaadoor", sum := "38b3c9c0b610166cc010c234bc680dc3e7e6b2f43c652087d50bc07cbdc1a6fe", func := "usance/usancelaw03.DateMonths", spec := "dateMonths", unfollowed := true, recurses := true, named := ["usance/date.monthDays"], apart := false, laid := [("usance/date.monthDays", laid_usance_date_monthDays)], narrowed := true }
def DateMonthsUptoSaid : Prop := dateMonthsUptoRow.holds Tryd.pinned (OpenSpec.upto dateMonthsSpec)

end Rows
end Go.Proofs.YtdjncmcmplnnhaaDoor
