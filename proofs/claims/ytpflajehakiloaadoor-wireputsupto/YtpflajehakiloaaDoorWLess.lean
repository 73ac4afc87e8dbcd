/- The walk of the laws' own 'less'. -/
import Derived.Test.YtpflajehakiloaaDoorWShown
namespace Go.Proofs.YtpflajehakiloaaDoor
open Go Go.RowKit

def lessI (a b : Bool) : Int := if a then -1 else if b then 1 else 0

set_option maxHeartbeats 400000 in
theorem less_any (a b : Bool) (w : World) :
    Calls Tryd.prog 30 #[.bool a, .bool b] w fun e w' => e = .returned (.int .i64 (lessI a b)) ∧ w' = w := by
  cases a <;> cases b <;>
  · go_enter Tryd.func30, Tryd.ntmps30
    go_wp2
    go_ret
    exact ⟨rfl, rfl⟩
end Go.Proofs.YtpflajehakiloaaDoor
