/- The walk of num's Show: every number is written as the plain text says. -/
import Derived.Test.YtehpnhmghfpjpaaDoorShowB
import Derived.Test.YtehpnhmghfpjpaaDoorShowC
namespace Go.Proofs.YtehpnhmghfpjpaaDoor
open Go.RowKit

theorem show_any (a : Int) (w : World) (htab : Lib.TabBelow Tryd.prog w.heap.size w "internal/strconv.uint64pow10" .u64 Lib.pow10Tab) :
    Calls Tryd.prog 26 #[.int .i64 a] w fun e w' => e = .returned (.string ⟨(showL a).toArray⟩) ∧ Below w.heap.size w w' := by
  by_cases h0 : clampI a < 0
  · cases h1 : ((- clampI a) % 1000000 == 0)
    · exact show_nf a w h0 h1 htab
    · exact show_nw a w h0 h1 htab
  · cases h1 : (clampI a % 1000000 == 0)
    · exact show_pf a w (by omega) h1 htab
    · exact show_pw a w (by omega) h1 htab

end Go.Proofs.YtehpnhmghfpjpaaDoor
