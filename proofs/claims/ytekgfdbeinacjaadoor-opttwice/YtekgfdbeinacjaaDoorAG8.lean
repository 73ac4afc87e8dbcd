/- texts put together: DRef -/
import Derived.Test.YtekgfdbeinacjaaDoorAG7
namespace Go.Proofs.YtekgfdbeinacjaaDoor
open Go Go.RowKit



end Go.Proofs.YtekgfdbeinacjaaDoor
