/- texts put together: DRef -/
import Derived.Test.YtekgfdbeinacjaaDoorAG8
namespace Go.Proofs.YtekgfdbeinacjaaDoor
open Go Go.RowKit



end Go.Proofs.YtekgfdbeinacjaaDoor
