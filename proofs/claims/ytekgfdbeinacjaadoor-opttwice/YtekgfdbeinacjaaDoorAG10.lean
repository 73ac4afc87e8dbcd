/- texts put together: DRefB -/
import Derived.Test.YtekgfdbeinacjaaDoorAG8
import Derived.Test.YtekgfdbeinacjaaDoorAG9
import Derived.Test.YtekgfdbeinacjaaDoorAG2
namespace Go.Proofs.YtekgfdbeinacjaaDoor
open Go Go.RowKit

end Go.Proofs.YtekgfdbeinacjaaDoor
