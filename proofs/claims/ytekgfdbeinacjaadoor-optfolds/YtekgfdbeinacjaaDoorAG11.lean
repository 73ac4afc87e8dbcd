/- texts put together: DRefB -/
import Derived.Test.YtekgfdbeinacjaaDoorAG9
import Derived.Test.YtekgfdbeinacjaaDoorAG10
import Derived.Test.YtekgfdbeinacjaaDoorAG1
namespace Go.Proofs.YtekgfdbeinacjaaDoor
open Go Go.RowKit

end Go.Proofs.YtekgfdbeinacjaaDoor
