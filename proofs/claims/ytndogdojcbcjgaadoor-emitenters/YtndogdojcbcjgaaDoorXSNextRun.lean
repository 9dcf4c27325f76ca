/- Contracts of the document's Nexted (package tierlineref) where nothing is refused. -/
import Derived.Test.YtndogdojcbcjgaaDoorXSNextRef
import Derived.Test.YtndogdojcbcjgaaDoorXStepd
import Derived.Test.YtndogdojcbcjgaaDoorGroupW
namespace Go.Proofs.YtndogdojcbcjgaaDoor
open Go Go.RowKit

end Go.Proofs.YtndogdojcbcjgaaDoor
