/-
  For every input the law PairOthers returns true, and its arguments read afterwards as they read before; what package-level variables the row lists is tied to the program's text. No other condition.
-/
import Derived.Test.YtpcadoekhoediaaDoorPrLA
import Derived.Test.YtpcadoekhoediaaDoorLblRow
import Derived.Test.YtpcadoekhoediaaDoorOpen
import Derived.Test.YtpcadoekhoediaaDoorGPy
import Derived.Test.YtpcadoekhoediaaDoorGPo
import Derived.Test.YtpcadoekhoediaaDoorLblV
import Derived.Test.YtpcadoekhoediaaDoorGeo
import Derived.Test.YtpcadoekhoediaaDoorAnArg
namespace Go.Proofs.YtpcadoekhoediaaDoor.pairOthers
open Go.ChangeShapes Go.WideShapes Go.ChangeAt Go.RowKit Go.Lib
open Go.ChangeMaps (open_string shut_string)
open lbl

end Go.Proofs.YtpcadoekhoediaaDoor.pairOthers
