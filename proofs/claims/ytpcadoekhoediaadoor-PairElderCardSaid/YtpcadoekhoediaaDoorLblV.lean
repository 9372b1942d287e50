/-
  The library's two functions answer as their documentation says, where its tables are as its text lays them.
-/
import Derived.Test.YtpcadoekhoediaaDoorGLb
import Derived.Test.YtpcadoekhoediaaDoorShelf
namespace Go.Proofs.YtpcadoekhoediaaDoor.lbl
open Go.RowKit Go.Lib
theorem validOk : ValidOk := fun s w hs hT => Tryd.valid_string s w hs hT.2
end Go.Proofs.YtpcadoekhoediaaDoor.lbl
