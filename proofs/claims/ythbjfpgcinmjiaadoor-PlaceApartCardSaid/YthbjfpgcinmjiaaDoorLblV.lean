/-
  The library's two functions answer as their documentation says, where its tables are as its text lays them.
-/
import Derived.Test.YthbjfpgcinmjiaaDoorGLb
import Derived.Test.YthbjfpgcinmjiaaDoorShelf
namespace Go.Proofs.YthbjfpgcinmjiaaDoor.lbl
open Go.RowKit Go.Lib
theorem validOk : ValidOk := fun s w hs hT => Tryd.valid_string s w hs hT.2
theorem cloneOk : CloneOk := fun s w hs => Tryd.stringslite_Clone s w hs
end Go.Proofs.YthbjfpgcinmjiaaDoor.lbl
