/-
  The library's two functions answer as their documentation says, where its tables are as its text lays them.
-/
import Derived.Test.YtmdimngihpbcnaaDoorLblC
import Derived.Test.YtmdimngihpbcnaaDoorShelf
namespace Go.Proofs.YtmdimngihpbcnaaDoor.lbl
open Go.RowKit Go.Lib
theorem validOk : ValidOk := fun s w hs hT => Tryd.valid_string s w hs hT.2
theorem cloneOk : CloneOk := fun s w hs => Tryd.stringslite_Clone s w hs
end Go.Proofs.YtmdimngihpbcnaaDoor.lbl
