/-
  casematekeep.Rec: whether two records are the same. Conditions: byte strings shorter than 2^20.
-/
import Derived.Test.YtpcadoekhoediaaDoorRcV
namespace Go.Proofs.YtpcadoekhoediaaDoor.lrc
open Go.RowKit Go.Lib
open Go.Proofs.YtpcadoekhoediaaDoor.anc (bl kal kst ks bm ka take_same take_other)
open Go.Proofs.YtpcadoekhoediaaDoor.img

end Go.Proofs.YtpcadoekhoediaaDoor.lrc
