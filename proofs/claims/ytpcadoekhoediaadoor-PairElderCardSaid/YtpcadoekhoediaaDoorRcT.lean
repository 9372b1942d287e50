/-
  The document's own answer: is a record right (Rec). Conditions: a right geometry.
-/
import Derived.Test.YtpcadoekhoediaaDoorRcS
namespace Go.Proofs.YtpcadoekhoediaaDoor.lrc
open Go.RowKit Go.Lib
open Go.Proofs.YtpcadoekhoediaaDoor.gmt (Ok)
open Go.Proofs.YtpcadoekhoediaaDoor.anc (bl kal kst ks bm ka)
open Go.Proofs.YtpcadoekhoediaaDoor.tbl (C1 c1_new G5 g5_new)
open Go.Proofs.YtpcadoekhoediaaDoor.img

end Go.Proofs.YtpcadoekhoediaaDoor.lrc
