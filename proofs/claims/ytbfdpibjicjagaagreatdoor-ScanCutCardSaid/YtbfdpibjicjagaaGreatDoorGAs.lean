/-
  anchor.homeOf: a home out of its numbers. Conditions: rows shorter than 2^20.
  anchor.parse: the anchor that bytes begin with. Conditions: fewer than 2^32 bytes; what label.Read answers is given.
  anchor.parse: the anchor that bytes begin with, where its head and its label are there. Conditions: as before.
  anchor.Read: the anchor of which bytes are the encoding. Conditions: fewer than 2^32 bytes; what label.Read and label.Check answer is given.
-/
import Derived.Test.YtbfdpibjicjagaaGreatDoorGAe
import Derived.Test.YtbfdpibjicjagaaGreatDoorGAi
namespace Go.Proofs.YtbfdpibjicjagaaGreatDoor.anc
open Go.RowKit Go.Lib
open Go.Proofs.YtbfdpibjicjagaaGreatDoor.gmt (Ok five_new check_ok check_no)
end Go.Proofs.YtbfdpibjicjagaaGreatDoor.anc
namespace Go.Proofs.YtbfdpibjicjagaaGreatDoor.anc
open Go.RowKit Go.Lib
open Go.Proofs.YtbfdpibjicjagaaGreatDoor.gmt (Ok five_new check_ok check_no)
open Go.Proofs.YtbfdpibjicjagaaGreatDoor.pck (num unrow Unrowed unrow_any)
open Go.Proofs.YtbfdpibjicjagaaGreatDoor.lbl (encL labE)
end Go.Proofs.YtbfdpibjicjagaaGreatDoor.anc
namespace Go.Proofs.YtbfdpibjicjagaaGreatDoor.anc
open Go.RowKit Go.Lib
open Go.Proofs.YtbfdpibjicjagaaGreatDoor.gmt (Ok five_new check_ok check_no)
open Go.Proofs.YtbfdpibjicjagaaGreatDoor.pck (num unrow Unrowed unrow_any)
open Go.Proofs.YtbfdpibjicjagaaGreatDoor.lbl (encL labE)
end Go.Proofs.YtbfdpibjicjagaaGreatDoor.anc
namespace Go.Proofs.YtbfdpibjicjagaaGreatDoor.anc
open Go.RowKit Go.Lib
open Go.Proofs.YtbfdpibjicjagaaGreatDoor.gmt (Ok five_new check_ok check_no)
open Go.Proofs.YtbfdpibjicjagaaGreatDoor.pck (num)
open Go.Proofs.YtbfdpibjicjagaaGreatDoor.lbl (encL labE)
end Go.Proofs.YtbfdpibjicjagaaGreatDoor.anc
