/-
  Package entry, what both sides stand on: what a reading's sector is, by the document. Conditions: none.
-/
import Derived.Test.YtbfdpibjicjagaaGreatDoorGTa
import Derived.Test.YtbfdpibjicjagaaGreatDoorGGm
import Derived.Test.YtbfdpibjicjagaaGreatDoorGSl
import Derived.Test.YtbfdpibjicjagaaGreatDoorGNw
import Derived.Deep.RegionHeld3
import Derived.Deep.QuietTactic
import Derived.BigQuiet
namespace Go.Proofs.YtbfdpibjicjagaaGreatDoor.ent
open Go.RowKit Go.Lib
open Go.Proofs.YtbfdpibjicjagaaGreatDoor.gmt (Ok)
open Go.Proofs.YtbfdpibjicjagaaGreatDoor.anc (bl kal kst ks bm ka)
open Go.Proofs.YtbfdpibjicjagaaGreatDoor.sel (Three three_new Lies opened Opn no enc)
open Go.Proofs.YtbfdpibjicjagaaGreatDoor.tbl (Ent EntOk entsN TV)
def SayB (e : Int) (b : List UInt8) (addr stamp : Int) : Prop := e = 0 ∧ (opened b).err = 0 ∧ ((opened b).addr : Int) = addr ∧ ((opened b).stamp : Int) = stamp
def OpR (base : Nat) (r : Opn) (e : Ending) (w' : World) : Prop := ∃ (Y : Option Addr) (y : Nat), e = .returned (.tuple #[.agg #[.int .i64 r.addr, .int .i64 r.stamp, .slice Y r.load.length y], .int .i64 r.err]) ∧ Own w' base 5 (.slice Y r.load.length y) r.load
end Go.Proofs.YtbfdpibjicjagaaGreatDoor.ent
