/-
  Package entry, what both sides stand on: what a reading's sector is, by the document. Conditions: none.
-/
import Derived.Test.YtpcadoekhoediaaDoorGTa
import Derived.Test.YtpcadoekhoediaaDoorGGm
import Derived.Test.YtpcadoekhoediaaDoorGSl
import Derived.Test.YtpcadoekhoediaaDoorNwV
import Derived.Deep.RegionHeld3
import Derived.Deep.QuietTactic
import Derived.BigQuiet
namespace Go.Proofs.YtpcadoekhoediaaDoor.ent
open Go.RowKit Go.Lib
open Go.Proofs.YtpcadoekhoediaaDoor.gmt (Ok)
open Go.Proofs.YtpcadoekhoediaaDoor.anc (bl kal kst ks bm ka)
open Go.Proofs.YtpcadoekhoediaaDoor.sel (Three three_new Lies opened Opn no opened_err ref_seal enc)
open Go.Proofs.YtpcadoekhoediaaDoor.tbl (Ent EntOk entsN TV)

/-- What a reading (an error, bytes) says at an address with a stamp; a block of it; a table of it. -/
def SayB (e : Int) (b : List UInt8) (addr stamp : Int) : Prop := e = 0 ∧ (opened b).err = 0 ∧ ((opened b).addr : Int) = addr ∧ ((opened b).stamp : Int) = stamp
def BlkB (e : Int) (b : List UInt8) (addr stamp sm : Int) : Prop := SayB e b addr stamp ∧ (opened b).load.length = 8 ∧ ((crc.sum (opened b).load : Nat) : Int) = sm
def TabB (d e : Int) (b : List UInt8) (addr root : Int) : Prop := SayB e b addr root ∧ tbl.Told d (opened b).load
/-- What is answered where it is so; else nothing. -/
def part {α : Type} (c : Bool) (l : List α) : List α := if c = true then l else []
theorem part_yes {α : Type} (l : List α) : part true l = l := rfl
theorem part_no {α : Type} (l : List α) : part false l = [] := rfl
/-- What the document's Open answers. -/
def OpR (base : Nat) (r : Opn) (e : Ending) (w' : World) : Prop := ∃ (Y : Option Addr) (y : Nat), e = .returned (.tuple #[.agg #[.int .i64 r.addr, .int .i64 r.stamp, .slice Y r.load.length y], .int .i64 r.err]) ∧ Own w' base 5 (.slice Y r.load.length y) r.load
/-- What a reading's sector is. -/
def SecQ (base : Nat) (r : Opn) (e : Ending) (w' : World) : Prop := ∃ (Y : Option Addr) (y : Nat), e = .returned (.tuple #[.agg #[.int .i64 r.addr, .int .i64 r.stamp, .slice Y r.load.length y], .bool true]) ∧ Own w' base 5 (.slice Y r.load.length y) r.load
def SecNo (e : Ending) : Prop := e = .returned (.tuple #[.agg #[.int .i64 0, .int .i64 0, .slice none 0 0], .bool false])
end Go.Proofs.YtpcadoekhoediaaDoor.ent
