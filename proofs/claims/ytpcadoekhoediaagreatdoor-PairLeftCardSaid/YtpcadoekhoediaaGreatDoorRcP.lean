/-
  What the laws of package rec ask of its functions. Conditions: none (a list of conditions, 'Crd').
-/
import Derived.Test.YtpcadoekhoediaaGreatDoorRcV
import Derived.Test.YtpcadoekhoediaaGreatDoorGTa
import Derived.Test.YtpcadoekhoediaaGreatDoorGSl
namespace Go.Proofs.YtpcadoekhoediaaGreatDoor.lrc
open Go.RowKit Go.Lib
open Go.Proofs.YtpcadoekhoediaaGreatDoor.gmt (Ok)
open Go.Proofs.YtpcadoekhoediaaGreatDoor.anc (bl kal kst ks bm ka)
open Go.Proofs.YtpcadoekhoediaaGreatDoor.tbl (C1 c1_new G5 g5_new)
open Go.Proofs.YtpcadoekhoediaaGreatDoor.img

/-- Bytes of one's own; a record read; a row of records as it lies. -/
def BytR (base : Nat) (b : List UInt8) (e : Ending) (w' : World) : Prop := ∃ (X : Option Addr) (c : Nat), e = .returned (.tuple #[.slice X b.length c, .int .i64 0]) ∧ Own w' base 5 (.slice X b.length c) b
def RdR (base : Nat) (r : Rcd) (e : Ending) (w' : World) : Prop := ∃ (X : Option Addr) (c : Nat), e = .returned (.tuple #[.agg #[.int .i64 r.kd, .int .i64 r.sq, .int .i64 r.ep, .int .i64 r.ps, .int .i64 r.nm, .int .i64 r.z, .int .i64 r.wh, .slice X r.l.length c], .int .i64 0]) ∧ Own w' base 5 (.slice X r.l.length c) r.l
def RdNo (v : Int) (e : Ending) : Prop := ∃ (X : Option Addr) (c : Nat), c ≤ maxLen ∧ e = .returned (.tuple #[.agg #[.int .i64 0, .int .i64 0, .int .i64 0, .int .i64 0, .int .i64 0, .int .i64 0, .int .i64 0, .slice X 0 c], .int .i64 v])
def RdWhy (z d s l a : Int) (b : List UInt8) (v : Int) : Prop := (¬ Ok z d s l a ∧ v = 1) ∨ (Ok z d s l a ∧ ¬ RdOk z d b ∧ v = 4)
structure RV where
  A : Option Addr
  c : Nat
  rs : List RcR
structure RV.In (w : World) (B : Nat) (g : RV) : Prop where
  h : SlV w B g.A (rvs g.rs)
  i : RIn w B g.rs
  l : g.rs.length ≤ g.c ∧ g.c ≤ maxLen
section
variable {w w' : World} {B B' : Nat} {g : RV}
theorem RV.In.below (h : RV.In w B g) (hb : Below B w w') : RV.In w' B g := ⟨h.h.below hb, h.i.below hb, h.l⟩
theorem RV.In.more (h : RV.In w B g) (hB : B ≤ B') : RV.In w B' g := ⟨h.h.more hB, h.i.more hB, h.l⟩
theorem RV.In.next (h : RV.In w w.heap.size g) (hb : Below w.heap.size w w') : RV.In w' w'.heap.size g := (h.below hb).more hb.size
end
def NumOk (n : Int) : Prop := 0 ≤ n ∧ n ≤ 4294967295
/-- A transaction's records. -/
def imgR (sq ep : Int) (n : Nat) (ds : List (Int × Int × List UInt8)) (i : Nat) : Rcd :=
  match ds[i]? with
  | some x => ⟨1, sq, ep, i, (n : Int) + 1, x.1, x.2.1, x.2.2⟩
  | none => noRec
def txnR (sq ep : Int) (ds : List (Int × Int × List UInt8)) : List Rcd := (List.range ds.length).map (imgR sq ep ds.length ds) ++ [⟨2, sq, ep, ds.length, (ds.length : Int) + 1, 0, 0, []⟩]
theorem txnR_length (sq ep : Int) (ds : List (Int × Int × List UInt8)) : (txnR sq ep ds).length = ds.length + 1 := by simp [txnR]
def ImsOk (z d : Int) (ds : List (Int × Int × List UInt8)) : Prop := ∀ x ∈ ds, ImOk z d x.1 x.2.1 x.2.2
def TxR (sq ep : Int) (ds : List (Int × Int × List UInt8)) (e : Ending) (w' : World) : Prop := ∃ (A : Option Addr) (c : Nat) (rs : List RcR), e = .returned (.tuple #[.slice A (ds.length + 1 : Nat) c, .int .i64 0]) ∧ rds rs = txnR sq ep ds ∧ RV.In w' w'.heap.size ⟨A, c, rs⟩
def TxWhy (z d s l a sq ep : Int) (ds : List (Int × Int × List UInt8)) (v : Int) : Prop :=
  (¬ Ok z d s l a ∧ v = 1) ∨ (Ok z d s l a ∧ ¬ (NumOk sq ∧ NumOk ep ∧ ImsOk z d ds) ∧ v = 1) ∨ (Ok z d s l a ∧ (NumOk sq ∧ NumOk ep ∧ ImsOk z d ds) ∧ ¬ (1 ≤ ds.length ∧ ds.length ≤ 29) ∧ v = 2)
def SlotOk (l cp sl : Int) : Prop := (cp = 0 ∨ cp = 1) ∧ 0 ≤ sl ∧ sl ≤ l - 1
def cellN (l a cp sl : Int) : Nat := (a + cp * l + sl).toNat
end Go.Proofs.YtpcadoekhoediaaGreatDoor.lrc
