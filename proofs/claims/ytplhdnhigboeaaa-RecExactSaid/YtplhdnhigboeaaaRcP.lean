/-
  What the laws of package rec ask of its functions. Conditions: none (a list of conditions, 'Crd').
-/
import Derived.Test.YtplhdnhigboeaaaRcV
import Derived.Test.YtplhdnhigboeaaaGTa
import Derived.Test.YtplhdnhigboeaaaGSl
namespace Go.Proofs.Ytplhdnhigboeaaa.lrc
open Go.RowKit Go.Lib
open Go.Proofs.Ytplhdnhigboeaaa.gmt (Ok)
open Go.Proofs.Ytplhdnhigboeaaa.anc (bl kal kst ks bm ka)
open Go.Proofs.Ytplhdnhigboeaaa.tbl (C1 c1_new G5 g5_new)
open Go.Proofs.Ytplhdnhigboeaaa.img

/-- Bytes of one's own; a record read; a row of records as it lies. -/
def BytR (base : Nat) (b : List UInt8) (e : Ending) (w' : World) : Prop := ∃ (X : Option Addr) (c : Nat), e = .returned (.tuple #[.slice X b.length c, .int .i64 0]) ∧ Own w' base 5 (.slice X b.length c) b
def RdR (base : Nat) (r : Rcd) (e : Ending) (w' : World) : Prop := ∃ (X : Option Addr) (c : Nat), e = .returned (.tuple #[.agg #[.int .i64 r.kd, .int .i64 r.sq, .int .i64 r.ep, .int .i64 r.ps, .int .i64 r.nm, .int .i64 r.z, .int .i64 r.wh, .slice X r.l.length c], .int .i64 0]) ∧ Own w' base 5 (.slice X r.l.length c) r.l
def RdNo (v : Int) (e : Ending) : Prop := ∃ (X : Option Addr) (c : Nat), c ≤ maxLen ∧ e = .returned (.tuple #[.agg #[.int .i64 0, .int .i64 0, .int .i64 0, .int .i64 0, .int .i64 0, .int .i64 0, .int .i64 0, .slice X 0 c], .int .i64 v])
def RdWhy (z d s l a : Int) (b : List UInt8) (v : Int) : Prop := (¬ Ok z d s l a ∧ v = 1) ∨ (Ok z d s l a ∧ ¬ RdOk z d b ∧ v = 4)
structure RV where
  A : Option Addr
  c : Nat
  rs : List RcR
structure RV.In (w : World) (B : Nat) (g : RV) : Prop where
  h : SlV w B g.A (rvs g.rs)
  i : RIn w B g.rs
  l : g.rs.length ≤ g.c ∧ g.c ≤ maxLen
section
variable {w w' : World} {B B' : Nat} {g : RV}
theorem RV.In.below (h : RV.In w B g) (hb : Below B w w') : RV.In w' B g := ⟨h.h.below hb, h.i.below hb, h.l⟩
theorem RV.In.more (h : RV.In w B g) (hB : B ≤ B') : RV.In w B' g := ⟨h.h.more hB, h.i.more hB, h.l⟩
theorem RV.In.next (h : RV.In w w.heap.size g) (hb : Below w.heap.size w w') : RV.In w' w'.heap.size g := (h.below hb).more hb.size
end
def NumOk (n : Int) : Prop := 0 ≤ n ∧ n ≤ 4294967295
/-- A transaction's records. -/
def imgR (sq ep : Int) (n : Nat) (ds : List (Int × Int × List UInt8)) (i : Nat) : Rcd :=
  match ds[i]? with
  | some x => ⟨1, sq, ep, i, (n : Int) + 1, x.1, x.2.1, x.2.2⟩
  | none => noRec
def txnR (sq ep : Int) (ds : List (Int × Int × List UInt8)) : List Rcd := (List.range ds.length).map (imgR sq ep ds.length ds) ++ [⟨2, sq, ep, ds.length, (ds.length : Int) + 1, 0, 0, []⟩]
theorem txnR_length (sq ep : Int) (ds : List (Int × Int × List UInt8)) : (txnR sq ep ds).length = ds.length + 1 := by simp [txnR]
def ImsOk (z d : Int) (ds : List (Int × Int × List UInt8)) : Prop := ∀ x ∈ ds, ImOk z d x.1 x.2.1 x.2.2
def TxR (sq ep : Int) (ds : List (Int × Int × List UInt8)) (e : Ending) (w' : World) : Prop := ∃ (A : Option Addr) (c : Nat) (rs : List RcR), e = .returned (.tuple #[.slice A (ds.length + 1 : Nat) c, .int .i64 0]) ∧ rds rs = txnR sq ep ds ∧ RV.In w' w'.heap.size ⟨A, c, rs⟩
def TxWhy (z d s l a sq ep : Int) (ds : List (Int × Int × List UInt8)) (v : Int) : Prop :=
  (¬ Ok z d s l a ∧ v = 1) ∨ (Ok z d s l a ∧ ¬ (NumOk sq ∧ NumOk ep ∧ ImsOk z d ds) ∧ v = 1) ∨ (Ok z d s l a ∧ (NumOk sq ∧ NumOk ep ∧ ImsOk z d ds) ∧ ¬ (1 ≤ ds.length ∧ ds.length ≤ 29) ∧ v = 2)
def SlotOk (l cp sl : Int) : Prop := (cp = 0 ∨ cp = 1) ∧ 0 ≤ sl ∧ sl ≤ l - 1
def cellN (l a cp sl : Int) : Nat := (a + cp * l + sl).toNat
/-- What is asked of package rec, in every world behind w. -/
structure Crd (w : World) : Prop where
  check : ∀ (c : Bool) (z d s l a : Int) (r : RcR) (n : Nat) (W : World), Below w.heap.size w W → BIn W W.heap.size r.i → r.i.l.length = n → n ≤ 1048576 → (c = true ↔ Ok z d s l a ∧ RecOk z d r.d) → Calls Try.prog 17 #[.agg #[.int .i64 z, .int .i64 d, .int .i64 s, .int .i64 l, .int .i64 a], .agg #[.int .i64 r.kd, .int .i64 r.sq, .int .i64 r.ep, .int .i64 r.ps, .int .i64 r.nm, .int .i64 r.i.z, .int .i64 r.i.wh, .slice r.i.A n r.i.c]] W fun e w' => e = .returned (.int .i64 (if c = true then 0 else 1)) ∧ Below W.heap.size W w'
  image : ∀ (c : Bool) (z d s l a : Int) (x : ImR) (n : Nat) (W : World), Below w.heap.size w W → BIn W W.heap.size x → x.l.length = n → n ≤ 1048576 → (c = true ↔ Ok z d s l a ∧ ImOk z d x.z x.wh x.l) → Calls Try.prog 18 #[.agg #[.int .i64 z, .int .i64 d, .int .i64 s, .int .i64 l, .int .i64 a], .agg #[.int .i64 x.z, .int .i64 x.wh, .slice x.A n x.c]] W fun e w' => e = .returned (.int .i64 (if c = true then 0 else 1)) ∧ Below W.heap.size W w'
  bytes : ∀ (z d s l a : Int) (r : RcR) (n : Nat) (W : World), Below w.heap.size w W → Ok z d s l a → BIn W W.heap.size r.i → r.i.l.length = n → RecOk z d r.d → Calls Try.prog 11 #[.agg #[.int .i64 z, .int .i64 d, .int .i64 s, .int .i64 l, .int .i64 a], .agg #[.int .i64 r.kd, .int .i64 r.sq, .int .i64 r.ep, .int .i64 r.ps, .int .i64 r.nm, .int .i64 r.i.z, .int .i64 r.i.wh, .slice r.i.A n r.i.c]] W fun e w' => BytR W.heap.size (encR r.d) e w' ∧ Below W.heap.size W w'
  bytes_no : ∀ (z d s l a : Int) (r : RcR) (n : Nat) (W : World), Below w.heap.size w W → ¬ (Ok z d s l a ∧ RecOk z d r.d) → BIn W W.heap.size r.i → r.i.l.length = n → n ≤ 1048576 → Calls Try.prog 11 #[.agg #[.int .i64 z, .int .i64 d, .int .i64 s, .int .i64 l, .int .i64 a], .agg #[.int .i64 r.kd, .int .i64 r.sq, .int .i64 r.ep, .int .i64 r.ps, .int .i64 r.nm, .int .i64 r.i.z, .int .i64 r.i.wh, .slice r.i.A n r.i.c]] W fun e w' => tbl.NonE 1 e ∧ Below W.heap.size W w'
  read : ∀ (z d s l a : Int) (A : Option Addr) (n c : Nat) (b : List UInt8) (W : World), Below w.heap.size w W → Ok z d s l a → b.length = n → n ≤ c → c ≤ maxLen → n ≤ 1048576 → Sl W W.heap.size A b → RdOk z d b → Calls Try.prog 12 #[.agg #[.int .i64 z, .int .i64 d, .int .i64 s, .int .i64 l, .int .i64 a], .slice A n c] W fun e w' => RdR W.heap.size (recN b) e w' ∧ Below W.heap.size W w'
  read_no : ∀ (v : Int) (z d s l a : Int) (A : Option Addr) (n c : Nat) (b : List UInt8) (W : World), Below w.heap.size w W → RdWhy z d s l a b v → b.length = n → n ≤ c → c ≤ maxLen → n ≤ 1048576 → Sl W W.heap.size A b → Calls Try.prog 12 #[.agg #[.int .i64 z, .int .i64 d, .int .i64 s, .int .i64 l, .int .i64 a], .slice A n c] W fun e w' => RdNo v e ∧ Below W.heap.size W w'
  txn : ∀ (z d s l a : Int) (sq ep : Int) (g : IV) (n : Nat) (W : World), Below w.heap.size w W → Ok z d s l a → NumOk sq → NumOk ep → g.In W W.heap.size → g.rs.length = n → ImsOk z d (ids g.rs) → 1 ≤ n ∧ n ≤ 29 → Calls Try.prog 13 #[.agg #[.int .i64 z, .int .i64 d, .int .i64 s, .int .i64 l, .int .i64 a], .int .i64 sq, .int .i64 ep, .slice g.A n g.c] W fun e w' => TxR sq ep (ids g.rs) e w' ∧ Below W.heap.size W w'
  txn_no : ∀ (v : Int) (z d s l a : Int) (sq ep : Int) (g : IV) (n : Nat) (W : World), Below w.heap.size w W → TxWhy z d s l a sq ep (ids g.rs) v → g.In W W.heap.size → g.rs.length = n → n ≤ 1048576 → (∀ x ∈ ids g.rs, x.2.2.length ≤ 1048576) → Calls Try.prog 13 #[.agg #[.int .i64 z, .int .i64 d, .int .i64 s, .int .i64 l, .int .i64 a], .int .i64 sq, .int .i64 ep, .slice g.A n g.c] W fun e w' => tbl.NonE v e ∧ Below W.heap.size W w'
  cell : ∀ (z d s l a : Int) (cp sl : Int) (r : RcR) (n : Nat) (W : World), Below w.heap.size w W → Ok z d s l a → BIn W W.heap.size r.i → r.i.l.length = n → RecOk z d r.d → SlotOk l cp sl → Calls Try.prog 14 #[.agg #[.int .i64 z, .int .i64 d, .int .i64 s, .int .i64 l, .int .i64 a], .agg #[.int .i64 r.kd, .int .i64 r.sq, .int .i64 r.ep, .int .i64 r.ps, .int .i64 r.nm, .int .i64 r.i.z, .int .i64 r.i.wh, .slice r.i.A n r.i.c], .int .i64 cp, .int .i64 sl] W fun e w' => BytR W.heap.size (sel.enc (cellN l a cp sl) r.sq.toNat (encR r.d)) e w' ∧ Below W.heap.size W w'
  cell_no : ∀ (z d s l a : Int) (cp sl : Int) (r : RcR) (n : Nat) (W : World), Below w.heap.size w W → ¬ ((Ok z d s l a ∧ RecOk z d r.d) ∧ SlotOk l cp sl) → BIn W W.heap.size r.i → r.i.l.length = n → n ≤ 1048576 → Calls Try.prog 14 #[.agg #[.int .i64 z, .int .i64 d, .int .i64 s, .int .i64 l, .int .i64 a], .agg #[.int .i64 r.kd, .int .i64 r.sq, .int .i64 r.ep, .int .i64 r.ps, .int .i64 r.nm, .int .i64 r.i.z, .int .i64 r.i.wh, .slice r.i.A n r.i.c], .int .i64 cp, .int .i64 sl] W fun e w' => tbl.NonE 1 e ∧ Below W.heap.size W w'
theorem Crd.next {w w' : World} (k : Crd w) (hb : Below w.heap.size w w') : Crd w' where
  check := fun c z d s l a r n W hW => k.check c z d s l a r n W (bt hb hW)
  image := fun c z d s l a x n W hW => k.image c z d s l a x n W (bt hb hW)
  bytes := fun z d s l a r n W hW => k.bytes z d s l a r n W (bt hb hW)
  bytes_no := fun z d s l a r n W hW => k.bytes_no z d s l a r n W (bt hb hW)
  read := fun z d s l a A n c b W hW => k.read z d s l a A n c b W (bt hb hW)
  read_no := fun v z d s l a A n c b W hW => k.read_no v z d s l a A n c b W (bt hb hW)
  txn := fun z d s l a sq ep g n W hW => k.txn z d s l a sq ep g n W (bt hb hW)
  txn_no := fun v z d s l a sq ep g n W hW => k.txn_no v z d s l a sq ep g n W (bt hb hW)
  cell := fun z d s l a cp sl r n W hW => k.cell z d s l a cp sl r n W (bt hb hW)
  cell_no := fun z d s l a cp sl r n W hW => k.cell_no z d s l a cp sl r n W (bt hb hW)
end Go.Proofs.Ytplhdnhigboeaaa.lrc
