/-
  The law RecExact: what is known of its memory, and what each function answers, right or wrong in one way. Conditions: 'Crd'.
-/
import Derived.Test.YtplhdnhigboeaaaRcQ
import Derived.Test.YtplhdnhigboeaaaRcI
import Derived.Test.YtplhdnhigboeaaaRcTI
import Derived.Test.YtplhdnhigboeaaaRcR
import Derived.Test.YtplhdnhigboeaaaRcW
import Derived.Test.YtplhdnhigboeaaaRcO
import Derived.Test.YtplhdnhigboeaaaRcLD
import Derived.Test.YtplhdnhigboeaaaGGm
namespace Go.Proofs.Ytplhdnhigboeaaa.lrc
open Go.RowKit Go.Lib
open Go.Proofs.Ytplhdnhigboeaaa.gmt (Ok)
open Go.Proofs.Ytplhdnhigboeaaa.anc (bl kal kst ks bm ka)
open Go.Proofs.Ytplhdnhigboeaaa.tbl (C1 c1_new G5 g5_new)
open Go.Proofs.Ytplhdnhigboeaaa.img

/-- A geometry's box, a record's behind it; images; bytes. -/
structure ExS (z d s l a : Int) (r : RcR) (n : Nat) (v : IV) (bA : Option Addr) (b : List UInt8) (g : Nat) (W : World) : Prop where
  gg : G5 W g z d s l a
  rr : C8 W (g + 1) (.int .i64 r.kd) (.int .i64 r.sq) (.int .i64 r.ep) (.int .i64 r.ps) (.int .i64 r.nm) (.int .i64 r.i.z) (.int .i64 r.i.wh) (.slice r.i.A n r.i.c)
  lg : g + 1 < W.heap.size
  ri : BIn W W.heap.size r.i
  im : v.In W W.heap.size
  bb : Sl W W.heap.size bA b
theorem ExS.next {z d s l a : Int} {r : RcR} {n : Nat} {v : IV} {bA : Option Addr} {b : List UInt8} {g : Nat} {W W' : World} (h : ExS z d s l a r n v bA b g W) (hb : Below W.heap.size W W') : ExS z d s l a r n v bA b g W' :=
  ⟨h.gg.keep hb (by have := h.lg; omega), h.rr.keep hb h.lg, Nat.lt_of_lt_of_le h.lg hb.size, h.ri.next hb, h.im.next hb, h.bb.next hb⟩
/-- What was answered: images of one's own, bytes, a record in a box, records, a cell, a record of noughts in a box. -/
structure ExT (iv : IV) (X : Option Addr) (xl : List UInt8) (gy : Nat) (y : RcR) (k : Nat) (tA : Option Addr) (ts : List RcR) (cA : Option Addr) (cl : List UInt8) (gn : Nat) (W : World) : Prop where
  ii : iv.In W W.heap.size
  xx : Sl W W.heap.size X xl
  yy : C8 W gy (.int .i64 y.kd) (.int .i64 y.sq) (.int .i64 y.ep) (.int .i64 y.ps) (.int .i64 y.nm) (.int .i64 y.i.z) (.int .i64 y.i.wh) (.slice y.i.A k y.i.c)
  ly : gy < W.heap.size
  yi : BIn W W.heap.size y.i
  tt : SlV W W.heap.size tA (rvs ts)
  ti : RIn W W.heap.size ts
  cc : Sl W W.heap.size cA cl
  nn : C8 W gn (.int .i64 0) (.int .i64 0) (.int .i64 0) (.int .i64 0) (.int .i64 0) (.int .i64 0) (.int .i64 0) (.slice none 0 0)
  ln : gn < W.heap.size
theorem ExT.next {iv : IV} {X : Option Addr} {xl : List UInt8} {gy : Nat} {y : RcR} {k : Nat} {tA : Option Addr} {ts : List RcR} {cA : Option Addr} {cl : List UInt8} {gn : Nat} {W W' : World} (h : ExT iv X xl gy y k tA ts cA cl gn W) (hb : Below W.heap.size W W') : ExT iv X xl gy y k tA ts cA cl gn W' :=
  ⟨h.ii.next hb, h.xx.next hb, h.yy.keep hb h.ly, Nat.lt_of_lt_of_le h.ly hb.size, h.yi.next hb, h.tt.next hb, h.ti.next hb, h.cc.next hb, h.nn.keep hb h.ln, Nat.lt_of_lt_of_le h.ln hb.size⟩
section
variable {w : World}
def BytX (z d s l a : Int) (r : RcR) (E : Int) (xl : List UInt8) : Prop := (E = 0 ∧ (Ok z d s l a ∧ RecOk z d r.d) ∧ xl = encR r.d) ∨ (E = 1 ∧ ¬ (Ok z d s l a ∧ RecOk z d r.d) ∧ xl = [])
theorem bytes_ex (z d s l a : Int) (r : RcR) (n : Nat) (hc : Crd w) (hn : r.i.l.length = n) (hn1 : n ≤ 1048576) :
    ∃ (E : Int) (xl : List UInt8), BytX z d s l a r E xl ∧ ∀ W, Below w.heap.size w W → BIn W W.heap.size r.i → Calls Try.prog 11 #[.agg #[.int .i64 z, .int .i64 d, .int .i64 s, .int .i64 l, .int .i64 a], .agg #[.int .i64 r.kd, .int .i64 r.sq, .int .i64 r.ep, .int .i64 r.ps, .int .i64 r.nm, .int .i64 r.i.z, .int .i64 r.i.wh, .slice r.i.A n r.i.c]] W fun e w' => (∃ (X : Option Addr) (x : Nat), e = .returned (.tuple #[.slice X xl.length x, .int .i64 E]) ∧ Sl w' w'.heap.size X xl) ∧ Below W.heap.size W w' := by
  by_cases h : Ok z d s l a ∧ RecOk z d r.d
  · refine ⟨0, encR r.d, .inl ⟨rfl, h, rfl⟩, fun W hW hx => (hc.bytes z d s l a r n W hW h.1 hx hn h.2).mono ?_⟩
    rintro e w' ⟨⟨X, x, rfl, ho⟩, hb⟩
    exact ⟨⟨X, x, rfl, (own_bytes ho).2.2.2⟩, hb⟩
  · refine ⟨1, [], .inr ⟨rfl, h, rfl⟩, fun W hW hx => (hc.bytes_no z d s l a r n W hW h hx hn hn1).mono ?_⟩
    rintro e w' ⟨⟨X, x, rfl⟩, hb⟩
    exact ⟨⟨X, x, rfl, Sl.nil _ _ _⟩, hb⟩
def RdX (z d s l a : Int) (b : List UInt8) (F : Int) (D : Rcd) : Prop := (F = 0 ∧ (Ok z d s l a ∧ RdOk z d b) ∧ D = recN b) ∨ (RdWhy z d s l a b F ∧ D = noRec)
theorem read_ex (z d s l a : Int) (A : Option Addr) (q c : Nat) (b : List UInt8) (hc : Crd w) (hq : b.length = q) (h1 : q ≤ c) (h2 : c ≤ maxLen) (hq1 : q ≤ 1048576) :
    ∃ (F : Int) (D : Rcd), RdX z d s l a b F D ∧ ∀ W, Below w.heap.size w W → Sl W W.heap.size A b → Calls Try.prog 12 #[.agg #[.int .i64 z, .int .i64 d, .int .i64 s, .int .i64 l, .int .i64 a], .slice A q c] W fun e w' => (∃ (y : RcR) (k : Nat), e = .returned (.tuple #[.agg #[.int .i64 y.kd, .int .i64 y.sq, .int .i64 y.ep, .int .i64 y.ps, .int .i64 y.nm, .int .i64 y.i.z, .int .i64 y.i.wh, .slice y.i.A k y.i.c], .int .i64 F]) ∧ y.i.l.length = k ∧ k ≤ 1048576 ∧ y.d = D ∧ BIn w' w'.heap.size y.i) ∧ Below W.heap.size W w' := by
  by_cases ho : Ok z d s l a
  · by_cases hr : RdOk z d b
    · refine ⟨0, recN b, .inl ⟨rfl, ⟨ho, hr⟩, rfl⟩, fun W hW hx => (hc.read z d s l a A q c b W hW ho hq h1 h2 hq1 hx hr).mono ?_⟩
      rintro e w' ⟨⟨X, x, rfl, hown⟩, hb⟩
      have hl := (recOk_len hr.2 ho.2.1).1
      exact ⟨⟨⟨_, _, _, _, _, ⟨_, _, X, x, (recN b).l⟩⟩, _, rfl, rfl, Nat.le_trans hl (by decide), rfl, own_bin hown _ _⟩, hb⟩
    · refine ⟨4, noRec, .inr ⟨.inr ⟨ho, hr, rfl⟩, rfl⟩, fun W hW hx => (hc.read_no 4 z d s l a A q c b W hW (.inr ⟨ho, hr, rfl⟩) hq h1 h2 hq1 hx).mono ?_⟩
      rintro e w' ⟨⟨X, x, hx1, rfl⟩, hb⟩
      exact ⟨⟨⟨0, 0, 0, 0, 0, ⟨0, 0, X, x, []⟩⟩, 0, rfl, rfl, Nat.zero_le _, rfl, ⟨Sl.nil _ _ _, Nat.zero_le _, hx1⟩⟩, hb⟩
  · refine ⟨1, noRec, .inr ⟨.inl ⟨ho, rfl⟩, rfl⟩, fun W hW hx => (hc.read_no 1 z d s l a A q c b W hW (.inl ⟨ho, rfl⟩) hq h1 h2 hq1 hx).mono ?_⟩
    rintro e w' ⟨⟨X, x, hx1, rfl⟩, hb⟩
    exact ⟨⟨⟨0, 0, 0, 0, 0, ⟨0, 0, X, x, []⟩⟩, 0, rfl, rfl, Nat.zero_le _, rfl, ⟨Sl.nil _ _ _, Nat.zero_le _, hx1⟩⟩, hb⟩
def TxX (z d s l a sq ep : Int) (ds : List (Int × Int × List UInt8)) (H : Int) (rs : List Rcd) : Prop := (H = 0 ∧ Ok z d s l a ∧ (NumOk sq ∧ NumOk ep ∧ ImsOk z d ds) ∧ (1 ≤ ds.length ∧ ds.length ≤ 29) ∧ rs = txnR sq ep ds) ∨ (TxWhy z d s l a sq ep ds H ∧ rs = [])
theorem txn_ex (z d s l a sq ep : Int) (ds : List (Int × Int × List UInt8)) (m : Nat) (hc : Crd w) (hm : ds.length = m) (hm1 : m ≤ 1048576) (hs : ∀ x ∈ ds, x.2.2.length ≤ 1048576) :
    ∃ (H : Int) (rs : List Rcd), TxX z d s l a sq ep ds H rs ∧ ∀ W (g : IV), Below w.heap.size w W → g.In W W.heap.size → ids g.rs = ds → Calls Try.prog 13 #[.agg #[.int .i64 z, .int .i64 d, .int .i64 s, .int .i64 l, .int .i64 a], .int .i64 sq, .int .i64 ep, .slice g.A m g.c] W fun e w' => (∃ (A : Option Addr) (c : Nat) (ts : List RcR), e = .returned (.tuple #[.slice A ts.length c, .int .i64 H]) ∧ rds ts = rs ∧ SlV w' w'.heap.size A (rvs ts) ∧ RIn w' w'.heap.size ts) ∧ Below W.heap.size W w' := by
  have no : ∀ v, TxWhy z d s l a sq ep ds v → ∃ (H : Int) (rs : List Rcd), TxX z d s l a sq ep ds H rs ∧ ∀ W (g : IV), Below w.heap.size w W → g.In W W.heap.size → ids g.rs = ds → Calls Try.prog 13 #[.agg #[.int .i64 z, .int .i64 d, .int .i64 s, .int .i64 l, .int .i64 a], .int .i64 sq, .int .i64 ep, .slice g.A m g.c] W fun e w' => (∃ (A : Option Addr) (c : Nat) (ts : List RcR), e = .returned (.tuple #[.slice A ts.length c, .int .i64 H]) ∧ rds ts = rs ∧ SlV w' w'.heap.size A (rvs ts) ∧ RIn w' w'.heap.size ts) ∧ Below W.heap.size W w' := fun v hv => by
    refine ⟨v, [], .inr ⟨hv, rfl⟩, fun W g hW hg hid => (hc.txn_no v z d s l a sq ep g m W hW (by rw [hid]; exact hv) hg (by rw [← ids_length, hid, hm]) hm1 (by rw [hid]; exact hs)).mono ?_⟩
    rintro e w' ⟨⟨X, x, rfl⟩, hb⟩
    exact ⟨⟨X, x, [], rfl, rfl, SlV.nil _ _ _, RIn.nil _ _⟩, hb⟩
  by_cases ho : Ok z d s l a
  · by_cases h1 : NumOk sq ∧ NumOk ep ∧ ImsOk z d ds
    · by_cases h2 : 1 ≤ ds.length ∧ ds.length ≤ 29
      · refine ⟨0, txnR sq ep ds, .inl ⟨rfl, ho, h1, h2, rfl⟩, fun W g hW hg hid => (hc.txn z d s l a sq ep g m W hW ho h1.1 h1.2.1 hg (by rw [← ids_length, hid, hm]) (by rw [hid]; exact h1.2.2) (by omega)).mono ?_⟩
        rintro e w' ⟨⟨A, c, ts, rfl, hts, hin⟩, hb⟩
        have hl : ts.length = (ids g.rs).length + 1 := by rw [← rds_length, hts, txnR_length]
        exact ⟨⟨A, c, ts, by rw [hl], by rw [hts, hid], hin.h, hin.i⟩, hb⟩
      · exact no 2 (.inr (.inr ⟨ho, h1, h2, rfl⟩))
    · exact no 1 (.inr (.inl ⟨ho, h1, rfl⟩))
  · exact no 1 (.inl ⟨ho, rfl⟩)
def CelX (z d s l a cp sl : Int) (r : RcR) (I : Int) (cl : List UInt8) : Prop := (I = 0 ∧ ((Ok z d s l a ∧ RecOk z d r.d) ∧ SlotOk l cp sl) ∧ cl = sel.enc (cellN l a cp sl) r.sq.toNat (encR r.d)) ∨ (I = 1 ∧ ¬ ((Ok z d s l a ∧ RecOk z d r.d) ∧ SlotOk l cp sl) ∧ cl = [])
theorem cell_ex (z d s l a cp sl : Int) (r : RcR) (n : Nat) (hc : Crd w) (hn : r.i.l.length = n) (hn1 : n ≤ 1048576) :
    ∃ (I : Int) (cl : List UInt8), CelX z d s l a cp sl r I cl ∧ ∀ W, Below w.heap.size w W → BIn W W.heap.size r.i → Calls Try.prog 14 #[.agg #[.int .i64 z, .int .i64 d, .int .i64 s, .int .i64 l, .int .i64 a], .agg #[.int .i64 r.kd, .int .i64 r.sq, .int .i64 r.ep, .int .i64 r.ps, .int .i64 r.nm, .int .i64 r.i.z, .int .i64 r.i.wh, .slice r.i.A n r.i.c], .int .i64 cp, .int .i64 sl] W fun e w' => (∃ (X : Option Addr) (x : Nat), e = .returned (.tuple #[.slice X cl.length x, .int .i64 I]) ∧ Sl w' w'.heap.size X cl) ∧ Below W.heap.size W w' := by
  by_cases h : (Ok z d s l a ∧ RecOk z d r.d) ∧ SlotOk l cp sl
  · refine ⟨0, _, .inl ⟨rfl, h, rfl⟩, fun W hW hx => (hc.cell z d s l a cp sl r n W hW h.1.1 hx hn h.1.2 h.2).mono ?_⟩
    rintro e w' ⟨⟨X, x, rfl, ho⟩, hb⟩
    exact ⟨⟨X, x, rfl, (own_bytes ho).2.2.2⟩, hb⟩
  · refine ⟨1, [], .inr ⟨rfl, h, rfl⟩, fun W hW hx => (hc.cell_no z d s l a cp sl r n W hW h hx hn hn1).mono ?_⟩
    rintro e w' ⟨⟨X, x, rfl⟩, hb⟩
    exact ⟨⟨X, x, rfl, Sl.nil _ _ _⟩, hb⟩
end
end Go.Proofs.Ytplhdnhigboeaaa.lrc
