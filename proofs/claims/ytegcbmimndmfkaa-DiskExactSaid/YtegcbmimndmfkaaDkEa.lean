/-
  The document's disk: done. Conditions: a cell's address.
-/
import Derived.Test.YtegcbmimndmfkaaDkW
import Derived.Test.YtegcbmimndmfkaaDkH
import Derived.Deep.RegionWith
import Derived.Deep.RegionHeld3
namespace Go.Proofs.Ytegcbmimndmfkaa.dsk
open Go.RowKit Go.Lib

theorem modify_three {α : Type} (f g h : α → α) (l : List α) (k : Nat) (r : α) (e : l[k]? = some r) : ((l.modify k f).modify k g).modify k h = l.modify k fun _ => h (g (f r)) := by
  apply List.ext_getElem?
  intro j
  simp only [List.getElem?_modify]
  by_cases hj : k = j
  · subst hj; rw [e]; simp
  · simp [hj]
theorem twin_q {w : World} {r : Row} (hr : RIn w w.heap.size r) (hl : r.l.length ≤ 1048576) :
    Calls Try.prog 29 #[.slice r.A r.l.length r.c] w fun e w' => (∃ r' : Row, e = .returned (.slice r'.A r'.l.length r'.c) ∧ r'.l = r.l ∧ RIn w' w'.heap.size r') ∧ Below w.heap.size w w' := by
  refine (twin_any r.A r.c w.heap.size r.l w hr.1 hl).mono ?_
  rintro e w' ⟨⟨v, rfl, ho⟩, hb⟩
  obtain ⟨A, c, rfl, h1, h2, h3, -⟩ := ho.form
  exact ⟨⟨⟨A, c, r.l⟩, rfl, rfl, h3, h1, h2⟩, hb⟩
/-- Another array of cells in the same block. -/
theorem RefD.own {w : World} {base g gc o : Nat} {y : DV} {cs' : List CellR} {v : Value} (h : RefD w base g y) (hA : y.CA = some ⟨gc, 0, none⟩) (hl : cs'.length = y.cs.length) (ho : DV.Own (w.setCell ⟨gc, o, none⟩ v) base ⟨y.CA, y.cc, cs', y.WA, y.wc, y.ws, y.reqs, y.left⟩) :
    RefD (w.setCell ⟨gc, o, none⟩ v) base g ⟨y.CA, y.cc, cs', y.WA, y.wc, y.ws, y.reqs, y.left⟩ := by
  have hn := h.nc
  rw [hA] at hn
  have hne : g ≠ gc := fun e => hn (by rw [e]; rfl)
  refine ⟨?_, ho, by rw [hA] at *; exact hn, h.nw, h.lo, by simpa using h.hi⟩
  have := h.r.apart hne (o := o) v
  show Four _ g (.slice y.CA cs'.length y.cc) _ _ _
  rw [hl]
  exact this
set_option maxHeartbeats 2000000 in
theorem rdone_at (y : DV) (x : WriR) (base g : Nat) (w : World) (h : RefD w base g y) (hx : RIn w w.heap.size x.b) (h0 : 0 ≤ x.addr) (h1 : x.addr < y.cs.length) (h2 : x.b.l.length ≤ 1048576) :
    Calls Try.prog 43 #[.pointer (some ⟨g, 0, none⟩), .agg #[.int .i64 x.addr, .slice x.b.A x.b.l.length x.b.c]] w fun e w' => (∃ rs, e = .returned (.tuple #[]) ∧ rs.length = y.cs.length ∧ cds rs = carry (cds y.cs) x.d ∧ RefD w' base g ⟨y.CA, y.cc, rs, y.WA, y.wc, y.ws, y.reqs, y.left⟩) ∧ Below base w w' := by
  obtain ⟨k, hk⟩ : ∃ k : Nat, x.addr = k := ⟨x.addr.toNat, by omega⟩
  obtain ⟨gc, hA⟩ := h.o.block (by omega)
  have hlt : k < y.cs.length := by omega
  have hbase : base ≤ w.heap.size := Nat.le_of_lt (Nat.lt_of_le_of_lt h.lo h.hi)
  obtain ⟨t0, t1⟩ := two_new w (.int .i64 x.addr) (.slice x.b.A x.b.l.length x.b.c) 72
  have hb := bl w (.cells #[.int .i64 x.addr, .slice x.b.A x.b.l.length x.b.c] 72)
  have hr1 := h.below hb
  have hx1 := hx.next hb
  have sz : w.heap.size < (w.alloc (.cells #[.int .i64 x.addr, .slice x.b.A x.b.l.length x.b.c] 72)).heap.size := by simp
  have hbb := hb.mono hbase
  rw [hk] at t0 t1 hb hr1 hx1 hbb sz ⊢
  have i1 : (k : Int) < (y.cs.length : Int) := by omega
  go_enter Try.func43, Try.ntmps43
  obtain ⟨r, er, d0, d1, d2, f0, f1, f2, lo, hi, m1, m2, e2⟩ := hr1.o.at hA hlt
  obtain ⟨c0, c1, c2, c3, -, -, -, -⟩ := id hr1.r
  rw [hA] at c0
  generalize hW : w.alloc (.cells #[.int .i64 (k : Int), .slice x.b.A x.b.l.length x.b.c] 72) = w1 at *
  have HH := Lib.hid hr1
  have HX := Lib.hid hx1
  go_upto_region 1 with fail
  clear h hx h0 h1 hr1 m1 m2 e2
  go_quiet (fail)
  have hq := below_dn (Below.refl w1.heap.size w1) nq
  have HH := Lib.hid (HH.out.below hq)
  have HX := Lib.hid (HX.out.next hq)
  have hb := bt hb hq
  have d0 := kst hq hi d0
  have d1 := kst hq hi d1
  have t1 := kst hq sz t1
  have hi := Nat.lt_of_lt_of_le hi hq.size
  have sz := Nat.lt_of_lt_of_le sz hq.size
  clear c0 c1 c2 c3 d2 f0 f1 f2 t0 hq hbb hW
  generalize w1.drewN nq = w2 at *
  by_cases hs : r.st = 2
  · have HC := Lib.hid (carry_sticky y x k r hk er hs)
    have n1 : (r.st == 2) = true := by rw [hs]; rfl
    clear er
    rw [hs] at d0
    go_wp2_with fail
    refine bodyPost_ret (v := .tuple #[]) (by simp [results, Try.results43, go_sem]) rfl ?_
    exact ⟨⟨y.cs, rfl, rfl, HC.out, HH.out⟩, hb.mono hbase⟩
  · have n1 : (r.st == 2) = false := beq_eq_false_iff_ne.2 hs
    have hE := Lib.hid er
    have hS := Lib.hid hs
    clear er hs
    go_upto_region 3 with fail
    have cT := fun (W : World) (hW : Below w2.heap.size w2 W) => twin_q (HX.out.next hW) h2
    go_region_with (first | (go_at_call 29; (with_reducible refine (cT _ (by first | (with_reducible exact Below.refl _ _) | (with_reducible exact below_dr (Below.refl _ _)))).mono ?_); rintro e wT ⟨⟨rT, rfl, lT, IT⟩, hbT⟩; have lH := Lib.hid lT; clear lT; (first | (have hbT : Below w2.heap.size w2 wT := bt (below_dr (Below.refl _ _)) hbT) | skip); have d1 := kst hbT hi d1; have t1 := kst hbT sz t1; obtain ⟨r', er', -, -, d2, f0, f1, f2, -, -, -, -, -⟩ := (HH.out.below hbT).o.at hA hlt; have d0 := kst hbT hi d0) | fail)
    all_goals
      have HT := HH.out.below hbT
      obtain ⟨r2, er2, -, -, g2, -, -, -, -, -, m1, -, -⟩ := HT.o.at hA hlt
      obtain rfl : r2 = r := Option.some.inj (er2.symm.trans hE.out)
      have o1 := HT.o.o hA hlt (b := r2.b) m1
      have h1 := HT.own hA (by simp) o1
      have s1 : (wT.setCell ⟨gc, k * 3 + 2, none⟩ (.slice r2.b.A r2.b.l.length r2.b.c)).heap.size = wT.heap.size := by simp
      have I1 := rin_set IT g2 (slice_no8 _ _ _) (.slice r2.b.A r2.b.l.length r2.b.c)
      rw [← s1] at I1
      have o2 := h1.o.b hA (k := k) (by simpa using hlt) (b := rT) I1
      have h2 := h1.own hA (by simp) o2
      have o3 := h2.o.st hA (k := k) (by simpa using hlt) 0
      have h3 := h2.own hA (by simp) o3
      have e := modify_three (fun q => (⟨q.st, q.b, r2.b⟩ : CellR)) (fun q => ⟨q.st, rT, q.o⟩) (fun q => ⟨0, q.b, q.o⟩) y.cs k r2 hE.out
      have e3 := carry_cells y ⟨x.addr, rT⟩ k r2 hk hE.out hS.out
      rw [show (⟨x.addr, rT⟩ : WriR).d = x.d by unfold WriR.d; rw [lH.out]] at e3
      go_end0
      exact ⟨⟨_, rfl, by simp, by rw [e]; exact e3, h3⟩, (((bt hb hbT).mono hbase).setCell lo _).setCell lo _ |>.setCell lo _⟩
end Go.Proofs.Ytegcbmimndmfkaa.dsk
