/-
  Package disk: carryOut. Conditions: a cell's address.
-/
import Derived.Test.YtegcbmimndmfkaaDkG
import Derived.StillTailTactics
namespace Go.Proofs.Ytegcbmimndmfkaa.dsk
open Go.RowKit Go.Lib

theorem DV.Own.block {w : World} {base : Nat} {y : DV} (h : y.Own w base) (hn : 0 < y.cs.length) : ∃ g, y.CA = some ⟨g, 0, none⟩ := by
  rcases h.oc.2 with ⟨e, hz⟩ | ⟨g, cap, cur, e, _⟩
  · omega
  · simp only [Value.slice.injEq] at e
    exact ⟨g, e.1⟩
theorem grown_set {w w' : World} {g : Nat} (h : w.grownBy w' (some g)) (o : Nat) (v : Value) : w.grownBy (w'.setCell ⟨g, o, none⟩ v) (some g) :=
  ⟨h.os, h.tape, h.output, by simpa using h.size, fun k hk hne => (heap_setCell_other w' ⟨g, o, none⟩ k v (fun e => hne (by simp [e]))).trans (h.block k hk hne)⟩
theorem carry_cells (y : DV) (x : WriR) (k : Nat) (r : CellR) (hk : x.addr = k) (h : y.cs[k]? = some r) (hs : r.st ≠ 2) : cds (y.cs.modify k fun _ => ⟨0, x.b, r.b⟩) = carry (cds y.cs) x.d := by
  unfold carry
  rw [show x.d.addr.toNat = k by show x.addr.toNat = k; rw [hk]; rfl]
  obtain ⟨hl, rfl⟩ := List.getElem?_eq_some_iff.1 h
  have go : ∀ (l : List CellR) (k : Nat) (hl : k < l.length), l[k].st ≠ 2 → cds (l.modify k fun _ => ⟨0, x.b, l[k].b⟩) = (cds l).modify k (onto x.d.bs) := by
    intro l
    induction l with
    | nil => intro k hl; simp at hl
    | cons c l ih =>
      intro k hl hs
      cases k with
      | zero =>
        simp only [List.modify_zero_cons, List.getElem_cons_zero] at hs ⊢
        show _ :: cds l = (c.d :: cds l).modify 0 _
        rw [List.modify_zero_cons, onto, if_neg (show ¬ c.d.st = 2 from hs)]
        rfl
      | succ k =>
        simp only [List.getElem_cons_succ] at hs
        show _ = (c.d :: cds l).modify (k + 1) _
        rw [List.modify_succ_cons, List.modify_succ_cons, ← ih k (by simpa using hl) hs]
        rfl
  exact go y.cs k hl hs
theorem carry_sticky (y : DV) (x : WriR) (k : Nat) (r : CellR) (hk : x.addr = k) (h : y.cs[k]? = some r) (hs : r.st = 2) : cds y.cs = carry (cds y.cs) x.d := by
  unfold carry
  rw [show x.d.addr.toNat = k by show x.addr.toNat = k; rw [hk]; rfl]
  have e : (cds y.cs)[k]? = some r.d := by unfold cds; rw [List.getElem?_map, h]; rfl
  apply List.ext_getElem?
  intro j
  rw [List.getElem?_modify]
  by_cases hj : k = j
  · subst hj
    rw [e]
    show _ = some (if k = k then onto _ r.d else r.d)
    rw [if_pos rfl, onto, if_pos (show r.d.st = 2 from hs)]
  · cases (cds y.cs)[j]? with
    | none => rfl
    | some c => show _ = some (if k = j then _ else c); rw [if_neg hj]

set_option maxHeartbeats 2000000 in
theorem carry_at (y : DV) (x : WriR) (base : Nat) (w : World) (hy : y.Own w base) (hx : RIn w w.heap.size x.b) (h0 : 0 ≤ x.addr) (h1 : x.addr < y.cs.length) (hbase : base ≤ w.heap.size) :
    Calls Try.prog 36 #[.slice y.CA y.cs.length y.cc, .agg #[.int .i64 x.addr, .slice x.b.A x.b.l.length x.b.c]] w fun e w' => (∃ rs, e = .returned (.tuple #[]) ∧ rs.length = y.cs.length ∧ cds rs = carry (cds y.cs) x.d ∧ DV.Own w' base ⟨y.CA, y.cc, rs, y.WA, y.wc, y.ws, y.reqs, y.left⟩) ∧
      Below base w w' ∧ w.grownBy w' (Value.slice y.CA y.cs.length y.cc).ownBlock := by
  obtain ⟨k, hk⟩ : ∃ k : Nat, x.addr = k := ⟨x.addr.toNat, by omega⟩
  obtain ⟨g, hA⟩ := hy.block (by omega)
  have hlt : k < y.cs.length := by omega
  obtain ⟨t0, t1⟩ := two_new w (.int .i64 x.addr) (.slice x.b.A x.b.l.length x.b.c) 72
  have hb := bl w (.cells #[.int .i64 x.addr, .slice x.b.A x.b.l.length x.b.c] 72)
  have hg : w.grownBy (w.alloc (.cells #[.int .i64 x.addr, .slice x.b.A x.b.l.length x.b.c] 72)) (some g) := World.grownBy_alloc _ _ _
  have hy1 := hy.below hb
  have hx1 := hx.next hb
  have hbb := hb.mono hbase
  rw [hk] at t0 t1 hb hg hy1 hx1 hbb ⊢
  have i1 : (k : Int) < (y.cs.length : Int) := by omega
  go_enter Try.func36, Try.ntmps36
  obtain ⟨r, er, d0, d1, d2, f0, f1, f2, lo, hi, m1, m2, e2⟩ := hy1.at hA hlt
  rw [hA]
  generalize hW : w.alloc (.cells #[.int .i64 (k : Int), .slice x.b.A x.b.l.length x.b.c] 72) = w1 at *
  by_cases hs : r.st = 2
  · have HC := Lib.hid (carry_sticky y x k r hk er hs)
    have n1 : (r.st != 2) = false := by rw [hs]; rfl
    clear e2 er hy hx h0 h1
    rw [hs] at d0
    go_wp2_with fail
    go_end0
    exact ⟨⟨y.cs, rfl, rfl, HC.out, by rw [← hA]; exact hy1⟩, hbb, hg⟩
  · have HC := Lib.hid (carry_cells y x k r hk er hs)
    have n1 : (r.st != 2) = true := bne_iff_ne.2 hs
    go_upto_region 2 with fail
    go_still_tail 12, (by kernel_rfl)
    have hy2 := hy1.drew
    have hx2 := hx1.next (below_dr (Below.refl _ w1))
    have hb2 := hbb.trans (below_dr (Below.refl _ w1))
    have hg2 : w.grownBy w1.drew (some g) := ⟨hg.os, hg.tape, hg.output, hg.size, hg.block⟩
    replace t0 : w1.drew.cell? ⟨w.heap.size, 0, none⟩ = some (.int .i64 k) := t0
    replace t1 : w1.drew.cell? ⟨w.heap.size, 1, none⟩ = some (.slice x.b.A x.b.l.length x.b.c) := t1
    replace d0 : w1.drew.cell? ⟨g, k * 3, none⟩ = some (.int .i64 r.st) := d0
    replace d1 : w1.drew.cell? ⟨g, k * 3 + 1, none⟩ = some (.slice r.b.A r.b.l.length r.b.c) := d1
    replace d2 : w1.drew.cell? ⟨g, k * 3 + 2, none⟩ = some (.slice r.o.A r.o.l.length r.o.c) := d2
    replace f0 : w1.drew.frozen? ⟨g, k * 3, none⟩ = false := f0
    replace f1 : w1.drew.frozen? ⟨g, k * 3 + 1, none⟩ = false := f1
    replace f2 : w1.drew.frozen? ⟨g, k * 3 + 2, none⟩ = false := f2
    replace m1 : RIn w1.drew w1.drew.heap.size r.b := m1
    clear hy1 hx1 hbb hg hW hb e2 er m2 hi
    change wpList _ _ _ _ _ w1.drew
    generalize w1.drew = w2 at *
    go_wp2_with fail
    go_end0
    have ho := hy2.cell hA hlt 0 hx2 m1
    rw [hA] at ho
    exact ⟨⟨y.cs.modify k fun _ => ⟨0, x.b, r.b⟩, rfl, by simp, HC.out, ho⟩, ((hb2.setCell lo _).setCell lo _).setCell lo _, grown_set (grown_set (grown_set hg2 _ _) _ _) _ _⟩
end Go.Proofs.Ytegcbmimndmfkaa.dsk
