/-
  The document's disk: Own, request, done. Conditions: a valid disk's numbers and sizes; a cell's address.
-/
import Derived.Test.YtegcbmimndmfkaaDkY
import Derived.Test.YtegcbmimndmfkaaGDkFt
namespace Go.Proofs.Ytegcbmimndmfkaa.dsk
open Go.RowKit Go.Lib

def RowsG (w : World) (base g : Nat) (y : DV) : Prop := dRows w base y ∧ (∀ r ∈ y.cs, r.b.v.ownBlock ≠ some g ∧ r.o.v.ownBlock ≠ some g) ∧ ∀ r ∈ y.ws, r.b.v.ownBlock ≠ some g
theorem own_at (x : DV) (w : World) (hx : x.In w w.heap.size) (hf : x.Fit) :
    Calls Try.prog 21 #[x.v] w fun e w' => (∃ y g, e = .returned (.pointer (some ⟨g, 0, none⟩)) ∧ y.d = x.d ∧ RefD w' w.heap.size g y ∧ RowsG w' w.heap.size g y) ∧ Below w.heap.size w w' := by
  have cT := fun (W : World) (hW : Below w.heap.size w W) => twin_disk x W (hx.next hW) hf.n hf.s hf.t
  have P0 := four_new w (.slice x.CA x.cs.length x.cc) (.slice x.WA x.ws.length x.wc) (.int .i64 x.reqs) (.int .i64 x.left) 25
  have B0 := bl w (.cells #[.slice x.CA x.cs.length x.cc, .slice x.WA x.ws.length x.wc, .int .i64 x.reqs, .int .i64 x.left] 25)
  have L0 : (w.alloc (.cells #[.slice x.CA x.cs.length x.cc, .slice x.WA x.ws.length x.wc, .int .i64 x.reqs, .int .i64 x.left] 25)).heap.size = w.heap.size + 1 := by simp
  obtain ⟨c0, c1, c2, c3, -, -, -, -⟩ := id P0
  unfold DV.v at cT ⊢
  clear hx hf P0
  go_enter Try.func21, Try.ntmps21
  go_wp2_with (go_at_call 11; (with_reducible refine (cT _ B0).mono ?_); rintro e w2 ⟨⟨y, rfl, hyd, hyo, hyr⟩, hb2⟩)
  go_ret
  have hB := bl w2 (.cells #[.slice y.CA y.cs.length y.cc, .slice y.WA y.ws.length y.wc, .int .i64 y.reqs, .int .i64 y.left] 47)
  have hS := hb2.size
  refine ⟨⟨y, w2.heap.size, rfl, hyd, ⟨four_new w2 _ _ _ _ _, (hyo.less (by omega)).below hB, fun h => ?_, fun h => ?_, by omega, by simp⟩, ⟨⟨fun r hr => ⟨((hyr.1 r hr).1.less (by omega)).below hB, ((hyr.1 r hr).2.less (by omega)).below hB⟩, fun r hr => ((hyr.2 r hr).less (by omega)).below hB⟩, fun r hr => ⟨fun h => ?_, fun h => ?_⟩, fun r hr h => ?_⟩⟩, (bt B0 hb2).trans (hB.mono (by omega))⟩
  · have := (World.ownsRow.lt hyo.oc _ h).2; omega
  · have := (World.ownsRow.lt hyo.ow _ h).2; omega
  · have := (World.ownsRow.lt (hyr.1 r hr).1 _ h).2; omega
  · have := (World.ownsRow.lt (hyr.1 r hr).2 _ h).2; omega
  · have := (World.ownsRow.lt (hyr.2 r hr) _ h).2; omega
theorem rreq_dead (y : DV) (base g : Nat) (w : World) (h : RefD w base g y) (hl : y.left = 0) :
    Calls Try.prog 42 #[.pointer (some ⟨g, 0, none⟩)] w fun e w' => e = .returned (.bool false) ∧ w' = w := by
  obtain ⟨c0, c1, c2, c3, -, -, -, -⟩ := id h.r
  rw [hl] at c3
  clear h
  go_enter Try.func42, Try.ntmps42
  go_wp2
  go_ret
  exact ⟨rfl, rfl⟩
theorem rreq_ok (y : DV) (base g : Nat) (w : World) (h : RefD w base g y) (hl : ¬ y.left = 0) (q0 : 0 ≤ y.reqs) (q1 : y.reqs ≤ 1048576) (l1 : -1 ≤ y.left) (l2 : y.left ≤ 1048576) :
    Calls Try.prog 42 #[.pointer (some ⟨g, 0, none⟩)] w fun e w' => e = .returned (.bool true) ∧ RefD w' base g ⟨y.CA, y.cc, y.cs, y.WA, y.wc, y.ws, min (y.reqs + 1) 1048576, less y.left⟩ ∧ Below base w w' ∧ (RowsG w base g y → RowsG w' base g y) ∧ w.grownBy w' (some g) := by
  have gs : ∀ {W W' : World} (k : W.grownBy W' (some g)) (o : Nat) (v : Value), W.grownBy (W'.setCell ⟨g, o, none⟩ v) (some g) := fun {W W'} k o v =>
    ⟨k.os, k.tape, k.output, by simpa using k.size, fun b hb hne => (heap_setCell_other W' ⟨g, o, none⟩ b v (fun e => hne (by simp [e]))).trans (k.block b hb hne)⟩
  have g0 : w.grownBy w (some g) := ⟨rfl, rfl, rfl, Nat.le_refl _, fun _ _ _ => rfl⟩
  have n1 : (y.left == 0) = false := beq_eq_false_iff_ne.2 hl
  obtain ⟨c0, c1, c2, c3, f0, f1, f2, f3⟩ := id h.r
  have o1 := h.o.apart h.nc h.nw c2 (int_no8 _) (.int .i64 (min (y.reqs + 1) 1048576))
  have r1 := h.r.set2 (.int .i64 (min (y.reqs + 1) 1048576))
  have b1 := (Below.refl base w).setCell (p := ⟨g, 2, none⟩) h.lo (.int .i64 (min (y.reqs + 1) 1048576))
  have rows : ∀ (W : World) (o : Nat) (v : Value), RowsG W base g y → RowsG (W.setCell ⟨g, o, none⟩ v) base g y := fun W o v k =>
    ⟨⟨fun r hr => ⟨ownsRow_setCell_other (k.1.1 r hr).1 (k.2.1 r hr).1 v, ownsRow_setCell_other (k.1.1 r hr).2 (k.2.1 r hr).2 v⟩, fun r hr => ownsRow_setCell_other (k.1.2 r hr) (k.2.2 r hr) v⟩, k.2⟩
  by_cases hp : 0 < y.left
  · have o2 := o1.apart h.nc h.nw r1.c3 (int_no8 _) (.int .i64 (y.left - 1))
    have r2 := r1.set3 (.int .i64 (y.left - 1))
    have b2 := b1.setCell (p := ⟨g, 3, none⟩) h.lo (.int .i64 (y.left - 1))
    have HL : Hid (less y.left = y.left - 1) := if_pos hp
    have hf : RefD ((w.setCell ⟨g, 2, none⟩ (.int .i64 (min (y.reqs + 1) 1048576))).setCell ⟨g, 3, none⟩ (.int .i64 (y.left - 1))) base g ⟨y.CA, y.cc, y.cs, y.WA, y.wc, y.ws, min (y.reqs + 1) 1048576, less y.left⟩ := by
      rw [HL.out]
      exact ⟨r2, ⟨o2.oc, o2.ow, o2.ci, o2.wi⟩, h.nc, h.nw, h.lo, by simpa using h.hi⟩
    go_enter Try.func42, Try.ntmps42
    clear h o1 r1 o2 r2 b1 HL hl
    go_wp2
    go_ret
    exact ⟨rfl, hf, b2, fun k => rows _ _ _ (rows _ _ _ k), gs (gs g0 _ _) _ _⟩
  · have HL : Hid (less y.left = y.left) := if_neg hp
    have hf : RefD (w.setCell ⟨g, 2, none⟩ (.int .i64 (min (y.reqs + 1) 1048576))) base g ⟨y.CA, y.cc, y.cs, y.WA, y.wc, y.ws, min (y.reqs + 1) 1048576, less y.left⟩ := by
      rw [HL.out]
      exact ⟨r1, ⟨o1.oc, o1.ow, o1.ci, o1.wi⟩, h.nc, h.nw, h.lo, by simpa using h.hi⟩
    go_enter Try.func42, Try.ntmps42
    clear h o1 r1 HL hl
    go_wp2
    go_ret
    exact ⟨rfl, hf, b1, fun k => rows _ _ _ k, gs g0 _ _⟩
end Go.Proofs.Ytegcbmimndmfkaa.dsk
