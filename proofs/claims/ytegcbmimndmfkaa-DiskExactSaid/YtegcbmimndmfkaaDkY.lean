/-
  The laws' disks (variables), and wakes: the program is awake. No condition.
-/
import Derived.Test.YtegcbmimndmfkaaDkNw
import Derived.Test.YtegcbmimndmfkaaDkU
import Derived.Test.YtegcbmimndmfkaaDkD
namespace Go.Proofs.Ytegcbmimndmfkaa.dsk
open Go.RowKit Go.Lib

/-- The document's disk, in a block of its own. -/
structure RefD (w : World) (base g : Nat) (y : DV) : Prop where
  r : Four w g (.slice y.CA y.cs.length y.cc) (.slice y.WA y.ws.length y.wc) (.int .i64 y.reqs) (.int .i64 y.left)
  o : y.Own w base
  nc : (Value.slice y.CA y.cs.length y.cc).ownBlock ≠ some g
  nw : (Value.slice y.WA y.ws.length y.wc).ownBlock ≠ some g
  lo : base ≤ g
  hi : g < w.heap.size
theorem RefD.below {w w' : World} {base g : Nat} {y : DV} (h : RefD w base g y) (hb : Below w.heap.size w w') : RefD w' base g y := ⟨h.r.keep hb h.hi, h.o.below hb, h.nc, h.nw, h.lo, Nat.lt_of_lt_of_le h.hi hb.size⟩
/-- A variable laid. -/
theorem var_new {w : World} {base b2 : Nat} {y : DV} (o : y.Own w b2) (hb : base ≤ b2) (hw : base ≤ w.heap.size) (t : TypeId) :
    RefD (w.alloc (.cells #[.slice y.CA y.cs.length y.cc, .slice y.WA y.ws.length y.wc, .int .i64 y.reqs, .int .i64 y.left] t)) base w.heap.size y :=
  ⟨four_new w _ _ _ _ t, (o.less hb).below (bl w _), fun h => by have := (World.ownsRow.lt o.oc _ h).2; omega, fun h => by have := (World.ownsRow.lt o.ow _ h).2; omega, hw, by simp⟩
/-- A variable that is given another disk; what comes of other variables, of bytes. -/
theorem var_set {w : World} {base b2 g : Nat} {y y2 : DV} (h : RefD w base g y) (o : y2.Own w b2) (hb : base ≤ b2) (hg : g < b2) :
    RefD ((((w.setCell ⟨g, 0, none⟩ (.slice y2.CA y2.cs.length y2.cc)).setCell ⟨g, 1, none⟩ (.slice y2.WA y2.ws.length y2.wc)).setCell ⟨g, 2, none⟩ (.int .i64 y2.reqs)).setCell ⟨g, 3, none⟩ (.int .i64 y2.left)) base g y2 ∧
    Below base w ((((w.setCell ⟨g, 0, none⟩ (.slice y2.CA y2.cs.length y2.cc)).setCell ⟨g, 1, none⟩ (.slice y2.WA y2.ws.length y2.wc)).setCell ⟨g, 2, none⟩ (.int .i64 y2.reqs)).setCell ⟨g, 3, none⟩ (.int .i64 y2.left)) ∧
    ((((w.setCell ⟨g, 0, none⟩ (.slice y2.CA y2.cs.length y2.cc)).setCell ⟨g, 1, none⟩ (.slice y2.WA y2.ws.length y2.wc)).setCell ⟨g, 2, none⟩ (.int .i64 y2.reqs)).setCell ⟨g, 3, none⟩ (.int .i64 y2.left)).heap.size = w.heap.size ∧
    (∀ r, RIn w w.heap.size r → RIn ((((w.setCell ⟨g, 0, none⟩ (.slice y2.CA y2.cs.length y2.cc)).setCell ⟨g, 1, none⟩ (.slice y2.WA y2.ws.length y2.wc)).setCell ⟨g, 2, none⟩ (.int .i64 y2.reqs)).setCell ⟨g, 3, none⟩ (.int .i64 y2.left)) w.heap.size r) ∧
    (∀ b' g' y', RefD w b' g' y' → g ≠ g' → (Value.slice y'.CA y'.cs.length y'.cc).ownBlock ≠ some g → (Value.slice y'.WA y'.ws.length y'.wc).ownBlock ≠ some g → RefD ((((w.setCell ⟨g, 0, none⟩ (.slice y2.CA y2.cs.length y2.cc)).setCell ⟨g, 1, none⟩ (.slice y2.WA y2.ws.length y2.wc)).setCell ⟨g, 2, none⟩ (.int .i64 y2.reqs)).setCell ⟨g, 3, none⟩ (.int .i64 y2.left)) b' g' y') := by
  have k := set4 h.r ⟨N8.s _ _ _, N8.s _ _ _, N8.i _, N8.i _⟩ (.slice y2.CA y2.cs.length y2.cc) (.slice y2.WA y2.ws.length y2.wc) (.int .i64 y2.reqs) (.int .i64 y2.left)
  refine ⟨⟨k.1, (k.2.2.2.2 _ _ hg o).less hb, fun e => by have := (World.ownsRow.lt o.oc _ e).1; omega, fun e => by have := (World.ownsRow.lt o.ow _ e).1; omega, h.lo, by rw [k.2.1]; exact h.hi⟩, k.2.2.1 _ h.lo, k.2.1, fun r hr => k.2.2.2.1 _ _ hr, fun b' g' y' h' hne n1 n2 => ?_⟩
  have r0 := h.r
  have o1 := h'.o.apart n1 n2 r0.c0 (slice_no8 _ _ _) (.slice y2.CA y2.cs.length y2.cc)
  have o2 := o1.apart n1 n2 (r0.set0 _).c1 (slice_no8 _ _ _) (.slice y2.WA y2.ws.length y2.wc)
  have o3 := o2.apart n1 n2 ((r0.set0 _).set1 _).c2 (int_no8 _) (.int .i64 y2.reqs)
  have o4 := o3.apart n1 n2 (((r0.set0 _).set1 _).set2 _).c3 (int_no8 _) (.int .i64 y2.left)
  exact ⟨(((h'.r.apart hne.symm _).apart hne.symm _).apart hne.symm _).apart hne.symm _, o4, h'.nc, h'.nw, h'.lo, by simpa using h'.hi⟩

def wk0 : Dsk := ⟨[⟨0, [], []⟩, ⟨0, [], []⟩], [], 0, -1⟩
def wk1 : Dsk := ⟨[⟨0, [], []⟩, ⟨0, [], []⟩], [⟨1, [7]⟩], 1, -1⟩
def wk2 : Dsk := ⟨[⟨0, [], []⟩, ⟨0, [], []⟩], [⟨1, [7]⟩], 2, -1⟩
def wk3 : Dsk := ⟨[⟨0, [], []⟩, ⟨0, [], []⟩], [], 2, -1⟩
def wk4 : Dsk := ⟨[⟨0, [], []⟩, ⟨0, [7], []⟩], [], 3, -1⟩
def wk5 : Dsk := ⟨[⟨0, [], []⟩, ⟨0, [], []⟩], [], 3, -1⟩
theorem wk_new : newA 2 = (wk0, 0) := by decide
theorem wk_write : writeA wk0 1 [7] = (wk1, 0) := by decide
theorem wk_read : readA wk1 1 = (wk2, [7], 0) := by decide
theorem wk_crash : crashA wk2 0 = (wk3, 0) := by decide
theorem wk_flush : flushA wk2 = (wk4, 0) := by decide
theorem wk_read2 : readA wk3 1 = (wk5, [], 0) := by decide
/-- The calls, at plain disks. -/
theorem new_p (n : Int) (w : World) (D' : Dsk) (er : Int) (h : newA n = (D', er)) :
    Calls Try.prog 28 #[.int .i64 n] w fun e w' => (∃ y : DV, e = .returned (.tuple #[.agg #[.slice y.CA y.cs.length y.cc, .slice y.WA y.ws.length y.wc, .int .i64 y.reqs, .int .i64 y.left], .int .i64 er]) ∧ y.d = D' ∧ y.Own w' w.heap.size) ∧ Below w.heap.size w w' := by
  have c := new_at n w
  rw [h] at c
  exact c
theorem write_p (x : DV) (a : Int) (b : Row) (w : World) (D D' : Dsk) (er : Int) (hx : x.In w w.heap.size) (hb : RIn w w.heap.size b) (hd : x.d = D) (h : writeA D a b.l = (D', er)) :
    Calls Try.prog 13 #[.agg #[.slice x.CA x.cs.length x.cc, .slice x.WA x.ws.length x.wc, .int .i64 x.reqs, .int .i64 x.left], .int .i64 a, .slice b.A b.l.length b.c] w fun e w' => (∃ y : DV, e = .returned (.tuple #[.agg #[.slice y.CA y.cs.length y.cc, .slice y.WA y.ws.length y.wc, .int .i64 y.reqs, .int .i64 y.left], .int .i64 er]) ∧ y.d = D' ∧ y.Own w' w.heap.size) ∧ Below w.heap.size w w' := by
  have c := wrt_at x a b w hx hb
  rw [hd, h] at c
  exact c
theorem read_p (x : DV) (a : Int) (w : World) (D D' : Dsk) (bs : List UInt8) (er : Int) (hx : x.In w w.heap.size) (hd : x.d = D) (h : readA D a = (D', bs, er)) :
    Calls Try.prog 12 #[.agg #[.slice x.CA x.cs.length x.cc, .slice x.WA x.ws.length x.wc, .int .i64 x.reqs, .int .i64 x.left], .int .i64 a] w fun e w' => (∃ (y : DV) (r : Row), e = .returned (.tuple #[.agg #[.slice y.CA y.cs.length y.cc, .slice y.WA y.ws.length y.wc, .int .i64 y.reqs, .int .i64 y.left], .slice r.A r.l.length r.c, .int .i64 er]) ∧ y.d = D' ∧ r.l = bs ∧ y.Own w' w.heap.size ∧ RIn w' w'.heap.size r) ∧ Below w.heap.size w w' := by
  have c := read_at x a w hx
  rw [hd, h] at c
  exact c
theorem flush_p (x : DV) (w : World) (D D' : Dsk) (er : Int) (hx : x.In w w.heap.size) (hd : x.d = D) (h : flushA D = (D', er)) :
    Calls Try.prog 14 #[.agg #[.slice x.CA x.cs.length x.cc, .slice x.WA x.ws.length x.wc, .int .i64 x.reqs, .int .i64 x.left]] w fun e w' => (∃ y : DV, e = .returned (.tuple #[.agg #[.slice y.CA y.cs.length y.cc, .slice y.WA y.ws.length y.wc, .int .i64 y.reqs, .int .i64 y.left], .int .i64 er]) ∧ y.d = D' ∧ y.Own w' w.heap.size) ∧ Below w.heap.size w w' := by
  have c := flush_at x w hx
  rw [hd, h] at c
  exact c
theorem crash_p (x : DV) (keep : Int) (w : World) (D D' : Dsk) (er : Int) (hx : x.In w w.heap.size) (hk : keep ≤ 9223372036854775807) (hd : x.d = D) (h : crashA D keep = (D', er)) :
    Calls Try.prog 15 #[.agg #[.slice x.CA x.cs.length x.cc, .slice x.WA x.ws.length x.wc, .int .i64 x.reqs, .int .i64 x.left], .int .i64 keep] w fun e w' => (∃ y : DV, e = .returned (.tuple #[.agg #[.slice y.CA y.cs.length y.cc, .slice y.WA y.ws.length y.wc, .int .i64 y.reqs, .int .i64 y.left], .int .i64 er]) ∧ y.d = D' ∧ y.Own w' w.heap.size) ∧ Below w.heap.size w w' := by
  have c := crash_at x keep w hx hk
  rw [hd, h] at c
  exact c
theorem twin_p (x : DV) (w : World) (hx : x.In w w.heap.size) (hv : Valid x.d) :
    Calls Try.prog 11 #[.agg #[.slice x.CA x.cs.length x.cc, .slice x.WA x.ws.length x.wc, .int .i64 x.reqs, .int .i64 x.left]] w fun e w' => (∃ y : DV, e = .returned (.agg #[.slice y.CA y.cs.length y.cc, .slice y.WA y.ws.length y.wc, .int .i64 y.reqs, .int .i64 y.left]) ∧ y.d = x.d ∧ y.Own w' w.heap.size) ∧ Below w.heap.size w w' := by
  have hf := hv.fit
  refine (twin_disk x w hx hf.n hf.s hf.t).mono ?_
  rintro e w' ⟨⟨y, h1, h2, h3, -⟩, hb⟩
  exact ⟨⟨y, h1, h2, h3⟩, hb⟩
theorem disk_p (x y : DV) (w : World) (hx : x.In w w.heap.size) (hy : y.In w w.heap.size) (hv : Valid x.d) (b : Bool) (hb : decide (x.d = y.d) = b) :
    Calls Try.prog 17 #[.agg #[.slice x.CA x.cs.length x.cc, .slice x.WA x.ws.length x.wc, .int .i64 x.reqs, .int .i64 x.left], .agg #[.slice y.CA y.cs.length y.cc, .slice y.WA y.ws.length y.wc, .int .i64 y.reqs, .int .i64 y.left]] w fun e w' => e = .returned (.bool b) ∧ Below w.heap.size w w' := by
  have hf := hv.fit
  subst hb
  exact disk_any x y w hx hy hf.n hf.s hf.t
theorem play_all (P : Cel → Prop) : ∀ (ws : List Wri) (f : Nat → Bool) (i : Nat) (cs : List Cel), (∀ c ∈ cs, P c) → (∀ x ∈ ws, ∀ c, P c → P (onto x.bs c)) → ∀ c ∈ play f i cs ws, P c
  | [], _, _, _, h, _ => h
  | x :: ws, f, i, cs, h, hx => by
    refine play_all P ws f (i + 1) _ (fun c hc => ?_) (fun y hy => hx y (List.mem_cons_of_mem _ hy))
    split at hc
    · rcases mem_modify hc with q | ⟨z, hz, rfl⟩
      · exact h c q
      · exact hx x List.mem_cons_self z (h z hz)
    · exact h c hc
end Go.Proofs.Ytegcbmimndmfkaa.dsk
