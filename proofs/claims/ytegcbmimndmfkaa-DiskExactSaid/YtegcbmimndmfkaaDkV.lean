/-
  Disks: as plain data, and as they lie in memory (rows of cells of three values, rows of writes of two). Conditions: each law's own.
-/
import Derived.Test.YtegcbmimndmfkaaBytes
import Derived.Test.YtegcbmimndmfkaaOpen
import Derived.Test.YtegcbmimndmfkaaSlices
import Derived.Lib.SmallJoins
namespace Go.Proofs.Ytegcbmimndmfkaa.dsk
open Go.RowKit Go.ChangeShapes Go.WideShapes Go.ChangeAt Go.Joins

/-- A disk's cell, a write that waits, a disk: plain data. -/
structure Cel where
  st : Int
  bs : List UInt8
  old : List UInt8
structure Wri where
  addr : Int
  bs : List UInt8
structure Dsk where
  cells : List Cel
  cache : List Wri
  reqs : Int
  left : Int
instance : DecidableEq Cel := fun a b => decidable_of_iff (a.st = b.st ∧ a.bs = b.bs ∧ a.old = b.old) ⟨fun ⟨h1, h2, h3⟩ => by cases a; cases b; simp_all, fun h => by rw [h]; exact ⟨rfl, rfl, rfl⟩⟩
instance : DecidableEq Wri := fun a b => decidable_of_iff (a.addr = b.addr ∧ a.bs = b.bs) ⟨fun ⟨h1, h2⟩ => by cases a; cases b; simp_all, fun h => by rw [h]; exact ⟨rfl, rfl⟩⟩
instance : DecidableEq Dsk := fun a b => decidable_of_iff (a.cells = b.cells ∧ a.cache = b.cache ∧ a.reqs = b.reqs ∧ a.left = b.left) ⟨fun ⟨h1, h2, h3, h4⟩ => by cases a; cases b; simp_all, fun h => by rw [h]; exact ⟨rfl, rfl, rfl, rfl⟩⟩
def noDsk : Dsk := ⟨[], [], 0, 0⟩

theorem flat_get {α β : Type} (f : α → List β) (k : Nat) (hk : ∀ x, (f x).length = k) : ∀ (l : List α) (i j : Nat), j < k → (l.flatMap f)[i * k + j]? = l[i]?.bind fun x => (f x)[j]?
  | [], i, j, _ => by simp
  | x :: l, 0, j, hj => by
    rw [List.flatMap_cons, Nat.zero_mul, Nat.zero_add, List.getElem?_append_left (by rw [hk]; exact hj)]
    rfl
  | x :: l, i + 1, j, hj => by
    rw [List.flatMap_cons, List.getElem?_append_right (by rw [hk, Nat.succ_mul]; omega), hk, show (i + 1) * k + j - k = i * k + j by rw [Nat.succ_mul]; omega, flat_get f k hk l i j hj]
    rfl
theorem flat_len {α β : Type} (f : α → List β) (k : Nat) (hk : ∀ x, (f x).length = k) (l : List α) : (l.flatMap f).length = l.length * k := by
  induction l with
  | nil => simp
  | cons x l ih => rw [List.flatMap_cons, List.length_append, hk, ih, List.length_cons, Nat.succ_mul]; omega

/-- The bytes of a row lie below block B. -/
def RIn (w : World) (B : Nat) (r : Row) : Prop := Sl w B r.A r.l ∧ r.l.length ≤ r.c ∧ r.c ≤ maxLen
section
variable {w w' : World} {B B' : Nat} {r : Row}
theorem RIn.below (h : RIn w B r) (hb : Below B w w') : RIn w' B r := ⟨h.1.below hb, h.2⟩
theorem RIn.more (h : RIn w B r) (hB : B ≤ B') : RIn w B' r := ⟨h.1.more hB, h.2⟩
theorem RIn.next (h : RIn w w.heap.size r) (hb : Below w.heap.size w w') : RIn w' w'.heap.size r := (h.below hb).more hb.size
end

structure CellR where
  st : Int
  b : Row
  o : Row
structure WriR where
  addr : Int
  b : Row
def CellR.vs (r : CellR) : List Value := [.int .i64 r.st, r.b.v, r.o.v]
def WriR.vs (r : WriR) : List Value := [.int .i64 r.addr, r.b.v]
def CellR.d (r : CellR) : Cel := ⟨r.st, r.b.l, r.o.l⟩
def WriR.d (r : WriR) : Wri := ⟨r.addr, r.b.l⟩
def cvs (rs : List CellR) : List Value := rs.flatMap CellR.vs
def wvs (rs : List WriR) : List Value := rs.flatMap WriR.vs
def cds (rs : List CellR) : List Cel := rs.map CellR.d
def wds (rs : List WriR) : List Wri := rs.map WriR.d
theorem cvs_length (rs : List CellR) : (cvs rs).length = rs.length * 3 := flat_len CellR.vs 3 (fun _ => rfl) rs
theorem wvs_length (rs : List WriR) : (wvs rs).length = rs.length * 2 := flat_len WriR.vs 2 (fun _ => rfl) rs
theorem cds_length (rs : List CellR) : (cds rs).length = rs.length := by simp [cds]
theorem wds_length (rs : List WriR) : (wds rs).length = rs.length := by simp [wds]
theorem cvs_append (a b : List CellR) : cvs (a ++ b) = cvs a ++ cvs b := by simp [cvs]
theorem wvs_append (a b : List WriR) : wvs (a ++ b) = wvs a ++ wvs b := by simp [wvs]
theorem cvs_one (rs : List CellR) : ∀ u ∈ cvs rs, u.oneCell' = true := by
  intro u hu
  obtain ⟨r, _, h⟩ := List.mem_flatMap.1 hu
  simp only [CellR.vs, List.mem_cons, List.not_mem_nil, or_false] at h
  rcases h with rfl | rfl | rfl <;> rfl
theorem wvs_one (rs : List WriR) : ∀ u ∈ wvs rs, u.oneCell' = true := by
  intro u hu
  obtain ⟨r, _, h⟩ := List.mem_flatMap.1 hu
  simp only [WriR.vs, List.mem_cons, List.not_mem_nil, or_false] at h
  rcases h with rfl | rfl <;> rfl
def CIn (w : World) (B : Nat) (rs : List CellR) : Prop := ∀ r ∈ rs, RIn w B r.b ∧ RIn w B r.o
def WIn (w : World) (B : Nat) (rs : List WriR) : Prop := ∀ r ∈ rs, RIn w B r.b
section
variable {w w' : World} {B B' : Nat} {cs : List CellR} {ws : List WriR}
theorem CIn.below (h : CIn w B cs) (hb : Below B w w') : CIn w' B cs := fun r hr => ⟨(h r hr).1.below hb, (h r hr).2.below hb⟩
theorem CIn.more (h : CIn w B cs) (hB : B ≤ B') : CIn w B' cs := fun r hr => ⟨(h r hr).1.more hB, (h r hr).2.more hB⟩
theorem CIn.next (h : CIn w w.heap.size cs) (hb : Below w.heap.size w w') : CIn w' w'.heap.size cs := (h.below hb).more hb.size
theorem WIn.below (h : WIn w B ws) (hb : Below B w w') : WIn w' B ws := fun r hr => (h r hr).below hb
theorem WIn.more (h : WIn w B ws) (hB : B ≤ B') : WIn w B' ws := fun r hr => (h r hr).more hB
theorem WIn.next (h : WIn w w.heap.size ws) (hb : Below w.heap.size w w') : WIn w' w'.heap.size ws := (h.below hb).more hb.size
theorem CIn.append {a b : List CellR} (h : CIn w B a) (k : CIn w B b) : CIn w B (a ++ b) := fun r hr => (List.mem_append.1 hr).elim (h r) (k r)
theorem WIn.append {a b : List WriR} (h : WIn w B a) (k : WIn w B b) : WIn w B (a ++ b) := fun r hr => (List.mem_append.1 hr).elim (h r) (k r)
theorem CIn.nil (w : World) (B : Nat) : CIn w B [] := fun r hr => by cases hr
theorem WIn.nil (w : World) (B : Nat) : WIn w B [] := fun r hr => by cases hr
end
/-- A flat row's cell. -/
theorem slv_cell {w : World} {B b off i : Nat} {vs : List Value} {v : Value} (h : SlV w B (some ⟨b, off, none⟩) vs) (hi : vs[i]? = some v) : w.cell? ⟨b, off + i, none⟩ = some v ∧ b < B := by
  obtain ⟨hj, rfl⟩ := List.getElem?_eq_some_iff.1 hi
  obtain ⟨b', off', he, hb, hc⟩ := h (by omega)
  simp only [Option.some.injEq, Addr.mk.injEq, and_true] at he
  obtain ⟨rfl, rfl⟩ := he
  exact ⟨hc i hj, hb⟩
/-- One cell of many. -/
theorem cell_at {w : World} {B k : Nat} {A : Option Addr} {rs : List CellR} (hA : SlV w B A (cvs rs)) (hR : CIn w B rs) (hk : k < rs.length) :
    ∃ b off r, A = some ⟨b, off, none⟩ ∧ b < B ∧ w.cell? ⟨b, off + k * 3, none⟩ = some (.int .i64 r.st) ∧ w.cell? ⟨b, off + k * 3 + 1, none⟩ = some (.slice r.b.A r.b.l.length r.b.c) ∧ w.cell? ⟨b, off + k * 3 + 2, none⟩ = some (.slice r.o.A r.o.l.length r.o.c) ∧
      RIn w B r.b ∧ RIn w B r.o ∧ r ∈ rs ∧ rs[k]? = some r ∧ (cds rs)[k]? = some r.d := by
  obtain ⟨b, off, rfl, -, -⟩ := hA (by rw [cvs_length]; omega)
  have g := fun j (hj : j < 3) => flat_get CellR.vs 3 (fun _ => rfl) rs k j hj
  rw [List.getElem?_eq_getElem hk] at g
  have c0 := slv_cell hA (i := k * 3 + 0) (v := .int .i64 rs[k].st) ((g 0 (by omega)).trans rfl)
  have c1 := slv_cell hA (i := k * 3 + 1) (v := rs[k].b.v) ((g 1 (by omega)).trans rfl)
  have c2 := slv_cell hA (i := k * 3 + 2) (v := rs[k].o.v) ((g 2 (by omega)).trans rfl)
  have hm := List.getElem_mem hk
  exact ⟨b, off, rs[k], rfl, c0.2, c0.1, c1.1, c2.1, (hR _ hm).1, (hR _ hm).2, hm, List.getElem?_eq_getElem hk, by simp [cds, hk]⟩
/-- One write of many. -/
theorem write_at {w : World} {B k : Nat} {A : Option Addr} {rs : List WriR} (hA : SlV w B A (wvs rs)) (hR : WIn w B rs) (hk : k < rs.length) :
    ∃ b off r, A = some ⟨b, off, none⟩ ∧ b < B ∧ w.cell? ⟨b, off + k * 2, none⟩ = some (.int .i64 r.addr) ∧ w.cell? ⟨b, off + k * 2 + 1, none⟩ = some (.slice r.b.A r.b.l.length r.b.c) ∧
      RIn w B r.b ∧ r ∈ rs ∧ rs[k]? = some r ∧ (wds rs)[k]? = some r.d := by
  obtain ⟨b, off, rfl, -, -⟩ := hA (by rw [wvs_length]; omega)
  have g := fun j (hj : j < 2) => flat_get WriR.vs 2 (fun _ => rfl) rs k j hj
  rw [List.getElem?_eq_getElem hk] at g
  have c0 := slv_cell hA (i := k * 2 + 0) (v := .int .i64 rs[k].addr) ((g 0 (by omega)).trans rfl)
  have c1 := slv_cell hA (i := k * 2 + 1) (v := rs[k].b.v) ((g 1 (by omega)).trans rfl)
  have hm := List.getElem_mem hk
  exact ⟨b, off, rs[k], rfl, c0.2, c0.1, c1.1, hR _ hm, hm, List.getElem?_eq_getElem hk, by simp [wds, hk]⟩

/-- A disk's value, and what lies behind it. -/
structure DV where
  CA : Option Addr
  cc : Nat
  cs : List CellR
  WA : Option Addr
  wc : Nat
  ws : List WriR
  reqs : Int
  left : Int
def DV.v (d : DV) : Value := .agg #[.slice d.CA d.cs.length d.cc, .slice d.WA d.ws.length d.wc, .int .i64 d.reqs, .int .i64 d.left]
def DV.d (d : DV) : Dsk := ⟨cds d.cs, wds d.ws, d.reqs, d.left⟩
structure DV.In (w : World) (B : Nat) (d : DV) : Prop where
  hc : SlV w B d.CA (cvs d.cs)
  hw : SlV w B d.WA (wvs d.ws)
  ci : CIn w B d.cs
  wi : WIn w B d.ws
  cl : d.cs.length ≤ d.cc ∧ d.cc ≤ maxLen
  wl : d.ws.length ≤ d.wc ∧ d.wc ≤ maxLen
section
variable {w w' : World} {B B' : Nat} {d : DV}
theorem DV.In.below (h : DV.In w B d) (hb : Below B w w') : DV.In w' B d := ⟨h.hc.below hb, h.hw.below hb, h.ci.below hb, h.wi.below hb, h.cl, h.wl⟩
theorem DV.In.more (h : DV.In w B d) (hB : B ≤ B') : DV.In w B' d := ⟨h.hc.more hB, h.hw.more hB, h.ci.more hB, h.wi.more hB, h.cl, h.wl⟩
theorem DV.In.next (h : DV.In w w.heap.size d) (hb : Below w.heap.size w w') : DV.In w' w'.heap.size d := (h.below hb).more hb.size
end
end Go.Proofs.Ytegcbmimndmfkaa.dsk
