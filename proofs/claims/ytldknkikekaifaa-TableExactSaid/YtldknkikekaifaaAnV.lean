/-
  Anchors: as plain data, and as they lie in memory (a row of homes of three values each, a home's places a row of integers). Conditions: each law's own.
-/
import Derived.Test.YtldknkikekaifaaKeepInts
namespace Go.Proofs.Ytldknkikekaifaa.anc
open Go.RowKit Go.Lib

/-- A zone's home, an anchor: plain data. -/
structure Hom where
  ps : List Int
  nx : Int
  rt : Int
structure Anc where
  gen : Int
  ep : Int
  pos : Int
  seq : Int
  last : Int
  lab : ByteArray
  hs : List Hom
instance : DecidableEq Hom := fun a b => decidable_of_iff (a.ps = b.ps ∧ a.nx = b.nx ∧ a.rt = b.rt) ⟨fun ⟨h1, h2, h3⟩ => by cases a; cases b; simp_all, fun h => by rw [h]; exact ⟨rfl, rfl, rfl⟩⟩
instance : DecidableEq Anc := fun a b => decidable_of_iff (a.gen = b.gen ∧ a.ep = b.ep ∧ a.pos = b.pos ∧ a.seq = b.seq ∧ a.last = b.last ∧ a.lab = b.lab ∧ a.hs = b.hs)
  ⟨fun ⟨h1, h2, h3, h4, h5, h6, h7⟩ => by cases a; cases b; simp_all, fun h => by rw [h]; exact ⟨rfl, rfl, rfl, rfl, rfl, rfl, rfl⟩⟩
def noAnc : Anc := ⟨0, 0, 0, 0, 0, ⟨#[]⟩, []⟩

theorem flat_get {α β : Type} (f : α → List β) (k : Nat) (hk : ∀ x, (f x).length = k) : ∀ (l : List α) (i j : Nat), j < k → (l.flatMap f)[i * k + j]? = l[i]?.bind fun x => (f x)[j]?
  | [], i, j, _ => by simp
  | x :: l, 0, j, hj => by
    rw [List.flatMap_cons, Nat.zero_mul, Nat.zero_add, List.getElem?_append_left (by rw [hk]; exact hj)]
    rfl
  | x :: l, i + 1, j, hj => by
    rw [List.flatMap_cons, List.getElem?_append_right (by rw [hk, Nat.succ_mul]; omega), hk, show (i + 1) * k + j - k = i * k + j by rw [Nat.succ_mul]; omega, flat_get f k hk l i j hj]
    rfl
theorem flat_len {α β : Type} (f : α → List β) (k : Nat) (hk : ∀ x, (f x).length = k) (l : List α) : (l.flatMap f).length = l.length * k := by
  induction l with
  | nil => simp
  | cons x l ih => rw [List.flatMap_cons, List.length_append, hk, ih, List.length_cons, Nat.succ_mul]; omega
/-- A flat row's cell. -/
theorem slv_cell {w : World} {B b off i : Nat} {vs : List Value} {v : Value} (h : SlV w B (some ⟨b, off, none⟩) vs) (hi : vs[i]? = some v) : w.cell? ⟨b, off + i, none⟩ = some v ∧ b < B := by
  obtain ⟨hj, rfl⟩ := List.getElem?_eq_some_iff.1 hi
  obtain ⟨b', off', he, hb, hc⟩ := h (by omega)
  simp only [Option.some.injEq, Addr.mk.injEq, and_true] at he
  obtain ⟨rfl, rfl⟩ := he
  exact ⟨hc i hj, hb⟩
theorem take_same {α : Type} {a b : List α} {k : Nat} {x y : α} (h : a.take k = b.take k) (ha : a[k]? = some x) (hb : b[k]? = some y) (hxy : x = y) : a.take (k + 1) = b.take (k + 1) := by
  rw [take_next ha, take_next hb, h, hxy]
theorem take_other {α : Type} {a b : List α} {k : Nat} {x y : α} (ha : a[k]? = some x) (hb : b[k]? = some y) (hxy : x ≠ y) : a ≠ b := fun e => hxy (by rw [e, hb] at ha; exact (Option.some.inj ha).symm)
theorem kal {a W : World} (h : Below a.heap.size a W) (o : Obj) : Below a.heap.size a (W.alloc o) := h.alloc h.size o
theorem bl (w : World) (o : Obj) : Below w.heap.size w (w.alloc o) := (Below.refl _ _).alloc (Nat.le_refl _) o
theorem kst {a W : World} (h : Below a.heap.size a W) {b o : Nat} {v : Value} (hb : b < a.heap.size) (hv : a.cell? ⟨b, o, none⟩ = some v) : W.cell? ⟨b, o, none⟩ = some v := (h.cell (p := ⟨b, o, none⟩) hb).trans hv

/-- A home as it lies. -/
structure HomR where
  A : Option Addr
  c : Nat
  ps : List Int
  nx : Int
  rt : Int
def HomR.vs (r : HomR) : List Value := [.slice r.A r.ps.length r.c, .int .i64 r.nx, .int .i64 r.rt]
def HomR.d (r : HomR) : Hom := ⟨r.ps, r.nx, r.rt⟩
def hvs (rs : List HomR) : List Value := rs.flatMap HomR.vs
def hds (rs : List HomR) : List Hom := rs.map HomR.d
theorem hvs_length (rs : List HomR) : (hvs rs).length = rs.length * 3 := flat_len HomR.vs 3 (fun _ => rfl) rs
theorem hds_length (rs : List HomR) : (hds rs).length = rs.length := by simp [hds]
theorem hvs_append (a b : List HomR) : hvs (a ++ b) = hvs a ++ hvs b := by simp [hvs]
theorem hds_append (a b : List HomR) : hds (a ++ b) = hds a ++ hds b := by simp [hds]
theorem hvs_one (rs : List HomR) : ∀ u ∈ hvs rs, u.oneCell' = true := by
  intro u hu
  obtain ⟨r, _, h⟩ := List.mem_flatMap.1 hu
  simp only [HomR.vs, List.mem_cons, List.not_mem_nil, or_false] at h
  rcases h with rfl | rfl | rfl <;> rfl
/-- A home's places lie below block B. -/
def PIn (w : World) (B : Nat) (r : HomR) : Prop := SlV w B r.A (ints r.ps) ∧ r.ps.length ≤ r.c ∧ r.c ≤ maxLen
def HIn (w : World) (B : Nat) (rs : List HomR) : Prop := ∀ r ∈ rs, PIn w B r
/-- No home has many places. -/
def HShort (n : Nat) (rs : List HomR) : Prop := ∀ r ∈ rs, r.ps.length ≤ n
section
variable {w w' : World} {B B' : Nat} {r : HomR} {rs : List HomR}
theorem PIn.below (h : PIn w B r) (hb : Below B w w') : PIn w' B r := ⟨h.1.below hb, h.2⟩
theorem PIn.more (h : PIn w B r) (hB : B ≤ B') : PIn w B' r := ⟨h.1.more hB, h.2⟩
theorem PIn.next (h : PIn w w.heap.size r) (hb : Below w.heap.size w w') : PIn w' w'.heap.size r := (h.below hb).more hb.size
theorem HIn.below (h : HIn w B rs) (hb : Below B w w') : HIn w' B rs := fun r hr => (h r hr).below hb
theorem HIn.more (h : HIn w B rs) (hB : B ≤ B') : HIn w B' rs := fun r hr => (h r hr).more hB
theorem HIn.next (h : HIn w w.heap.size rs) (hb : Below w.heap.size w w') : HIn w' w'.heap.size rs := (h.below hb).more hb.size
theorem HIn.append {a b : List HomR} (h : HIn w B a) (k : HIn w B b) : HIn w B (a ++ b) := fun r hr => (List.mem_append.1 hr).elim (h r) (k r)
theorem HIn.nil (w : World) (B : Nat) : HIn w B [] := fun r hr => by cases hr
end
/-- One home of many. -/
theorem home_at {w : World} {B k : Nat} {A : Option Addr} {rs : List HomR} (hA : SlV w B A (hvs rs)) (hR : HIn w B rs) (hk : k < rs.length) :
    ∃ b off r, A = some ⟨b, off, none⟩ ∧ b < B ∧ w.cell? ⟨b, off + k * 3, none⟩ = some (.slice r.A r.ps.length r.c) ∧ w.cell? ⟨b, off + k * 3 + 1, none⟩ = some (.int .i64 r.nx) ∧ w.cell? ⟨b, off + k * 3 + 2, none⟩ = some (.int .i64 r.rt) ∧
      PIn w B r ∧ r ∈ rs ∧ rs[k]? = some r ∧ (hds rs)[k]? = some r.d := by
  obtain ⟨b, off, rfl, -, -⟩ := hA (by rw [hvs_length]; omega)
  have g := fun j (hj : j < 3) => flat_get HomR.vs 3 (fun _ => rfl) rs k j hj
  rw [List.getElem?_eq_getElem hk] at g
  have c0 := slv_cell hA (i := k * 3 + 0) (v := .slice rs[k].A rs[k].ps.length rs[k].c) ((g 0 (by omega)).trans rfl)
  have c1 := slv_cell hA (i := k * 3 + 1) (v := .int .i64 rs[k].nx) ((g 1 (by omega)).trans rfl)
  have c2 := slv_cell hA (i := k * 3 + 2) (v := .int .i64 rs[k].rt) ((g 2 (by omega)).trans rfl)
  have hm := List.getElem_mem hk
  exact ⟨b, off, rs[k], rfl, c0.2, c0.1, c1.1, c2.1, hR _ hm, hm, List.getElem?_eq_getElem hk, by simp [hds, hk]⟩

/-- An anchor's value, and what lies behind it. -/
structure AV where
  gen : Int
  ep : Int
  pos : Int
  seq : Int
  last : Int
  lab : ByteArray
  HA : Option Addr
  hc : Nat
  hs : List HomR
def AV.v (a : AV) : Value := .agg #[.int .i64 a.gen, .int .i64 a.ep, .int .i64 a.pos, .int .i64 a.seq, .int .i64 a.last, .string a.lab, .slice a.HA a.hs.length a.hc]
def AV.d (a : AV) : Anc := ⟨a.gen, a.ep, a.pos, a.seq, a.last, a.lab, hds a.hs⟩
structure AV.In (w : World) (B : Nat) (a : AV) : Prop where
  hh : SlV w B a.HA (hvs a.hs)
  hi : HIn w B a.hs
  hl : a.hs.length ≤ a.hc ∧ a.hc ≤ maxLen
section
variable {w w' : World} {B B' : Nat} {a : AV}
theorem AV.In.below (h : AV.In w B a) (hb : Below B w w') : AV.In w' B a := ⟨h.hh.below hb, h.hi.below hb, h.hl⟩
theorem AV.In.more (h : AV.In w B a) (hB : B ≤ B') : AV.In w B' a := ⟨h.hh.more hB, h.hi.more hB, h.hl⟩
theorem AV.In.next (h : AV.In w w.heap.size a) (hb : Below w.heap.size w w') : AV.In w' w'.heap.size a := (h.below hb).more hb.size
end
end Go.Proofs.Ytldknkikekaifaa.anc
