/-
  Cells and writes stored over in a disk of one's own. Conditions: none.
-/
import Derived.Test.YtegcbmimndmfkaaDkO
namespace Go.Proofs.Ytegcbmimndmfkaa.dsk
open Go.RowKit Go.Lib

theorem cvs_cons (x : CellR) (rs : List CellR) : cvs (x :: rs) = .int .i64 x.st :: x.b.v :: x.o.v :: cvs rs := rfl
theorem wvs_cons (x : WriR) (rs : List WriR) : wvs (x :: rs) = .int .i64 x.addr :: x.b.v :: wvs rs := rfl
theorem cvs_st (s : Int) : ∀ (rs : List CellR) (k : Nat), cvs (rs.modify k fun r => ⟨s, r.b, r.o⟩) = (cvs rs).set (k * 3) (.int .i64 s)
  | [], k => by simp [cvs]
  | x :: rs, 0 => by simp [cvs_cons]
  | x :: rs, k + 1 => by rw [show (k + 1) * 3 = k * 3 + 1 + 1 + 1 by omega, List.modify_succ_cons, cvs_cons, cvs_cons, cvs_st s rs k]; rfl
theorem cvs_b (b : Row) : ∀ (rs : List CellR) (k : Nat), cvs (rs.modify k fun r => ⟨r.st, b, r.o⟩) = (cvs rs).set (k * 3 + 1) b.v
  | [], k => by simp [cvs]
  | x :: rs, 0 => by simp [cvs_cons]
  | x :: rs, k + 1 => by rw [show (k + 1) * 3 + 1 = k * 3 + 1 + 1 + 1 + 1 by omega, List.modify_succ_cons, cvs_cons, cvs_cons, cvs_b b rs k]; rfl
theorem cvs_o (o : Row) : ∀ (rs : List CellR) (k : Nat), cvs (rs.modify k fun r => ⟨r.st, r.b, o⟩) = (cvs rs).set (k * 3 + 2) o.v
  | [], k => by simp [cvs]
  | x :: rs, 0 => by simp [cvs_cons]
  | x :: rs, k + 1 => by rw [show (k + 1) * 3 + 2 = k * 3 + 2 + 1 + 1 + 1 by omega, List.modify_succ_cons, cvs_cons, cvs_cons, cvs_o o rs k]; rfl
theorem wvs_a (a : Int) : ∀ (rs : List WriR) (k : Nat), wvs (rs.modify k fun r => ⟨a, r.b⟩) = (wvs rs).set (k * 2) (.int .i64 a)
  | [], k => by simp [wvs]
  | x :: rs, 0 => by simp [wvs_cons]
  | x :: rs, k + 1 => by rw [show (k + 1) * 2 = k * 2 + 1 + 1 by omega, List.modify_succ_cons, wvs_cons, wvs_cons, wvs_a a rs k]; rfl
theorem wvs_b (b : Row) : ∀ (rs : List WriR) (k : Nat), wvs (rs.modify k fun r => ⟨r.addr, b⟩) = (wvs rs).set (k * 2 + 1) b.v
  | [], k => by simp [wvs]
  | x :: rs, 0 => by simp [wvs_cons]
  | x :: rs, k + 1 => by rw [show (k + 1) * 2 + 1 = k * 2 + 1 + 1 + 1 by omega, List.modify_succ_cons, wvs_cons, wvs_cons, wvs_b b rs k]; rfl
theorem cds_modify {f : CellR → CellR} {f' : Cel → Cel} (h : ∀ r, (f r).d = f' r.d) : ∀ (rs : List CellR) (k : Nat), cds (rs.modify k f) = (cds rs).modify k f'
  | [], k => by simp [cds]
  | x :: rs, 0 => by simp [cds, h]
  | x :: rs, k + 1 => by
    rw [List.modify_succ_cons]
    show x.d :: cds (rs.modify k f) = (x.d :: cds rs).modify (k + 1) f'
    rw [cds_modify h rs k, List.modify_succ_cons]
theorem wds_modify {f : WriR → WriR} {f' : Wri → Wri} (h : ∀ r, (f r).d = f' r.d) : ∀ (rs : List WriR) (k : Nat), wds (rs.modify k f) = (wds rs).modify k f'
  | [], k => by simp [wds]
  | x :: rs, 0 => by simp [wds, h]
  | x :: rs, k + 1 => by
    rw [List.modify_succ_cons]
    show x.d :: wds (rs.modify k f) = (x.d :: wds rs).modify (k + 1) f'
    rw [wds_modify h rs k, List.modify_succ_cons]
theorem cvs_no8 (rs : List CellR) : ∀ u ∈ cvs rs, ∀ x, u ≠ by8 x := by
  intro u hu
  obtain ⟨r, _, h⟩ := List.mem_flatMap.1 hu
  simp only [CellR.vs, List.mem_cons, List.not_mem_nil, or_false] at h
  rcases h with rfl | rfl | rfl
  · exact int_no8 _
  · exact slice_no8 _ _ _
  · exact slice_no8 _ _ _
theorem wvs_no8 (rs : List WriR) : ∀ u ∈ wvs rs, ∀ x, u ≠ by8 x := by
  intro u hu
  obtain ⟨r, _, h⟩ := List.mem_flatMap.1 hu
  simp only [WriR.vs, List.mem_cons, List.not_mem_nil, or_false] at h
  rcases h with rfl | rfl
  · exact int_no8 _
  · exact slice_no8 _ _ _
theorem mem_modify {α : Type} {f : α → α} {l : List α} {k : Nat} {x : α} (h : x ∈ l.modify k f) : x ∈ l ∨ ∃ y ∈ l, x = f y := by
  induction l generalizing k with
  | nil => simp at h
  | cons y l ih =>
    cases k with
    | zero =>
      rw [List.modify_zero_cons] at h
      rcases List.mem_cons.1 h with rfl | h
      · exact .inr ⟨y, List.mem_cons_self, rfl⟩
      · exact .inl (List.mem_cons_of_mem _ h)
    | succ k =>
      rw [List.modify_succ_cons] at h
      rcases List.mem_cons.1 h with rfl | h
      · exact .inl List.mem_cons_self
      · rcases ih h with h | ⟨z, hz, e⟩
        · exact .inl (List.mem_cons_of_mem _ h)
        · exact .inr ⟨z, List.mem_cons_of_mem _ hz, e⟩
theorem modify_take {α : Type} (d : α) : ∀ (l : List α) (k : Nat), k < l.length → (l.modify k fun _ => d).take (k + 1) = l.take k ++ [d]
  | [], k, h => by simp at h
  | x :: l, 0, _ => by simp
  | x :: l, k + 1, h => by
    rw [List.modify_succ_cons, List.take_succ_cons, modify_take d l k (by simpa using h)]
    rfl
section
variable {w : World} {base g : Nat} {y : DV}
theorem DV.Own.ne_w (h : y.Own w base) (hA : y.CA = some ⟨g, 0, none⟩) : (Value.slice y.WA y.ws.length y.wc).ownBlock ≠ some g := by
  have := row_apart h.ow h.oc cell_write.symm
  rw [hA] at this
  rcases this with h1 | h1
  · rw [h1]; exact fun h => by cases h
  · exact h1
theorem DV.Own.ne_c (h : y.Own w base) (hA : y.WA = some ⟨g, 0, none⟩) : (Value.slice y.CA y.cs.length y.cc).ownBlock ≠ some g := by
  have := row_apart h.oc h.ow cell_write
  rw [hA] at this
  rcases this with h1 | h1
  · rw [h1]; exact fun h => by cases h
  · exact h1
/-- A value of the row of cells stored over. -/
theorem DV.Own.store (h : y.Own w base) (hA : y.CA = some ⟨g, 0, none⟩) {j : Nat} {v : Value} {cs' : List CellR} (hj : j < y.cs.length * 3) (hl : cs'.length = y.cs.length) (hv : cvs cs' = (cvs y.cs).set j v)
    (hci : ∀ r ∈ cs', RIn w w.heap.size r.b ∧ RIn w w.heap.size r.o) : DV.Own (w.setCell ⟨g, j, none⟩ v) base ⟨y.CA, y.cc, cs', y.WA, y.wc, y.ws, y.reqs, y.left⟩ := by
  have hoc := h.oc
  rw [hA] at hoc
  have hjl : j < (cvs y.cs).length := by rw [cvs_length]; exact hj
  have hp : w.cell? ⟨g, j, none⟩ = some (cvs y.cs)[j] := by
    have := World.ownsRow.cells hoc (g := g) rfl j (cvs y.cs)[j] (List.getElem?_eq_getElem hjl)
    rwa [Addr.add_lit, Nat.zero_add] at this
  have h8 := cvs_no8 y.cs _ (List.getElem_mem hjl)
  have hs : (w.setCell ⟨g, j, none⟩ v).heap.size = w.heap.size := by simp
  refine ⟨?_, ownsRow_setCell_other h.ow (h.ne_w hA) v, fun r hr => by rw [hs]; exact ⟨rin_set (hci r hr).1 hp h8 v, rin_set (hci r hr).2 hp h8 v⟩, fun r hr => by rw [hs]; exact rin_set (h.wi r hr) hp h8 v⟩
  show World.ownsRow _ base _ 3 (.slice y.CA cs'.length y.cc) cs'.length (cvs cs')
  rw [hl, hA, hv]
  exact (World.ownsRow.stored hoc j v).1
theorem DV.Own.storeW (h : y.Own w base) (hA : y.WA = some ⟨g, 0, none⟩) {j : Nat} {v : Value} {ws' : List WriR} (hj : j < y.ws.length * 2) (hl : ws'.length = y.ws.length) (hv : wvs ws' = (wvs y.ws).set j v)
    (hwi : ∀ r ∈ ws', RIn w w.heap.size r.b) : DV.Own (w.setCell ⟨g, j, none⟩ v) base ⟨y.CA, y.cc, y.cs, y.WA, y.wc, ws', y.reqs, y.left⟩ := by
  have how := h.ow
  rw [hA] at how
  have hjl : j < (wvs y.ws).length := by rw [wvs_length]; exact hj
  have hp : w.cell? ⟨g, j, none⟩ = some (wvs y.ws)[j] := by
    have := World.ownsRow.cells how (g := g) rfl j (wvs y.ws)[j] (List.getElem?_eq_getElem hjl)
    rwa [Addr.add_lit, Nat.zero_add] at this
  have h8 := wvs_no8 y.ws _ (List.getElem_mem hjl)
  have hs : (w.setCell ⟨g, j, none⟩ v).heap.size = w.heap.size := by simp
  refine ⟨ownsRow_setCell_other h.oc (h.ne_c hA) v, ?_, fun r hr => by rw [hs]; exact ⟨rin_set (h.ci r hr).1 hp h8 v, rin_set (h.ci r hr).2 hp h8 v⟩, fun r hr => by rw [hs]; exact rin_set (hwi r hr) hp h8 v⟩
  show World.ownsRow _ base _ 2 (.slice y.WA ws'.length y.wc) ws'.length (wvs ws')
  rw [hl, hA, hv]
  exact (World.ownsRow.stored how j v).1
/-- A state, the bytes, the old bytes of one cell. -/
theorem DV.Own.st (h : y.Own w base) (hA : y.CA = some ⟨g, 0, none⟩) {k : Nat} (hk : k < y.cs.length) (s : Int) : DV.Own (w.setCell ⟨g, k * 3, none⟩ (.int .i64 s)) base ⟨y.CA, y.cc, y.cs.modify k fun r => ⟨s, r.b, r.o⟩, y.WA, y.wc, y.ws, y.reqs, y.left⟩ :=
  h.store hA (by omega) (by simp) (cvs_st s _ _) fun r hr => (mem_modify hr).elim (h.ci r) fun ⟨q, hq, e⟩ => by subst e; exact h.ci q hq
theorem DV.Own.b (h : y.Own w base) (hA : y.CA = some ⟨g, 0, none⟩) {k : Nat} (hk : k < y.cs.length) {b : Row} (hb : RIn w w.heap.size b) : DV.Own (w.setCell ⟨g, k * 3 + 1, none⟩ b.v) base ⟨y.CA, y.cc, y.cs.modify k fun r => ⟨r.st, b, r.o⟩, y.WA, y.wc, y.ws, y.reqs, y.left⟩ :=
  h.store hA (by omega) (by simp) (cvs_b b _ _) fun r hr => (mem_modify hr).elim (h.ci r) fun ⟨q, hq, e⟩ => by subst e; exact ⟨hb, (h.ci q hq).2⟩
theorem DV.Own.o (h : y.Own w base) (hA : y.CA = some ⟨g, 0, none⟩) {k : Nat} (hk : k < y.cs.length) {b : Row} (hb : RIn w w.heap.size b) : DV.Own (w.setCell ⟨g, k * 3 + 2, none⟩ b.v) base ⟨y.CA, y.cc, y.cs.modify k fun r => ⟨r.st, r.b, b⟩, y.WA, y.wc, y.ws, y.reqs, y.left⟩ :=
  h.store hA (by omega) (by simp) (cvs_o b _ _) fun r hr => (mem_modify hr).elim (h.ci r) fun ⟨q, hq, e⟩ => by subst e; exact ⟨(h.ci q hq).1, hb⟩
theorem DV.Own.wa (h : y.Own w base) (hA : y.WA = some ⟨g, 0, none⟩) {k : Nat} (hk : k < y.ws.length) (s : Int) : DV.Own (w.setCell ⟨g, k * 2, none⟩ (.int .i64 s)) base ⟨y.CA, y.cc, y.cs, y.WA, y.wc, y.ws.modify k fun r => ⟨s, r.b⟩, y.reqs, y.left⟩ :=
  h.storeW hA (by omega) (by simp) (wvs_a s _ _) fun r hr => (mem_modify hr).elim (h.wi r) fun ⟨q, hq, e⟩ => by subst e; exact h.wi q hq
theorem DV.Own.wb (h : y.Own w base) (hA : y.WA = some ⟨g, 0, none⟩) {k : Nat} (hk : k < y.ws.length) {b : Row} (hb : RIn w w.heap.size b) : DV.Own (w.setCell ⟨g, k * 2 + 1, none⟩ b.v) base ⟨y.CA, y.cc, y.cs, y.WA, y.wc, y.ws.modify k fun r => ⟨r.addr, b⟩, y.reqs, y.left⟩ :=
  h.storeW hA (by omega) (by simp) (wvs_b b _ _) fun r hr => (mem_modify hr).elim (h.wi r) fun ⟨q, hq, e⟩ => by subst e; exact hb
/-- The whole cell. -/
theorem DV.Own.cell (h : y.Own w base) (hA : y.CA = some ⟨g, 0, none⟩) {k : Nat} (hk : k < y.cs.length) (s : Int) {b o : Row} (hb : RIn w w.heap.size b) (ho : RIn w w.heap.size o) :
    DV.Own (((w.setCell ⟨g, k * 3, none⟩ (.int .i64 s)).setCell ⟨g, k * 3 + 1, none⟩ b.v).setCell ⟨g, k * 3 + 2, none⟩ o.v) base ⟨y.CA, y.cc, y.cs.modify k fun _ => ⟨s, b, o⟩, y.WA, y.wc, y.ws, y.reqs, y.left⟩ := by
  have hp : ∀ i, i < 3 → ∃ v, w.cell? ⟨g, k * 3 + i, none⟩ = some v ∧ ∀ x, v ≠ by8 x := fun i hi => by
    have hoc := h.oc
    rw [hA] at hoc
    have hjl : k * 3 + i < (cvs y.cs).length := by rw [cvs_length]; omega
    have := World.ownsRow.cells hoc (g := g) rfl (k * 3 + i) (cvs y.cs)[k * 3 + i] (List.getElem?_eq_getElem hjl)
    rw [Addr.add_lit, Nat.zero_add] at this
    exact ⟨_, this, cvs_no8 y.cs _ (List.getElem_mem hjl)⟩
  obtain ⟨v0, p0, n0⟩ := hp 0 (by omega)
  obtain ⟨v1, p1, n1⟩ := hp 1 (by omega)
  rw [Nat.add_zero] at p0
  have q1 : (w.setCell ⟨g, k * 3, none⟩ (.int .i64 s)).cell? ⟨g, k * 3 + 1, none⟩ = some v1 := by rw [World.cell?_setCell_other _ _ _ _ (by simp)]; exact p1
  have h1 := h.st hA hk s
  have hs : (w.setCell ⟨g, k * 3, none⟩ (.int .i64 s)).heap.size = w.heap.size := by simp
  have hs2 : ((w.setCell ⟨g, k * 3, none⟩ (.int .i64 s)).setCell ⟨g, k * 3 + 1, none⟩ b.v).heap.size = w.heap.size := by simp
  have h2 := h1.b (g := g) hA (k := k) (by simpa using hk) (b := b) (by rw [hs]; exact rin_set hb p0 n0 _)
  have h3 := h2.o (g := g) hA (k := k) (by simpa using hk) (b := o) (by rw [hs2]; exact rin_set (rin_set ho p0 n0 _) q1 n1 _)
  have e : ∀ (l : List CellR) (k : Nat), ((l.modify k fun r => ⟨s, r.b, r.o⟩).modify k fun r => ⟨r.st, b, r.o⟩).modify k (fun r => ⟨r.st, r.b, o⟩) = l.modify k fun _ => ⟨s, b, o⟩ := by
    intro l
    induction l with
    | nil => simp
    | cons x l ih => intro k; cases k <;> simp [ih]
  dsimp only at h3
  rw [e] at h3
  exact h3
theorem DV.Own.write (h : y.Own w base) (hA : y.WA = some ⟨g, 0, none⟩) {k : Nat} (hk : k < y.ws.length) (s : Int) {b : Row} (hb : RIn w w.heap.size b) :
    DV.Own ((w.setCell ⟨g, k * 2, none⟩ (.int .i64 s)).setCell ⟨g, k * 2 + 1, none⟩ b.v) base ⟨y.CA, y.cc, y.cs, y.WA, y.wc, y.ws.modify k fun _ => ⟨s, b⟩, y.reqs, y.left⟩ := by
  have hjl : k * 2 < (wvs y.ws).length := by rw [wvs_length]; omega
  have p0 : w.cell? ⟨g, k * 2, none⟩ = some (wvs y.ws)[k * 2] := by
    have how := h.ow
    rw [hA] at how
    have := World.ownsRow.cells how (g := g) rfl (k * 2) (wvs y.ws)[k * 2] (List.getElem?_eq_getElem hjl)
    rwa [Addr.add_lit, Nat.zero_add] at this
  have h1 := h.wa hA hk s
  have hs : (w.setCell ⟨g, k * 2, none⟩ (.int .i64 s)).heap.size = w.heap.size := by simp
  have h2 := h1.wb (g := g) hA (k := k) (by simpa using hk) (b := b) (by rw [hs]; exact rin_set hb p0 (wvs_no8 y.ws _ (List.getElem_mem hjl)) _)
  have e : ∀ (l : List WriR) (k : Nat), ((l.modify k fun r => ⟨s, r.b⟩).modify k fun r => ⟨r.addr, b⟩) = l.modify k fun _ => ⟨s, b⟩ := by
    intro l
    induction l with
    | nil => simp
    | cons x l ih => intro k; cases k <;> simp [ih]
  dsimp only at h2
  rw [e] at h2
  exact h2
theorem DV.Own.at (h : y.Own w base) (hA : y.CA = some ⟨g, 0, none⟩) {k : Nat} (hk : k < y.cs.length) :
    ∃ r, y.cs[k]? = some r ∧ w.cell? ⟨g, k * 3, none⟩ = some (.int .i64 r.st) ∧ w.cell? ⟨g, k * 3 + 1, none⟩ = some (.slice r.b.A r.b.l.length r.b.c) ∧ w.cell? ⟨g, k * 3 + 2, none⟩ = some (.slice r.o.A r.o.l.length r.o.c) ∧
      w.frozen? ⟨g, k * 3, none⟩ = false ∧ w.frozen? ⟨g, k * 3 + 1, none⟩ = false ∧ w.frozen? ⟨g, k * 3 + 2, none⟩ = false ∧ base ≤ g ∧ g < w.heap.size ∧ RIn w w.heap.size r.b ∧ RIn w w.heap.size r.o ∧ (cds y.cs)[k]? = some r.d := by
  have hc := (row_in h.oc).1
  have hoc := h.oc
  rw [hA] at hc hoc
  obtain ⟨b1, off, r, e, hb, c0, c1, c2, m1, m2, -, e1, e2⟩ := cell_at hc h.ci hk
  simp only [Option.some.injEq, Addr.mk.injEq, and_true] at e
  obtain ⟨rfl, rfl⟩ := e
  rw [Nat.zero_add] at c0 c1 c2
  have hl := World.ownsRow.lt hoc g rfl
  exact ⟨r, e1, c0, c1, c2, World.ownsRow.frozenAt hoc _, World.ownsRow.frozenAt hoc _, World.ownsRow.frozenAt hoc _, hl.1, hl.2, m1, m2, e2⟩
theorem DV.Own.atW (h : y.Own w base) (hA : y.WA = some ⟨g, 0, none⟩) {k : Nat} (hk : k < y.ws.length) :
    ∃ r, y.ws[k]? = some r ∧ w.cell? ⟨g, k * 2, none⟩ = some (.int .i64 r.addr) ∧ w.cell? ⟨g, k * 2 + 1, none⟩ = some (.slice r.b.A r.b.l.length r.b.c) ∧
      w.frozen? ⟨g, k * 2, none⟩ = false ∧ w.frozen? ⟨g, k * 2 + 1, none⟩ = false ∧ base ≤ g ∧ g < w.heap.size ∧ RIn w w.heap.size r.b ∧ (wds y.ws)[k]? = some r.d := by
  have hc := (row_in h.ow).1
  have how := h.ow
  rw [hA] at hc how
  obtain ⟨b1, off, r, e, hb, c0, c1, m1, -, e1, e2⟩ := write_at hc h.wi hk
  simp only [Option.some.injEq, Addr.mk.injEq, and_true] at e
  obtain ⟨rfl, rfl⟩ := e
  rw [Nat.zero_add] at c0 c1
  have hl := World.ownsRow.lt how g rfl
  exact ⟨r, e1, c0, c1, World.ownsRow.frozenAt how _, World.ownsRow.frozenAt how _, hl.1, hl.2, m1, e2⟩
end
end Go.Proofs.Ytegcbmimndmfkaa.dsk
