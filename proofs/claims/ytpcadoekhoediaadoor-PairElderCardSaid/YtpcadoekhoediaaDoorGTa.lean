/-
  Tables of zones as plain data, and their bytes: plain mathematics. No condition beyond each law's own.
  Tables as they lie in memory (a row of entries of three values each); copied, compared. Conditions: each law's own.
  casematekeep.Table: whether two tables are the same; TwinTable: a table like it. Conditions: rows shorter than 2^20.
  The document's tables: whether one is right, a new one. Conditions: a right geometry.
  The document's bytes of a table. Conditions: entries that are right.
  What table bytes are, by the document. Conditions: a right geometry.
  The document's new table. Conditions: a right geometry.
  What the laws of package table ask of its functions; the laws' own example (wakes). Conditions: 'Ctt'.
-/
import Derived.Test.YtpcadoekhoediaaDoorGPk
import Derived.Test.YtpcadoekhoediaaDoorAnF
import Derived.Test.YtpcadoekhoediaaDoorGGm
import Derived.Deep.CutRange
import Derived.Laws.StructEq
import Derived.Test.YtpcadoekhoediaaDoorTail
import Derived.Test.YtpcadoekhoediaaDoorGSum
namespace Go.Proofs.YtpcadoekhoediaaDoor.tbl
open Go.Proofs.YtpcadoekhoediaaDoor.pck (le num le_length num_le num_lt le_num num_append)

/-- What a table says of a block: plain data. -/
structure Ent where
  st : Int
  sm : Int
  ls : Bool
instance : DecidableEq Ent := fun a b => decidable_of_iff (a.st = b.st ∧ a.sm = b.sm ∧ a.ls = b.ls) ⟨fun ⟨h1, h2, h3⟩ => by cases a; cases b; simp_all, fun h => by rw [h]; exact ⟨rfl, rfl, rfl⟩⟩
def lsN (b : Bool) : Nat := if b then 1 else 0
theorem lsN_le (b : Bool) : lsN b ≤ 1 := by cases b <;> decide
theorem lsN_eq (b : Bool) : (lsN b == 1) = b := by cases b <;> rfl
def entB (e : Ent) : List UInt8 := le 4 e.st.toNat ++ (le 4 e.sm.toNat ++ le 1 (lsN e.ls))
def encT (es : List Ent) : List UInt8 := es.flatMap entB
theorem entB_length (e : Ent) : (entB e).length = 9 := by unfold entB; simp [le_length]
theorem encT_length : ∀ es : List Ent, (encT es).length = es.length * 9
  | [] => rfl
  | e :: es => by
    have h : encT (e :: es) = entB e ++ encT es := by simp [encT]
    rw [h, List.length_append, entB_length, encT_length es, List.length_cons]
    omega
theorem encT_next {es : List Ent} {k : Nat} {e : Ent} (h : es[k]? = some e) : encT (es.take (k + 1)) = encT (es.take k) ++ entB e := by
  rw [List.take_add_one, h]
  simp [encT]
def EntOk (e : Ent) : Prop := (0 ≤ e.st ∧ e.st ≤ 4294967295) ∧ 0 ≤ e.sm ∧ e.sm ≤ 4294967295
/-- A right table of zones of d blocks. -/
def Good (d : Int) (es : List Ent) : Prop := (es.length : Int) = d + 1 ∧ (∀ e ∈ es, EntOk e) ∧ ∀ e, es[d.toNat]? = some e → e.ls = false
/-- What bytes say. -/
def entN (r : List UInt8) : Ent := ⟨(num (r.take 4) : Int), (num ((r.drop 4).take 4) : Int), num ((r.drop 8).take 1) == 1⟩
def entsN (r : List UInt8) (n : Nat) : List Ent := (List.range n).map fun k => entN (r.drop (k * 9))
def lostAt (r : List UInt8) (k : Nat) : Nat := num ((r.drop (k * 9 + 8)).take 1)
theorem entsN_length (r : List UInt8) (n : Nat) : (entsN r n).length = n := by simp [entsN]
theorem entsN_next (r : List UInt8) (n : Nat) : entsN r (n + 1) = entsN r n ++ [entN (r.drop (n * 9))] := by simp [entsN, List.range_succ]
theorem entsN_get {r : List UInt8} {n k : Nat} (h : k < n) : (entsN r n)[k]? = some (entN (r.drop (k * 9))) := by simp [entsN, h]
theorem le_cut (r : List UInt8) (k n : Nat) (h : k + n ≤ r.length) : le n (num ((r.drop k).take n)) = (r.drop k).take n := by
  have hl : ((r.drop k).take n).length = n := by rw [List.length_take, List.length_drop]; omega
  have h9 := le_num ((r.drop k).take n)
  rwa [hl] at h9
theorem take_num_lt (r : List UInt8) (n : Nat) : num (r.take n) < 256 ^ n := by
  have h := num_lt (r.take n)
  have h2 : (r.take n).length ≤ n := by rw [List.length_take]; omega
  exact Nat.lt_of_lt_of_le h (Nat.pow_le_pow_right (by omega) h2)
theorem entN_ok (r : List UInt8) : EntOk (entN r) := by
  have h1 := take_num_lt r 4
  have h2 := take_num_lt (r.drop 4) 4
  refine ⟨⟨Int.natCast_nonneg _, ?_⟩, Int.natCast_nonneg _, ?_⟩
  · show ((num (r.take 4) : Nat) : Int) ≤ _
    omega
  · show ((num ((r.drop 4).take 4) : Nat) : Int) ≤ _
    omega
theorem entsN_ok (r : List UInt8) (n : Nat) : ∀ e ∈ entsN r n, EntOk e := fun e he => by
  obtain ⟨k, _, rfl⟩ := List.mem_map.1 he
  exact entN_ok _
theorem take_three (r : List UInt8) : r.take 9 = r.take 4 ++ ((r.drop 4).take 4 ++ (r.drop 8).take 1) := by
  have h1 : r.take 9 = r.take 4 ++ (r.drop 4).take 5 := by rw [← List.take_add]
  have h2 : (r.drop 4).take 5 = (r.drop 4).take 4 ++ ((r.drop 4).drop 4).take 1 := by rw [← List.take_add]
  rw [h1, h2, List.drop_drop]
theorem entB_entN {r : List UInt8} (h : 9 ≤ r.length) (hl : num ((r.drop 8).take 1) ≤ 1) : entB (entN r) = r.take 9 := by
  have e1 := le_cut r 0 4 (by omega)
  rw [List.drop_zero] at e1
  have e2 := le_cut r 4 4 (by omega)
  have e3 := le_cut r 8 1 (by omega)
  have e4 : lsN (num ((r.drop 8).take 1) == 1) = num ((r.drop 8).take 1) := by
    generalize num ((r.drop 8).take 1) = x at *
    rcases (show x = 0 ∨ x = 1 by omega) with rfl | rfl <;> rfl
  rw [take_three]
  show le 4 ((num (r.take 4) : Nat) : Int).toNat ++ (le 4 ((num ((r.drop 4).take 4) : Nat) : Int).toNat ++ le 1 (lsN (num ((r.drop 8).take 1) == 1))) = _
  rw [Int.toNat_natCast, Int.toNat_natCast, e4, e1, e2, e3]
theorem entsN_enc (r : List UInt8) : ∀ n, n * 9 ≤ r.length → (∀ k, k < n → lostAt r k ≤ 1) → encT (entsN r n) = r.take (n * 9)
  | 0, _, _ => by simp [entsN, encT]
  | n + 1, h, hl => by
    have ih := entsN_enc r n (by omega) fun k hk => hl k (by omega)
    have h9 : entB (entN (r.drop (n * 9))) = (r.drop (n * 9)).take 9 := entB_entN (by rw [List.length_drop]; omega) (by
      have := hl n (by omega)
      unfold lostAt at this
      rw [List.drop_drop]
      exact this)
    rw [entsN_next, show encT (entsN r n ++ [entN (r.drop (n * 9))]) = encT (entsN r n) ++ entB (entN (r.drop (n * 9))) by simp [encT], ih, h9, ← List.take_add]
    congr 1
    omega
theorem num_four {n : Int} (h : 0 ≤ n ∧ n ≤ 4294967295) : ((num (le 4 n.toNat) : Nat) : Int) = n := by rw [num_le _ _ (by omega)]; omega
theorem cut_left (x y z : List UInt8) (k n : Nat) (hk : x.length = k) (hn : y.length = n) : ((x ++ (y ++ z)).drop k).take n = y := by
  subst hk hn
  rw [List.drop_left, List.take_left]
theorem entN_parts (e : Ent) (r : List UInt8) : (entB e ++ r).take 4 = le 4 e.st.toNat ∧ ((entB e ++ r).drop 4).take 4 = le 4 e.sm.toNat ∧ ((entB e ++ r).drop 8).take 1 = le 1 (lsN e.ls) := by
  have h : entB e ++ r = le 4 e.st.toNat ++ (le 4 e.sm.toNat ++ (le 1 (lsN e.ls) ++ r)) := by simp [entB, List.append_assoc]
  rw [h]
  refine ⟨?_, cut_left _ _ _ 4 4 (le_length _ _) (le_length _ _), ?_⟩
  · have := cut_left [] (le 4 e.st.toNat) (le 4 e.sm.toNat ++ (le 1 (lsN e.ls) ++ r)) 0 4 rfl (le_length _ _)
    simpa using this
  · rw [← List.append_assoc]
    exact cut_left _ _ _ 8 1 (by rw [List.length_append, le_length, le_length]) (le_length _ _)
theorem entN_entB {e : Ent} (h : EntOk e) (r : List UInt8) : entN (entB e ++ r) = e := by
  obtain ⟨p1, p2, p3⟩ := entN_parts e r
  unfold entN
  rw [p1, p2, p3, num_four h.1, num_four h.2, num_le 1 _ (by have := lsN_le e.ls; omega), lsN_eq]
theorem encT_drop {es : List Ent} {k : Nat} {e : Ent} (h : es[k]? = some e) : ∃ r, (encT es).drop (k * 9) = entB e ++ r := by
  induction es generalizing k with
  | nil => simp at h
  | cons x es ih =>
    have hx : encT (x :: es) = entB x ++ encT es := by simp [encT]
    rw [hx]
    cases k with
    | zero =>
      simp only [List.getElem?_cons_zero, Option.some.injEq] at h
      subst h
      exact ⟨encT es, by simp⟩
    | succ k =>
      obtain ⟨r, hr⟩ := ih (by simpa using h)
      refine ⟨r, ?_⟩
      rw [← hr, show (k + 1) * 9 = (entB x).length + k * 9 by rw [entB_length]; omega, ← List.drop_drop, List.drop_left]
theorem entsN_of {es : List Ent} (h : ∀ e ∈ es, EntOk e) : entsN (encT es) es.length = es := by
  refine List.ext_getElem? fun k => ?_
  by_cases hk : k < es.length
  · rw [entsN_get hk, List.getElem?_eq_getElem hk]
    obtain ⟨r, hr⟩ := encT_drop (List.getElem?_eq_getElem hk)
    rw [hr, entN_entB (h _ (List.getElem_mem hk))]
  · rw [List.getElem?_eq_none (by rw [entsN_length]; omega), List.getElem?_eq_none (by omega)]
theorem lost_of {es : List Ent} {k : Nat} {e : Ent} (h : es[k]? = some e) : lostAt (encT es) k = lsN e.ls := by
  obtain ⟨r, hr⟩ := encT_drop h
  unfold lostAt
  rw [← List.drop_drop, hr, (entN_parts e r).2.2, num_le 1 _ (by have := lsN_le e.ls; omega)]
theorem encT_inj {a b : List Ent} (ha : ∀ e ∈ a, EntOk e) (hb : ∀ e ∈ b, EntOk e) (h : encT a = encT b) : a = b := by
  have hl : a.length = b.length := by
    have := congrArg List.length h
    rw [encT_length, encT_length] at this
    omega
  rw [← entsN_of ha, ← entsN_of hb, h, hl]
/-- Whose bytes they are: of the one that they say, or of none. -/
def Told (d : Int) (b : List UInt8) : Prop := (b.length : Int) = 9 * (d + 1) ∧ (∀ k : Nat, (k : Int) ≤ d → lostAt b k ≤ 1) ∧ Good d (entsN b (d.toNat + 1))
theorem told_of {d : Int} {es : List Ent} (hd : 0 ≤ d) (h : Good d es) : Told d (encT es) ∧ entsN (encT es) (d.toNat + 1) = es := by
  obtain ⟨h1, h2, h3⟩ := h
  have hl : d.toNat + 1 = es.length := by omega
  have he : entsN (encT es) (d.toNat + 1) = es := by rw [hl]; exact entsN_of h2
  refine ⟨⟨by rw [encT_length]; omega, fun k hk => ?_, by rw [he]; exact ⟨h1, h2, h3⟩⟩, he⟩
  have hk2 : k < es.length := by omega
  rw [lost_of (List.getElem?_eq_getElem hk2)]
  exact lsN_le _
theorem of_told {d : Int} {b : List UInt8} (hd : 0 ≤ d) (h : Told d b) : b = encT (entsN b (d.toNat + 1)) := by
  obtain ⟨h1, h2, -⟩ := h
  rw [entsN_enc b (d.toNat + 1) (by omega) fun k hk => h2 k (by omega), List.take_of_length_le (by omega)]
end Go.Proofs.YtpcadoekhoediaaDoor.tbl

namespace Go.Proofs.YtpcadoekhoediaaDoor.tbl
open Go.RowKit Go.Lib
open Go.Proofs.YtpcadoekhoediaaDoor.gmt (five_new)
open Go.Proofs.YtpcadoekhoediaaDoor.anc (flat_get flat_len slv_cell bl kal kst ks bm ka take_same take_other row_form row_below row_apart)

def Ent.vs (e : Ent) : List Value := [.int .i64 e.st, .int .i64 e.sm, .bool e.ls]
def evs (es : List Ent) : List Value := es.flatMap Ent.vs
theorem evs_length (es : List Ent) : (evs es).length = es.length * 3 := flat_len Ent.vs 3 (fun _ => rfl) es
theorem evs_append (a b : List Ent) : evs (a ++ b) = evs a ++ evs b := by simp [evs]
theorem evs_one (es : List Ent) : ∀ u ∈ evs es, u.oneCell' = true := by
  intro u hu
  obtain ⟨r, _, h⟩ := List.mem_flatMap.1 hu
  simp only [Ent.vs, List.mem_cons, List.not_mem_nil, or_false] at h
  rcases h with rfl | rfl | rfl <;> rfl
/-- One entry of many. -/
theorem ent_at {w : World} {B k : Nat} {A : Option Addr} {es : List Ent} (hA : SlV w B A (evs es)) (hk : k < es.length) :
    ∃ b off e, A = some ⟨b, off, none⟩ ∧ b < B ∧ w.cell? ⟨b, off + k * 3, none⟩ = some (.int .i64 e.st) ∧ w.cell? ⟨b, off + k * 3 + 1, none⟩ = some (.int .i64 e.sm) ∧ w.cell? ⟨b, off + k * 3 + 2, none⟩ = some (.bool e.ls) ∧ e ∈ es ∧ es[k]? = some e := by
  obtain ⟨b, off, rfl, -, -⟩ := hA (by rw [evs_length]; omega)
  have g := fun j (hj : j < 3) => flat_get Ent.vs 3 (fun _ => rfl) es k j hj
  rw [List.getElem?_eq_getElem hk] at g
  have c0 := slv_cell hA (i := k * 3 + 0) (v := .int .i64 es[k].st) ((g 0 (by omega)).trans rfl)
  have c1 := slv_cell hA (i := k * 3 + 1) (v := .int .i64 es[k].sm) ((g 1 (by omega)).trans rfl)
  have c2 := slv_cell hA (i := k * 3 + 2) (v := .bool es[k].ls) ((g 2 (by omega)).trans rfl)
  exact ⟨b, off, es[k], rfl, c0.2, c0.1, c1.1, c2.1, List.getElem_mem hk, List.getElem?_eq_getElem hk⟩
/-- A table as it lies. -/
structure TV where
  A : Option Addr
  c : Nat
  es : List Ent
def TV.v (t : TV) : Value := .agg #[.slice t.A t.es.length t.c]
structure TV.In (w : World) (B : Nat) (t : TV) : Prop where
  h : SlV w B t.A (evs t.es)
  l : t.es.length ≤ t.c ∧ t.c ≤ maxLen
section
variable {w w' : World} {B B' : Nat} {t : TV}
theorem TV.In.below (h : TV.In w B t) (hb : Below B w w') : TV.In w' B t := ⟨h.h.below hb, h.l⟩
theorem TV.In.more (h : TV.In w B t) (hB : B ≤ B') : TV.In w B' t := ⟨h.h.more hB, h.l⟩
theorem TV.In.next (h : TV.In w w.heap.size t) (hb : Below w.heap.size w w') : TV.In w' w'.heap.size t := (h.below hb).more hb.size
end
/-- Entries of one's own. -/
def OwnE (w : World) (base : Nat) (v : Value) (es : List Ent) : Prop := w.ownsRow base 147 3 v es.length (evs es)
theorem e_info : (Tryd.prog.info? 147).map (fun i => (i.zero, i.size, i.bytes)) = some (some (.agg #[.int .i64 0, .int .i64 0, .bool false]), 3, 24) := by kernel_rfl
section
variable {w w' : World} {base : Nat} {v : Value} {es : List Ent}
theorem ownE_nil (w : World) (base : Nat) : OwnE w base (.slice none 0 0) [] := World.ownsRow_nil w base _ 3
theorem OwnE.below (h : OwnE w base v es) (hb : Below w.heap.size w w') : OwnE w' base v es := row_below h hb
theorem OwnE.less {base' : Nat} (h : OwnE w base v es) (hb : base' ≤ base) : OwnE w base' v es := by
  refine ⟨h.1, ?_⟩
  rcases h.2 with k | ⟨g, cap, cur, a, b, c⟩
  · exact .inl k
  · exact .inr ⟨g, cap, cur, a, by omega, c⟩
theorem OwnE.cell_set {g o : Nat} (h : OwnE w base v es) (hg : g < base) (x : Value) : OwnE (w.setCell ⟨g, o, none⟩ x) base v es :=
  ownsRow_setCell_other h (fun k => by have := (World.ownsRow.lt h g k).1; omega) x
end
/-- A table of one's own. -/
def TV.Own (w : World) (base : Nat) (t : TV) : Prop := OwnE w base (.slice t.A t.es.length t.c) t.es
section
variable {w w' : World} {base : Nat} {t : TV}
theorem TV.Own.below (h : TV.Own w base t) (hb : Below w.heap.size w w') : TV.Own w' base t := OwnE.below h hb
theorem TV.Own.less {base' : Nat} (h : TV.Own w base t) (hb : base' ≤ base) : TV.Own w base' t := OwnE.less h hb
theorem TV.Own.inn (h : TV.Own w base t) : t.In w w.heap.size := by
  obtain ⟨A', c', hv, h1, h2, hs⟩ := row_form h
  simp only [Value.slice.injEq] at hv
  obtain ⟨ha, -, hc⟩ := hv
  exact ⟨by rw [ha]; exact hs, by omega, by omega⟩
end
theorem ownE_tv {w : World} {base : Nat} {v : Value} {es : List Ent} (h : OwnE w base v es) : ∃ t : TV, v = .slice t.A t.es.length t.c ∧ t.es = es ∧ t.Own w base := by
  obtain ⟨A, c, hv, -, -, -⟩ := row_form h
  exact ⟨⟨A, c, es⟩, hv, rfl, by rw [hv] at h; exact h⟩
def noTV : TV := ⟨none, 0, []⟩
theorem noTV_own (w : World) (base : Nat) : noTV.Own w base := ownE_nil w base
/-- One cell of a block. -/
structure C1 (W : World) (g : Nat) (a : Value) : Prop where
  c0 : W.cell? ⟨g, 0, none⟩ = some a
  f0 : W.frozen? ⟨g, 0, none⟩ = false
section
variable {W W' : World} {g : Nat} {a : Value}
theorem c1_new (w : World) (a : Value) (t : TypeId) : C1 (w.alloc (.cells #[a] t)) w.heap.size a := by
  have h := heap_alloc_new w (.cells #[a] t)
  constructor <;> first | (rw [cell_of_row _ _ _ _ _ _ h]; rfl) | exact World.frozen?_alloc_new _ _ _ _
theorem C1.keep {B : Nat} (h : C1 W g a) (hb : Below B W W') (hg : g < B) : C1 W' g a := ⟨(hb.cell (p := ⟨g, 0, none⟩) hg).trans h.c0, (hb.frozen (p := ⟨g, 0, none⟩) hg).trans h.f0⟩
theorem C1.set (h : C1 W g a) (v : Value) : C1 (W.setCell ⟨g, 0, none⟩ v) g v := ⟨World.cell?_setCell_same _ _ _ h.c0, by rw [World.frozen?_setCell]; exact h.f0⟩
theorem C1.apart (h : C1 W g a) {g' o : Nat} (hne : g ≠ g') (v : Value) : C1 (W.setCell ⟨g', o, none⟩ v) g a :=
  ⟨by rw [World.cell?_setCell_other _ _ _ _ (fun k => hne (congrArg Addr.block k).symm)]; exact h.c0, by rw [World.frozen?_setCell]; exact h.f0⟩
end
/-- A geometry's five cells. -/
structure G5 (W : World) (g : Nat) (z d s l a : Int) : Prop where
  g0 : W.cell? ⟨g, 0, none⟩ = some (.int .i64 z)
  g1 : W.cell? ⟨g, 1, none⟩ = some (.int .i64 d)
  g2 : W.cell? ⟨g, 2, none⟩ = some (.int .i64 s)
  g3 : W.cell? ⟨g, 3, none⟩ = some (.int .i64 l)
  g4 : W.cell? ⟨g, 4, none⟩ = some (.int .i64 a)
theorem G5.keep {W W' : World} {g B : Nat} {z d s l a : Int} (h : G5 W g z d s l a) (hb : Below B W W') (hg : g < B) : G5 W' g z d s l a :=
  ⟨ks hb hg h.g0, ks hb hg h.g1, ks hb hg h.g2, ks hb hg h.g3, ks hb hg h.g4⟩
theorem g5_new (w : World) (z d s l a : Int) : G5 (w.alloc (.cells #[.int .i64 z, .int .i64 d, .int .i64 s, .int .i64 l, .int .i64 a] 23)) w.heap.size z d s l a := by
  obtain ⟨g0, g1, g2, g3, g4⟩ := five_new w z d s l a
  exact ⟨g0, g1, g2, g3, g4⟩
theorem G5.set {W : World} {g g' o : Nat} {z d s l a : Int} (h : G5 W g z d s l a) (hne : g ≠ g') (v : Value) : G5 (W.setCell ⟨g', o, none⟩ v) g z d s l a := by
  have hn : ∀ i, (⟨g', o, none⟩ : Addr) ≠ ⟨g, i, none⟩ := fun i h => hne (congrArg Addr.block h).symm
  constructor <;> rw [World.cell?_setCell_other _ _ _ _ (hn _)]
  · exact h.g0
  · exact h.g1
  · exact h.g2
  · exact h.g3
  · exact h.g4
end Go.Proofs.YtpcadoekhoediaaDoor.tbl

namespace Go.Proofs.YtpcadoekhoediaaDoor.tbl
open Go.RowKit Go.Lib
open Go.Proofs.YtpcadoekhoediaaDoor.anc (flat_get flat_len slv_cell bl kal kst ks bm ka take_same take_other row_form row_below wpList_row)

theorem src_ents {P : Program} {w : World} {B n c : Nat} {tx e' : TypeId} {A : Option Addr} {es : List Ent} (hk : P.underlying tx = some (.slice e')) (hA : SlV w B A (evs es)) (hn : es.length = n) : Src P 3 tx (.slice A n c) n (evs es) w := by
  subst hn
  cases A with
  | none =>
    have h0 : es = [] := by
      rcases es with _ | ⟨e, es⟩
      · rfl
      · obtain ⟨b, off, h, -, -⟩ := hA (by rw [evs_length, List.length_cons]; omega)
        cases h
    subst h0
    exact Src.ofNil w hk c
  | some a =>
    refine Src.ofSlice w hk a _ c _ (evs_length es) (fun j u hu => ?_) (evs_one es)
    obtain ⟨hj, -⟩ := List.getElem?_eq_some_iff.1 hu
    obtain ⟨b, off, he, -, -⟩ := id (hA (by omega))
    simp only [Option.some.injEq] at he
    subst he
    have := (slv_cell hA hu).1
    rwa [Addr.add_lit]
theorem two_new (w : World) (a b : Value) (t : TypeId) : C1 ((w.alloc (.cells #[a] t)).alloc (.cells #[b] t)) w.heap.size a ∧ C1 ((w.alloc (.cells #[a] t)).alloc (.cells #[b] t)) (w.heap.size + 1) b := by
  have h1 := (c1_new w a t).keep (bl (w.alloc (.cells #[a] t)) (.cells #[b] t)) (by simp)
  have h2 := c1_new (w.alloc (.cells #[a] t)) b t
  rw [show (w.alloc (.cells #[a] t)).heap.size = w.heap.size + 1 by simp] at h2
  exact ⟨h1, h2⟩
/-- What is told of a table: one of one's own. -/
def TbQ (base : Nat) (es : List Ent) (e : Ending) (w' : World) : Prop := ∃ t : TV, e = .returned t.v ∧ t.es = es ∧ t.Own w' base
end Go.Proofs.YtpcadoekhoediaaDoor.tbl

namespace Go.Proofs.YtpcadoekhoediaaDoor.tbl
open Go.RowKit Go.Lib
open Go.Proofs.YtpcadoekhoediaaDoor.gmt (Ok five_new)
open Go.Proofs.YtpcadoekhoediaaDoor.crc (ref_sum)
open Go.Proofs.YtpcadoekhoediaaDoor.anc (flat_get flat_len slv_cell bl kal kst ks bm ka take_same take_other row_form row_below wpList_row src_home step_row)

set_option maxRecDepth 100000 in
theorem r8in_at (x : Bool) (n lo hi : Int) (w : World) (hx : x = true ↔ lo ≤ n ∧ n ≤ hi) :
    Calls Tryd.prog 13 #[.int .i64 n, .int .i64 lo, .int .i64 hi] w fun e w' => e = .returned (.bool x) ∧ w = w' := by
  by_cases h1 : lo ≤ n
  · by_cases h2 : n ≤ hi
    · obtain rfl : x = true := hx.2 ⟨h1, h2⟩
      clear hx
      go_enter Tryd.func13, Tryd.ntmps13
      go_wp2
      go_ret
      exact ⟨rfl, rfl⟩
    · obtain rfl : x = false := by
        cases x with
        | false => rfl
        | true => exact absurd (hx.1 rfl).2 h2
      clear hx
      go_enter Tryd.func13, Tryd.ntmps13
      go_wp2
      go_ret
      exact ⟨rfl, rfl⟩
  · obtain rfl : x = false := by
      cases x with
      | false => rfl
      | true => exact absurd (hx.1 rfl).1 h1
    clear hx
    go_enter Tryd.func13, Tryd.ntmps13
    go_wp2
    go_ret
    exact ⟨rfl, rfl⟩
/-- A new entry. -/
def Ent.v (e : Ent) : Value := .agg #[.int .i64 e.st, .int .i64 e.sm, .bool e.ls]
end Go.Proofs.YtpcadoekhoediaaDoor.tbl

namespace Go.Proofs.YtpcadoekhoediaaDoor.tbl
open Go.RowKit Go.Lib
open Go.Proofs.YtpcadoekhoediaaDoor.gmt (Ok five_new)
open Go.Proofs.YtpcadoekhoediaaDoor.pck (le num le_length ref_put)
open Go.Proofs.YtpcadoekhoediaaDoor.anc (flat_get flat_len slv_cell bl kal kst ks bm ka take_same take_other row_form row_below)

/-- Bytes of one's own, q of them. -/
def BytQ (base q : Nat) (l : List UInt8) (e : Ending) (w' : World) : Prop := ∃ (X : Option Addr) (c : Nat), e = .returned (.slice X q c) ∧ l.length = q ∧ Own w' base 5 (.slice X q c) l
theorem own_sl {W : World} {base q x : Nat} {e : TypeId} {X : Option Addr} {l : List UInt8} (h : Own W base e (.slice X q x) l) : Sl W W.heap.size X l := by
  obtain ⟨A, c, hv, -, -, hs, -⟩ := h.form
  simp only [Value.slice.injEq] at hv
  rw [hv.1]
  exact hs
set_option maxRecDepth 100000 in
set_option maxHeartbeats 4000000 in
theorem rput_q (k : Nat) (m : Int) (n q : Nat) (A : Option Addr) (c : Nat) (l : List UInt8) (w : World) (hk : k ≤ 8) (h0 : 0 ≤ m) (hm : m ≤ 4294967295) (hln : l.length = n) (hl : n ≤ 1048576) (hq : n + k = q) (hA : Sl w w.heap.size A l) :
    Calls Tryd.prog 46 #[.slice A n c, .int .i64 m, .int .i64 k] w fun e w' => BytQ w.heap.size q (l ++ le k m.toNat) e w' ∧ Below w.heap.size w w' := by
  have h9 := ref_put k m.toNat n A c l w hk (by omega) hln hl hA
  rw [Int.toNat_of_nonneg h0] at h9
  refine h9.mono ?_
  rintro e w' ⟨⟨v, rfl, ho⟩, hb⟩
  obtain ⟨X, c2, hv, -, -, -, -⟩ := id ho.form
  have hl2 : (l ++ le k m.toNat).length = q := by rw [List.length_append, le_length]; omega
  rw [hl2] at hv
  subst hv
  exact ⟨⟨X, c2, rfl, hl2, ho⟩, hb⟩
end Go.Proofs.YtpcadoekhoediaaDoor.tbl

namespace Go.Proofs.YtpcadoekhoediaaDoor.tbl
open Go.RowKit Go.Lib
open Go.Proofs.YtpcadoekhoediaaDoor.gmt (Ok five_new)
open Go.Proofs.YtpcadoekhoediaaDoor.pck (le num le_length num_one)
open Go.Proofs.YtpcadoekhoediaaDoor.anc (flat_get flat_len slv_cell bl kal kst ks bm ka take_same take_other row_form row_below src_home step_row)

/-- A table that is told, and whether it is one. -/
def RdT (base : Nat) (es : List Ent) (c : Bool) (e : Ending) (w' : World) : Prop := ∃ t : TV, e = .returned (.tuple #[t.v, .bool c]) ∧ t.es = es ∧ t.Own w' base
theorem lost_byte {b : List UInt8} {k : Nat} (h : k * 9 + 8 < b.length) : lostAt b k = b[k * 9 + 8].toNat := by
  unfold lostAt
  have hl : ((b.drop (k * 9 + 8)).take 1).length = 1 := by rw [List.length_take, List.length_drop]; omega
  rw [num_one _ hl]
  congr 1
  rw [List.getElem_take, List.getElem_drop]
end Go.Proofs.YtpcadoekhoediaaDoor.tbl

namespace Go.Proofs.YtpcadoekhoediaaDoor.tbl
open Go.RowKit Go.Lib
open Go.Proofs.YtpcadoekhoediaaDoor.gmt (Ok five_new)
open Go.Proofs.YtpcadoekhoediaaDoor.anc (flat_get flat_len slv_cell bl kal kst ks bm ka take_same take_other row_form row_below wpList_row src_home step_row)

def zer8 : List UInt8 := List.replicate 8 0
/-- A new table's entry. -/
def newE : Ent := ⟨0, (crc.sum zer8 : Nat), false⟩
def z8cells : Array Value := madeCells #[.int .u8 0] 8
theorem z8_run (W : World) : (Instr.makeSlice 31 (.int .i64 8) (.int .i64 8)).run Tryd.prog W = .ok (.slice (some ⟨W.heap.size, 0, none⟩) 8 8) (W.alloc (.cells z8cells 5)) := by
  obtain ⟨ht, _, i, hi, hz, h1, hb8⟩ := t8
  have hr := run_make (P := Tryd.prog) W 31 5 i (.int .u8 0) ht hi hz .i64 .i64 8 8 (by omega) (by omega) (by rw [hb8]; omega) (by omega)
  simpa [h1, z8cells, Value.cells] using hr
theorem zn_list (n : Nat) : (madeCells #[.int .u8 0] n).toList = cells8 (List.replicate n 0) := by
  unfold madeCells cells8
  apply List.ext_getElem
  · simp
  · intro i h2 h3
    simp [by8, Nat.mod_one]
theorem z8_list : z8cells.toList = cells8 zer8 := zn_list 8
theorem z8_sl (W : World) : Sl (W.alloc (.cells z8cells 5)) (W.alloc (.cells z8cells 5)).heap.size (some ⟨W.heap.size, 0, none⟩) zer8 := Sl.of_block (heap_alloc_new W _) z8_list (by simp)
end Go.Proofs.YtpcadoekhoediaaDoor.tbl

namespace Go.Proofs.YtpcadoekhoediaaDoor.tbl
open Go.RowKit Go.Lib
open Go.Proofs.YtpcadoekhoediaaDoor.gmt (Ok five_new)
open Go.Proofs.YtpcadoekhoediaaDoor.anc (flat_get flat_len slv_cell bl kal kst ks bm ka)

/-- A table and an error, bytes and an error, integers and an error. -/
def TbE (base : Nat) (es : List Ent) (n : Int) (e : Ending) (w' : World) : Prop := ∃ t : TV, e = .returned (.tuple #[t.v, .int .i64 n]) ∧ t.es = es ∧ t.Own w' base
def BytE (base q : Nat) (l : List UInt8) (n : Int) (e : Ending) (w' : World) : Prop := ∃ (X : Option Addr) (c : Nat), e = .returned (.tuple #[.slice X q c, .int .i64 n]) ∧ l.length = q ∧ Own w' base 5 (.slice X q c) l
def NonE (n : Int) (e : Ending) : Prop := ∃ (X : Option Addr) (c : Nat), e = .returned (.tuple #[.slice X 0 c, .int .i64 n])
def IntE (q : Nat) (l : List Int) (e : Ending) (w' : World) : Prop := ∃ (X : Option Addr) (c : Nat), e = .returned (.tuple #[.slice X q c, .int .i64 0]) ∧ l.length = q ∧ SlV w' w'.heap.size X (ints l)
/-- Which of the first k are lost. -/
def lostN (es : List Ent) : Nat → List Int
  | 0 => []
  | k + 1 => lostN es k ++ (if (es[k]?.map Ent.ls).getD false then [(k : Int)] else [])
theorem lostN_le (es : List Ent) : ∀ k, (lostN es k).length ≤ k
  | 0 => Nat.le_refl _
  | k + 1 => by
    have := lostN_le es k
    unfold lostN
    split <;> simp <;> omega
theorem zer8_pos : 0 < crc.sum zer8 ∧ crc.sum zer8 ≤ 4294967295 := by decide +kernel
theorem newE_ok : EntOk newE := ⟨⟨by decide, by decide⟩, Int.natCast_nonneg _, by have := zer8_pos.2; show ((crc.sum zer8 : Nat) : Int) ≤ _; omega⟩
theorem new_good {d : Int} (hd : 0 ≤ d) : Good d (List.replicate (d.toNat + 1) newE) :=
  ⟨by rw [List.length_replicate]; omega, fun e he => by rw [List.eq_of_mem_replicate he]; exact newE_ok, fun e he => by rw [List.eq_of_mem_replicate (List.mem_of_getElem? he)]; rfl⟩
theorem ok_one : Ok 1 1 0 14 1 := by unfold Ok; omega
set_option maxRecDepth 100000 in
set_option maxHeartbeats 4000000 in
theorem some_one (w : World) :
    Calls Tryd.prog 19 #[.int .i64 0, .int .i64 0, .int .i64 0, .int .i64 0, .int .i64 0] w fun e w' => e = .returned (.agg #[.int .i64 1, .int .i64 1, .int .i64 0, .int .i64 14, .int .i64 1]) ∧ Below w.heap.size w w' := by
  go_enter Tryd.func19, Tryd.ntmps19
  go_wp2
  obtain ⟨g0, g1, g2, g3, g4⟩ := five_new w 1 1 0 14 1
  exact bodyPost_ret (v := .agg #[.int .i64 1, .int .i64 1, .int .i64 0, .int .i64 14, .int .i64 1]) (by simp [results, Tryd.results19, go_sem, g0, g1, g2, g3, g4]) rfl ⟨rfl, bl w _⟩
end Go.Proofs.YtpcadoekhoediaaDoor.tbl
