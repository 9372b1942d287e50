/-
  Tables of zones as plain data, and their bytes: plain mathematics. No condition beyond each law's own.
  Tables as they lie in memory (a row of entries of three values each); copied, compared. Conditions: each law's own.
  casematekeep.Table: whether two tables are the same; TwinTable: a table like it. Conditions: rows shorter than 2^20.
  The document's tables: whether one is right, a new one. Conditions: a right geometry.
  The document's bytes of a table. Conditions: entries that are right.
  What table bytes are, by the document. Conditions: a right geometry.
  The document's new table. Conditions: a right geometry.
  What the laws of package table ask of its functions; the laws' own example (wakes). Conditions: 'Ctt'.
-/
import Derived.Test.YtpcadoekhoediaaGreatDoorGPk
import Derived.Test.YtpcadoekhoediaaGreatDoorAnF
import Derived.Test.YtpcadoekhoediaaGreatDoorGGm
import Derived.Deep.CutRange
import Derived.Laws.StructEq
import Derived.Test.YtpcadoekhoediaaGreatDoorTail
import Derived.Test.YtpcadoekhoediaaGreatDoorGSum
namespace Go.Proofs.YtpcadoekhoediaaGreatDoor.tbl
open Go.Proofs.YtpcadoekhoediaaGreatDoor.pck (le num le_length num_le num_lt le_num num_append)

/-- What a table says of a block: plain data. -/
structure Ent where
  st : Int
  sm : Int
  ls : Bool
instance : DecidableEq Ent := fun a b => decidable_of_iff (a.st = b.st ∧ a.sm = b.sm ∧ a.ls = b.ls) ⟨fun ⟨h1, h2, h3⟩ => by cases a; cases b; simp_all, fun h => by rw [h]; exact ⟨rfl, rfl, rfl⟩⟩
def lsN (b : Bool) : Nat := if b then 1 else 0
theorem lsN_le (b : Bool) : lsN b ≤ 1 := by cases b <;> decide
theorem lsN_eq (b : Bool) : (lsN b == 1) = b := by cases b <;> rfl
def entB (e : Ent) : List UInt8 := le 4 e.st.toNat ++ (le 4 e.sm.toNat ++ le 1 (lsN e.ls))
def encT (es : List Ent) : List UInt8 := es.flatMap entB
theorem entB_length (e : Ent) : (entB e).length = 9 := by unfold entB; simp [le_length]
theorem encT_length : ∀ es : List Ent, (encT es).length = es.length * 9
  | [] => rfl
  | e :: es => by
    have h : encT (e :: es) = entB e ++ encT es := by simp [encT]
    rw [h, List.length_append, entB_length, encT_length es, List.length_cons]
    omega
theorem encT_next {es : List Ent} {k : Nat} {e : Ent} (h : es[k]? = some e) : encT (es.take (k + 1)) = encT (es.take k) ++ entB e := by
  rw [List.take_add_one, h]
  simp [encT]
def EntOk (e : Ent) : Prop := (0 ≤ e.st ∧ e.st ≤ 4294967295) ∧ 0 ≤ e.sm ∧ e.sm ≤ 4294967295
/-- A right table of zones of d blocks. -/
def Good (d : Int) (es : List Ent) : Prop := (es.length : Int) = d + 1 ∧ (∀ e ∈ es, EntOk e) ∧ ∀ e, es[d.toNat]? = some e → e.ls = false
/-- What bytes say. -/
def entN (r : List UInt8) : Ent := ⟨(num (r.take 4) : Int), (num ((r.drop 4).take 4) : Int), num ((r.drop 8).take 1) == 1⟩
def entsN (r : List UInt8) (n : Nat) : List Ent := (List.range n).map fun k => entN (r.drop (k * 9))
def lostAt (r : List UInt8) (k : Nat) : Nat := num ((r.drop (k * 9 + 8)).take 1)
theorem entsN_length (r : List UInt8) (n : Nat) : (entsN r n).length = n := by simp [entsN]
theorem entsN_next (r : List UInt8) (n : Nat) : entsN r (n + 1) = entsN r n ++ [entN (r.drop (n * 9))] := by simp [entsN, List.range_succ]
theorem entsN_get {r : List UInt8} {n k : Nat} (h : k < n) : (entsN r n)[k]? = some (entN (r.drop (k * 9))) := by simp [entsN, h]
theorem le_cut (r : List UInt8) (k n : Nat) (h : k + n ≤ r.length) : le n (num ((r.drop k).take n)) = (r.drop k).take n := by
  have hl : ((r.drop k).take n).length = n := by rw [List.length_take, List.length_drop]; omega
  have h9 := le_num ((r.drop k).take n)
  rwa [hl] at h9
theorem take_num_lt (r : List UInt8) (n : Nat) : num (r.take n) < 256 ^ n := by
  have h := num_lt (r.take n)
  have h2 : (r.take n).length ≤ n := by rw [List.length_take]; omega
  exact Nat.lt_of_lt_of_le h (Nat.pow_le_pow_right (by omega) h2)
theorem entN_ok (r : List UInt8) : EntOk (entN r) := by
  have h1 := take_num_lt r 4
  have h2 := take_num_lt (r.drop 4) 4
  refine ⟨⟨Int.natCast_nonneg _, ?_⟩, Int.natCast_nonneg _, ?_⟩
  · show ((num (r.take 4) : Nat) : Int) ≤ _
    omega
  · show ((num ((r.drop 4).take 4) : Nat) : Int) ≤ _
    omega
theorem entsN_ok (r : List UInt8) (n : Nat) : ∀ e ∈ entsN r n, EntOk e := fun e he => by
  obtain ⟨k, _, rfl⟩ := List.mem_map.1 he
  exact entN_ok _
theorem take_three (r : List UInt8) : r.take 9 = r.take 4 ++ ((r.drop 4).take 4 ++ (r.drop 8).take 1) := by
  have h1 : r.take 9 = r.take 4 ++ (r.drop 4).take 5 := by rw [← List.take_add]
  have h2 : (r.drop 4).take 5 = (r.drop 4).take 4 ++ ((r.drop 4).drop 4).take 1 := by rw [← List.take_add]
  rw [h1, h2, List.drop_drop]
theorem entB_entN {r : List UInt8} (h : 9 ≤ r.length) (hl : num ((r.drop 8).take 1) ≤ 1) : entB (entN r) = r.take 9 := by
  have e1 := le_cut r 0 4 (by omega)
  rw [List.drop_zero] at e1
  have e2 := le_cut r 4 4 (by omega)
  have e3 := le_cut r 8 1 (by omega)
  have e4 : lsN (num ((r.drop 8).take 1) == 1) = num ((r.drop 8).take 1) := by
    generalize num ((r.drop 8).take 1) = x at *
    rcases (show x = 0 ∨ x = 1 by omega) with rfl | rfl <;> rfl
  rw [take_three]
  show le 4 ((num (r.take 4) : Nat) : Int).toNat ++ (le 4 ((num ((r.drop 4).take 4) : Nat) : Int).toNat ++ le 1 (lsN (num ((r.drop 8).take 1) == 1))) = _
  rw [Int.toNat_natCast, Int.toNat_natCast, e4, e1, e2, e3]
theorem entsN_enc (r : List UInt8) : ∀ n, n * 9 ≤ r.length → (∀ k, k < n → lostAt r k ≤ 1) → encT (entsN r n) = r.take (n * 9)
  | 0, _, _ => by simp [entsN, encT]
  | n + 1, h, hl => by
    have ih := entsN_enc r n (by omega) fun k hk => hl k (by omega)
    have h9 : entB (entN (r.drop (n * 9))) = (r.drop (n * 9)).take 9 := entB_entN (by rw [List.length_drop]; omega) (by
      have := hl n (by omega)
      unfold lostAt at this
      rw [List.drop_drop]
      exact this)
    rw [entsN_next, show encT (entsN r n ++ [entN (r.drop (n * 9))]) = encT (entsN r n) ++ entB (entN (r.drop (n * 9))) by simp [encT], ih, h9, ← List.take_add]
    congr 1
    omega
theorem num_four {n : Int} (h : 0 ≤ n ∧ n ≤ 4294967295) : ((num (le 4 n.toNat) : Nat) : Int) = n := by rw [num_le _ _ (by omega)]; omega
theorem cut_left (x y z : List UInt8) (k n : Nat) (hk : x.length = k) (hn : y.length = n) : ((x ++ (y ++ z)).drop k).take n = y := by
  subst hk hn
  rw [List.drop_left, List.take_left]
theorem entN_parts (e : Ent) (r : List UInt8) : (entB e ++ r).take 4 = le 4 e.st.toNat ∧ ((entB e ++ r).drop 4).take 4 = le 4 e.sm.toNat ∧ ((entB e ++ r).drop 8).take 1 = le 1 (lsN e.ls) := by
  have h : entB e ++ r = le 4 e.st.toNat ++ (le 4 e.sm.toNat ++ (le 1 (lsN e.ls) ++ r)) := by simp [entB, List.append_assoc]
  rw [h]
  refine ⟨?_, cut_left _ _ _ 4 4 (le_length _ _) (le_length _ _), ?_⟩
  · have := cut_left [] (le 4 e.st.toNat) (le 4 e.sm.toNat ++ (le 1 (lsN e.ls) ++ r)) 0 4 rfl (le_length _ _)
    simpa using this
  · rw [← List.append_assoc]
    exact cut_left _ _ _ 8 1 (by rw [List.length_append, le_length, le_length]) (le_length _ _)
theorem entN_entB {e : Ent} (h : EntOk e) (r : List UInt8) : entN (entB e ++ r) = e := by
  obtain ⟨p1, p2, p3⟩ := entN_parts e r
  unfold entN
  rw [p1, p2, p3, num_four h.1, num_four h.2, num_le 1 _ (by have := lsN_le e.ls; omega), lsN_eq]
theorem encT_drop {es : List Ent} {k : Nat} {e : Ent} (h : es[k]? = some e) : ∃ r, (encT es).drop (k * 9) = entB e ++ r := by
  induction es generalizing k with
  | nil => simp at h
  | cons x es ih =>
    have hx : encT (x :: es) = entB x ++ encT es := by simp [encT]
    rw [hx]
    cases k with
    | zero =>
      simp only [List.getElem?_cons_zero, Option.some.injEq] at h
      subst h
      exact ⟨encT es, by simp⟩
    | succ k =>
      obtain ⟨r, hr⟩ := ih (by simpa using h)
      refine ⟨r, ?_⟩
      rw [← hr, show (k + 1) * 9 = (entB x).length + k * 9 by rw [entB_length]; omega, ← List.drop_drop, List.drop_left]
theorem entsN_of {es : List Ent} (h : ∀ e ∈ es, EntOk e) : entsN (encT es) es.length = es := by
  refine List.ext_getElem? fun k => ?_
  by_cases hk : k < es.length
  · rw [entsN_get hk, List.getElem?_eq_getElem hk]
    obtain ⟨r, hr⟩ := encT_drop (List.getElem?_eq_getElem hk)
    rw [hr, entN_entB (h _ (List.getElem_mem hk))]
  · rw [List.getElem?_eq_none (by rw [entsN_length]; omega), List.getElem?_eq_none (by omega)]
theorem lost_of {es : List Ent} {k : Nat} {e : Ent} (h : es[k]? = some e) : lostAt (encT es) k = lsN e.ls := by
  obtain ⟨r, hr⟩ := encT_drop h
  unfold lostAt
  rw [← List.drop_drop, hr, (entN_parts e r).2.2, num_le 1 _ (by have := lsN_le e.ls; omega)]
theorem encT_inj {a b : List Ent} (ha : ∀ e ∈ a, EntOk e) (hb : ∀ e ∈ b, EntOk e) (h : encT a = encT b) : a = b := by
  have hl : a.length = b.length := by
    have := congrArg List.length h
    rw [encT_length, encT_length] at this
    omega
  rw [← entsN_of ha, ← entsN_of hb, h, hl]
/-- Whose bytes they are: of the one that they say, or of none. -/
def Told (d : Int) (b : List UInt8) : Prop := (b.length : Int) = 9 * (d + 1) ∧ (∀ k : Nat, (k : Int) ≤ d → lostAt b k ≤ 1) ∧ Good d (entsN b (d.toNat + 1))
theorem told_of {d : Int} {es : List Ent} (hd : 0 ≤ d) (h : Good d es) : Told d (encT es) ∧ entsN (encT es) (d.toNat + 1) = es := by
  obtain ⟨h1, h2, h3⟩ := h
  have hl : d.toNat + 1 = es.length := by omega
  have he : entsN (encT es) (d.toNat + 1) = es := by rw [hl]; exact entsN_of h2
  refine ⟨⟨by rw [encT_length]; omega, fun k hk => ?_, by rw [he]; exact ⟨h1, h2, h3⟩⟩, he⟩
  have hk2 : k < es.length := by omega
  rw [lost_of (List.getElem?_eq_getElem hk2)]
  exact lsN_le _
theorem of_told {d : Int} {b : List UInt8} (hd : 0 ≤ d) (h : Told d b) : b = encT (entsN b (d.toNat + 1)) := by
  obtain ⟨h1, h2, -⟩ := h
  rw [entsN_enc b (d.toNat + 1) (by omega) fun k hk => h2 k (by omega), List.take_of_length_le (by omega)]
end Go.Proofs.YtpcadoekhoediaaGreatDoor.tbl

namespace Go.Proofs.YtpcadoekhoediaaGreatDoor.tbl
open Go.RowKit Go.Lib
open Go.Proofs.YtpcadoekhoediaaGreatDoor.gmt (five_new)
open Go.Proofs.YtpcadoekhoediaaGreatDoor.anc (flat_get flat_len slv_cell bl kal kst ks bm ka take_same take_other row_form row_below row_apart)

def Ent.vs (e : Ent) : List Value := [.int .i64 e.st, .int .i64 e.sm, .bool e.ls]
def evs (es : List Ent) : List Value := es.flatMap Ent.vs
theorem evs_length (es : List Ent) : (evs es).length = es.length * 3 := flat_len Ent.vs 3 (fun _ => rfl) es
theorem evs_append (a b : List Ent) : evs (a ++ b) = evs a ++ evs b := by simp [evs]
theorem evs_one (es : List Ent) : ∀ u ∈ evs es, u.oneCell' = true := by
  intro u hu
  obtain ⟨r, _, h⟩ := List.mem_flatMap.1 hu
  simp only [Ent.vs, List.mem_cons, List.not_mem_nil, or_false] at h
  rcases h with rfl | rfl | rfl <;> rfl
/-- One entry of many. -/
theorem ent_at {w : World} {B k : Nat} {A : Option Addr} {es : List Ent} (hA : SlV w B A (evs es)) (hk : k < es.length) :
    ∃ b off e, A = some ⟨b, off, none⟩ ∧ b < B ∧ w.cell? ⟨b, off + k * 3, none⟩ = some (.int .i64 e.st) ∧ w.cell? ⟨b, off + k * 3 + 1, none⟩ = some (.int .i64 e.sm) ∧ w.cell? ⟨b, off + k * 3 + 2, none⟩ = some (.bool e.ls) ∧ e ∈ es ∧ es[k]? = some e := by
  obtain ⟨b, off, rfl, -, -⟩ := hA (by rw [evs_length]; omega)
  have g := fun j (hj : j < 3) => flat_get Ent.vs 3 (fun _ => rfl) es k j hj
  rw [List.getElem?_eq_getElem hk] at g
  have c0 := slv_cell hA (i := k * 3 + 0) (v := .int .i64 es[k].st) ((g 0 (by omega)).trans rfl)
  have c1 := slv_cell hA (i := k * 3 + 1) (v := .int .i64 es[k].sm) ((g 1 (by omega)).trans rfl)
  have c2 := slv_cell hA (i := k * 3 + 2) (v := .bool es[k].ls) ((g 2 (by omega)).trans rfl)
  exact ⟨b, off, es[k], rfl, c0.2, c0.1, c1.1, c2.1, List.getElem_mem hk, List.getElem?_eq_getElem hk⟩
/-- A table as it lies. -/
structure TV where
  A : Option Addr
  c : Nat
  es : List Ent
def TV.v (t : TV) : Value := .agg #[.slice t.A t.es.length t.c]
structure TV.In (w : World) (B : Nat) (t : TV) : Prop where
  h : SlV w B t.A (evs t.es)
  l : t.es.length ≤ t.c ∧ t.c ≤ maxLen
section
variable {w w' : World} {B B' : Nat} {t : TV}
theorem TV.In.below (h : TV.In w B t) (hb : Below B w w') : TV.In w' B t := ⟨h.h.below hb, h.l⟩
theorem TV.In.more (h : TV.In w B t) (hB : B ≤ B') : TV.In w B' t := ⟨h.h.more hB, h.l⟩
theorem TV.In.next (h : TV.In w w.heap.size t) (hb : Below w.heap.size w w') : TV.In w' w'.heap.size t := (h.below hb).more hb.size
end
/-- Entries of one's own. -/
def OwnE (w : World) (base : Nat) (v : Value) (es : List Ent) : Prop := w.ownsRow base 109 3 v es.length (evs es)
theorem e_info : (Tryz.prog.info? 109).map (fun i => (i.zero, i.size, i.bytes)) = some (some (.agg #[.int .i64 0, .int .i64 0, .bool false]), 3, 24) := by kernel_rfl
section
variable {w w' : World} {base : Nat} {v : Value} {es : List Ent}
theorem ownE_nil (w : World) (base : Nat) : OwnE w base (.slice none 0 0) [] := World.ownsRow_nil w base _ 3
theorem OwnE.below (h : OwnE w base v es) (hb : Below w.heap.size w w') : OwnE w' base v es := row_below h hb
theorem OwnE.less {base' : Nat} (h : OwnE w base v es) (hb : base' ≤ base) : OwnE w base' v es := by
  refine ⟨h.1, ?_⟩
  rcases h.2 with k | ⟨g, cap, cur, a, b, c⟩
  · exact .inl k
  · exact .inr ⟨g, cap, cur, a, by omega, c⟩
theorem OwnE.cell_set {g o : Nat} (h : OwnE w base v es) (hg : g < base) (x : Value) : OwnE (w.setCell ⟨g, o, none⟩ x) base v es :=
  ownsRow_setCell_other h (fun k => by have := (World.ownsRow.lt h g k).1; omega) x
end
/-- A table of one's own. -/
def TV.Own (w : World) (base : Nat) (t : TV) : Prop := OwnE w base (.slice t.A t.es.length t.c) t.es
section
variable {w w' : World} {base : Nat} {t : TV}
theorem TV.Own.below (h : TV.Own w base t) (hb : Below w.heap.size w w') : TV.Own w' base t := OwnE.below h hb
theorem TV.Own.less {base' : Nat} (h : TV.Own w base t) (hb : base' ≤ base) : TV.Own w base' t := OwnE.less h hb
theorem TV.Own.inn (h : TV.Own w base t) : t.In w w.heap.size := by
  obtain ⟨A', c', hv, h1, h2, hs⟩ := row_form h
  simp only [Value.slice.injEq] at hv
  obtain ⟨ha, -, hc⟩ := hv
  exact ⟨by rw [ha]; exact hs, by omega, by omega⟩
end
theorem ownE_tv {w : World} {base : Nat} {v : Value} {es : List Ent} (h : OwnE w base v es) : ∃ t : TV, v = .slice t.A t.es.length t.c ∧ t.es = es ∧ t.Own w base := by
  obtain ⟨A, c, hv, -, -, -⟩ := row_form h
  exact ⟨⟨A, c, es⟩, hv, rfl, by rw [hv] at h; exact h⟩
def noTV : TV := ⟨none, 0, []⟩
theorem noTV_own (w : World) (base : Nat) : noTV.Own w base := ownE_nil w base
/-- One cell of a block. -/
structure C1 (W : World) (g : Nat) (a : Value) : Prop where
  c0 : W.cell? ⟨g, 0, none⟩ = some a
  f0 : W.frozen? ⟨g, 0, none⟩ = false
section
variable {W W' : World} {g : Nat} {a : Value}
theorem c1_new (w : World) (a : Value) (t : TypeId) : C1 (w.alloc (.cells #[a] t)) w.heap.size a := by
  have h := heap_alloc_new w (.cells #[a] t)
  constructor <;> first | (rw [cell_of_row _ _ _ _ _ _ h]; rfl) | exact World.frozen?_alloc_new _ _ _ _
theorem C1.keep {B : Nat} (h : C1 W g a) (hb : Below B W W') (hg : g < B) : C1 W' g a := ⟨(hb.cell (p := ⟨g, 0, none⟩) hg).trans h.c0, (hb.frozen (p := ⟨g, 0, none⟩) hg).trans h.f0⟩
theorem C1.set (h : C1 W g a) (v : Value) : C1 (W.setCell ⟨g, 0, none⟩ v) g v := ⟨World.cell?_setCell_same _ _ _ h.c0, by rw [World.frozen?_setCell]; exact h.f0⟩
theorem C1.apart (h : C1 W g a) {g' o : Nat} (hne : g ≠ g') (v : Value) : C1 (W.setCell ⟨g', o, none⟩ v) g a :=
  ⟨by rw [World.cell?_setCell_other _ _ _ _ (fun k => hne (congrArg Addr.block k).symm)]; exact h.c0, by rw [World.frozen?_setCell]; exact h.f0⟩
end
/-- A geometry's five cells. -/
structure G5 (W : World) (g : Nat) (z d s l a : Int) : Prop where
  g0 : W.cell? ⟨g, 0, none⟩ = some (.int .i64 z)
  g1 : W.cell? ⟨g, 1, none⟩ = some (.int .i64 d)
  g2 : W.cell? ⟨g, 2, none⟩ = some (.int .i64 s)
  g3 : W.cell? ⟨g, 3, none⟩ = some (.int .i64 l)
  g4 : W.cell? ⟨g, 4, none⟩ = some (.int .i64 a)
theorem G5.keep {W W' : World} {g B : Nat} {z d s l a : Int} (h : G5 W g z d s l a) (hb : Below B W W') (hg : g < B) : G5 W' g z d s l a :=
  ⟨ks hb hg h.g0, ks hb hg h.g1, ks hb hg h.g2, ks hb hg h.g3, ks hb hg h.g4⟩
theorem g5_new (w : World) (z d s l a : Int) : G5 (w.alloc (.cells #[.int .i64 z, .int .i64 d, .int .i64 s, .int .i64 l, .int .i64 a] 23)) w.heap.size z d s l a := by
  obtain ⟨g0, g1, g2, g3, g4⟩ := five_new w z d s l a
  exact ⟨g0, g1, g2, g3, g4⟩
theorem G5.set {W : World} {g g' o : Nat} {z d s l a : Int} (h : G5 W g z d s l a) (hne : g ≠ g') (v : Value) : G5 (W.setCell ⟨g', o, none⟩ v) g z d s l a := by
  have hn : ∀ i, (⟨g', o, none⟩ : Addr) ≠ ⟨g, i, none⟩ := fun i h => hne (congrArg Addr.block h).symm
  constructor <;> rw [World.cell?_setCell_other _ _ _ _ (hn _)]
  · exact h.g0
  · exact h.g1
  · exact h.g2
  · exact h.g3
  · exact h.g4
end Go.Proofs.YtpcadoekhoediaaGreatDoor.tbl

namespace Go.Proofs.YtpcadoekhoediaaGreatDoor.tbl
open Go.RowKit Go.Lib
open Go.Proofs.YtpcadoekhoediaaGreatDoor.anc (flat_get flat_len slv_cell bl kal kst ks bm ka take_same take_other row_form row_below wpList_row)

theorem src_ents {P : Program} {w : World} {B n c : Nat} {tx e' : TypeId} {A : Option Addr} {es : List Ent} (hk : P.underlying tx = some (.slice e')) (hA : SlV w B A (evs es)) (hn : es.length = n) : Src P 3 tx (.slice A n c) n (evs es) w := by
  subst hn
  cases A with
  | none =>
    have h0 : es = [] := by
      rcases es with _ | ⟨e, es⟩
      · rfl
      · obtain ⟨b, off, h, -, -⟩ := hA (by rw [evs_length, List.length_cons]; omega)
        cases h
    subst h0
    exact Src.ofNil w hk c
  | some a =>
    refine Src.ofSlice w hk a _ c _ (evs_length es) (fun j u hu => ?_) (evs_one es)
    obtain ⟨hj, -⟩ := List.getElem?_eq_some_iff.1 hu
    obtain ⟨b, off, he, -, -⟩ := id (hA (by omega))
    simp only [Option.some.injEq] at he
    subst he
    have := (slv_cell hA hu).1
    rwa [Addr.add_lit]
theorem two_new (w : World) (a b : Value) (t : TypeId) : C1 ((w.alloc (.cells #[a] t)).alloc (.cells #[b] t)) w.heap.size a ∧ C1 ((w.alloc (.cells #[a] t)).alloc (.cells #[b] t)) (w.heap.size + 1) b := by
  have h1 := (c1_new w a t).keep (bl (w.alloc (.cells #[a] t)) (.cells #[b] t)) (by simp)
  have h2 := c1_new (w.alloc (.cells #[a] t)) b t
  rw [show (w.alloc (.cells #[a] t)).heap.size = w.heap.size + 1 by simp] at h2
  exact ⟨h1, h2⟩
/-- What is told of a table: one of one's own. -/
def TbQ (base : Nat) (es : List Ent) (e : Ending) (w' : World) : Prop := ∃ t : TV, e = .returned t.v ∧ t.es = es ∧ t.Own w' base
end Go.Proofs.YtpcadoekhoediaaGreatDoor.tbl

namespace Go.Proofs.YtpcadoekhoediaaGreatDoor.tbl
open Go.RowKit Go.Lib
open Go.Proofs.YtpcadoekhoediaaGreatDoor.gmt (Ok five_new)
open Go.Proofs.YtpcadoekhoediaaGreatDoor.crc (ref_sum)
open Go.Proofs.YtpcadoekhoediaaGreatDoor.anc (flat_get flat_len slv_cell bl kal kst ks bm ka take_same take_other row_form row_below wpList_row src_home step_row)

set_option maxRecDepth 100000 in
theorem r8in_at (x : Bool) (n lo hi : Int) (w : World) (hx : x = true ↔ lo ≤ n ∧ n ≤ hi) :
    Calls Tryz.prog 33 #[.int .i64 n, .int .i64 lo, .int .i64 hi] w fun e w' => e = .returned (.bool x) ∧ w = w' := by
  by_cases h1 : lo ≤ n
  · by_cases h2 : n ≤ hi
    · obtain rfl : x = true := hx.2 ⟨h1, h2⟩
      clear hx
      go_enter Tryz.func33, Tryz.ntmps33
      go_wp2
      go_ret
      exact ⟨rfl, rfl⟩
    · obtain rfl : x = false := by
        cases x with
        | false => rfl
        | true => exact absurd (hx.1 rfl).2 h2
      clear hx
      go_enter Tryz.func33, Tryz.ntmps33
      go_wp2
      go_ret
      exact ⟨rfl, rfl⟩
  · obtain rfl : x = false := by
      cases x with
      | false => rfl
      | true => exact absurd (hx.1 rfl).1 h1
    clear hx
    go_enter Tryz.func33, Tryz.ntmps33
    go_wp2
    go_ret
    exact ⟨rfl, rfl⟩
set_option maxRecDepth 100000 in
set_option maxHeartbeats 4000000 in
theorem rtable_any (c : Bool) (z d s l a : Int) (x : TV) (w : World) (ho : Ok z d s l a) (hx : x.In w w.heap.size) (hn : x.es.length ≤ 1048576) (hc : c = true ↔ Good d x.es) :
    Calls Tryz.prog 57 #[.agg #[.int .i64 z, .int .i64 d, .int .i64 s, .int .i64 l, .int .i64 a], x.v] w fun e w' => e = .returned (.bool c) ∧ Below w.heap.size w w' := by
  obtain ⟨n, hxn⟩ : ∃ n, x.es.length = n := ⟨_, rfl⟩
  have o2 := ho.2.1
  obtain ⟨D, rfl⟩ : ∃ D : Nat, d = D := ⟨d.toNat, by omega⟩
  have GG := (g5_new w z D s l a).keep (bl (w.alloc (.cells #[.int .i64 z, .int .i64 D, .int .i64 s, .int .i64 l, .int .i64 a] 23)) (.cells #[.slice x.A n x.c] 86)) (by simp)
  have T1 := c1_new (w.alloc (.cells #[.int .i64 z, .int .i64 D, .int .i64 s, .int .i64 l, .int .i64 a] 23)) (.slice x.A n x.c) 86
  rw [show (w.alloc (.cells #[.int .i64 z, .int .i64 D, .int .i64 s, .int .i64 l, .int .i64 a] 23)).heap.size = w.heap.size + 1 by simp] at T1
  have hb := kal (bl w (.cells #[.int .i64 z, .int .i64 D, .int .i64 s, .int .i64 l, .int .i64 a] 23)) (.cells #[.slice x.A n x.c] 86)
  have l2 : ((w.alloc (.cells #[.int .i64 z, .int .i64 D, .int .i64 s, .int .i64 l, .int .i64 a] 23)).alloc (.cells #[.slice x.A n x.c] 86)).heap.size = w.heap.size + 2 := by simp
  unfold TV.v
  rw [hxn] at hn ⊢
  have HC := Lib.hid hc
  have HXN := Lib.hid hxn
  clear hc hxn
  go_enter Tryz.func57, Tryz.ntmps57
  go_upto_region 1 with fail
  generalize (w.alloc (.cells #[.int .i64 z, .int .i64 D, .int .i64 s, .int .i64 l, .int .i64 a] 23)).alloc (.cells #[.slice x.A n x.c] 86) = w0 at *
  obtain ⟨-, g1, -, -, -⟩ := id GG
  have t0 := T1.c0
  by_cases hln : n = D + 1
  case neg =>
    have hcf : c = false := by
      cases c with
      | false => rfl
      | true => exact absurd (HC.out.1 rfl).1 (by rw [HXN.out]; omega)
    subst hcf
    have i1 : ((n : Int) != (D : Int) + 1) = true := bne_iff_ne.2 (by omega)
    clear hln HC
    go_wp2_with fail
    go_ret
    exact ⟨rfl, hb⟩
  have i1 : ((n : Int) != (D : Int) + 1) = false := by rw [hln]; simp
  have hX0 := (hx.below hb).h
  obtain ⟨b1, off, e, hA1, hb1, c0, c1, c2, -, e1⟩ := ent_at hX0 (show D < x.es.length by rw [HXN.out]; omega)
  rw [hA1] at t0
  have HA1 := Lib.hid hA1
  have i2 : (D : Int) < (n : Int) := by omega
  by_cases hls : e.ls = true
  case pos =>
    have hcf : c = false := by
      cases c with
      | false => rfl
      | true =>
        have := (HC.out.1 rfl).2.2 e (by rw [Int.toNat_natCast]; exact e1)
        rw [hls] at this
        cases this
    subst hcf
    rw [hls] at c2
    clear hln hls HC hX0 e1 hA1
    go_wp2_with fail
    go_ret
    exact ⟨rfl, hb⟩
  have hls0 : e.ls = false := by
    cases h : e.ls with
    | false => rfl
    | true => exact absurd h hls
  have HLAST := Lib.hid (show ∀ u, x.es[(D : Int).toNat]? = some u → u.ls = false from fun u hu => by
    rw [Int.toNat_natCast, e1] at hu
    rw [← Option.some.inj hu]
    exact hls0)
  rw [hls0] at c2
  have HLN := Lib.hid hln
  clear hls hls0 e1 hln hA1
  go_wp2_with fail
  clear c0 c1 c2
  go_loopw [5] (fun i w' => ∃ k : Nat, k ≤ n ∧ i = .int .i64 k ∧ (∀ j, j < k → ∀ u, x.es[j]? = some u → EntOk u) ∧ Below w0.heap.size w0 w') (fun i _ => n - (RowKit.intOf i).toNat)
  case atStart => exact ⟨0, by omega, rfl, fun j hj => absurd hj (by omega), Below.refl _ _⟩
  case round =>
    obtain ⟨w5, rfl⟩ : ∃ x, x = wr := ⟨wr, rfl⟩
    obtain ⟨k, hk, rfl, hs, hbr⟩ := hrel
    have hb5 := bt hb hbr
    have t5 := kst hbr (by omega) t0
    have lw := hb5.size
    by_cases hlt : k < n
    · obtain ⟨b2, off2, u, hA2, hb2, c0, c1, c2, -, e2⟩ := ent_at (hx.below hb5).h (show k < x.es.length by rw [HXN.out]; omega)
      rw [HA1.out] at hA2
      simp only [Option.some.injEq, Addr.mk.injEq, and_true] at hA2
      obtain ⟨rfl, rfl⟩ := hA2
      have i3 : (k : Int) < (n : Int) := by omega
      have H1 := Lib.hid (show EntOk u → ∀ j, j < k + 1 → ∀ v, x.es[j]? = some v → EntOk v from fun hu j hj v hv => by
        rcases Nat.lt_or_ge j k with h | h
        · exact hs j h v hv
        · obtain rfl : j = k := by omega
          rw [e2] at hv
          rw [← Option.some.inj hv]
          exact hu)
      have H2 := Lib.hid (show ¬ EntOk u → c = false from fun hu => by
        cases c with
        | false => rfl
        | true => exact absurd ((HC.out.1 rfl).2.1 u (List.mem_of_getElem? e2)) hu)
      have c1st := fun W => r8in_at (decide (0 ≤ u.st ∧ u.st ≤ 4294967295)) u.st 0 4294967295 W (by simp)
      have c2sm := fun W => r8in_at (decide (0 ≤ u.sm ∧ u.sm ≤ 4294967295)) u.sm 0 4294967295 W (by simp)
      clear hs e2 hX0
      by_cases k1 : 0 ≤ u.st ∧ u.st ≤ 4294967295
      · by_cases k2 : 0 ≤ u.sm ∧ u.sm ≤ 4294967295
        · have H3 := Lib.hid (H1.out ⟨k1, k2⟩)
          simp only [decide_eq_true k1] at c1st
          simp only [decide_eq_true k2] at c2sm
          clear k1 k2 H1 H2
          go_wp2_with (first
            | (go_at_call 33; (with_reducible refine (c1st _).mono ?_); rintro e' wq ⟨rfl, rfl⟩)
            | (go_at_call 33; (with_reducible refine (c2sm _).mono ?_); rintro e' wq ⟨rfl, rfl⟩))
          go_roundw
          case rel => exact ⟨k + 1, by omega, by go_num, H3.out, hbr⟩
          case measure => simp [RowKit.intOf]; omega
        · obtain rfl := H2.out fun h => k2 h.2
          simp only [decide_eq_true k1] at c1st
          simp only [decide_eq_false k2] at c2sm
          clear k1 k2 H1 H2
          go_wp2_with (first
            | (go_at_call 33; (with_reducible refine (c1st _).mono ?_); rintro e' wq ⟨rfl, rfl⟩)
            | (go_at_call 33; (with_reducible refine (c2sm _).mono ?_); rintro e' wq ⟨rfl, rfl⟩))
          go_ret
          exact ⟨rfl, hb5⟩
      · obtain rfl := H2.out fun h => k1 h.1
        simp only [decide_eq_false k1] at c1st
        clear k1 H1 H2 c2sm
        go_wp2_with (first
          | (go_at_call 33; (with_reducible refine (c1st _).mono ?_); rintro e' wq ⟨rfl, rfl⟩))
        go_ret
        exact ⟨rfl, hb5⟩
    · have hct : c = true := HC.out.2 ⟨by rw [HXN.out]; have := HLN.out; omega, fun u hu => by
        obtain ⟨j, hj, rfl⟩ := List.mem_iff_getElem.1 hu
        exact hs j (by rw [HXN.out] at hj; omega) _ (List.getElem?_eq_getElem hj), HLAST.out⟩
      have i3 : ¬ (k : Int) < (n : Int) := by omega
      subst hct
      clear hs HC
      go_wp2_with fail
      go_ret
      exact ⟨rfl, hb5⟩
/-- A new entry. -/
def Ent.v (e : Ent) : Value := .agg #[.int .i64 e.st, .int .i64 e.sm, .bool e.ls]
end Go.Proofs.YtpcadoekhoediaaGreatDoor.tbl

namespace Go.Proofs.YtpcadoekhoediaaGreatDoor.tbl
open Go.RowKit Go.Lib
open Go.Proofs.YtpcadoekhoediaaGreatDoor.gmt (Ok five_new)
open Go.Proofs.YtpcadoekhoediaaGreatDoor.pck (le num le_length ref_put ref_get)
open Go.Proofs.YtpcadoekhoediaaGreatDoor.anc (flat_get flat_len slv_cell bl kal kst ks bm ka take_same take_other row_form row_below)

/-- Bytes of one's own, q of them. -/
def BytQ (base q : Nat) (l : List UInt8) (e : Ending) (w' : World) : Prop := ∃ (X : Option Addr) (c : Nat), e = .returned (.slice X q c) ∧ l.length = q ∧ Own w' base 5 (.slice X q c) l
theorem own_sl {W : World} {base q x : Nat} {e : TypeId} {X : Option Addr} {l : List UInt8} (h : Own W base e (.slice X q x) l) : Sl W W.heap.size X l := by
  obtain ⟨A, c, hv, -, -, hs, -⟩ := h.form
  simp only [Value.slice.injEq] at hv
  rw [hv.1]
  exact hs
set_option maxRecDepth 100000 in
set_option maxHeartbeats 4000000 in
theorem rput_q (k : Nat) (m : Int) (n q : Nat) (A : Option Addr) (c : Nat) (l : List UInt8) (w : World) (hk : k ≤ 8) (h0 : 0 ≤ m) (hm : m ≤ 4294967295) (hln : l.length = n) (hl : n ≤ 1048576) (hq : n + k = q) (hA : Sl w w.heap.size A l) :
    Calls Tryz.prog 79 #[.slice A n c, .int .i64 m, .int .i64 k] w fun e w' => BytQ w.heap.size q (l ++ le k m.toNat) e w' ∧ Below w.heap.size w w' := by
  have h9 := ref_put k m.toNat n A c l w hk (by omega) hln hl hA
  rw [Int.toNat_of_nonneg h0] at h9
  refine h9.mono ?_
  rintro e w' ⟨⟨v, rfl, ho⟩, hb⟩
  obtain ⟨X, c2, hv, -, -, -, -⟩ := id ho.form
  have hl2 : (l ++ le k m.toNat).length = q := by rw [List.length_append, le_length]; omega
  rw [hl2] at hv
  subst hv
  exact ⟨⟨X, c2, rfl, hl2, ho⟩, hb⟩
end Go.Proofs.YtpcadoekhoediaaGreatDoor.tbl

namespace Go.Proofs.YtpcadoekhoediaaGreatDoor.tbl
open Go.RowKit Go.Lib
open Go.Proofs.YtpcadoekhoediaaGreatDoor.gmt (Ok five_new)
open Go.Proofs.YtpcadoekhoediaaGreatDoor.pck (le num le_length ref_get num_one)
open Go.Proofs.YtpcadoekhoediaaGreatDoor.anc (flat_get flat_len slv_cell bl kal kst ks bm ka take_same take_other row_form row_below src_home step_row)

/-- A table that is told, and whether it is one. -/
def RdT (base : Nat) (es : List Ent) (c : Bool) (e : Ending) (w' : World) : Prop := ∃ t : TV, e = .returned (.tuple #[t.v, .bool c]) ∧ t.es = es ∧ t.Own w' base
theorem lost_byte {b : List UInt8} {k : Nat} (h : k * 9 + 8 < b.length) : lostAt b k = b[k * 9 + 8].toNat := by
  unfold lostAt
  have hl : ((b.drop (k * 9 + 8)).take 1).length = 1 := by rw [List.length_take, List.length_drop]; omega
  rw [num_one _ hl]
  congr 1
  rw [List.getElem_take, List.getElem_drop]
set_option maxRecDepth 100000 in
set_option maxHeartbeats 4000000 in
theorem rread_tab (c : Bool) (z d s l a : Int) (A : Option Addr) (n cap : Nat) (b : List UInt8) (w : World) (ho : Ok z d s l a) (hn : b.length = n) (hcap : n ≤ cap) (hmax : cap ≤ maxLen) (hA : Sl w w.heap.size A b) (hc : c = true ↔ Told d b) :
    Calls Tryz.prog 36 #[.agg #[.int .i64 z, .int .i64 d, .int .i64 s, .int .i64 l, .int .i64 a], .slice A n cap] w fun e w' => RdT w.heap.size (if c = true then entsN b (d.toNat + 1) else []) c e w' ∧ Below w.heap.size w w' := by
  have o2 := ho.2.1
  obtain ⟨D, rfl⟩ : ∃ D : Nat, d = D := ⟨d.toNat, by omega⟩
  rw [Int.toNat_natCast]
  have s1 : (w.alloc (.cells #[.int .i64 z, .int .i64 D, .int .i64 s, .int .i64 l, .int .i64 a] 23)).heap.size = w.heap.size + 1 := by simp
  have GG := (g5_new w z D s l a).keep (bl (w.alloc (.cells #[.int .i64 z, .int .i64 D, .int .i64 s, .int .i64 l, .int .i64 a] 23)) (.cells #[.slice none 0 0] 86)) (by omega)
  have P := c1_new (w.alloc (.cells #[.int .i64 z, .int .i64 D, .int .i64 s, .int .i64 l, .int .i64 a] 23)) (.slice none 0 0) 86
  rw [s1] at P
  have hb0 := kal (bl w (.cells #[.int .i64 z, .int .i64 D, .int .i64 s, .int .i64 l, .int .i64 a] 23)) (.cells #[.slice none 0 0] 86)
  have l2 : ((w.alloc (.cells #[.int .i64 z, .int .i64 D, .int .i64 s, .int .i64 l, .int .i64 a] 23)).alloc (.cells #[.slice none 0 0] 86)).heap.size = w.heap.size + 2 := by simp
  have HC := Lib.hid hc
  have HA := Lib.hid hA
  have HNL := Lib.hid hn
  have HO := Lib.hid ho
  clear s1 ho hc hA hn
  go_enter Tryz.func36, Tryz.ntmps36
  go_upto_region 1 with fail
  generalize ((w.alloc (.cells #[.int .i64 z, .int .i64 D, .int .i64 s, .int .i64 l, .int .i64 a] 23)).alloc (.cells #[.slice none 0 0] 86)) = w0 at *
  have lz : w.heap.size + 2 ≤ w0.heap.size := by omega
  obtain ⟨-, g1, -, -, -⟩ := id GG
  have i9 : IntKind.i64.wrap (9 * ((D : Int) + 1)) = 9 * ((D : Int) + 1) := IntWalk.i64_in _ (by omega)
  by_cases hln : (n : Int) = 9 * ((D : Int) + 1)
  case neg =>
    have hcf : c = false := by
      cases c with
      | false => rfl
      | true => exact absurd (HC.out.1 rfl).1 (by rw [HNL.out]; exact hln)
    subst hcf
    have i1 : ((n : Int) != 9 * ((D : Int) + 1)) = true := bne_iff_ne.2 hln
    have P5 := P
    have z0 := P.c0
    have f0 := P.f0
    clear hln HC
    go_wp2_with fail
    (try simp only [Exit.inBlock, Exit.then])
    have k1 := P5.set (.slice none 0 0)
    exact bodyPost_ret (v := .tuple #[.agg #[.slice none 0 0], .bool false]) (by simp [results, Tryz.results36, go_sem, k1.c0]) rfl ⟨⟨noTV, rfl, rfl, noTV_own _ _⟩, hb0.setCell (p := ⟨w.heap.size + 1, 0, none⟩) (show w.heap.size ≤ w.heap.size + 1 by omega) _⟩
  have i1 : ((n : Int) != 9 * ((D : Int) + 1)) = false := by rw [hln]; exact bne_self_eq_false _
  have hl9 : (D + 1) * 9 = n := by omega
  have HLN := Lib.hid hln
  clear hln
  go_upto_region 4 with fail
  have Q := c1_new w0 (.slice none 0 0) 86
  have l3 : (w0.alloc (.cells #[.slice none 0 0] 86)).heap.size = w.heap.size + 3 := by simp [l2]
  have hx := bl w0 (.cells #[.slice none 0 0] 86)
  rw [l2] at Q
  replace P := P.keep hx (by omega)
  replace GG := GG.keep hx (by omega)
  replace hb0 := bt hb0 hx
  clear hx g1 i1 i9 lz l2
  generalize (w0.alloc (.cells #[.slice none 0 0] 86)) = w1 at *
  have lz : w.heap.size + 3 ≤ w1.heap.size := by omega
  clear l3
  go_wp2_with fail
  go_loopw [7] (fun i w' => ∃ (k : Nat) (v : Value), k ≤ D + 1 ∧ i = .int .i64 k ∧ (∀ j, j < k → lostAt b j ≤ 1) ∧ OwnE w' (w.heap.size + 3) v (entsN b k) ∧ C1 w' (w.heap.size + 2) v ∧ C1 w' (w.heap.size + 1) (.slice none 0 0) ∧ G5 w' w.heap.size z D s l a ∧ Below w.heap.size w w' ∧ w.heap.size + 3 ≤ w'.heap.size) (fun i _ => D + 1 - (RowKit.intOf i).toNat)
  case atStart => exact ⟨0, .slice none 0 0, by omega, rfl, fun j hj => absurd hj (by omega), ownE_nil _ _, Q, P, GG, hb0, lz⟩
  case round =>
    clear P Q GG hb0 lz
    obtain ⟨w5, rfl⟩ : ∃ x, x = wr := ⟨wr, rfl⟩
    obtain ⟨k, v, hk, rfl, hlost, hown, Q5, P5, GG, hb5, l5⟩ := hrel
    obtain ⟨-, g1, -, -, -⟩ := id GG
    by_cases hlt : k < D + 1
    · have i1 : (k : Int) ≤ (D : Int) := by omega
      have hAw := HA.out.below hb5
      obtain ⟨bb, off, rfl, hbb, hcb⟩ := id (hAw (by rw [HNL.out]; omega))
      have hkb : k * 9 + 8 < b.length := by rw [HNL.out]; omega
      have c8 := hcb (k * 9 + 8) hkb
      unfold by8 at c8
      rw [← Nat.add_assoc] at c8
      have hlb := lost_byte hkb
      have h255 := b[k * 9 + 8].toNat_lt
      obtain ⟨B8, hB8⟩ : ∃ x, x = b[k * 9 + 8].toNat := ⟨_, rfl⟩
      rw [← hB8] at c8 hlb h255
      have HLB := Lib.hid hlb
      have h9k : 9 * (k : Int) = ((k * 9 : Nat) : Int) := by omega
      have n1 : k * 9 ≤ n := by omega
      have n2 : k * 9 < cap := by omega
      have n3 : (8 : Int) < ((n - k * 9 : Nat) : Int) := by omega
      unfold maxLen at hmax
      clear hlb hB8 hcb
      go_upto_region 8 with fail
      by_cases hb1 : 1 < B8
      · have hcf : c = false := by
          cases c with
          | false => rfl
          | true => exact absurd ((HC.out.1 rfl).2.1 k i1) (by rw [HLB.out]; omega)
        subst hcf
        have j1 : (1 : Int) < (B8 : Int) := by omega
        have p0 := P5.c0
        have f0 := P5.f0
        clear HC hlost hb1
        go_wp2_with fail
        (try simp only [Exit.inBlock, Exit.then])
        have k1 := P5.set (.slice none 0 0)
        exact bodyPost_ret (v := .tuple #[.agg #[.slice none 0 0], .bool false]) (by simp [results, Tryz.results36, go_sem, k1.c0]) rfl ⟨⟨noTV, rfl, rfl, noTV_own _ _⟩, hb5.setCell (p := ⟨w.heap.size + 1, 0, none⟩) (show w.heap.size ≤ w.heap.size + 1 by omega) _⟩
      have j1 : ¬ (1 : Int) < (B8 : Int) := by omega
      have hlost2 : ∀ j, j < k + 1 → lostAt b j ≤ 1 := fun j hj => by
        rcases Nat.lt_or_ge j k with h | h
        · exact hlost j h
        · obtain rfl : j = k := by omega
          rw [HLB.out]
          omega
      have HL2 := Lib.hid hlost2
      have hsl := (HA.out.below hb5).more hb5.size
      have HG0 := Lib.hid (show ∀ W, Below w5.heap.size w5 W → Calls Tryz.prog 54 #[.slice (some ⟨bb, off + k * 9, none⟩) (n - k * 9 : Nat) (cap - k * 9), .int .i64 4] W fun e w' => e = .returned (.int .i64 (num ((b.drop (k * 9)).take 4) : Nat)) ∧ W = w' from fun W hW =>
        ref_get 4 (n - k * 9) _ (cap - k * 9) _ (b.drop (k * 9)) W (by omega) (by rw [List.length_drop, HNL.out]) (by omega) ((hsl.below hW).drop (k * 9)))
      have HG4 := Lib.hid (show ∀ W, Below w5.heap.size w5 W → Calls Tryz.prog 54 #[.slice (some ⟨bb, off + k * 9 + 4, none⟩) (n - k * 9 - 4 : Nat) (cap - k * 9 - 4), .int .i64 4] W fun e w' => e = .returned (.int .i64 (num ((b.drop (k * 9 + 4)).take 4) : Nat)) ∧ W = w' from fun W hW => by
        have h9 := (hsl.below hW).drop (k * 9 + 4)
        rw [← Nat.add_assoc] at h9
        exact ref_get 4 (n - k * 9 - 4) _ (cap - k * 9 - 4) _ (b.drop (k * 9 + 4)) W (by omega) (by rw [List.length_drop, HNL.out]; omega) (by omega) h9)
      have hlk : (entsN b k).length = k := entsN_length b k
      have q0 := Q5.c0
      have n4 : (4 : Int) ≤ ((n - k * 9 : Nat) : Int) := by omega
      have n5 : 4 ≤ n - k * 9 := by omega
      have n6 : 4 ≤ cap - k * 9 := by omega
      have n7 : ¬ cap - k * 9 = 4 := by omega
      have n8 : (4 : Int) ≤ ((cap - k * 9 : Nat) : Int) := by omega
      clear hsl hlost hlost2 hb1 hAw
      go_upto_region 10 with fail
      refine wp_region_tail (S := fun W => W.cell? ⟨w.heap.size + 2, 0, none⟩ = some v ∧ W.cell? ⟨bb, off + k * 9 + 8, none⟩ = some (.int .u8 (B8 : Int)) ∧ Below (w.heap.size + 3) w5 W) 15 rfl (by kernel_rfl) (by kernel_rfl) ⟨q0, c8, below_dr (Below.refl _ _)⟩ (fun hS => ?_)
      simp only [List.take_succ_cons, List.take_zero]
      (refine wpAnyH_take (i := 0) (v := ?_) rfl (by kernel_rfl) (by kernel_rfl) (by kernel_rfl) (fun _ _ _ h => h) (Or.inl ⟨by rfl, ?_⟩) (by assumption) ?_; rotate_left; (focus (intro w hSw; (try dsimp only at hSw); go_split_ands; go_simp <;> with_reducible rfl)); simp only [List.getElem_toArray, List.getElem_cons_zero, Act.put, List.setIfInBounds_toArray, List.set_cons_zero, List.set_cons_succ])
      (refine wpAnyH_take (i := 1) (v := ?_) rfl (by kernel_rfl) (by kernel_rfl) (by kernel_rfl) (fun _ _ _ h => h) (Or.inl ⟨by rfl, ?_⟩) (by assumption) ?_; rotate_left; (focus (intro w hSw; (try dsimp only at hSw); go_split_ands; go_simp <;> with_reducible rfl)); simp only [List.getElem_toArray, List.getElem_cons_zero, List.getElem_cons_succ, Act.put, List.setIfInBounds_toArray, List.set_cons_zero, List.set_cons_succ])
      (refine wpAnyH_take (i := 2) (v := ?_) rfl (by kernel_rfl) (by kernel_rfl) (by kernel_rfl) (fun _ _ _ h => h) (Or.inl ⟨by rfl, ?_⟩) (by assumption) ?_; rotate_left; (focus (intro w hSw; (try dsimp only at hSw); go_split_ands; go_simp <;> with_reducible rfl)); simp only [List.getElem_toArray, List.getElem_cons_zero, List.getElem_cons_succ, Act.put, List.setIfInBounds_toArray, List.set_cons_zero, List.set_cons_succ])
      (refine wpAnyH_take (i := 4) (v := ?_) rfl (by kernel_rfl) (by kernel_rfl) (by kernel_rfl) (fun _ _ _ h => h) (Or.inl ⟨by rfl, ?_⟩) (by assumption) ?_; rotate_left; (focus (intro w hSw; (try dsimp only at hSw); go_split_ands; go_simp <;> with_reducible rfl)); simp only [List.getElem_toArray, List.getElem_cons_zero, List.getElem_cons_succ, Act.put, List.setIfInBounds_toArray, List.set_cons_zero, List.set_cons_succ])
      (refine wpAnyH_take (i := 5) (v := ?_) rfl (by kernel_rfl) (by kernel_rfl) (by kernel_rfl) (fun _ _ _ h => h) (Or.inl ⟨by rfl, ?_⟩) (by assumption) ?_; rotate_left; (focus (intro w hSw; (try dsimp only at hSw); go_split_ands; go_simp <;> with_reducible rfl)); simp only [List.getElem_toArray, List.getElem_cons_zero, List.getElem_cons_succ, Act.put, List.setIfInBounds_toArray, List.set_cons_zero, List.set_cons_succ])
      (refine wpAnyH_take (i := 7) (v := ?_) rfl (by kernel_rfl) (by kernel_rfl) (by kernel_rfl) (fun _ _ _ h => h) (Or.inl ⟨by rfl, ?_⟩) (by assumption) ?_; rotate_left; (focus (intro w hSw; (try dsimp only at hSw); go_split_ands; go_simp <;> with_reducible rfl)); simp only [List.getElem_toArray, List.getElem_cons_zero, List.getElem_cons_succ, Act.put, List.setIfInBounds_toArray, List.set_cons_zero, List.set_cons_succ])
      (refine wpAnyH_take (i := 8) (v := ?_) rfl (by kernel_rfl) (by kernel_rfl) (by kernel_rfl) (fun _ _ _ h => h) (Or.inl ⟨by rfl, ?_⟩) (by assumption) ?_; rotate_left; (focus (intro w hSw; (try dsimp only at hSw); go_split_ands; go_simp <;> with_reducible rfl)); simp only [List.getElem_toArray, List.getElem_cons_zero, List.getElem_cons_succ, Act.put, List.setIfInBounds_toArray, List.set_cons_zero, List.set_cons_succ])
      (refine wpAnyH_take (i := 9) (v := ?_) rfl (by kernel_rfl) (by kernel_rfl) (by kernel_rfl) (fun _ _ _ h => h) (Or.inl ⟨by rfl, ?_⟩) (by assumption) ?_; rotate_left; (focus (intro w hSw; (try dsimp only at hSw); go_split_ands; go_simp <;> with_reducible rfl)); simp only [List.getElem_toArray, List.getElem_cons_zero, List.getElem_cons_succ, Act.put, List.setIfInBounds_toArray, List.set_cons_zero, List.set_cons_succ])
      (refine wpAnyH_take (i := 10) (v := ?_) rfl (by kernel_rfl) (by kernel_rfl) (by kernel_rfl) (fun _ _ _ h => h) (Or.inl ⟨by rfl, ?_⟩) (by assumption) ?_; rotate_left; (focus (intro w hSw; (try dsimp only at hSw); go_split_ands; go_simp <;> with_reducible rfl)); simp only [List.getElem_toArray, List.getElem_cons_zero, List.getElem_cons_succ, Act.put, List.setIfInBounds_toArray, List.set_cons_zero, List.set_cons_succ])
      refine wpAnyH_ready (rs := [3]) (by kernel_rfl) (by simp) ?_
      refine AllReadyH.cons rfl (fun K hK => ?_) AllReadyH.nil
      go_simp
      (with_reducible refine (HG0.out _ (below_dr (Below.refl _ _))).mono ?_)
      rintro e wq ⟨rfl, rfl⟩
      refine hK.out _ _ ⟨q0, c8, below_dr (Below.refl _ _)⟩ (fun hS => ?_)
      clear hK K
      refine wpAnyH_ready (rs := [6]) (by kernel_rfl) (by simp) ?_
      refine AllReadyH.cons rfl (fun K hK => ?_) AllReadyH.nil
      go_simp
      (with_reducible refine (HG4.out _ (below_dr (Below.refl _ _))).mono ?_)
      rintro e wq ⟨rfl, rfl⟩
      refine hK.out _ _ ⟨q0, c8, below_dr (Below.refl _ _)⟩ (fun hS => ?_)
      clear hK K
      (refine wpAnyH_take (i := 11) (v := ?_) rfl (by kernel_rfl) (by kernel_rfl) (by kernel_rfl) (fun _ _ _ h => h) (Or.inl ⟨by rfl, ?_⟩) (by assumption) ?_; rotate_left; (focus (intro w hSw; (try dsimp only at hSw); go_split_ands; go_simp <;> with_reducible rfl)); simp only [List.getElem_toArray, List.getElem_cons_zero, List.getElem_cons_succ, Act.put, List.setIfInBounds_toArray, List.set_cons_zero, List.set_cons_succ])
      refine wpAnyH_ready (rs := [12]) (by kernel_rfl) (by simp) ?_
      refine AllReadyH.cons rfl (fun K hK => ?_) AllReadyH.nil
      go_simp
      have b3 : Below w5.heap.size w5 (w5.alloc (.cells #[.int .i64 (num ((b.drop (k * 9)).take 4) : Nat), .int .i64 (num ((b.drop (k * 9 + 4)).take 4) : Nat), .bool ((B8 : Int) == 1)] 109)).drew := below_dr (bl w5 _)
      have src := src_home (P := Tryz.prog) (w := (w5.alloc (.cells #[.int .i64 (num ((b.drop (k * 9)).take 4) : Nat), .int .i64 (num ((b.drop (k * 9 + 4)).take 4) : Nat), .bool ((B8 : Int) == 1)] 109)).drew) (heap_alloc_new w5 (.cells #[.int .i64 (num ((b.drop (k * 9)).take 4) : Nat), .int .i64 (num ((b.drop (k * 9 + 4)).take 4) : Nat), .bool ((B8 : Int) == 1)] 109)) Tryz.underlying84 (by simp [Value.oneCell'])
      have lbb : bb < w5.heap.size := by have := hb5.size; omega
      refine hK.out _ _ ⟨kst b3 (by omega) q0, kst b3 lbb c8, b3.mono l5⟩ (fun hS => ?_)
      clear hK K
      have ow := hown.below b3
      have l3 := b3.size
      generalize (w5.alloc (.cells #[.int .i64 (num ((b.drop (k * 9)).take 4) : Nat), .int .i64 (num ((b.drop (k * 9 + 4)).take 4) : Nat), .bool ((B8 : Int) == 1)] 109)).drew = wc at *
      refine wpAnyH_ready (rs := [13]) (by kernel_rfl) (by simp) ?_
      refine AllReadyH.cons rfl (fun K hK => ?_) AllReadyH.nil
      refine step_row wc (by rfl) _ _ _ _ (by rfl) (w.heap.size + 3) 3 24 109 (.agg #[.int .i64 0, .int .i64 0, .bool false]) Tryz.underlying84 e_info (by rfl) v k (evs (entsN b k)) (by rfl) (by have h9 := ow; unfold OwnE at h9; rw [hlk] at h9; exact h9) _ 1 _ (by rfl) src (by unfold maxLen; omega) (by omega) (by omega) ?_
      intro v3 w3 h3 hg3
      have b4 : Below (w.heap.size + 3) w5 w3 := (b3.mono l5).grown hg3 (by omega) (fun q hq => (World.ownsRow.lt ow q hq).1)
      refine hK.out _ _ ⟨ks b4 (by omega) q0, ks b4 (by omega) c8, b4⟩ (fun hS => ?_)
      clear hK K
      simp only [List.getElem_toArray, List.getElem_cons_zero, List.getElem_cons_succ, Act.put, List.setIfInBounds_toArray, List.set_cons_zero, List.set_cons_succ]
      (refine wpAnyH_take (i := 14) (v := ?_) rfl (by kernel_rfl) (by kernel_rfl) (by kernel_rfl) (fun _ _ _ h => h) (Or.inl ⟨by rfl, ?_⟩) (by assumption) ?_; rotate_left; (focus (intro w hSw; (try dsimp only at hSw); go_split_ands; go_simp <;> with_reducible rfl)); simp only [List.getElem_toArray, List.getElem_cons_zero, List.getElem_cons_succ, Act.put, List.setIfInBounds_toArray, List.set_cons_zero, List.set_cons_succ])
      refine wpAnyH_done (by kernel_rfl) ?_ _
      have Q6 := Q5.keep b4 (by omega)
      have P6 := P5.keep b4 (by omega)
      have G6 := GG.keep b4 (by omega)
      have c6 := Q6.c0
      have f6 := Q6.f0
      obtain ⟨A3, c3, rfl, -, -, -⟩ := row_form h3
      simp only [tailQ]
      go_simp
      have hlk1 : (entsN b (k + 1)).length = k + 1 := entsN_length b (k + 1)
      have h4 : OwnE w3 (w.heap.size + 3) (.slice A3 (k + 1 : Nat) c3) (entsN b (k + 1)) := by
        unfold OwnE
        rw [hlk1, entsN_next, evs_append]
        have e8 : num (((b.drop (k * 9)).drop 8).take 1) = B8 := by rw [List.drop_drop]; exact HLB.out
        have e9 : ((B8 : Int) == 1) = (B8 == 1) := by
          rw [Bool.eq_iff_iff, beq_iff_eq, beq_iff_eq]
          omega
        have : evs [entN (b.drop (k * 9))] = [.int .i64 (num ((b.drop (k * 9)).take 4) : Nat), .int .i64 (num ((b.drop (k * 9 + 4)).take 4) : Nat), .bool ((B8 : Int) == 1)] := by
          show [Value.int .i64 (num ((b.drop (k * 9)).take 4) : Nat), Value.int .i64 (num (((b.drop (k * 9)).drop 4).take 4) : Nat), Value.bool (num (((b.drop (k * 9)).drop 8).take 1) == 1)] = _
          rw [e8, e9, List.drop_drop]
        rw [this]
        exact h3
      have h5 := OwnE.cell_set (o := 0) h4 (show w.heap.size + 2 < w.heap.size + 3 by omega) (.slice A3 (k + 1 : Nat) c3)
      have b5 : Below w.heap.size w (w3.setCell ⟨w.heap.size + 2, 0, none⟩ (.slice A3 (k + 1 : Nat) c3)) := (hb5.trans (b4.mono (by omega))).setCell (p := ⟨w.heap.size + 2, 0, none⟩) (show w.heap.size ≤ w.heap.size + 2 by omega) _
      have hsz := b4.size
      go_wp2
      go_roundw
      case rel => exact ⟨k + 1, _, by omega, by go_num, HL2.out, h5, Q6.set _, P6.apart (by omega) _, G6.set (by omega) _, b5, by simp; omega⟩
      case measure => simp [RowKit.intOf]; omega
    · obtain rfl : k = D + 1 := by omega
      have i1 : ¬ ((D + 1 : Nat) : Int) ≤ (D : Int) := by omega
      obtain ⟨g0, -, g2, g3, g4⟩ := id GG
      have q0 := Q5.c0
      obtain ⟨t, rfl, hte, hto⟩ := ownE_tv hown
      have HTE := Lib.hid hte
      have HTO := Lib.hid hto
      have hti := TV.Own.inn hto
      have hcg : c = true ↔ Good (D : Int) t.es := by
        rw [hte]
        refine ⟨fun h => by have := (HC.out.1 h).2.2; rwa [Int.toNat_natCast] at this, fun h => HC.out.2 ⟨by rw [HNL.out]; exact HLN.out, fun j hj => hlost j (by omega), by rw [Int.toNat_natCast]; exact h⟩⟩
      have HR := Lib.hid (rtable_any c z D s l a t w5 HO.out hti (by rw [hte, entsN_length]; omega) hcg)
      unfold TV.v at HR
      clear hte hto hti hcg hown hlost HC
      cases c
      · go_wp2_with (go_at_call 57; (with_reducible refine HR.out.mono ?_); rintro e' w6 ⟨rfl, hb6⟩; have q6 := kst hb6 (by omega) q0; have P6 := P5.keep hb6 (by omega); have p0 := P6.c0; have f0 := P6.f0; clear g0 g1 g2 g3 g4 q0)
        have k1 := P6.set (.slice none 0 0)
        exact bodyPost_ret (v := .tuple #[.agg #[.slice none 0 0], .bool false]) (by simp [results, Tryz.results36, go_sem, k1.c0]) rfl ⟨⟨noTV, rfl, rfl, noTV_own _ _⟩, (bt hb5 hb6).setCell (p := ⟨w.heap.size + 1, 0, none⟩) (show w.heap.size ≤ w.heap.size + 1 by omega) _⟩
      · go_wp2_with (go_at_call 57; (with_reducible refine HR.out.mono ?_); rintro e' w6 ⟨rfl, hb6⟩; have q6 := kst hb6 (by omega) q0; have P6 := P5.keep hb6 (by omega); have p0 := P6.c0; have f0 := P6.f0; clear g0 g1 g2 g3 g4 q0)
        have k1 := P6.set (.slice t.A t.es.length t.c)
        have HTO6 := OwnE.below HTO.out hb6
        exact bodyPost_ret (v := .tuple #[.agg #[.slice t.A t.es.length t.c], .bool true]) (by simp [results, Tryz.results36, go_sem, k1.c0]) rfl ⟨⟨t, rfl, HTE.out, OwnE.less (OwnE.cell_set HTO6 (by omega) _) (by omega)⟩, (bt hb5 hb6).setCell (p := ⟨w.heap.size + 1, 0, none⟩) (show w.heap.size ≤ w.heap.size + 1 by omega) _⟩
end Go.Proofs.YtpcadoekhoediaaGreatDoor.tbl

namespace Go.Proofs.YtpcadoekhoediaaGreatDoor.tbl
open Go.RowKit Go.Lib
open Go.Proofs.YtpcadoekhoediaaGreatDoor.gmt (Ok five_new)
open Go.Proofs.YtpcadoekhoediaaGreatDoor.anc (flat_get flat_len slv_cell bl kal kst ks bm ka take_same take_other row_form row_below wpList_row src_home step_row)

def zer8 : List UInt8 := List.replicate 8 0
/-- A new table's entry. -/
def newE : Ent := ⟨0, (crc.sum zer8 : Nat), false⟩
def z8cells : Array Value := madeCells #[.int .u8 0] 8
theorem z8_run (W : World) : (Instr.makeSlice 28 (.int .i64 8) (.int .i64 8)).run Tryz.prog W = .ok (.slice (some ⟨W.heap.size, 0, none⟩) 8 8) (W.alloc (.cells z8cells 5)) := by
  obtain ⟨ht, _, i, hi, hz, h1, hb8⟩ := t8
  have hr := run_make (P := Tryz.prog) W 28 5 i (.int .u8 0) ht hi hz .i64 .i64 8 8 (by omega) (by omega) (by rw [hb8]; omega) (by omega)
  simpa [h1, z8cells, Value.cells] using hr
theorem zn_list (n : Nat) : (madeCells #[.int .u8 0] n).toList = cells8 (List.replicate n 0) := by
  unfold madeCells cells8
  apply List.ext_getElem
  · simp
  · intro i h2 h3
    simp [by8, Nat.mod_one]
theorem z8_list : z8cells.toList = cells8 zer8 := zn_list 8
theorem z8_sl (W : World) : Sl (W.alloc (.cells z8cells 5)) (W.alloc (.cells z8cells 5)).heap.size (some ⟨W.heap.size, 0, none⟩) zer8 := Sl.of_block (heap_alloc_new W _) z8_list (by simp)
end Go.Proofs.YtpcadoekhoediaaGreatDoor.tbl

namespace Go.Proofs.YtpcadoekhoediaaGreatDoor.tbl
open Go.RowKit Go.Lib
open Go.Proofs.YtpcadoekhoediaaGreatDoor.gmt (Ok five_new)
open Go.Proofs.YtpcadoekhoediaaGreatDoor.anc (flat_get flat_len slv_cell bl kal kst ks bm ka)

/-- A table and an error, bytes and an error, integers and an error. -/
def TbE (base : Nat) (es : List Ent) (n : Int) (e : Ending) (w' : World) : Prop := ∃ t : TV, e = .returned (.tuple #[t.v, .int .i64 n]) ∧ t.es = es ∧ t.Own w' base
def BytE (base q : Nat) (l : List UInt8) (n : Int) (e : Ending) (w' : World) : Prop := ∃ (X : Option Addr) (c : Nat), e = .returned (.tuple #[.slice X q c, .int .i64 n]) ∧ l.length = q ∧ Own w' base 5 (.slice X q c) l
def NonE (n : Int) (e : Ending) : Prop := ∃ (X : Option Addr) (c : Nat), e = .returned (.tuple #[.slice X 0 c, .int .i64 n])
def IntE (q : Nat) (l : List Int) (e : Ending) (w' : World) : Prop := ∃ (X : Option Addr) (c : Nat), e = .returned (.tuple #[.slice X q c, .int .i64 0]) ∧ l.length = q ∧ SlV w' w'.heap.size X (ints l)
/-- Which of the first k are lost. -/
def lostN (es : List Ent) : Nat → List Int
  | 0 => []
  | k + 1 => lostN es k ++ (if (es[k]?.map Ent.ls).getD false then [(k : Int)] else [])
theorem lostN_le (es : List Ent) : ∀ k, (lostN es k).length ≤ k
  | 0 => Nat.le_refl _
  | k + 1 => by
    have := lostN_le es k
    unfold lostN
    split <;> simp <;> omega
theorem zer8_pos : 0 < crc.sum zer8 ∧ crc.sum zer8 ≤ 4294967295 := by decide +kernel
theorem newE_ok : EntOk newE := ⟨⟨by decide, by decide⟩, Int.natCast_nonneg _, by have := zer8_pos.2; show ((crc.sum zer8 : Nat) : Int) ≤ _; omega⟩
theorem new_good {d : Int} (hd : 0 ≤ d) : Good d (List.replicate (d.toNat + 1) newE) :=
  ⟨by rw [List.length_replicate]; omega, fun e he => by rw [List.eq_of_mem_replicate he]; exact newE_ok, fun e he => by rw [List.eq_of_mem_replicate (List.mem_of_getElem? he)]; rfl⟩
theorem ok_one : Ok 1 1 0 14 1 := by unfold Ok; omega
set_option maxRecDepth 100000 in
set_option maxHeartbeats 4000000 in
theorem some_one (w : World) :
    Calls Tryz.prog 28 #[.int .i64 0, .int .i64 0, .int .i64 0, .int .i64 0, .int .i64 0] w fun e w' => e = .returned (.agg #[.int .i64 1, .int .i64 1, .int .i64 0, .int .i64 14, .int .i64 1]) ∧ Below w.heap.size w w' := by
  go_enter Tryz.func28, Tryz.ntmps28
  go_wp2
  obtain ⟨g0, g1, g2, g3, g4⟩ := five_new w 1 1 0 14 1
  exact bodyPost_ret (v := .agg #[.int .i64 1, .int .i64 1, .int .i64 0, .int .i64 14, .int .i64 1]) (by simp [results, Tryz.results28, go_sem, g0, g1, g2, g3, g4]) rfl ⟨rfl, bl w _⟩
end Go.Proofs.YtpcadoekhoediaaGreatDoor.tbl
