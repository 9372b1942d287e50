/-
  The document's own new anchor. Conditions: a right geometry.
  Tables of zones as plain data, and their bytes: plain mathematics. No condition beyond each law's own.
  Tables as they lie in memory (a row of entries of three values each); copied, compared. Conditions: each law's own.
  casematekeep.Table: whether two tables are the same; TwinTable: a table like it. Conditions: rows shorter than 2^20.
  The document's tables: whether one is right, a new one. Conditions: a right geometry.
  The document's bytes of a table. Conditions: entries that are right.
  What table bytes are, by the document. Conditions: a right geometry.
  The document's new table. Conditions: a right geometry.
  What the laws of package table ask of its functions; the laws' own example (wakes). Conditions: 'Ctt'.
-/
import Derived.Test.YthdahdopejapmaaGAn
import Derived.Test.YthdahdopejapmaaGGm
import Derived.Deep.CutRange
import Derived.Test.YthdahdopejapmaaGPk
import Derived.Laws.StructEq
import Derived.Test.YthdahdopejapmaaTail
import Derived.Test.YthdahdopejapmaaGSum
import Derived.Test.YthdahdopejapmaaPkD
namespace Go.Proofs.Ythdahdopejapmaa.anc
open Go.RowKit Go.Lib
open Go.Proofs.Ythdahdopejapmaa.gmt (Ok five_new)

/-- Three cells that may be written. -/
structure Tri (W : World) (g : Nat) (a0 a1 a2 : Value) : Prop where
  c0 : W.cell? ⟨g, 0, none⟩ = some a0
  c1 : W.cell? ⟨g, 1, none⟩ = some a1
  c2 : W.cell? ⟨g, 2, none⟩ = some a2
  f0 : W.frozen? ⟨g, 0, none⟩ = false
  f1 : W.frozen? ⟨g, 1, none⟩ = false
  f2 : W.frozen? ⟨g, 2, none⟩ = false
section
variable {W W' : World} {g : Nat} {a0 a1 a2 : Value}
theorem tri_new (w : World) (a0 a1 a2 : Value) (t : TypeId) : Tri (w.alloc (.cells #[a0, a1, a2] t)) w.heap.size a0 a1 a2 := by
  have h := heap_alloc_new w (.cells #[a0, a1, a2] t)
  constructor <;> first | (rw [cell_of_row _ _ _ _ _ _ h]; rfl) | exact World.frozen?_alloc_new _ _ _ _
theorem Tri.keep {B : Nat} (h : Tri W g a0 a1 a2) (hb : Below B W W') (hg : g < B) : Tri W' g a0 a1 a2 :=
  ⟨(hb.cell (p := ⟨g, 0, none⟩) hg).trans h.c0, (hb.cell (p := ⟨g, 1, none⟩) hg).trans h.c1, (hb.cell (p := ⟨g, 2, none⟩) hg).trans h.c2, (hb.frozen (p := ⟨g, 0, none⟩) hg).trans h.f0, (hb.frozen (p := ⟨g, 1, none⟩) hg).trans h.f1, (hb.frozen (p := ⟨g, 2, none⟩) hg).trans h.f2⟩
theorem Tri.set0 (h : Tri W g a0 a1 a2) (v : Value) : Tri (W.setCell ⟨g, 0, none⟩ v) g v a1 a2 := by
  refine ⟨World.cell?_setCell_same _ _ _ h.c0, ?_, ?_, ?_, ?_, ?_⟩
  · rw [World.cell?_setCell_other _ _ _ _ (by simp)]; exact h.c1
  · rw [World.cell?_setCell_other _ _ _ _ (by simp)]; exact h.c2
  · rw [World.frozen?_setCell]; exact h.f0
  · rw [World.frozen?_setCell]; exact h.f1
  · rw [World.frozen?_setCell]; exact h.f2
theorem Tri.set1 (h : Tri W g a0 a1 a2) (v : Value) : Tri (W.setCell ⟨g, 1, none⟩ v) g a0 v a2 := by
  refine ⟨?_, World.cell?_setCell_same _ _ _ h.c1, ?_, ?_, ?_, ?_⟩
  · rw [World.cell?_setCell_other _ _ _ _ (by simp)]; exact h.c0
  · rw [World.cell?_setCell_other _ _ _ _ (by simp)]; exact h.c2
  · rw [World.frozen?_setCell]; exact h.f0
  · rw [World.frozen?_setCell]; exact h.f1
  · rw [World.frozen?_setCell]; exact h.f2
theorem Tri.set2 (h : Tri W g a0 a1 a2) (v : Value) : Tri (W.setCell ⟨g, 2, none⟩ v) g a0 a1 v := by
  refine ⟨?_, ?_, World.cell?_setCell_same _ _ _ h.c2, ?_, ?_, ?_⟩
  · rw [World.cell?_setCell_other _ _ _ _ (by simp)]; exact h.c0
  · rw [World.cell?_setCell_other _ _ _ _ (by simp)]; exact h.c1
  · rw [World.frozen?_setCell]; exact h.f0
  · rw [World.frozen?_setCell]; exact h.f1
  · rw [World.frozen?_setCell]; exact h.f2
end
/-- append of rows of k cells. -/
theorem wpList_row {P : Program} (w : World) {ops : Array Oper} {rest : List Oper} {o : Oper} {a : Act} {Q : Exit → Act → World → Prop} (hgd : o.guard = none) (s x : Operand) (t tx : TypeId)
    (ho : o.op = .call { callee := .builtin .append, args := #[s, x], argTypes := #[t, tx] })
    (base k bytes : Nat) (e : TypeId) (z : Value) (ht : P.underlying t = some (.slice e)) (hi : (P.info? e).map (fun i => (i.zero, i.size, i.bytes)) = some (some z, k, bytes)) (hz : z.cells.size = k)
    (v : Value) (n : Nat) (xs : List Value) (hv : a.eval s = v) (hown : w.ownsRow base e k v n xs) (u : Value) (m : Nat) (news : List Value) (hu : a.eval x = u) (hs : Src P k tx u m news w)
    (h63 : n + m ≤ maxLen) (hlen : (n + m) * bytes ≤ 140737488355328) (hbase : base ≤ w.heap.size)
    (h : ∀ v' w', w'.ownsRow base e k v' (n + m) (xs ++ news) → w.grownBy w' v.ownBlock → wpList P ops Q rest (a.put o.dst v') w') : wpList P ops Q (o :: rest) a w :=
  wpList_plain hgd fun _ hK => by
    cases hi' : P.info? e with
    | none => rw [hi'] at hi; cases hi
    | some i =>
      rw [hi'] at hi
      simp only [Option.map_some, Option.some.injEq, Prod.mk.injEq] at hi
      obtain ⟨v', w', hrun, h2, h3, h4⟩ := run_app (P := P) w base t tx o.type e i z k bytes ht hi' hi.1 hi.2.1 hi.2.2 hz v n xs hown u m news hs h63 hlen hbase
      have hK' := hK _ _ (h v' w' h2 h3)
      unfold Oper.wp execOp
      simp only [ho, resolve, invoke, builtin, Sem.run_bind, Sem.run_pure, Result.andThen_ok, List.map_toArray, List.map_cons, List.map_nil, hv, hu, hrun]
      exact hK'

/-- 0, 1, and so on. -/
def upto (q : Nat) : List Int := (List.range q).map Int.ofNat
theorem upto_length (q : Nat) : (upto q).length = q := by simp [upto]
theorem upto_next (q : Nat) : ints (upto q) ++ [.int .i64 (q : Int)] = ints (upto (q + 1)) := by simp [upto, ints, List.range_succ]
/-- A new home of d blocks; a new anchor. -/
def newH (d : Int) : Hom := ⟨upto (d.toNat + 1), d + 1, 0⟩
def firstA (z d : Int) (lab : ByteArray) : Anc := ⟨1, 0, 0, 1, 0, lab, List.replicate z.toNat (newH d)⟩

end Go.Proofs.Ythdahdopejapmaa.anc

namespace Go.Proofs.Ythdahdopejapmaa.tbl
open Go.Proofs.Ythdahdopejapmaa.pck (le num le_length num_le num_lt le_num num_append)

/-- What a table says of a block: plain data. -/
structure Ent where
  st : Int
  sm : Int
  ls : Bool
instance : DecidableEq Ent := fun a b => decidable_of_iff (a.st = b.st ∧ a.sm = b.sm ∧ a.ls = b.ls) ⟨fun ⟨h1, h2, h3⟩ => by cases a; cases b; simp_all, fun h => by rw [h]; exact ⟨rfl, rfl, rfl⟩⟩
def lsN (b : Bool) : Nat := if b then 1 else 0
theorem lsN_le (b : Bool) : lsN b ≤ 1 := by cases b <;> decide
theorem lsN_eq (b : Bool) : (lsN b == 1) = b := by cases b <;> rfl
def entB (e : Ent) : List UInt8 := le 4 e.st.toNat ++ (le 4 e.sm.toNat ++ le 1 (lsN e.ls))
def encT (es : List Ent) : List UInt8 := es.flatMap entB
theorem entB_length (e : Ent) : (entB e).length = 9 := by unfold entB; simp [le_length]
theorem encT_length : ∀ es : List Ent, (encT es).length = es.length * 9
  | [] => rfl
  | e :: es => by
    have h : encT (e :: es) = entB e ++ encT es := by simp [encT]
    rw [h, List.length_append, entB_length, encT_length es, List.length_cons]
    omega
theorem encT_next {es : List Ent} {k : Nat} {e : Ent} (h : es[k]? = some e) : encT (es.take (k + 1)) = encT (es.take k) ++ entB e := by
  rw [List.take_add_one, h]
  simp [encT]
def EntOk (e : Ent) : Prop := (0 ≤ e.st ∧ e.st ≤ 4294967295) ∧ 0 ≤ e.sm ∧ e.sm ≤ 4294967295
/-- A right table of zones of d blocks. -/
def Good (d : Int) (es : List Ent) : Prop := (es.length : Int) = d + 1 ∧ (∀ e ∈ es, EntOk e) ∧ ∀ e, es[d.toNat]? = some e → e.ls = false
/-- What bytes say. -/
def entN (r : List UInt8) : Ent := ⟨(num (r.take 4) : Int), (num ((r.drop 4).take 4) : Int), num ((r.drop 8).take 1) == 1⟩
def entsN (r : List UInt8) (n : Nat) : List Ent := (List.range n).map fun k => entN (r.drop (k * 9))
def lostAt (r : List UInt8) (k : Nat) : Nat := num ((r.drop (k * 9 + 8)).take 1)
theorem entsN_length (r : List UInt8) (n : Nat) : (entsN r n).length = n := by simp [entsN]
theorem entsN_next (r : List UInt8) (n : Nat) : entsN r (n + 1) = entsN r n ++ [entN (r.drop (n * 9))] := by simp [entsN, List.range_succ]
theorem entsN_get {r : List UInt8} {n k : Nat} (h : k < n) : (entsN r n)[k]? = some (entN (r.drop (k * 9))) := by simp [entsN, h]
theorem le_cut (r : List UInt8) (k n : Nat) (h : k + n ≤ r.length) : le n (num ((r.drop k).take n)) = (r.drop k).take n := by
  have hl : ((r.drop k).take n).length = n := by rw [List.length_take, List.length_drop]; omega
  have h9 := le_num ((r.drop k).take n)
  rwa [hl] at h9
theorem take_num_lt (r : List UInt8) (n : Nat) : num (r.take n) < 256 ^ n := by
  have h := num_lt (r.take n)
  have h2 : (r.take n).length ≤ n := by rw [List.length_take]; omega
  exact Nat.lt_of_lt_of_le h (Nat.pow_le_pow_right (by omega) h2)
theorem entN_ok (r : List UInt8) : EntOk (entN r) := by
  have h1 := take_num_lt r 4
  have h2 := take_num_lt (r.drop 4) 4
  refine ⟨⟨Int.natCast_nonneg _, ?_⟩, Int.natCast_nonneg _, ?_⟩
  · show ((num (r.take 4) : Nat) : Int) ≤ _
    omega
  · show ((num ((r.drop 4).take 4) : Nat) : Int) ≤ _
    omega
theorem entsN_ok (r : List UInt8) (n : Nat) : ∀ e ∈ entsN r n, EntOk e := fun e he => by
  obtain ⟨k, _, rfl⟩ := List.mem_map.1 he
  exact entN_ok _
theorem take_three (r : List UInt8) : r.take 9 = r.take 4 ++ ((r.drop 4).take 4 ++ (r.drop 8).take 1) := by
  have h1 : r.take 9 = r.take 4 ++ (r.drop 4).take 5 := by rw [← List.take_add]
  have h2 : (r.drop 4).take 5 = (r.drop 4).take 4 ++ ((r.drop 4).drop 4).take 1 := by rw [← List.take_add]
  rw [h1, h2, List.drop_drop]
theorem entB_entN {r : List UInt8} (h : 9 ≤ r.length) (hl : num ((r.drop 8).take 1) ≤ 1) : entB (entN r) = r.take 9 := by
  have e1 := le_cut r 0 4 (by omega)
  rw [List.drop_zero] at e1
  have e2 := le_cut r 4 4 (by omega)
  have e3 := le_cut r 8 1 (by omega)
  have e4 : lsN (num ((r.drop 8).take 1) == 1) = num ((r.drop 8).take 1) := by
    generalize num ((r.drop 8).take 1) = x at *
    rcases (show x = 0 ∨ x = 1 by omega) with rfl | rfl <;> rfl
  rw [take_three]
  show le 4 ((num (r.take 4) : Nat) : Int).toNat ++ (le 4 ((num ((r.drop 4).take 4) : Nat) : Int).toNat ++ le 1 (lsN (num ((r.drop 8).take 1) == 1))) = _
  rw [Int.toNat_natCast, Int.toNat_natCast, e4, e1, e2, e3]
theorem entsN_enc (r : List UInt8) : ∀ n, n * 9 ≤ r.length → (∀ k, k < n → lostAt r k ≤ 1) → encT (entsN r n) = r.take (n * 9)
  | 0, _, _ => by simp [entsN, encT]
  | n + 1, h, hl => by
    have ih := entsN_enc r n (by omega) fun k hk => hl k (by omega)
    have h9 : entB (entN (r.drop (n * 9))) = (r.drop (n * 9)).take 9 := entB_entN (by rw [List.length_drop]; omega) (by
      have := hl n (by omega)
      unfold lostAt at this
      rw [List.drop_drop]
      exact this)
    rw [entsN_next, show encT (entsN r n ++ [entN (r.drop (n * 9))]) = encT (entsN r n) ++ entB (entN (r.drop (n * 9))) by simp [encT], ih, h9, ← List.take_add]
    congr 1
    omega
theorem num_four {n : Int} (h : 0 ≤ n ∧ n ≤ 4294967295) : ((num (le 4 n.toNat) : Nat) : Int) = n := by rw [num_le _ _ (by omega)]; omega
theorem cut_left (x y z : List UInt8) (k n : Nat) (hk : x.length = k) (hn : y.length = n) : ((x ++ (y ++ z)).drop k).take n = y := by
  subst hk hn
  rw [List.drop_left, List.take_left]
theorem entN_parts (e : Ent) (r : List UInt8) : (entB e ++ r).take 4 = le 4 e.st.toNat ∧ ((entB e ++ r).drop 4).take 4 = le 4 e.sm.toNat ∧ ((entB e ++ r).drop 8).take 1 = le 1 (lsN e.ls) := by
  have h : entB e ++ r = le 4 e.st.toNat ++ (le 4 e.sm.toNat ++ (le 1 (lsN e.ls) ++ r)) := by simp [entB, List.append_assoc]
  rw [h]
  refine ⟨?_, cut_left _ _ _ 4 4 (le_length _ _) (le_length _ _), ?_⟩
  · have := cut_left [] (le 4 e.st.toNat) (le 4 e.sm.toNat ++ (le 1 (lsN e.ls) ++ r)) 0 4 rfl (le_length _ _)
    simpa using this
  · rw [← List.append_assoc]
    exact cut_left _ _ _ 8 1 (by rw [List.length_append, le_length, le_length]) (le_length _ _)
theorem entN_entB {e : Ent} (h : EntOk e) (r : List UInt8) : entN (entB e ++ r) = e := by
  obtain ⟨p1, p2, p3⟩ := entN_parts e r
  unfold entN
  rw [p1, p2, p3, num_four h.1, num_four h.2, num_le 1 _ (by have := lsN_le e.ls; omega), lsN_eq]
theorem encT_drop {es : List Ent} {k : Nat} {e : Ent} (h : es[k]? = some e) : ∃ r, (encT es).drop (k * 9) = entB e ++ r := by
  induction es generalizing k with
  | nil => simp at h
  | cons x es ih =>
    have hx : encT (x :: es) = entB x ++ encT es := by simp [encT]
    rw [hx]
    cases k with
    | zero =>
      simp only [List.getElem?_cons_zero, Option.some.injEq] at h
      subst h
      exact ⟨encT es, by simp⟩
    | succ k =>
      obtain ⟨r, hr⟩ := ih (by simpa using h)
      refine ⟨r, ?_⟩
      rw [← hr, show (k + 1) * 9 = (entB x).length + k * 9 by rw [entB_length]; omega, ← List.drop_drop, List.drop_left]
theorem entsN_of {es : List Ent} (h : ∀ e ∈ es, EntOk e) : entsN (encT es) es.length = es := by
  refine List.ext_getElem? fun k => ?_
  by_cases hk : k < es.length
  · rw [entsN_get hk, List.getElem?_eq_getElem hk]
    obtain ⟨r, hr⟩ := encT_drop (List.getElem?_eq_getElem hk)
    rw [hr, entN_entB (h _ (List.getElem_mem hk))]
  · rw [List.getElem?_eq_none (by rw [entsN_length]; omega), List.getElem?_eq_none (by omega)]
theorem lost_of {es : List Ent} {k : Nat} {e : Ent} (h : es[k]? = some e) : lostAt (encT es) k = lsN e.ls := by
  obtain ⟨r, hr⟩ := encT_drop h
  unfold lostAt
  rw [← List.drop_drop, hr, (entN_parts e r).2.2, num_le 1 _ (by have := lsN_le e.ls; omega)]
theorem encT_inj {a b : List Ent} (ha : ∀ e ∈ a, EntOk e) (hb : ∀ e ∈ b, EntOk e) (h : encT a = encT b) : a = b := by
  have hl : a.length = b.length := by
    have := congrArg List.length h
    rw [encT_length, encT_length] at this
    omega
  rw [← entsN_of ha, ← entsN_of hb, h, hl]
/-- Whose bytes they are: of the one that they say, or of none. -/
def Told (d : Int) (b : List UInt8) : Prop := (b.length : Int) = 9 * (d + 1) ∧ (∀ k : Nat, (k : Int) ≤ d → lostAt b k ≤ 1) ∧ Good d (entsN b (d.toNat + 1))
theorem told_of {d : Int} {es : List Ent} (hd : 0 ≤ d) (h : Good d es) : Told d (encT es) ∧ entsN (encT es) (d.toNat + 1) = es := by
  obtain ⟨h1, h2, h3⟩ := h
  have hl : d.toNat + 1 = es.length := by omega
  have he : entsN (encT es) (d.toNat + 1) = es := by rw [hl]; exact entsN_of h2
  refine ⟨⟨by rw [encT_length]; omega, fun k hk => ?_, by rw [he]; exact ⟨h1, h2, h3⟩⟩, he⟩
  have hk2 : k < es.length := by omega
  rw [lost_of (List.getElem?_eq_getElem hk2)]
  exact lsN_le _
theorem of_told {d : Int} {b : List UInt8} (hd : 0 ≤ d) (h : Told d b) : b = encT (entsN b (d.toNat + 1)) := by
  obtain ⟨h1, h2, -⟩ := h
  rw [entsN_enc b (d.toNat + 1) (by omega) fun k hk => h2 k (by omega), List.take_of_length_le (by omega)]
end Go.Proofs.Ythdahdopejapmaa.tbl

namespace Go.Proofs.Ythdahdopejapmaa.tbl
open Go.RowKit Go.Lib
open Go.Proofs.Ythdahdopejapmaa.gmt (five_new)
open Go.Proofs.Ythdahdopejapmaa.anc (flat_get flat_len slv_cell bl kal kst ks bm ka take_same take_other row_form row_below row_apart)

def Ent.vs (e : Ent) : List Value := [.int .i64 e.st, .int .i64 e.sm, .bool e.ls]
def evs (es : List Ent) : List Value := es.flatMap Ent.vs
theorem evs_length (es : List Ent) : (evs es).length = es.length * 3 := flat_len Ent.vs 3 (fun _ => rfl) es
theorem evs_append (a b : List Ent) : evs (a ++ b) = evs a ++ evs b := by simp [evs]
theorem evs_one (es : List Ent) : ∀ u ∈ evs es, u.oneCell' = true := by
  intro u hu
  obtain ⟨r, _, h⟩ := List.mem_flatMap.1 hu
  simp only [Ent.vs, List.mem_cons, List.not_mem_nil, or_false] at h
  rcases h with rfl | rfl | rfl <;> rfl
/-- One entry of many. -/
theorem ent_at {w : World} {B k : Nat} {A : Option Addr} {es : List Ent} (hA : SlV w B A (evs es)) (hk : k < es.length) :
    ∃ b off e, A = some ⟨b, off, none⟩ ∧ b < B ∧ w.cell? ⟨b, off + k * 3, none⟩ = some (.int .i64 e.st) ∧ w.cell? ⟨b, off + k * 3 + 1, none⟩ = some (.int .i64 e.sm) ∧ w.cell? ⟨b, off + k * 3 + 2, none⟩ = some (.bool e.ls) ∧ e ∈ es ∧ es[k]? = some e := by
  obtain ⟨b, off, rfl, -, -⟩ := hA (by rw [evs_length]; omega)
  have g := fun j (hj : j < 3) => flat_get Ent.vs 3 (fun _ => rfl) es k j hj
  rw [List.getElem?_eq_getElem hk] at g
  have c0 := slv_cell hA (i := k * 3 + 0) (v := .int .i64 es[k].st) ((g 0 (by omega)).trans rfl)
  have c1 := slv_cell hA (i := k * 3 + 1) (v := .int .i64 es[k].sm) ((g 1 (by omega)).trans rfl)
  have c2 := slv_cell hA (i := k * 3 + 2) (v := .bool es[k].ls) ((g 2 (by omega)).trans rfl)
  exact ⟨b, off, es[k], rfl, c0.2, c0.1, c1.1, c2.1, List.getElem_mem hk, List.getElem?_eq_getElem hk⟩
/-- A table as it lies. -/
structure TV where
  A : Option Addr
  c : Nat
  es : List Ent
def TV.v (t : TV) : Value := .agg #[.slice t.A t.es.length t.c]
structure TV.In (w : World) (B : Nat) (t : TV) : Prop where
  h : SlV w B t.A (evs t.es)
  l : t.es.length ≤ t.c ∧ t.c ≤ maxLen
section
variable {w w' : World} {B B' : Nat} {t : TV}
theorem TV.In.below (h : TV.In w B t) (hb : Below B w w') : TV.In w' B t := ⟨h.h.below hb, h.l⟩
theorem TV.In.more (h : TV.In w B t) (hB : B ≤ B') : TV.In w B' t := ⟨h.h.more hB, h.l⟩
theorem TV.In.next (h : TV.In w w.heap.size t) (hb : Below w.heap.size w w') : TV.In w' w'.heap.size t := (h.below hb).more hb.size
end
/-- Entries of one's own. -/
def OwnE (w : World) (base : Nat) (v : Value) (es : List Ent) : Prop := w.ownsRow base 61 3 v es.length (evs es)
theorem e_info : (Try.prog.info? 61).map (fun i => (i.zero, i.size, i.bytes)) = some (some (.agg #[.int .i64 0, .int .i64 0, .bool false]), 3, 24) := by kernel_rfl
section
variable {w w' : World} {base : Nat} {v : Value} {es : List Ent}
theorem ownE_nil (w : World) (base : Nat) : OwnE w base (.slice none 0 0) [] := World.ownsRow_nil w base _ 3
theorem OwnE.below (h : OwnE w base v es) (hb : Below w.heap.size w w') : OwnE w' base v es := row_below h hb
theorem OwnE.less {base' : Nat} (h : OwnE w base v es) (hb : base' ≤ base) : OwnE w base' v es := by
  refine ⟨h.1, ?_⟩
  rcases h.2 with k | ⟨g, cap, cur, a, b, c⟩
  · exact .inl k
  · exact .inr ⟨g, cap, cur, a, by omega, c⟩
theorem OwnE.cell_set {g o : Nat} (h : OwnE w base v es) (hg : g < base) (x : Value) : OwnE (w.setCell ⟨g, o, none⟩ x) base v es :=
  ownsRow_setCell_other h (fun k => by have := (World.ownsRow.lt h g k).1; omega) x
end
/-- A table of one's own. -/
def TV.Own (w : World) (base : Nat) (t : TV) : Prop := OwnE w base (.slice t.A t.es.length t.c) t.es
section
variable {w w' : World} {base : Nat} {t : TV}
theorem TV.Own.below (h : TV.Own w base t) (hb : Below w.heap.size w w') : TV.Own w' base t := OwnE.below h hb
theorem TV.Own.less {base' : Nat} (h : TV.Own w base t) (hb : base' ≤ base) : TV.Own w base' t := OwnE.less h hb
theorem TV.Own.inn (h : TV.Own w base t) : t.In w w.heap.size := by
  obtain ⟨A', c', hv, h1, h2, hs⟩ := row_form h
  simp only [Value.slice.injEq] at hv
  obtain ⟨ha, -, hc⟩ := hv
  exact ⟨by rw [ha]; exact hs, by omega, by omega⟩
end
theorem ownE_tv {w : World} {base : Nat} {v : Value} {es : List Ent} (h : OwnE w base v es) : ∃ t : TV, v = .slice t.A t.es.length t.c ∧ t.es = es ∧ t.Own w base := by
  obtain ⟨A, c, hv, -, -, -⟩ := row_form h
  exact ⟨⟨A, c, es⟩, hv, rfl, by rw [hv] at h; exact h⟩
def noTV : TV := ⟨none, 0, []⟩
theorem noTV_own (w : World) (base : Nat) : noTV.Own w base := ownE_nil w base
/-- One cell of a block. -/
structure C1 (W : World) (g : Nat) (a : Value) : Prop where
  c0 : W.cell? ⟨g, 0, none⟩ = some a
  f0 : W.frozen? ⟨g, 0, none⟩ = false
section
variable {W W' : World} {g : Nat} {a : Value}
theorem c1_new (w : World) (a : Value) (t : TypeId) : C1 (w.alloc (.cells #[a] t)) w.heap.size a := by
  have h := heap_alloc_new w (.cells #[a] t)
  constructor <;> first | (rw [cell_of_row _ _ _ _ _ _ h]; rfl) | exact World.frozen?_alloc_new _ _ _ _
theorem C1.keep {B : Nat} (h : C1 W g a) (hb : Below B W W') (hg : g < B) : C1 W' g a := ⟨(hb.cell (p := ⟨g, 0, none⟩) hg).trans h.c0, (hb.frozen (p := ⟨g, 0, none⟩) hg).trans h.f0⟩
theorem C1.set (h : C1 W g a) (v : Value) : C1 (W.setCell ⟨g, 0, none⟩ v) g v := ⟨World.cell?_setCell_same _ _ _ h.c0, by rw [World.frozen?_setCell]; exact h.f0⟩
theorem C1.apart (h : C1 W g a) {g' o : Nat} (hne : g ≠ g') (v : Value) : C1 (W.setCell ⟨g', o, none⟩ v) g a :=
  ⟨by rw [World.cell?_setCell_other _ _ _ _ (fun k => hne (congrArg Addr.block k).symm)]; exact h.c0, by rw [World.frozen?_setCell]; exact h.f0⟩
end
/-- A geometry's five cells. -/
structure G5 (W : World) (g : Nat) (z d s l a : Int) : Prop where
  g0 : W.cell? ⟨g, 0, none⟩ = some (.int .i64 z)
  g1 : W.cell? ⟨g, 1, none⟩ = some (.int .i64 d)
  g2 : W.cell? ⟨g, 2, none⟩ = some (.int .i64 s)
  g3 : W.cell? ⟨g, 3, none⟩ = some (.int .i64 l)
  g4 : W.cell? ⟨g, 4, none⟩ = some (.int .i64 a)
theorem G5.keep {W W' : World} {g B : Nat} {z d s l a : Int} (h : G5 W g z d s l a) (hb : Below B W W') (hg : g < B) : G5 W' g z d s l a :=
  ⟨ks hb hg h.g0, ks hb hg h.g1, ks hb hg h.g2, ks hb hg h.g3, ks hb hg h.g4⟩
theorem g5_new (w : World) (z d s l a : Int) : G5 (w.alloc (.cells #[.int .i64 z, .int .i64 d, .int .i64 s, .int .i64 l, .int .i64 a] 23)) w.heap.size z d s l a := by
  obtain ⟨g0, g1, g2, g3, g4⟩ := five_new w z d s l a
  exact ⟨g0, g1, g2, g3, g4⟩
theorem G5.set {W : World} {g g' o : Nat} {z d s l a : Int} (h : G5 W g z d s l a) (hne : g ≠ g') (v : Value) : G5 (W.setCell ⟨g', o, none⟩ v) g z d s l a := by
  have hn : ∀ i, (⟨g', o, none⟩ : Addr) ≠ ⟨g, i, none⟩ := fun i h => hne (congrArg Addr.block h).symm
  constructor <;> rw [World.cell?_setCell_other _ _ _ _ (hn _)]
  · exact h.g0
  · exact h.g1
  · exact h.g2
  · exact h.g3
  · exact h.g4
end Go.Proofs.Ythdahdopejapmaa.tbl

namespace Go.Proofs.Ythdahdopejapmaa.tbl
open Go.RowKit Go.Lib
open Go.Proofs.Ythdahdopejapmaa.anc (flat_get flat_len slv_cell bl kal kst ks bm ka take_same take_other row_form row_below wpList_row)

theorem src_ents {P : Program} {w : World} {B n c : Nat} {tx e' : TypeId} {A : Option Addr} {es : List Ent} (hk : P.underlying tx = some (.slice e')) (hA : SlV w B A (evs es)) (hn : es.length = n) : Src P 3 tx (.slice A n c) n (evs es) w := by
  subst hn
  cases A with
  | none =>
    have h0 : es = [] := by
      rcases es with _ | ⟨e, es⟩
      · rfl
      · obtain ⟨b, off, h, -, -⟩ := hA (by rw [evs_length, List.length_cons]; omega)
        cases h
    subst h0
    exact Src.ofNil w hk c
  | some a =>
    refine Src.ofSlice w hk a _ c _ (evs_length es) (fun j u hu => ?_) (evs_one es)
    obtain ⟨hj, -⟩ := List.getElem?_eq_some_iff.1 hu
    obtain ⟨b, off, he, -, -⟩ := id (hA (by omega))
    simp only [Option.some.injEq] at he
    subst he
    have := (slv_cell hA hu).1
    rwa [Addr.add_lit]
theorem two_new (w : World) (a b : Value) (t : TypeId) : C1 ((w.alloc (.cells #[a] t)).alloc (.cells #[b] t)) w.heap.size a ∧ C1 ((w.alloc (.cells #[a] t)).alloc (.cells #[b] t)) (w.heap.size + 1) b := by
  have h1 := (c1_new w a t).keep (bl (w.alloc (.cells #[a] t)) (.cells #[b] t)) (by simp)
  have h2 := c1_new (w.alloc (.cells #[a] t)) b t
  rw [show (w.alloc (.cells #[a] t)).heap.size = w.heap.size + 1 by simp] at h2
  exact ⟨h1, h2⟩
set_option maxRecDepth 100000 in
set_option maxHeartbeats 4000000 in
theorem table_long (x y : TV) (w : World) (h : x.es.length ≠ y.es.length) :
    Calls Try.prog 13 #[x.v, y.v] w fun e w' => e = .returned (.bool false) ∧ Below w.heap.size w w' := by
  have h2 : ((x.es.length : Int) != (y.es.length : Int)) = true := bne_iff_ne.2 (by omega)
  obtain ⟨T1, T2⟩ := two_new w (.slice x.A x.es.length x.c) (.slice y.A y.es.length y.c) 26
  have hb := kal (bl w (.cells #[.slice x.A x.es.length x.c] 26)) (.cells #[.slice y.A y.es.length y.c] 26)
  unfold TV.v
  go_enter Try.func13, Try.ntmps13
  go_upto_region 1 with fail
  generalize (w.alloc (.cells #[.slice x.A x.es.length x.c] 26)).alloc (.cells #[.slice y.A y.es.length y.c] 26) = w0 at *
  have a0 := T1.c0
  have b0 := T2.c0
  go_wp2_with fail
  go_ret
  exact ⟨rfl, hb⟩
set_option maxRecDepth 100000 in
set_option maxHeartbeats 4000000 in
theorem table_short (x y : TV) (n : Nat) (w : World) (hx : x.In w w.heap.size) (hy : y.In w w.heap.size) (h1 : x.es.length = n) (h2 : y.es.length = n) (hn : n ≤ 1048576) :
    Calls Try.prog 13 #[x.v, y.v] w fun e w' => e = .returned (.bool (decide (x.es = y.es))) ∧ Below w.heap.size w w' := by
  obtain ⟨T1, T2⟩ := two_new w (.slice x.A n x.c) (.slice y.A n y.c) 26
  have hb := kal (bl w (.cells #[.slice x.A n x.c] 26)) (.cells #[.slice y.A n y.c] 26)
  have l2 : ((w.alloc (.cells #[.slice x.A n x.c] 26)).alloc (.cells #[.slice y.A n y.c] 26)).heap.size = w.heap.size + 2 := by simp
  unfold TV.v
  rw [h1, h2]
  have i0 : ((n : Int) != (n : Int)) = false := bne_self_eq_false _
  go_enter Try.func13, Try.ntmps13
  go_upto_region 1 with fail
  generalize (w.alloc (.cells #[.slice x.A n x.c] 26)).alloc (.cells #[.slice y.A n y.c] 26) = w0 at *
  have a0 := T1.c0
  have b0 := T2.c0
  go_wp2_with fail
  go_loopw [5] (fun i w' => ∃ k : Nat, k ≤ n ∧ i = .int .i64 k ∧ x.es.take k = y.es.take k ∧ Below w0.heap.size w0 w') (fun i _ => n - (RowKit.intOf i).toNat)
  case atStart => exact ⟨0, by omega, rfl, rfl, Below.refl _ _⟩
  case round =>
    obtain ⟨w5, rfl⟩ : ∃ x, x = wr := ⟨wr, rfl⟩
    obtain ⟨k, hk, rfl, hs, hbr⟩ := hrel
    have hb5 := bt hb hbr
    have a5 := kst hbr (by omega) a0
    have b5 := kst hbr (by omega) b0
    clear a0 b0 T1 T2
    by_cases hlt : k < n
    · have hX := (hx.below hb5).h
      have hY := (hy.below hb5).h
      obtain ⟨b1, off, e, hA1, hb1, c0, c1, c2, -, e1⟩ := ent_at hX (show k < x.es.length by omega)
      obtain ⟨b2, off', e', hA2, hb2, d0, d1, d2, -, e2⟩ := ent_at hY (show k < y.es.length by omega)
      rw [hA1] at a5
      rw [hA2] at b5
      have i1 : (k : Int) < (n : Int) := by omega
      have lw := hb5.size
      by_cases he : e = e'
      · have H1 := Lib.hid (take_same hs e1 e2 he)
        subst he
        clear hs e1 e2 hX hY hA1 hA2
        go_wp2_with fail
        go_quiet (fail)
        generalize hw6 : w5.drewN nq = w6 at *
        have hb6 := hw6 ▸ below_dn hb5 nq
        have hbr6 := hw6 ▸ below_dn hbr nq
        clear hw6
        go_wp2_with fail
        go_roundw
        case rel => exact ⟨k + 1, by omega, by go_num, H1.out, hbr6⟩
        case measure => simp [RowKit.intOf]; omega
      · have H2 := Lib.hid (take_other e1 e2 he)
        clear hs e1 e2 hX hY hA1 hA2
        have hd : Hid (decide (x.es = y.es) = false) := Lib.hid (decide_eq_false H2.out)
        by_cases k1 : e.st = e'.st
        · by_cases k2 : e.sm = e'.sm
          · have k3 : (e.ls == e'.ls) = false := beq_eq_false_iff_ne.2 fun k3 => he (by cases e; cases e'; simp_all)
            have j1 : (e.st == e'.st) = true := beq_iff_eq.2 k1
            have j2 : (e.sm == e'.sm) = true := beq_iff_eq.2 k2
            clear k1 k2 he
            go_wp2_with fail
            go_quiet (fail)
            go_wp2_with fail
            go_ret
            exact ⟨ret_bool hd.out.symm, below_dn hb5 _⟩
          · have j1 : (e.st == e'.st) = true := beq_iff_eq.2 k1
            have j2 : (e.sm == e'.sm) = false := beq_eq_false_iff_ne.2 k2
            clear k1 k2 he
            go_wp2_with fail
            go_quiet (fail)
            go_wp2_with fail
            go_ret
            exact ⟨ret_bool hd.out.symm, below_dn hb5 _⟩
        · have j1 : (e.st == e'.st) = false := beq_eq_false_iff_ne.2 k1
          clear k1 he
          go_wp2_with fail
          go_quiet (fail)
          go_wp2_with fail
          go_ret
          exact ⟨ret_bool hd.out.symm, below_dn hb5 _⟩
    · have H : Hid (decide (x.es = y.es) = true) := by
        show decide (x.es = y.es) = true
        rw [List.take_of_length_le (by omega), List.take_of_length_le (by omega)] at hs
        exact decide_eq_true hs
      have i1 : ¬ (k : Int) < (n : Int) := by omega
      go_wp2_with fail
      go_ret
      exact ⟨ret_bool H.out.symm, hb5⟩
theorem tab_same (x y : TV) (w : World) (hx : x.In w w.heap.size) (hy : y.In w w.heap.size) (hn : x.es.length ≤ 1048576) :
    Calls Try.prog 13 #[x.v, y.v] w fun e w' => e = .returned (.bool (decide (x.es = y.es))) ∧ Below w.heap.size w w' := by
  by_cases h : x.es.length = y.es.length
  · exact table_short x y _ w hx hy rfl h.symm hn
  · rw [decide_eq_false fun k => h (congrArg List.length k)]
    exact table_long x y w h
/-- What is told of a table: one of one's own. -/
def TbQ (base : Nat) (es : List Ent) (e : Ending) (w' : World) : Prop := ∃ t : TV, e = .returned t.v ∧ t.es = es ∧ t.Own w' base
set_option maxRecDepth 100000 in
set_option maxHeartbeats 4000000 in
theorem twin_table (x : TV) (n : Nat) (w : World) (hx : x.In w w.heap.size) (h1 : x.es.length = n) (hn : n ≤ 1048576) :
    Calls Try.prog 9 #[x.v] w fun e w' => TbQ w.heap.size x.es e w' ∧ Below w.heap.size w w' := by
  obtain ⟨T1, T2⟩ := two_new w (.slice x.A n x.c) (.slice none 0 0) 26
  have hb := kal (bl w (.cells #[.slice x.A n x.c] 26)) (.cells #[.slice none 0 0] 26)
  have l2 : ((w.alloc (.cells #[.slice x.A n x.c] 26)).alloc (.cells #[.slice none 0 0] 26)).heap.size = w.heap.size + 2 := by simp
  unfold TV.v
  rw [h1]
  have hX := (hx.h.below hb).more hb.size
  have HL := Lib.hid h1
  clear h1
  go_enter Try.func9, Try.ntmps9
  go_upto_region 1 with fail
  generalize (w.alloc (.cells #[.slice x.A n x.c] 26)).alloc (.cells #[.slice none 0 0] 26) = w0 at *
  have a0 := T1.c0
  have z0 := T2.c0
  have f0 := T2.f0
  go_wp2_with (first
    | (at_builtin
       refine wpList_row _ rfl (.tmp 4) (.tmp 6) _ _ rfl w0.heap.size 3 24 61 (.agg #[.int .i64 0, .int .i64 0, .bool false]) Try.underlying24 e_info rfl (.slice none 0 0) 0 [] rfl (World.ownsRow_nil w0 _ _ 3) _ n _ rfl (src_ents (P := Try.prog) Try.underlying24 hX HL.out) (by unfold maxLen; omega) (by omega) (Nat.le_refl _) ?_
       intro v3 w3 h3 hg3
       rw [Nat.zero_add, List.nil_append] at h3
       have b3 : Below w0.heap.size w0 w3 := (Below.refl _ _).grown hg3 (Nat.le_refl _) (fun x hx => by cases hx)
       obtain ⟨A3, d3, hv3, -, -, -⟩ := row_form h3
       subst hv3
       replace z0 := kst b3 (by omega) z0
       replace f0 := (T2.keep b3 (by omega)).f0))
  have k0 : C1 (w3.setCell ⟨w.heap.size + 1, 0, none⟩ (.slice A3 n d3)) (w.heap.size + 1) (.slice A3 n d3) := C1.set ⟨z0, f0⟩ _
  have h4 : OwnE w3 w0.heap.size (.slice A3 n d3) x.es := by
    unfold OwnE
    rw [HL.out]
    exact h3
  have h5 : OwnE (w3.setCell ⟨w.heap.size + 1, 0, none⟩ (.slice A3 n d3)) w.heap.size (.slice A3 n d3) x.es := (h4.cell_set (by omega) _).less (by omega)
  exact bodyPost_ret (v := .agg #[.slice A3 n d3]) (by simp [results, Try.results9, go_sem, k0.c0]) rfl ⟨⟨⟨A3, d3, x.es⟩, by unfold TV.v; rw [HL.out], rfl, by unfold TV.Own; rw [HL.out]; exact h5⟩, (bt hb b3).setCell (p := ⟨w.heap.size + 1, 0, none⟩) (Nat.le_succ _) _⟩
end Go.Proofs.Ythdahdopejapmaa.tbl

namespace Go.Proofs.Ythdahdopejapmaa.tbl
open Go.RowKit Go.Lib
open Go.Proofs.Ythdahdopejapmaa.gmt (Ok five_new)
open Go.Proofs.Ythdahdopejapmaa.crc (ref_sum)
open Go.Proofs.Ythdahdopejapmaa.anc (flat_get flat_len slv_cell bl kal kst ks bm ka take_same take_other row_form row_below wpList_row src_home step_row)

set_option maxRecDepth 100000 in
theorem r8in_at (x : Bool) (n lo hi : Int) (w : World) (hx : x = true ↔ lo ≤ n ∧ n ≤ hi) :
    Calls Try.prog 39 #[.int .i64 n, .int .i64 lo, .int .i64 hi] w fun e w' => e = .returned (.bool x) ∧ w = w' := by
  by_cases h1 : lo ≤ n
  · by_cases h2 : n ≤ hi
    · obtain rfl : x = true := hx.2 ⟨h1, h2⟩
      clear hx
      go_enter Try.func39, Try.ntmps39
      go_wp2
      go_ret
      exact ⟨rfl, rfl⟩
    · obtain rfl : x = false := by
        cases x with
        | false => rfl
        | true => exact absurd (hx.1 rfl).2 h2
      clear hx
      go_enter Try.func39, Try.ntmps39
      go_wp2
      go_ret
      exact ⟨rfl, rfl⟩
  · obtain rfl : x = false := by
      cases x with
      | false => rfl
      | true => exact absurd (hx.1 rfl).1 h1
    clear hx
    go_enter Try.func39, Try.ntmps39
    go_wp2
    go_ret
    exact ⟨rfl, rfl⟩
set_option maxRecDepth 100000 in
set_option maxHeartbeats 4000000 in
theorem rtable_any (c : Bool) (z d s l a : Int) (x : TV) (w : World) (ho : Ok z d s l a) (hx : x.In w w.heap.size) (hn : x.es.length ≤ 1048576) (hc : c = true ↔ Good d x.es) :
    Calls Try.prog 16 #[.agg #[.int .i64 z, .int .i64 d, .int .i64 s, .int .i64 l, .int .i64 a], x.v] w fun e w' => e = .returned (.bool c) ∧ Below w.heap.size w w' := by
  obtain ⟨n, hxn⟩ : ∃ n, x.es.length = n := ⟨_, rfl⟩
  have o2 := ho.2.1
  obtain ⟨D, rfl⟩ : ∃ D : Nat, d = D := ⟨d.toNat, by omega⟩
  have GG := (g5_new w z D s l a).keep (bl (w.alloc (.cells #[.int .i64 z, .int .i64 D, .int .i64 s, .int .i64 l, .int .i64 a] 23)) (.cells #[.slice x.A n x.c] 26)) (by simp)
  have T1 := c1_new (w.alloc (.cells #[.int .i64 z, .int .i64 D, .int .i64 s, .int .i64 l, .int .i64 a] 23)) (.slice x.A n x.c) 26
  rw [show (w.alloc (.cells #[.int .i64 z, .int .i64 D, .int .i64 s, .int .i64 l, .int .i64 a] 23)).heap.size = w.heap.size + 1 by simp] at T1
  have hb := kal (bl w (.cells #[.int .i64 z, .int .i64 D, .int .i64 s, .int .i64 l, .int .i64 a] 23)) (.cells #[.slice x.A n x.c] 26)
  have l2 : ((w.alloc (.cells #[.int .i64 z, .int .i64 D, .int .i64 s, .int .i64 l, .int .i64 a] 23)).alloc (.cells #[.slice x.A n x.c] 26)).heap.size = w.heap.size + 2 := by simp
  unfold TV.v
  rw [hxn] at hn ⊢
  have HC := Lib.hid hc
  have HXN := Lib.hid hxn
  clear hc hxn
  go_enter Try.func16, Try.ntmps16
  go_upto_region 1 with fail
  generalize (w.alloc (.cells #[.int .i64 z, .int .i64 D, .int .i64 s, .int .i64 l, .int .i64 a] 23)).alloc (.cells #[.slice x.A n x.c] 26) = w0 at *
  obtain ⟨-, g1, -, -, -⟩ := id GG
  have t0 := T1.c0
  by_cases hln : n = D + 1
  case neg =>
    have hcf : c = false := by
      cases c with
      | false => rfl
      | true => exact absurd (HC.out.1 rfl).1 (by rw [HXN.out]; omega)
    subst hcf
    have i1 : ((n : Int) != (D : Int) + 1) = true := bne_iff_ne.2 (by omega)
    clear hln HC
    go_wp2_with fail
    go_ret
    exact ⟨rfl, hb⟩
  have i1 : ((n : Int) != (D : Int) + 1) = false := by rw [hln]; simp
  have hX0 := (hx.below hb).h
  obtain ⟨b1, off, e, hA1, hb1, c0, c1, c2, -, e1⟩ := ent_at hX0 (show D < x.es.length by rw [HXN.out]; omega)
  rw [hA1] at t0
  have HA1 := Lib.hid hA1
  have i2 : (D : Int) < (n : Int) := by omega
  by_cases hls : e.ls = true
  case pos =>
    have hcf : c = false := by
      cases c with
      | false => rfl
      | true =>
        have := (HC.out.1 rfl).2.2 e (by rw [Int.toNat_natCast]; exact e1)
        rw [hls] at this
        cases this
    subst hcf
    rw [hls] at c2
    clear hln hls HC hX0 e1 hA1
    go_wp2_with fail
    go_ret
    exact ⟨rfl, hb⟩
  have hls0 : e.ls = false := by
    cases h : e.ls with
    | false => rfl
    | true => exact absurd h hls
  have HLAST := Lib.hid (show ∀ u, x.es[(D : Int).toNat]? = some u → u.ls = false from fun u hu => by
    rw [Int.toNat_natCast, e1] at hu
    rw [← Option.some.inj hu]
    exact hls0)
  rw [hls0] at c2
  have HLN := Lib.hid hln
  clear hls hls0 e1 hln hA1
  go_wp2_with fail
  clear c0 c1 c2
  go_loopw [5] (fun i w' => ∃ k : Nat, k ≤ n ∧ i = .int .i64 k ∧ (∀ j, j < k → ∀ u, x.es[j]? = some u → EntOk u) ∧ Below w0.heap.size w0 w') (fun i _ => n - (RowKit.intOf i).toNat)
  case atStart => exact ⟨0, by omega, rfl, fun j hj => absurd hj (by omega), Below.refl _ _⟩
  case round =>
    obtain ⟨w5, rfl⟩ : ∃ x, x = wr := ⟨wr, rfl⟩
    obtain ⟨k, hk, rfl, hs, hbr⟩ := hrel
    have hb5 := bt hb hbr
    have t5 := kst hbr (by omega) t0
    have lw := hb5.size
    by_cases hlt : k < n
    · obtain ⟨b2, off2, u, hA2, hb2, c0, c1, c2, -, e2⟩ := ent_at (hx.below hb5).h (show k < x.es.length by rw [HXN.out]; omega)
      rw [HA1.out] at hA2
      simp only [Option.some.injEq, Addr.mk.injEq, and_true] at hA2
      obtain ⟨rfl, rfl⟩ := hA2
      have i3 : (k : Int) < (n : Int) := by omega
      have H1 := Lib.hid (show EntOk u → ∀ j, j < k + 1 → ∀ v, x.es[j]? = some v → EntOk v from fun hu j hj v hv => by
        rcases Nat.lt_or_ge j k with h | h
        · exact hs j h v hv
        · obtain rfl : j = k := by omega
          rw [e2] at hv
          rw [← Option.some.inj hv]
          exact hu)
      have H2 := Lib.hid (show ¬ EntOk u → c = false from fun hu => by
        cases c with
        | false => rfl
        | true => exact absurd ((HC.out.1 rfl).2.1 u (List.mem_of_getElem? e2)) hu)
      have c1st := fun W => r8in_at (decide (0 ≤ u.st ∧ u.st ≤ 4294967295)) u.st 0 4294967295 W (by simp)
      have c2sm := fun W => r8in_at (decide (0 ≤ u.sm ∧ u.sm ≤ 4294967295)) u.sm 0 4294967295 W (by simp)
      clear hs e2 hX0
      by_cases k1 : 0 ≤ u.st ∧ u.st ≤ 4294967295
      · by_cases k2 : 0 ≤ u.sm ∧ u.sm ≤ 4294967295
        · have H3 := Lib.hid (H1.out ⟨k1, k2⟩)
          simp only [decide_eq_true k1] at c1st
          simp only [decide_eq_true k2] at c2sm
          clear k1 k2 H1 H2
          go_wp2_with (first
            | (go_at_call 39; (with_reducible refine (c1st _).mono ?_); rintro e' wq ⟨rfl, rfl⟩)
            | (go_at_call 39; (with_reducible refine (c2sm _).mono ?_); rintro e' wq ⟨rfl, rfl⟩))
          go_roundw
          case rel => exact ⟨k + 1, by omega, by go_num, H3.out, hbr⟩
          case measure => simp [RowKit.intOf]; omega
        · obtain rfl := H2.out fun h => k2 h.2
          simp only [decide_eq_true k1] at c1st
          simp only [decide_eq_false k2] at c2sm
          clear k1 k2 H1 H2
          go_wp2_with (first
            | (go_at_call 39; (with_reducible refine (c1st _).mono ?_); rintro e' wq ⟨rfl, rfl⟩)
            | (go_at_call 39; (with_reducible refine (c2sm _).mono ?_); rintro e' wq ⟨rfl, rfl⟩))
          go_ret
          exact ⟨rfl, hb5⟩
      · obtain rfl := H2.out fun h => k1 h.1
        simp only [decide_eq_false k1] at c1st
        clear k1 H1 H2 c2sm
        go_wp2_with (first
          | (go_at_call 39; (with_reducible refine (c1st _).mono ?_); rintro e' wq ⟨rfl, rfl⟩))
        go_ret
        exact ⟨rfl, hb5⟩
    · have hct : c = true := HC.out.2 ⟨by rw [HXN.out]; have := HLN.out; omega, fun u hu => by
        obtain ⟨j, hj, rfl⟩ := List.mem_iff_getElem.1 hu
        exact hs j (by rw [HXN.out] at hj; omega) _ (List.getElem?_eq_getElem hj), HLAST.out⟩
      have i3 : ¬ (k : Int) < (n : Int) := by omega
      subst hct
      clear hs HC
      go_wp2_with fail
      go_ret
      exact ⟨rfl, hb5⟩
/-- A new entry. -/
def Ent.v (e : Ent) : Value := .agg #[.int .i64 e.st, .int .i64 e.sm, .bool e.ls]
set_option maxRecDepth 100000 in
set_option maxHeartbeats 4000000 in
theorem rentry_any (st : Int) (A : Option Addr) (n c : Nat) (b : List UInt8) (w : World) (hn : b.length = n) (hm : n ≤ maxLen) (hA : Sl w w.heap.size A b) :
    Calls Try.prog 43 #[.int .i64 st, .slice A n c] w fun e w' => e = .returned (.agg #[.int .i64 st, .int .i64 (crc.sum b : Nat), .bool false]) ∧ Below w.heap.size w w' := by
  subst hn
  have P := anc.tri_new w (.int .i64 0) (.int .i64 0) (.bool false) 61
  have hb := bl w (.cells #[.int .i64 0, .int .i64 0, .bool false] 61)
  have lx : w.heap.size < (w.alloc (.cells #[.int .i64 0, .int .i64 0, .bool false] 61)).heap.size := by simp
  have cS := fun W (hW : Below w.heap.size w W) => ref_sum A c w.heap.size b W (hA.below hW) hm
  go_enter Try.func43, Try.ntmps43
  go_upto_region 1 with fail
  generalize w.alloc (.cells #[.int .i64 0, .int .i64 0, .bool false] 61) = w0 at *
  obtain ⟨z0, z1, z2, f0, f1, f2⟩ := id P
  go_wp2_with (go_at_call 28; (with_reducible refine (cS _ hb).mono ?_); rintro e w1 ⟨rfl, rfl⟩)
  have k3 := ((P.set0 (.int .i64 st)).set1 (.int .i64 (crc.sum b : Nat))).set2 (.bool false)
  exact bodyPost_ret (v := .agg #[.int .i64 st, .int .i64 (crc.sum b : Nat), .bool false]) (by simp [results, Try.results43, go_sem, k3.c0, k3.c1, k3.c2]) rfl ⟨rfl, ((hb.setCell (p := ⟨w.heap.size, 0, none⟩) (Nat.le_refl _) _).setCell (p := ⟨w.heap.size, 1, none⟩) (Nat.le_refl _) _).setCell (p := ⟨w.heap.size, 2, none⟩) (Nat.le_refl _) _⟩
end Go.Proofs.Ythdahdopejapmaa.tbl

namespace Go.Proofs.Ythdahdopejapmaa.tbl
open Go.RowKit Go.Lib
open Go.Proofs.Ythdahdopejapmaa.gmt (Ok five_new)
open Go.Proofs.Ythdahdopejapmaa.pck (le num le_length ref_put)
open Go.Proofs.Ythdahdopejapmaa.anc (flat_get flat_len slv_cell bl kal kst ks bm ka take_same take_other row_form row_below)

/-- Bytes of one's own, q of them. -/
def BytQ (base q : Nat) (l : List UInt8) (e : Ending) (w' : World) : Prop := ∃ (X : Option Addr) (c : Nat), e = .returned (.slice X q c) ∧ l.length = q ∧ Own w' base 5 (.slice X q c) l
theorem own_sl {W : World} {base q x : Nat} {e : TypeId} {X : Option Addr} {l : List UInt8} (h : Own W base e (.slice X q x) l) : Sl W W.heap.size X l := by
  obtain ⟨A, c, hv, -, -, hs, -⟩ := h.form
  simp only [Value.slice.injEq] at hv
  rw [hv.1]
  exact hs
set_option maxRecDepth 100000 in
set_option maxHeartbeats 4000000 in
theorem rput_q (k : Nat) (m : Int) (n q : Nat) (A : Option Addr) (c : Nat) (l : List UInt8) (w : World) (hk : k ≤ 8) (h0 : 0 ≤ m) (hm : m ≤ 4294967295) (hln : l.length = n) (hl : n ≤ 1048576) (hq : n + k = q) (hA : Sl w w.heap.size A l) :
    Calls Try.prog 58 #[.slice A n c, .int .i64 m, .int .i64 k] w fun e w' => BytQ w.heap.size q (l ++ le k m.toNat) e w' ∧ Below w.heap.size w w' := by
  have h9 := ref_put k m.toNat n A c l w hk (by omega) hln hl hA
  rw [Int.toNat_of_nonneg h0] at h9
  refine h9.mono ?_
  rintro e w' ⟨⟨v, rfl, ho⟩, hb⟩
  obtain ⟨X, c2, hv, -, -, -, -⟩ := id ho.form
  have hl2 : (l ++ le k m.toNat).length = q := by rw [List.length_append, le_length]; omega
  rw [hl2] at hv
  subst hv
  exact ⟨⟨X, c2, rfl, hl2, ho⟩, hb⟩
set_option maxRecDepth 100000 in
set_option maxHeartbeats 4000000 in
theorem rbytes_tab (x : TV) (n q : Nat) (w : World) (hx : x.In w w.heap.size) (h1 : x.es.length = n) (hn : n ≤ 20) (hok : ∀ e ∈ x.es, EntOk e) (hq : n * 9 = q) :
    Calls Try.prog 41 #[x.v] w fun e w' => BytQ w.heap.size q (encT x.es) e w' ∧ Below w.heap.size w w' := by
  have T1 := c1_new w (.slice x.A n x.c) 26
  have hb := bl w (.cells #[.slice x.A n x.c] 26)
  have l1 : (w.alloc (.cells #[.slice x.A n x.c] 26)).heap.size = w.heap.size + 1 := by simp
  unfold TV.v
  rw [h1]
  have HL := Lib.hid h1
  have HX := Lib.hid hx
  have HOK := Lib.hid hok
  have HQ := Lib.hid hq
  clear h1 hx hok hq
  go_enter Try.func41, Try.ntmps41
  go_upto_region 1 with fail
  generalize w.alloc (.cells #[.slice x.A n x.c] 26) = w0 at *
  have lz : w.heap.size + 1 ≤ w0.heap.size := by omega
  clear l1
  go_wp2_with fail
  go_loopw [3, 4] (fun vb i w' => ∃ (k : Nat), k ≤ n ∧ i = .int .i64 k ∧ Own w' (w.heap.size + 1) 5 vb (encT (x.es.take k)) ∧ Below (w.heap.size + 1) w0 w') (fun _ i _ => n - (RowKit.intOf i).toNat)
  case atStart => exact ⟨0, Nat.zero_le _, rfl, own_nil _ _ _, Below.refl _ _⟩
  case round =>
    obtain ⟨w5, rfl⟩ : ∃ x, x = wr := ⟨wr, rfl⟩
    obtain ⟨k, hk, rfl, hown, hbr⟩ := hrel
    have hb5 := hb.trans (hbr.mono (by omega))
    have l5 := hbr.size
    have t0 := (T1.keep hbr (by omega)).c0
    by_cases hlt : k < n
    · obtain ⟨b1, off, u, hA1, hb1, c0, c1, c2, hu, e1⟩ := ent_at (HX.out.below hb5).h (show k < x.es.length by rw [HL.out]; omega)
      have HU := Lib.hid (HOK.out u hu)
      have HE := Lib.hid (encT_next e1)
      have hlk : (encT (x.es.take k)).length = k * 9 := by rw [encT_length, List.length_take, HL.out]; omega
      have HLK := Lib.hid hlk
      rw [hA1] at t0
      obtain ⟨X, cx, hvx, hx1, hx2, hxs, -⟩ := id hown.form
      rw [hlk] at hvx
      subst hvx
      have i1 : (k : Int) < (n : Int) := by omega
      have P := anc.tri_new w5 (.int .i64 u.st) (.int .i64 u.sm) (.bool u.ls) 61
      have b6 := bl w5 (.cells #[.int .i64 u.st, .int .i64 u.sm, .bool u.ls] 61)
      have hxs6 := (hxs.below b6).more b6.size
      have ge0 : w5.heap.size < (w5.alloc (.cells #[.int .i64 u.st, .int .i64 u.sm, .bool u.ls] 61)).heap.size := by simp
      have HP1 := Lib.hid (show ∀ W, Below w5.heap.size w5 W → Calls Try.prog 58 #[.slice X (k * 9 : Nat) cx, .int .i64 u.st, .int .i64 4] W fun e w' => BytQ W.heap.size (k * 9 + 4) (encT (x.es.take k) ++ le 4 u.st.toNat) e w' ∧ Below W.heap.size W w' from fun W hW => rput_q 4 u.st (k * 9) _ X cx _ W (by omega) HU.out.1.1 HU.out.1.2 HLK.out (by omega) rfl ((hxs.below hW).more hW.size))
      have HP2 := Lib.hid (show ∀ (W : World) (Y : Option Addr) (y : Nat), Sl W W.heap.size Y (encT (x.es.take k) ++ le 4 u.st.toNat) → Calls Try.prog 58 #[.slice Y (k * 9 + 4 : Nat) y, .int .i64 u.sm, .int .i64 4] W fun e w' => BytQ W.heap.size (k * 9 + 8) ((encT (x.es.take k) ++ le 4 u.st.toNat) ++ le 4 u.sm.toNat) e w' ∧ Below W.heap.size W w' from fun W Y y h => rput_q 4 u.sm (k * 9 + 4) _ Y y _ W (by omega) HU.out.2.1 HU.out.2.2 (by rw [List.length_append, le_length, HLK.out]) (by omega) rfl h)
      have HP3 := Lib.hid (show ∀ (j : Int) (W : World) (Y : Option Addr) (y : Nat), j = (lsN u.ls : Nat) → Sl W W.heap.size Y ((encT (x.es.take k) ++ le 4 u.st.toNat) ++ le 4 u.sm.toNat) → Calls Try.prog 58 #[.slice Y (k * 9 + 8 : Nat) y, .int .i64 j, .int .i64 1] W fun e w' => BytQ W.heap.size ((k + 1) * 9) (encT (x.es.take (k + 1))) e w' ∧ Below W.heap.size W w' from fun j W Y y hj h => by
        have hj1 := lsN_le u.ls
        have h9 := rput_q 1 j (k * 9 + 8) ((k + 1) * 9) Y y _ W (by omega) (by omega) (by omega) (by rw [List.length_append, List.length_append, le_length, le_length, HLK.out]) (by omega) (by omega) h
        have hjn : j.toNat = lsN u.ls := by omega
        rw [hjn] at h9
        rw [HE.out]
        have hee : encT (x.es.take k) ++ entB u = ((encT (x.es.take k) ++ le 4 u.st.toNat) ++ le 4 u.sm.toNat) ++ le 1 (lsN u.ls) := by unfold entB; simp only [List.append_assoc]
        rw [hee]
        exact h9)
      clear hown hxs hxs6 hu e1 hA1 hlk hx1 hx2
      go_upto_region 6 with fail
      obtain ⟨ge, hge⟩ : ∃ g, g = w5.heap.size := ⟨_, rfl⟩
      rw [← hge] at P ge0 ⊢
      generalize hw6 : w5.alloc (.cells #[.int .i64 u.st, .int .i64 u.sm, .bool u.ls] 61) = w6 at *
      have lge : w5.heap.size ≤ ge := by omega
      clear hw6 hge c0 c1 c2
      obtain ⟨q0, q1, q2, -, -, -⟩ := id P
      have HF := Lib.hid (show ∀ W, Below w6.heap.size w6 W → W.cell? ⟨ge, 0, none⟩ = some (.int .i64 u.st) ∧ W.cell? ⟨ge, 1, none⟩ = some (.int .i64 u.sm) ∧ Below w6.heap.size w6 W from fun W h => ⟨kst h ge0 q0, kst h ge0 q1, h⟩)
      go_region_held3 (fun W => W.cell? ⟨ge, 0, none⟩ = some (.int .i64 u.st) ∧ W.cell? ⟨ge, 1, none⟩ = some (.int .i64 u.sm) ∧ Below w6.heap.size w6 W)
        ((refine HF.out _ ?_; first
          | with_reducible exact hb8
          | with_reducible exact hb7
          | with_reducible exact below_dr (Below.refl _ _)
          | fail))
        (first
          | (go_at_call 58; (with_reducible refine (HP1.out _ (bt b6 (below_dr (Below.refl _ _)))).mono ?_); rintro e' w7 ⟨⟨Y1, y1, rfl, -, o1⟩, hbq⟩; have hb7 := bt (below_dr (Below.refl w6.heap.size w6)) hbq; clear hbq)
          | (go_at_call 58; (with_reducible refine (HP2.out _ _ _ (own_sl o1)).mono ?_); rintro e' w8 ⟨⟨Y2, y2, rfl, -, o2⟩, hbq⟩; have hb8 := bt hb7 hbq; clear hbq)
          | fail)
      have q2' := kst hb8 ge0 q2
      have b9 := bt b6 hb8
      have sl2 := own_sl o2
      have HQ2 := Lib.hid q2'
      clear q0 q1 q2 HF HP1 HP2 o1 o2 P
      have hls : u.ls = false ∨ u.ls = true := by cases u.ls <;> simp
      rcases hls with hl0 | hl0
      · have HPA := Lib.hid (HP3.out 0 w8 Y2 y2 (by rw [hl0]; rfl) sl2)
        rw [hl0] at q2'
        clear HP3 hl0 HQ2 sl2
        go_wp2_with (go_at_call 58; (with_reducible refine HPA.out.mono ?_); rintro e' wq ⟨⟨Y3, y3, rfl, -, o3⟩, hbq⟩)
        have b10 := hbr.trans ((bt b9 hbq).mono (by omega))
        go_roundw
        case rel => exact ⟨k + 1, by omega, by go_num, o3.less (by have := b9.size; omega), b10⟩
        case measure => simp [RowKit.intOf]; omega
      · have HPA := Lib.hid (HP3.out 1 w8 Y2 y2 (by rw [hl0]; rfl) sl2)
        rw [hl0] at q2'
        clear HP3 hl0 HQ2 sl2
        go_wp2_with (go_at_call 58; (with_reducible refine HPA.out.mono ?_); rintro e' wq ⟨⟨Y3, y3, rfl, -, o3⟩, hbq⟩)
        have b10 := hbr.trans ((bt b9 hbq).mono (by omega))
        go_roundw
        case rel => exact ⟨k + 1, by omega, by go_num, o3.less (by have := b9.size; omega), b10⟩
        case measure => simp [RowKit.intOf]; omega
    · obtain rfl : k = n := by omega
      have i1 : ¬ (k : Int) < (k : Int) := by omega
      have he : encT (x.es.take k) = encT x.es := by rw [List.take_of_length_le (by rw [HL.out]; omega)]
      rw [he] at hown
      have hlq : (encT x.es).length = q := by rw [encT_length, HL.out]; exact HQ.out
      obtain ⟨X, cx, hvx, -, -, -, -⟩ := id hown.form
      rw [hlq] at hvx
      subst hvx
      have HO := Lib.hid hown
      have HLQ := Lib.hid hlq
      clear he hown hlq
      go_wp2_with fail
      go_ret
      exact ⟨⟨X, cx, rfl, HLQ.out, HO.out.less (by omega)⟩, hb5⟩
end Go.Proofs.Ythdahdopejapmaa.tbl

namespace Go.Proofs.Ythdahdopejapmaa.tbl
open Go.RowKit Go.Lib
open Go.Proofs.Ythdahdopejapmaa.gmt (Ok five_new)
open Go.Proofs.Ythdahdopejapmaa.pck (le num le_length num_one)
open Go.Proofs.Ythdahdopejapmaa.anc (flat_get flat_len slv_cell bl kal kst ks bm ka take_same take_other row_form row_below src_home step_row)

/-- A table that is told, and whether it is one. -/
def RdT (base : Nat) (es : List Ent) (c : Bool) (e : Ending) (w' : World) : Prop := ∃ t : TV, e = .returned (.tuple #[t.v, .bool c]) ∧ t.es = es ∧ t.Own w' base
theorem lost_byte {b : List UInt8} {k : Nat} (h : k * 9 + 8 < b.length) : lostAt b k = b[k * 9 + 8].toNat := by
  unfold lostAt
  have hl : ((b.drop (k * 9 + 8)).take 1).length = 1 := by rw [List.length_take, List.length_drop]; omega
  rw [num_one _ hl]
  congr 1
  rw [List.getElem_take, List.getElem_drop]
end Go.Proofs.Ythdahdopejapmaa.tbl

namespace Go.Proofs.Ythdahdopejapmaa.tbl
open Go.RowKit Go.Lib
open Go.Proofs.Ythdahdopejapmaa.gmt (Ok five_new)
open Go.Proofs.Ythdahdopejapmaa.anc (flat_get flat_len slv_cell bl kal kst ks bm ka take_same take_other row_form row_below wpList_row src_home step_row)

def zer8 : List UInt8 := List.replicate 8 0
/-- A new table's entry. -/
def newE : Ent := ⟨0, (crc.sum zer8 : Nat), false⟩
def z8cells : Array Value := madeCells #[.int .u8 0] 8
theorem z8_run (W : World) : (Instr.makeSlice 29 (.int .i64 8) (.int .i64 8)).run Try.prog W = .ok (.slice (some ⟨W.heap.size, 0, none⟩) 8 8) (W.alloc (.cells z8cells 5)) := by
  obtain ⟨ht, _, i, hi, hz, h1, hb8⟩ := t8
  have hr := run_make (P := Try.prog) W 29 5 i (.int .u8 0) ht hi hz .i64 .i64 8 8 (by omega) (by omega) (by rw [hb8]; omega) (by omega)
  simpa [h1, z8cells, Value.cells] using hr
theorem zn_list (n : Nat) : (madeCells #[.int .u8 0] n).toList = cells8 (List.replicate n 0) := by
  unfold madeCells cells8
  apply List.ext_getElem
  · simp
  · intro i h2 h3
    simp [by8, Nat.mod_one]
theorem z8_list : z8cells.toList = cells8 zer8 := zn_list 8
theorem z8_sl (W : World) : Sl (W.alloc (.cells z8cells 5)) (W.alloc (.cells z8cells 5)).heap.size (some ⟨W.heap.size, 0, none⟩) zer8 := Sl.of_block (heap_alloc_new W _) z8_list (by simp)
end Go.Proofs.Ythdahdopejapmaa.tbl

namespace Go.Proofs.Ythdahdopejapmaa.tbl
open Go.RowKit Go.Lib
open Go.Proofs.Ythdahdopejapmaa.gmt (Ok five_new)
open Go.Proofs.Ythdahdopejapmaa.anc (flat_get flat_len slv_cell bl kal kst ks bm ka)

/-- A table and an error, bytes and an error, integers and an error. -/
def TbE (base : Nat) (es : List Ent) (n : Int) (e : Ending) (w' : World) : Prop := ∃ t : TV, e = .returned (.tuple #[t.v, .int .i64 n]) ∧ t.es = es ∧ t.Own w' base
def BytE (base q : Nat) (l : List UInt8) (n : Int) (e : Ending) (w' : World) : Prop := ∃ (X : Option Addr) (c : Nat), e = .returned (.tuple #[.slice X q c, .int .i64 n]) ∧ l.length = q ∧ Own w' base 5 (.slice X q c) l
def NonE (n : Int) (e : Ending) : Prop := ∃ (X : Option Addr) (c : Nat), e = .returned (.tuple #[.slice X 0 c, .int .i64 n])
def IntE (q : Nat) (l : List Int) (e : Ending) (w' : World) : Prop := ∃ (X : Option Addr) (c : Nat), e = .returned (.tuple #[.slice X q c, .int .i64 0]) ∧ l.length = q ∧ SlV w' w'.heap.size X (ints l)
/-- Which of the first k are lost. -/
def lostN (es : List Ent) : Nat → List Int
  | 0 => []
  | k + 1 => lostN es k ++ (if (es[k]?.map Ent.ls).getD false then [(k : Int)] else [])
theorem lostN_le (es : List Ent) : ∀ k, (lostN es k).length ≤ k
  | 0 => Nat.le_refl _
  | k + 1 => by
    have := lostN_le es k
    unfold lostN
    split <;> simp <;> omega
theorem zer8_pos : 0 < crc.sum zer8 ∧ crc.sum zer8 ≤ 4294967295 := by decide +kernel
theorem newE_ok : EntOk newE := ⟨⟨by decide, by decide⟩, Int.natCast_nonneg _, by have := zer8_pos.2; show ((crc.sum zer8 : Nat) : Int) ≤ _; omega⟩
theorem new_good {d : Int} (hd : 0 ≤ d) : Good d (List.replicate (d.toNat + 1) newE) :=
  ⟨by rw [List.length_replicate]; omega, fun e he => by rw [List.eq_of_mem_replicate he]; exact newE_ok, fun e he => by rw [List.eq_of_mem_replicate (List.mem_of_getElem? he)]; rfl⟩
theorem ok_one : Ok 1 1 0 14 1 := by unfold Ok; omega
set_option maxRecDepth 100000 in
set_option maxHeartbeats 4000000 in
theorem some_one (w : World) :
    Calls Try.prog 25 #[.int .i64 0, .int .i64 0, .int .i64 0, .int .i64 0, .int .i64 0] w fun e w' => e = .returned (.agg #[.int .i64 1, .int .i64 1, .int .i64 0, .int .i64 14, .int .i64 1]) ∧ Below w.heap.size w w' := by
  go_enter Try.func25, Try.ntmps25
  go_wp2
  obtain ⟨g0, g1, g2, g3, g4⟩ := five_new w 1 1 0 14 1
  exact bodyPost_ret (v := .agg #[.int .i64 1, .int .i64 1, .int .i64 0, .int .i64 14, .int .i64 1]) (by simp [results, Try.results25, go_sem, g0, g1, g2, g3, g4]) rfl ⟨rfl, bl w _⟩
end Go.Proofs.Ythdahdopejapmaa.tbl
