/-
  Tables of zones as plain data, and their bytes: plain mathematics. No condition beyond each law's own.
  Tables as they lie in memory (a row of entries of three values each); copied, compared. Conditions: each law's own.
  casematekeep.Table: whether two tables are the same; TwinTable: a table like it. Conditions: rows shorter than 2^20.
  The document's tables: whether one is right, a new one. Conditions: a right geometry.
  The document's bytes of a table. Conditions: entries that are right.
  What table bytes are, by the document. Conditions: a right geometry.
  The document's new table. Conditions: a right geometry.
  What the laws of package table ask of its functions; the laws' own example (wakes). Conditions: 'Ctt'.
-/
import Derived.Test.YtbfdpibjicjagaaGreatDoorGPk
import Derived.Test.YtbfdpibjicjagaaGreatDoorAnF
import Derived.Test.YtbfdpibjicjagaaGreatDoorGGm
import Derived.Deep.CutRange
import Derived.Laws.StructEq
import Derived.Test.YtbfdpibjicjagaaGreatDoorTail
import Derived.Test.YtbfdpibjicjagaaGreatDoorGSum
set_option maxHeartbeats 4000000
set_option maxRecDepth 100000
namespace Go.Proofs.YtbfdpibjicjagaaGreatDoor.tbl
open Go.Proofs.YtbfdpibjicjagaaGreatDoor.pck (le num le_length num_le num_lt le_num)
structure Ent where
 st : Int
 sm : Int
 ls : Bool
instance : DecidableEq Ent := fun a b => decidable_of_iff (a.st = b.st ∧ a.sm = b.sm ∧ a.ls = b.ls) ⟨fun ⟨h1, h2, h3⟩ => by cases a; cases b; simp_all, fun h => by rw [h]; exact ⟨rfl, rfl, rfl⟩⟩
def lsN (b : Bool) : Nat := if b then 1 else 0
theorem lsN_le (b : Bool) : lsN b ≤ 1 := by cases b <;> decide
theorem lsN_eq (b : Bool) : (lsN b == 1) = b := by cases b <;> rfl
def entB (e : Ent) : List UInt8 := le 4 e.st.toNat ++ (le 4 e.sm.toNat ++ le 1 (lsN e.ls))
def encT (es : List Ent) : List UInt8 := es.flatMap entB
theorem entB_length (e : Ent) : (entB e).length = 9 := by unfold entB; simp [le_length]
theorem encT_length : ∀ es : List Ent, (encT es).length = es.length * 9
 | [] => rfl
 | e :: es => by
  have h : encT (e :: es) = entB e ++ encT es := by simp [encT]
  rw [h, List.length_append, entB_length, encT_length es, List.length_cons]
  omega
theorem encT_next {es : List Ent} {k : Nat} {e : Ent} (h : es[k]? = some e) : encT (es.take (k + 1)) = encT (es.take k) ++ entB e := by
 rw [List.take_add_one, h]
 simp [encT]
def EntOk (e : Ent) : Prop := (0 ≤ e.st ∧ e.st ≤ 4294967295) ∧ 0 ≤ e.sm ∧ e.sm ≤ 4294967295
def Good (d : Int) (es : List Ent) : Prop := (es.length : Int) = d + 1 ∧ (∀ e ∈ es, EntOk e) ∧ ∀ e, es[d.toNat]? = some e → e.ls = false
def entN (r : List UInt8) : Ent := ⟨(num (r.take 4) : Int), (num ((r.drop 4).take 4) : Int), num ((r.drop 8).take 1) == 1⟩
def entsN (r : List UInt8) (n : Nat) : List Ent := (List.range n).map fun k => entN (r.drop (k * 9))
def lostAt (r : List UInt8) (k : Nat) : Nat := num ((r.drop (k * 9 + 8)).take 1)
theorem entsN_length (r : List UInt8) (n : Nat) : (entsN r n).length = n := by simp [entsN]
theorem entsN_get {r : List UInt8} {n k : Nat} (h : k < n) : (entsN r n)[k]? = some (entN (r.drop (k * 9))) := by simp [entsN, h]
theorem num_four {n : Int} (h : 0 ≤ n ∧ n ≤ 4294967295) : ((num (le 4 n.toNat) : Nat) : Int) = n := by rw [num_le _ _ (by omega)]; omega
theorem cut_left (x y z : List UInt8) (k n : Nat) (hk : x.length = k) (hn : y.length = n) : ((x ++ (y ++ z)).drop k).take n = y := by
 subst hk hn
 rw [List.drop_left, List.take_left]
theorem entN_parts (e : Ent) (r : List UInt8) : (entB e ++ r).take 4 = le 4 e.st.toNat ∧ ((entB e ++ r).drop 4).take 4 = le 4 e.sm.toNat ∧ ((entB e ++ r).drop 8).take 1 = le 1 (lsN e.ls) := by
 have h : entB e ++ r = le 4 e.st.toNat ++ (le 4 e.sm.toNat ++ (le 1 (lsN e.ls) ++ r)) := by simp [entB, List.append_assoc]
 rw [h]
 refine ⟨?_, cut_left _ _ _ 4 4 (le_length _ _) (le_length _ _), ?_⟩
 ·have := cut_left [] (le 4 e.st.toNat) (le 4 e.sm.toNat ++ (le 1 (lsN e.ls) ++ r)) 0 4 rfl (le_length _ _)
  simpa using this
 ·rw [← List.append_assoc]
  exact cut_left _ _ _ 8 1 (by rw [List.length_append, le_length, le_length]) (le_length _ _)
theorem entN_entB {e : Ent} (h : EntOk e) (r : List UInt8) : entN (entB e ++ r) = e := by
 obtain ⟨p1, p2, p3⟩ := entN_parts e r
 unfold entN
 rw [p1, p2, p3, num_four h.1, num_four h.2, num_le 1 _ (by have := lsN_le e.ls; omega), lsN_eq]
theorem encT_drop {es : List Ent} {k : Nat} {e : Ent} (h : es[k]? = some e) : ∃ r, (encT es).drop (k * 9) = entB e ++ r := by
 induction es generalizing k with
 | nil => simp at h
 | cons x es ih =>
  have hx : encT (x :: es) = entB x ++ encT es := by simp [encT]
  rw [hx]
  cases k with
  | zero =>
   simp only [List.getElem?_cons_zero, Option.some.injEq] at h
   subst h
   exact ⟨encT es, by simp⟩
  | succ k =>
   obtain ⟨r, hr⟩ := ih (by simpa using h)
   refine ⟨r, ?_⟩
   rw [← hr, show (k + 1) * 9 = (entB x).length + k * 9 by rw [entB_length]; omega, ← List.drop_drop, List.drop_left]
theorem entsN_of {es : List Ent} (h : ∀ e ∈ es, EntOk e) : entsN (encT es) es.length = es := by
 refine List.ext_getElem? fun k => ?_
 by_cases hk : k < es.length
 ·rw [entsN_get hk, List.getElem?_eq_getElem hk]
  obtain ⟨r, hr⟩ := encT_drop (List.getElem?_eq_getElem hk)
  rw [hr, entN_entB (h _ (List.getElem_mem hk))]
 ·rw [List.getElem?_eq_none (by rw [entsN_length]; omega), List.getElem?_eq_none (by omega)]
theorem lost_of {es : List Ent} {k : Nat} {e : Ent} (h : es[k]? = some e) : lostAt (encT es) k = lsN e.ls := by
 obtain ⟨r, hr⟩ := encT_drop h
 unfold lostAt
 rw [← List.drop_drop, hr, (entN_parts e r).2.2, num_le 1 _ (by have := lsN_le e.ls; omega)]
def Told (d : Int) (b : List UInt8) : Prop := (b.length : Int) = 9 * (d + 1) ∧ (∀ k : Nat, (k : Int) ≤ d → lostAt b k ≤ 1) ∧ Good d (entsN b (d.toNat + 1))
theorem told_of {d : Int} {es : List Ent} (hd : 0 ≤ d) (h : Good d es) : Told d (encT es) ∧ entsN (encT es) (d.toNat + 1) = es := by
 obtain ⟨h1, h2, h3⟩ := h
 have hl : d.toNat + 1 = es.length := by omega
 have he : entsN (encT es) (d.toNat + 1) = es := by rw [hl]; exact entsN_of h2
 refine ⟨⟨by rw [encT_length]; omega, fun k hk => ?_, by rw [he]; exact ⟨h1, h2, h3⟩⟩, he⟩
 have hk2 : k < es.length := by omega
 rw [lost_of (List.getElem?_eq_getElem hk2)]
 exact lsN_le _
end Go.Proofs.YtbfdpibjicjagaaGreatDoor.tbl
namespace Go.Proofs.YtbfdpibjicjagaaGreatDoor.tbl
open Go.RowKit Go.Lib
open Go.Proofs.YtbfdpibjicjagaaGreatDoor.gmt (five_new)
open Go.Proofs.YtbfdpibjicjagaaGreatDoor.anc (flat_get flat_len slv_cell bl kal kst ks bm ka take_same take_other row_form row_below row_apart)
def Ent.vs (e : Ent) : List Value := [.int .i64 e.st, .int .i64 e.sm, .bool e.ls]
def evs (es : List Ent) : List Value := es.flatMap Ent.vs
theorem evs_length (es : List Ent) : (evs es).length = es.length * 3 := flat_len Ent.vs 3 (fun _ => rfl) es
theorem evs_append (a b : List Ent) : evs (a ++ b) = evs a ++ evs b := by simp [evs]
theorem ent_at {w : World} {B k : Nat} {A : Option Addr} {es : List Ent} (hA : SlV w B A (evs es)) (hk : k < es.length) :
  ∃ b off e, A = some ⟨b, off, none⟩ ∧ b < B ∧ w.cell? ⟨b, off + k * 3, none⟩ = some (.int .i64 e.st) ∧ w.cell? ⟨b, off + k * 3 + 1, none⟩ = some (.int .i64 e.sm) ∧ w.cell? ⟨b, off + k * 3 + 2, none⟩ = some (.bool e.ls) ∧ e ∈ es ∧ es[k]? = some e := by
 obtain ⟨b, off, rfl, -, -⟩ := hA (by rw [evs_length]; omega)
 have g := fun j (hj : j < 3) => flat_get Ent.vs 3 (fun _ => rfl) es k j hj
 rw [List.getElem?_eq_getElem hk] at g
 have c0 := slv_cell hA (i := k * 3 + 0) (v := .int .i64 es[k].st) ((g 0 (by omega)).trans rfl)
 have c1 := slv_cell hA (i := k * 3 + 1) (v := .int .i64 es[k].sm) ((g 1 (by omega)).trans rfl)
 have c2 := slv_cell hA (i := k * 3 + 2) (v := .bool es[k].ls) ((g 2 (by omega)).trans rfl)
 exact ⟨b, off, es[k], rfl, c0.2, c0.1, c1.1, c2.1, List.getElem_mem hk, List.getElem?_eq_getElem hk⟩
structure TV where
 A : Option Addr
 c : Nat
 es : List Ent
def TV.v (t : TV) : Value := .agg #[.slice t.A t.es.length t.c]
structure TV.In (w : World) (B : Nat) (t : TV) : Prop where
 h : SlV w B t.A (evs t.es)
 l : t.es.length ≤ t.c ∧ t.c ≤ maxLen
section
variable {w w' : World} {B B' : Nat} {t : TV}
theorem TV.In.below (h : TV.In w B t) (hb : Below B w w') : TV.In w' B t := ⟨h.h.below hb, h.l⟩
theorem TV.In.more (h : TV.In w B t) (hB : B ≤ B') : TV.In w B' t := ⟨h.h.more hB, h.l⟩
theorem TV.In.next (h : TV.In w w.heap.size t) (hb : Below w.heap.size w w') : TV.In w' w'.heap.size t := (h.below hb).more hb.size
end
def OwnE (w : World) (base : Nat) (v : Value) (es : List Ent) : Prop := w.ownsRow base 111 3 v es.length (evs es)
theorem e_info : (Tryz.prog.info? 111).map (fun i => (i.zero, i.size, i.bytes)) = some (some (.agg #[.int .i64 0, .int .i64 0, .bool false]), 3, 24) := by kernel_rfl
section
variable {w w' : World} {base : Nat} {v : Value} {es : List Ent}
theorem ownE_nil (w : World) (base : Nat) : OwnE w base (.slice none 0 0) [] := World.ownsRow_nil w base _ 3
theorem OwnE.below (h : OwnE w base v es) (hb : Below w.heap.size w w') : OwnE w' base v es := row_below h hb
theorem OwnE.less {base' : Nat} (h : OwnE w base v es) (hb : base' ≤ base) : OwnE w base' v es := by
 refine ⟨h.1, ?_⟩
 rcases h.2 with k | ⟨g, cap, cur, a, b, c⟩
 ·exact .inl k
 ·exact .inr ⟨g, cap, cur, a, by omega, c⟩
theorem OwnE.cell_set {g o : Nat} (h : OwnE w base v es) (hg : g < base) (x : Value) : OwnE (w.setCell ⟨g, o, none⟩ x) base v es :=
 ownsRow_setCell_other h (fun k => by have := (World.ownsRow.lt h g k).1; omega) x
end
def TV.Own (w : World) (base : Nat) (t : TV) : Prop := OwnE w base (.slice t.A t.es.length t.c) t.es
section
variable {w w' : World} {base : Nat} {t : TV}
theorem TV.Own.below (h : TV.Own w base t) (hb : Below w.heap.size w w') : TV.Own w' base t := OwnE.below h hb
theorem TV.Own.less {base' : Nat} (h : TV.Own w base t) (hb : base' ≤ base) : TV.Own w base' t := OwnE.less h hb
theorem TV.Own.inn (h : TV.Own w base t) : t.In w w.heap.size := by
 obtain ⟨A', c', hv, h1, h2, hs⟩ := row_form h
 simp only [Value.slice.injEq] at hv
 obtain ⟨ha, -, hc⟩ := hv
 exact ⟨by rw [ha]; exact hs, by omega, by omega⟩
end
theorem ownE_tv {w : World} {base : Nat} {v : Value} {es : List Ent} (h : OwnE w base v es) : ∃ t : TV, v = .slice t.A t.es.length t.c ∧ t.es = es ∧ t.Own w base := by
 obtain ⟨A, c, hv, -, -, -⟩ := row_form h
 exact ⟨⟨A, c, es⟩, hv, rfl, by rw [hv] at h; exact h⟩
def noTV : TV := ⟨none, 0, []⟩
theorem noTV_own (w : World) (base : Nat) : noTV.Own w base := ownE_nil w base
structure C1 (W : World) (g : Nat) (a : Value) : Prop where
 c0 : W.cell? ⟨g, 0, none⟩ = some a
 f0 : W.frozen? ⟨g, 0, none⟩ = false
section
variable {W W' : World} {g : Nat} {a : Value}
theorem c1_new (w : World) (a : Value) (t : TypeId) : C1 (w.alloc (.cells #[a] t)) w.heap.size a := by
 have h := heap_alloc_new w (.cells #[a] t)
 constructor <;> first | (rw [cell_of_row _ _ _ _ _ _ h]; rfl) | exact World.frozen?_alloc_new _ _ _ _
theorem C1.keep {B : Nat} (h : C1 W g a) (hb : Below B W W') (hg : g < B) : C1 W' g a := ⟨(hb.cell (p := ⟨g, 0, none⟩) hg).trans h.c0, (hb.frozen (p := ⟨g, 0, none⟩) hg).trans h.f0⟩
theorem C1.set (h : C1 W g a) (v : Value) : C1 (W.setCell ⟨g, 0, none⟩ v) g v := ⟨World.cell?_setCell_same _ _ _ h.c0, by rw [World.frozen?_setCell]; exact h.f0⟩
theorem C1.apart (h : C1 W g a) {g' o : Nat} (hne : g ≠ g') (v : Value) : C1 (W.setCell ⟨g', o, none⟩ v) g a :=
 ⟨by rw [World.cell?_setCell_other _ _ _ _ (fun k => hne (congrArg Addr.block k).symm)]; exact h.c0, by rw [World.frozen?_setCell]; exact h.f0⟩
end
structure G5 (W : World) (g : Nat) (z d s l a : Int) : Prop where
 g0 : W.cell? ⟨g, 0, none⟩ = some (.int .i64 z)
 g1 : W.cell? ⟨g, 1, none⟩ = some (.int .i64 d)
 g2 : W.cell? ⟨g, 2, none⟩ = some (.int .i64 s)
 g3 : W.cell? ⟨g, 3, none⟩ = some (.int .i64 l)
 g4 : W.cell? ⟨g, 4, none⟩ = some (.int .i64 a)
theorem G5.keep {W W' : World} {g B : Nat} {z d s l a : Int} (h : G5 W g z d s l a) (hb : Below B W W') (hg : g < B) : G5 W' g z d s l a :=
 ⟨ks hb hg h.g0, ks hb hg h.g1, ks hb hg h.g2, ks hb hg h.g3, ks hb hg h.g4⟩
theorem g5_new (w : World) (z d s l a : Int) : G5 (w.alloc (.cells #[.int .i64 z, .int .i64 d, .int .i64 s, .int .i64 l, .int .i64 a] 23)) w.heap.size z d s l a := by
 obtain ⟨g0, g1, g2, g3, g4⟩ := five_new w z d s l a
 exact ⟨g0, g1, g2, g3, g4⟩
theorem G5.set {W : World} {g g' o : Nat} {z d s l a : Int} (h : G5 W g z d s l a) (hne : g ≠ g') (v : Value) : G5 (W.setCell ⟨g', o, none⟩ v) g z d s l a := by
 have hn : ∀ i, (⟨g', o, none⟩ : Addr) ≠ ⟨g, i, none⟩ := fun i h => hne (congrArg Addr.block h).symm
 constructor <;> rw [World.cell?_setCell_other _ _ _ _ (hn _)]
 ·exact h.g0
 ·exact h.g1
 ·exact h.g2
 ·exact h.g3
 ·exact h.g4
end Go.Proofs.YtbfdpibjicjagaaGreatDoor.tbl
namespace Go.Proofs.YtbfdpibjicjagaaGreatDoor.tbl
open Go.RowKit Go.Lib
open Go.Proofs.YtbfdpibjicjagaaGreatDoor.anc (flat_get flat_len slv_cell bl kal kst ks bm ka take_same take_other row_form row_below wpList_row)
def TbQ (base : Nat) (es : List Ent) (e : Ending) (w' : World) : Prop := ∃ t : TV, e = .returned t.v ∧ t.es = es ∧ t.Own w' base
end Go.Proofs.YtbfdpibjicjagaaGreatDoor.tbl
namespace Go.Proofs.YtbfdpibjicjagaaGreatDoor.tbl
open Go.RowKit Go.Lib
open Go.Proofs.YtbfdpibjicjagaaGreatDoor.gmt (Ok five_new)
open Go.Proofs.YtbfdpibjicjagaaGreatDoor.crc (ref_sum)
open Go.Proofs.YtbfdpibjicjagaaGreatDoor.anc (flat_get flat_len slv_cell bl kal kst ks bm ka take_same take_other row_form row_below wpList_row src_home step_row)
def Ent.v (e : Ent) : Value := .agg #[.int .i64 e.st, .int .i64 e.sm, .bool e.ls]
theorem rentry_any (st : Int) (A : Option Addr) (n c : Nat) (b : List UInt8) (w : World) (hn : b.length = n) (hm : n ≤ maxLen) (hA : Sl w w.heap.size A b) :
  Calls Tryz.prog 59 #[.int .i64 st, .slice A n c] w fun e w' => e = .returned (.agg #[.int .i64 st, .int .i64 (crc.sum b : Nat), .bool false]) ∧ Below w.heap.size w w' := by
 subst hn
 have P := anc.tri_new w (.int .i64 0) (.int .i64 0) (.bool false) 111
 have hb := bl w (.cells #[.int .i64 0, .int .i64 0, .bool false] 111)
 have lx : w.heap.size < (w.alloc (.cells #[.int .i64 0, .int .i64 0, .bool false] 111)).heap.size := by simp
 have cS := fun W (hW : Below w.heap.size w W) => ref_sum A c w.heap.size b W (hA.below hW) hm
 go_enter Tryz.func59, Tryz.ntmps59
 go_upto_region 1 with fail
 generalize w.alloc (.cells #[.int .i64 0, .int .i64 0, .bool false] 111) = w0 at *
 obtain ⟨z0, z1, z2, f0, f1, f2⟩ := id P
 go_wp2_with (go_at_call 74; (with_reducible refine (cS _ hb).mono ?_); rintro e w1 ⟨rfl, rfl⟩)
 have k3 := ((P.set0 (.int .i64 st)).set1 (.int .i64 (crc.sum b : Nat))).set2 (.bool false)
 exact bodyPost_ret (v := .agg #[.int .i64 st, .int .i64 (crc.sum b : Nat), .bool false]) (by simp [results, Tryz.results59, go_sem, k3.c0, k3.c1, k3.c2]) rfl ⟨rfl, ((hb.setCell (p := ⟨w.heap.size, 0, none⟩) (Nat.le_refl _) _).setCell (p := ⟨w.heap.size, 1, none⟩) (Nat.le_refl _) _).setCell (p := ⟨w.heap.size, 2, none⟩) (Nat.le_refl _) _⟩
end Go.Proofs.YtbfdpibjicjagaaGreatDoor.tbl
namespace Go.Proofs.YtbfdpibjicjagaaGreatDoor.tbl
open Go.RowKit Go.Lib
open Go.Proofs.YtbfdpibjicjagaaGreatDoor.gmt (Ok five_new)
open Go.Proofs.YtbfdpibjicjagaaGreatDoor.pck (le num le_length ref_put)
open Go.Proofs.YtbfdpibjicjagaaGreatDoor.anc (flat_get flat_len slv_cell bl kal kst ks bm ka take_same take_other row_form row_below)
def BytQ (base q : Nat) (l : List UInt8) (e : Ending) (w' : World) : Prop := ∃ (X : Option Addr) (c : Nat), e = .returned (.slice X q c) ∧ l.length = q ∧ Own w' base 5 (.slice X q c) l
theorem own_sl {W : World} {base q x : Nat} {e : TypeId} {X : Option Addr} {l : List UInt8} (h : Own W base e (.slice X q x) l) : Sl W W.heap.size X l := by
 obtain ⟨A, c, hv, -, -, hs, -⟩ := h.form
 simp only [Value.slice.injEq] at hv
 rw [hv.1]
 exact hs
theorem rput_q (k : Nat) (m : Int) (n q : Nat) (A : Option Addr) (c : Nat) (l : List UInt8) (w : World) (hk : k ≤ 8) (h0 : 0 ≤ m) (hm : m ≤ 4294967295) (hln : l.length = n) (hl : n ≤ 1048576) (hq : n + k = q) (hA : Sl w w.heap.size A l) :
  Calls Tryz.prog 58 #[.slice A n c, .int .i64 m, .int .i64 k] w fun e w' => BytQ w.heap.size q (l ++ le k m.toNat) e w' ∧ Below w.heap.size w w' := by
 have h9 := ref_put k m.toNat n A c l w hk (by omega) hln hl hA
 rw [Int.toNat_of_nonneg h0] at h9
 refine h9.mono ?_
 rintro e w' ⟨⟨v, rfl, ho⟩, hb⟩
 obtain ⟨X, c2, hv, -, -, -, -⟩ := id ho.form
 have hl2 : (l ++ le k m.toNat).length = q := by rw [List.length_append, le_length]; omega
 rw [hl2] at hv
 subst hv
 exact ⟨⟨X, c2, rfl, hl2, ho⟩, hb⟩
theorem rbytes_tab (x : TV) (n q : Nat) (w : World) (hx : x.In w w.heap.size) (h1 : x.es.length = n) (hn : n ≤ 20) (hok : ∀ e ∈ x.es, EntOk e) (hq : n * 9 = q) :
  Calls Tryz.prog 40 #[x.v] w fun e w' => BytQ w.heap.size q (encT x.es) e w' ∧ Below w.heap.size w w' := by
 have T1 := c1_new w (.slice x.A n x.c) 91
 have hb := bl w (.cells #[.slice x.A n x.c] 91)
 have l1 : (w.alloc (.cells #[.slice x.A n x.c] 91)).heap.size = w.heap.size + 1 := by simp
 unfold TV.v
 rw [h1]
 have HL := Lib.hid h1
 have HX := Lib.hid hx
 have HOK := Lib.hid hok
 have HQ := Lib.hid hq
 clear h1 hx hok hq
 go_enter Tryz.func40, Tryz.ntmps40
 go_upto_region 1 with fail
 generalize w.alloc (.cells #[.slice x.A n x.c] 91) = w0 at *
 have lz : w.heap.size + 1 ≤ w0.heap.size := by omega
 clear l1
 go_wp2_with fail
 go_loopw [3, 4] (fun vb i w' => ∃ (k : Nat), k ≤ n ∧ i = .int .i64 k ∧ Own w' (w.heap.size + 1) 5 vb (encT (x.es.take k)) ∧ Below (w.heap.size + 1) w0 w') (fun _ i _ => n - (RowKit.intOf i).toNat)
 case atStart => exact ⟨0, Nat.zero_le _, rfl, own_nil _ _ _, Below.refl _ _⟩
 case round =>
  obtain ⟨w5, rfl⟩ : ∃ x, x = wr := ⟨wr, rfl⟩
  obtain ⟨k, hk, rfl, hown, hbr⟩ := hrel
  have hb5 := hb.trans (hbr.mono (by omega))
  have l5 := hbr.size
  have t0 := (T1.keep hbr (by omega)).c0
  by_cases hlt : k < n
  ·obtain ⟨b1, off, u, hA1, hb1, c0, c1, c2, hu, e1⟩ := ent_at (HX.out.below hb5).h (show k < x.es.length by rw [HL.out]; omega)
   have HU := Lib.hid (HOK.out u hu)
   have HE := Lib.hid (encT_next e1)
   have hlk : (encT (x.es.take k)).length = k * 9 := by rw [encT_length, List.length_take, HL.out]; omega
   have HLK := Lib.hid hlk
   rw [hA1] at t0
   obtain ⟨X, cx, hvx, hx1, hx2, hxs, -⟩ := id hown.form
   rw [hlk] at hvx
   subst hvx
   have i1 : (k : Int) < (n : Int) := by omega
   have P := anc.tri_new w5 (.int .i64 u.st) (.int .i64 u.sm) (.bool u.ls) 111
   have b6 := bl w5 (.cells #[.int .i64 u.st, .int .i64 u.sm, .bool u.ls] 111)
   have hxs6 := (hxs.below b6).more b6.size
   have ge0 : w5.heap.size < (w5.alloc (.cells #[.int .i64 u.st, .int .i64 u.sm, .bool u.ls] 111)).heap.size := by simp
   have HP1 := Lib.hid (show ∀ W, Below w5.heap.size w5 W → Calls Tryz.prog 58 #[.slice X (k * 9 : Nat) cx, .int .i64 u.st, .int .i64 4] W fun e w' => BytQ W.heap.size (k * 9 + 4) (encT (x.es.take k) ++ le 4 u.st.toNat) e w' ∧ Below W.heap.size W w' from fun W hW => rput_q 4 u.st (k * 9) _ X cx _ W (by omega) HU.out.1.1 HU.out.1.2 HLK.out (by omega) rfl ((hxs.below hW).more hW.size))
   have HP2 := Lib.hid (show ∀ (W : World) (Y : Option Addr) (y : Nat), Sl W W.heap.size Y (encT (x.es.take k) ++ le 4 u.st.toNat) → Calls Tryz.prog 58 #[.slice Y (k * 9 + 4 : Nat) y, .int .i64 u.sm, .int .i64 4] W fun e w' => BytQ W.heap.size (k * 9 + 8) ((encT (x.es.take k) ++ le 4 u.st.toNat) ++ le 4 u.sm.toNat) e w' ∧ Below W.heap.size W w' from fun W Y y h => rput_q 4 u.sm (k * 9 + 4) _ Y y _ W (by omega) HU.out.2.1 HU.out.2.2 (by rw [List.length_append, le_length, HLK.out]) (by omega) rfl h)
   have HP3 := Lib.hid (show ∀ (j : Int) (W : World) (Y : Option Addr) (y : Nat), j = (lsN u.ls : Nat) → Sl W W.heap.size Y ((encT (x.es.take k) ++ le 4 u.st.toNat) ++ le 4 u.sm.toNat) → Calls Tryz.prog 58 #[.slice Y (k * 9 + 8 : Nat) y, .int .i64 j, .int .i64 1] W fun e w' => BytQ W.heap.size ((k + 1) * 9) (encT (x.es.take (k + 1))) e w' ∧ Below W.heap.size W w' from fun j W Y y hj h => by
    have hj1 := lsN_le u.ls
    have h9 := rput_q 1 j (k * 9 + 8) ((k + 1) * 9) Y y _ W (by omega) (by omega) (by omega) (by rw [List.length_append, List.length_append, le_length, le_length, HLK.out]) (by omega) (by omega) h
    have hjn : j.toNat = lsN u.ls := by omega
    rw [hjn] at h9
    rw [HE.out]
    have hee : encT (x.es.take k) ++ entB u = ((encT (x.es.take k) ++ le 4 u.st.toNat) ++ le 4 u.sm.toNat) ++ le 1 (lsN u.ls) := by unfold entB; simp only [List.append_assoc]
    rw [hee]
    exact h9)
   clear hown hxs hxs6 hu e1 hA1 hlk hx1 hx2
   go_upto_region 6 with fail
   obtain ⟨ge, hge⟩ : ∃ g, g = w5.heap.size := ⟨_, rfl⟩
   rw [← hge] at P ge0 ⊢
   generalize hw6 : w5.alloc (.cells #[.int .i64 u.st, .int .i64 u.sm, .bool u.ls] 111) = w6 at *
   have lge : w5.heap.size ≤ ge := by omega
   clear hw6 hge c0 c1 c2
   obtain ⟨q0, q1, q2, -, -, -⟩ := id P
   have HF := Lib.hid (show ∀ W, Below w6.heap.size w6 W → W.cell? ⟨ge, 0, none⟩ = some (.int .i64 u.st) ∧ W.cell? ⟨ge, 1, none⟩ = some (.int .i64 u.sm) ∧ Below w6.heap.size w6 W from fun W h => ⟨kst h ge0 q0, kst h ge0 q1, h⟩)
   go_region_held3 (fun W => W.cell? ⟨ge, 0, none⟩ = some (.int .i64 u.st) ∧ W.cell? ⟨ge, 1, none⟩ = some (.int .i64 u.sm) ∧ Below w6.heap.size w6 W)
    ((refine HF.out _ ?_; first
     | with_reducible exact hb8
     | with_reducible exact hb7
     | with_reducible exact below_dr (Below.refl _ _)
     | fail))
    (first
     | (go_at_call 58; (with_reducible refine (HP1.out _ (bt b6 (below_dr (Below.refl _ _)))).mono ?_); rintro e' w7 ⟨⟨Y1, y1, rfl, -, o1⟩, hbq⟩; have hb7 := bt (below_dr (Below.refl w6.heap.size w6)) hbq; clear hbq)
     | (go_at_call 58; (with_reducible refine (HP2.out _ _ _ (own_sl o1)).mono ?_); rintro e' w8 ⟨⟨Y2, y2, rfl, -, o2⟩, hbq⟩; have hb8 := bt hb7 hbq; clear hbq)
     | fail)
   have q2' := kst hb8 ge0 q2
   have b9 := bt b6 hb8
   have sl2 := own_sl o2
   have HQ2 := Lib.hid q2'
   clear q0 q1 q2 HF HP1 HP2 o1 o2 P
   have hls : u.ls = false ∨ u.ls = true := by cases u.ls <;> simp
   rcases hls with hl0 | hl0
   ·have HPA := Lib.hid (HP3.out 0 w8 Y2 y2 (by rw [hl0]; rfl) sl2)
    rw [hl0] at q2'
    clear HP3 hl0 HQ2 sl2
    go_wp2_with (go_at_call 58; (with_reducible refine HPA.out.mono ?_); rintro e' wq ⟨⟨Y3, y3, rfl, -, o3⟩, hbq⟩)
    have b10 := hbr.trans ((bt b9 hbq).mono (by omega))
    go_roundw
    case rel => exact ⟨k + 1, by omega, by go_num, o3.less (by have := b9.size; omega), b10⟩
    case measure => simp [RowKit.intOf]; omega
   ·have HPA := Lib.hid (HP3.out 1 w8 Y2 y2 (by rw [hl0]; rfl) sl2)
    rw [hl0] at q2'
    clear HP3 hl0 HQ2 sl2
    go_wp2_with (go_at_call 58; (with_reducible refine HPA.out.mono ?_); rintro e' wq ⟨⟨Y3, y3, rfl, -, o3⟩, hbq⟩)
    have b10 := hbr.trans ((bt b9 hbq).mono (by omega))
    go_roundw
    case rel => exact ⟨k + 1, by omega, by go_num, o3.less (by have := b9.size; omega), b10⟩
    case measure => simp [RowKit.intOf]; omega
  ·obtain rfl : k = n := by omega
   have i1 : ¬ (k : Int) < (k : Int) := by omega
   have he : encT (x.es.take k) = encT x.es := by rw [List.take_of_length_le (by rw [HL.out]; omega)]
   rw [he] at hown
   have hlq : (encT x.es).length = q := by rw [encT_length, HL.out]; exact HQ.out
   obtain ⟨X, cx, hvx, -, -, -, -⟩ := id hown.form
   rw [hlq] at hvx
   subst hvx
   have HO := Lib.hid hown
   have HLQ := Lib.hid hlq
   clear he hown hlq
   go_wp2_with fail
   go_ret
   exact ⟨⟨X, cx, rfl, HLQ.out, HO.out.less (by omega)⟩, hb5⟩
end Go.Proofs.YtbfdpibjicjagaaGreatDoor.tbl
namespace Go.Proofs.YtbfdpibjicjagaaGreatDoor.tbl
open Go.RowKit Go.Lib
open Go.Proofs.YtbfdpibjicjagaaGreatDoor.gmt (Ok five_new)
open Go.Proofs.YtbfdpibjicjagaaGreatDoor.pck (le num le_length num_one)
open Go.Proofs.YtbfdpibjicjagaaGreatDoor.anc (flat_get flat_len slv_cell bl kal kst ks bm ka take_same take_other row_form row_below src_home step_row)
end Go.Proofs.YtbfdpibjicjagaaGreatDoor.tbl
namespace Go.Proofs.YtbfdpibjicjagaaGreatDoor.tbl
open Go.RowKit Go.Lib
open Go.Proofs.YtbfdpibjicjagaaGreatDoor.gmt (Ok five_new)
open Go.Proofs.YtbfdpibjicjagaaGreatDoor.anc (flat_get flat_len slv_cell bl kal kst ks bm ka take_same take_other row_form row_below wpList_row src_home step_row)
def zer8 : List UInt8 := List.replicate 8 0
def newE : Ent := ⟨0, (crc.sum zer8 : Nat), false⟩
def z8cells : Array Value := madeCells #[.int .u8 0] 8
theorem z8_run (W : World) : (Instr.makeSlice 49 (.int .i64 8) (.int .i64 8)).run Tryz.prog W = .ok (.slice (some ⟨W.heap.size, 0, none⟩) 8 8) (W.alloc (.cells z8cells 5)) := by
 obtain ⟨ht, _, i, hi, hz, h1, hb8⟩ := t8
 have hr := run_make (P := Tryz.prog) W 49 5 i (.int .u8 0) ht hi hz .i64 .i64 8 8 (by omega) (by omega) (by rw [hb8]; omega) (by omega)
 simpa [h1, z8cells, Value.cells] using hr
theorem zn_list (n : Nat) : (madeCells #[.int .u8 0] n).toList = cells8 (List.replicate n 0) := by
 unfold madeCells cells8
 apply List.ext_getElem
 ·simp
 ·intro i h2 h3
  simp [by8, Nat.mod_one]
theorem z8_list : z8cells.toList = cells8 zer8 := zn_list 8
theorem z8_sl (W : World) : Sl (W.alloc (.cells z8cells 5)) (W.alloc (.cells z8cells 5)).heap.size (some ⟨W.heap.size, 0, none⟩) zer8 := Sl.of_block (heap_alloc_new W _) z8_list (by simp)
theorem rfirst_tab (z d s l a : Int) (w : World) (ho : Ok z d s l a) :
  Calls Tryz.prog 41 #[.agg #[.int .i64 z, .int .i64 d, .int .i64 s, .int .i64 l, .int .i64 a]] w fun e w' => TbQ w.heap.size (List.replicate (d.toNat + 1) newE) e w' ∧ Below w.heap.size w w' := by
 have o2 := ho.2.1
 obtain ⟨D, rfl⟩ : ∃ D : Nat, d = D := ⟨d.toNat, by omega⟩
 rw [Int.toNat_natCast]
 obtain ⟨N, hN⟩ : ∃ N : Int, N = (crc.sum zer8 : Nat) := ⟨_, rfl⟩
 have HN := Lib.hid hN
 have HE := Lib.hid (show ∀ (W : World) (g : Nat), Sl W W.heap.size (some ⟨g, 0, none⟩) zer8 → Calls Tryz.prog 59 #[.int .i64 0, .slice (some ⟨g, 0, none⟩) 8 8] W fun e w' => e = .returned (.agg #[.int .i64 0, .int .i64 N, .bool false]) ∧ Below W.heap.size W w' from fun W g h => by
  rw [hN]
  exact rentry_any 0 (some ⟨g, 0, none⟩) 8 8 zer8 W rfl (by unfold maxLen; omega) h)
 clear hN
 have s1 : (w.alloc (.cells #[.int .i64 z, .int .i64 D, .int .i64 s, .int .i64 l, .int .i64 a] 23)).heap.size = w.heap.size + 1 := by simp
 have s2 : ((w.alloc (.cells #[.int .i64 z, .int .i64 D, .int .i64 s, .int .i64 l, .int .i64 a] 23)).alloc (.cells #[.slice none 0 0] 91)).heap.size = w.heap.size + 2 := by simp
 have GG := ((g5_new w z D s l a).keep (bl (w.alloc (.cells #[.int .i64 z, .int .i64 D, .int .i64 s, .int .i64 l, .int .i64 a] 23)) (.cells #[.slice none 0 0] 91)) (by omega)).keep (bl ((w.alloc (.cells #[.int .i64 z, .int .i64 D, .int .i64 s, .int .i64 l, .int .i64 a] 23)).alloc (.cells #[.slice none 0 0] 91)) (.cells #[.slice none 0 0] 91)) (by omega)
 have P := (c1_new (w.alloc (.cells #[.int .i64 z, .int .i64 D, .int .i64 s, .int .i64 l, .int .i64 a] 23)) (.slice none 0 0) 91).keep (bl ((w.alloc (.cells #[.int .i64 z, .int .i64 D, .int .i64 s, .int .i64 l, .int .i64 a] 23)).alloc (.cells #[.slice none 0 0] 91)) (.cells #[.slice none 0 0] 91)) (by omega)
 have Q := c1_new ((w.alloc (.cells #[.int .i64 z, .int .i64 D, .int .i64 s, .int .i64 l, .int .i64 a] 23)).alloc (.cells #[.slice none 0 0] 91)) (.slice none 0 0) 91
 rw [s1] at P
 rw [s2] at Q
 have hb0 := kal (kal (bl w (.cells #[.int .i64 z, .int .i64 D, .int .i64 s, .int .i64 l, .int .i64 a] 23)) (.cells #[.slice none 0 0] 91)) (.cells #[.slice none 0 0] 91)
 have l3 : (((w.alloc (.cells #[.int .i64 z, .int .i64 D, .int .i64 s, .int .i64 l, .int .i64 a] 23)).alloc (.cells #[.slice none 0 0] 91)).alloc (.cells #[.slice none 0 0] 91)).heap.size = w.heap.size + 3 := by simp
 clear s1 s2 ho
 go_enter Tryz.func41, Tryz.ntmps41
 go_upto_region 2 with fail
 generalize (((w.alloc (.cells #[.int .i64 z, .int .i64 D, .int .i64 s, .int .i64 l, .int .i64 a] 23)).alloc (.cells #[.slice none 0 0] 91)).alloc (.cells #[.slice none 0 0] 91)) = w0 at *
 have HL3 := Lib.hid l3
 have lz : w.heap.size + 3 ≤ w0.heap.size := by omega
 clear l3
 go_wp2_with fail
 go_loopw [4] (fun i w' => ∃ (k : Nat) (v : Value), k ≤ D + 1 ∧ i = .int .i64 k ∧ OwnE w' (w.heap.size + 3) v (List.replicate k newE) ∧ C1 w' (w.heap.size + 2) v ∧ C1 w' (w.heap.size + 1) (.slice none 0 0) ∧ G5 w' w.heap.size z D s l a ∧ Below w.heap.size w w' ∧ w.heap.size + 3 ≤ w'.heap.size) (fun i _ => D + 1 - (RowKit.intOf i).toNat)
 case atStart => exact ⟨0, .slice none 0 0, by omega, rfl, ownE_nil _ _, Q, P, GG, hb0, lz⟩
 case round =>
  clear P Q GG hb0 lz HL3
  obtain ⟨w5, rfl⟩ : ∃ x, x = wr := ⟨wr, rfl⟩
  obtain ⟨k, v, hk, rfl, hown, Q5, P5, GG, hb5, l5⟩ := hrel
  obtain ⟨-, g1, -, -, -⟩ := id GG
  by_cases hlt : k < D + 1
  ·have i1 : (k : Int) ≤ (D : Int) := by omega
   have q0 := Q5.c0
   have hlk : (List.replicate k newE).length = k := List.length_replicate
   have hmk := z8_run
   go_wp2_with fail
   refine wp_region_tail (S := fun W => W.cell? ⟨w.heap.size + 2, 0, none⟩ = some v ∧ Below (w.heap.size + 3) w5 W) 7 rfl (by kernel_rfl) (by kernel_rfl) ⟨q0, below_dr (Below.refl _ _)⟩ (fun hS => ?_)
   simp only [List.take_succ_cons, List.take_zero]
   (refine wpAnyH_take (i := 0) (v := ?_) rfl (by kernel_rfl) (by kernel_rfl) (by kernel_rfl) (fun _ _ _ h => h) (Or.inl ⟨by rfl, ?_⟩) (by assumption) ?_; rotate_left; (focus (intro w hSw; (try dsimp only at hSw); go_split_ands; go_simp <;> with_reducible rfl)); simp only [List.getElem_toArray, List.getElem_cons_zero, Act.put, List.setIfInBounds_toArray, List.set_cons_zero, List.set_cons_succ])
   (refine wpAnyH_take (i := 1) (v := ?_) rfl (by kernel_rfl) (by kernel_rfl) (by kernel_rfl) (fun _ _ _ h => h) (Or.inl ⟨by rfl, ?_⟩) (by assumption) ?_; rotate_left; (focus (intro w hSw; (try dsimp only at hSw); go_split_ands; go_simp <;> with_reducible rfl)); simp only [List.getElem_toArray, List.getElem_cons_zero, List.getElem_cons_succ, Act.put, List.setIfInBounds_toArray, List.set_cons_zero, List.set_cons_succ])
   refine wpAnyH_ready (rs := [2]) (by kernel_rfl) (by simp) ?_
   refine AllReadyH.cons rfl (fun K hK => ?_) AllReadyH.nil
   go_simp
   have b1 : Below w5.heap.size w5 (w5.alloc (.cells z8cells 5)).drew := below_dr (bl w5 _)
   have sl1 : Sl (w5.alloc (.cells z8cells 5)).drew (w5.alloc (.cells z8cells 5)).drew.heap.size (some ⟨w5.heap.size, 0, none⟩) zer8 := (z8_sl w5).next (below_dr (Below.refl _ _))
   refine hK.out _ _ ⟨kst b1 (by omega) q0, b1.mono l5⟩ (fun hS => ?_)
   clear hK K
   generalize (w5.alloc (.cells z8cells 5)).drew = wa at *
   refine wpAnyH_ready (rs := [3]) (by kernel_rfl) (by simp) ?_
   refine AllReadyH.cons rfl (fun K hK => ?_) AllReadyH.nil
   go_simp
   (with_reducible refine (HE.out _ _ sl1).mono ?_)
   rintro e wb ⟨rfl, hbb⟩
   have b2 : Below w5.heap.size w5 wb := bt b1 hbb
   refine hK.out _ _ ⟨kst b2 (by omega) q0, b2.mono l5⟩ (fun hS => ?_)
   clear hK K
   refine wpAnyH_ready (rs := [4]) (by kernel_rfl) (by simp) ?_
   refine AllReadyH.cons rfl (fun K hK => ?_) AllReadyH.nil
   go_simp
   have b3 : Below w5.heap.size w5 (wb.alloc (.cells #[.int .i64 0, .int .i64 N, .bool false] 111)) := kal b2 _
   have src := src_home (P := Tryz.prog) (heap_alloc_new wb (.cells #[.int .i64 0, .int .i64 N, .bool false] 111)) Tryz.underlying89 (by simp [Value.oneCell'])
   refine hK.out _ _ ⟨kst b3 (by omega) q0, b3.mono l5⟩ (fun hS => ?_)
   clear hK K
   have ow := hown.below b3
   have l3 := b3.size
   generalize wb.alloc (.cells #[.int .i64 0, .int .i64 N, .bool false] 111) = wc at *
   refine wpAnyH_ready (rs := [5]) (by kernel_rfl) (by simp) ?_
   refine AllReadyH.cons rfl (fun K hK => ?_) AllReadyH.nil
   refine step_row wc (by rfl) _ _ _ _ (by rfl) (w.heap.size + 3) 3 24 111 (.agg #[.int .i64 0, .int .i64 0, .bool false]) Tryz.underlying89 e_info (by rfl) v k (evs (List.replicate k newE)) (by rfl) (by have h9 := ow; unfold OwnE at h9; rw [hlk] at h9; exact h9) _ 1 _ (by rfl) src (by unfold maxLen; omega) (by omega) (by omega) ?_
   intro v3 w3 h3 hg3
   have b4 : Below (w.heap.size + 3) w5 w3 := (b3.mono l5).grown hg3 (by omega) (fun q hq => (World.ownsRow.lt ow q hq).1)
   refine hK.out _ _ ⟨ks b4 (by omega) q0, b4⟩ (fun hS => ?_)
   clear hK K
   simp only [List.getElem_toArray, List.getElem_cons_zero, List.getElem_cons_succ, Act.put, List.setIfInBounds_toArray, List.set_cons_zero, List.set_cons_succ]
   (refine wpAnyH_take (i := 6) (v := ?_) rfl (by kernel_rfl) (by kernel_rfl) (by kernel_rfl) (fun _ _ _ h => h) (Or.inl ⟨by rfl, ?_⟩) (by assumption) ?_; rotate_left; (focus (intro w hSw; (try dsimp only at hSw); go_split_ands; go_simp <;> with_reducible rfl)); simp only [List.getElem_toArray, List.getElem_cons_zero, List.getElem_cons_succ, Act.put, List.setIfInBounds_toArray, List.set_cons_zero, List.set_cons_succ])
   refine wpAnyH_done (by kernel_rfl) ?_ _
   have Q6 := Q5.keep b4 (by omega)
   have P6 := P5.keep b4 (by omega)
   have G6 := GG.keep b4 (by omega)
   have c6 := Q6.c0
   have f6 := Q6.f0
   obtain ⟨A3, c3, rfl, -, -, -⟩ := row_form h3
   simp only [tailQ]
   go_simp
   have hlk1 : (List.replicate (k + 1) newE).length = k + 1 := List.length_replicate
   have h4 : OwnE w3 (w.heap.size + 3) (.slice A3 (k + 1 : Nat) c3) (List.replicate (k + 1) newE) := by
    unfold OwnE
    rw [hlk1, List.replicate_succ', evs_append]
    have : evs [newE] = [.int .i64 0, .int .i64 N, .bool false] := by rw [HN.out]; rfl
    rw [this]
    exact h3
   have h5 := OwnE.cell_set (o := 0) h4 (show w.heap.size + 2 < w.heap.size + 3 by omega) (.slice A3 (k + 1 : Nat) c3)
   have b5 : Below w.heap.size w (w3.setCell ⟨w.heap.size + 2, 0, none⟩ (.slice A3 (k + 1 : Nat) c3)) := (hb5.trans (b4.mono (by omega))).setCell (p := ⟨w.heap.size + 2, 0, none⟩) (show w.heap.size ≤ w.heap.size + 2 by omega) _
   have hsz := b4.size
   go_wp2
   go_roundw
   case rel => exact ⟨k + 1, _, by omega, by go_num, h5, Q6.set _, P6.apart (by omega) _, G6.set (by omega) _, b5, by simp; omega⟩
   case measure => simp [RowKit.intOf]; omega
  ·obtain rfl : k = D + 1 := by omega
   have i1 : ¬ ((D + 1 : Nat) : Int) ≤ (D : Int) := by omega
   have q0 := Q5.c0
   have p0 := P5.c0
   have f0 := P5.f0
   obtain ⟨t, rfl, hte, hto⟩ := ownE_tv hown
   have HTE := Lib.hid hte
   clear hte
   go_wp2_with fail
   have k1 := P5.set (.slice t.A t.es.length t.c)
   exact bodyPost_ret (v := .agg #[.slice t.A t.es.length t.c]) (by simp [results, Tryz.results41, go_sem, k1.c0]) rfl ⟨⟨t, rfl, HTE.out, OwnE.less (OwnE.cell_set hto (by omega) _) (by omega)⟩, hb5.setCell (p := ⟨w.heap.size + 1, 0, none⟩) (show w.heap.size ≤ w.heap.size + 1 by omega) _⟩
end Go.Proofs.YtbfdpibjicjagaaGreatDoor.tbl
namespace Go.Proofs.YtbfdpibjicjagaaGreatDoor.tbl
open Go.RowKit Go.Lib
open Go.Proofs.YtbfdpibjicjagaaGreatDoor.gmt (Ok five_new)
open Go.Proofs.YtbfdpibjicjagaaGreatDoor.anc (flat_get flat_len slv_cell bl kal kst ks bm ka)
def TbE (base : Nat) (es : List Ent) (n : Int) (e : Ending) (w' : World) : Prop := ∃ t : TV, e = .returned (.tuple #[t.v, .int .i64 n]) ∧ t.es = es ∧ t.Own w' base
theorem zer8_pos : 0 < crc.sum zer8 ∧ crc.sum zer8 ≤ 4294967295 := by decide +kernel
theorem newE_ok : EntOk newE := ⟨⟨by decide, by decide⟩, Int.natCast_nonneg _, by have := zer8_pos.2; show ((crc.sum zer8 : Nat) : Int) ≤ _; omega⟩
theorem new_good {d : Int} (hd : 0 ≤ d) : Good d (List.replicate (d.toNat + 1) newE) :=
 ⟨by rw [List.length_replicate]; omega, fun e he => by rw [List.eq_of_mem_replicate he]; exact newE_ok, fun e he => by rw [List.eq_of_mem_replicate (List.mem_of_getElem? he)]; rfl⟩
theorem some_one (w : World) :
  Calls Tryz.prog 35 #[.int .i64 0, .int .i64 0, .int .i64 0, .int .i64 0, .int .i64 0] w fun e w' => e = .returned (.agg #[.int .i64 1, .int .i64 1, .int .i64 0, .int .i64 14, .int .i64 1]) ∧ Below w.heap.size w w' := by
 go_enter Tryz.func35, Tryz.ntmps35
 go_wp2
 obtain ⟨g0, g1, g2, g3, g4⟩ := five_new w 1 1 0 14 1
 exact bodyPost_ret (v := .agg #[.int .i64 1, .int .i64 1, .int .i64 0, .int .i64 14, .int .i64 1]) (by simp [results, Tryz.results35, go_sem, g0, g1, g2, g3, g4]) rfl ⟨rfl, bl w _⟩
end Go.Proofs.YtbfdpibjicjagaaGreatDoor.tbl
