/-
  A log's record as plain data: right images, right records, their bytes, what bytes say. Plain mathematics; no condition beyond each theorem's own.
  Records as they lie in memory (eight cells each: five numbers, an image); in a box. Conditions: each law's own.
  What the laws of package rec ask of its functions. Conditions: none (a list of conditions, 'Crd').
  casematekeep.Rec: whether two records are the same. Conditions: byte strings shorter than 2^20.
  The document's own answer: is an image right (Image), a record (Rec). Conditions: a right geometry.
  The laws' own example (wakes). Conditions: 'Crd'.
  RecBent: a right image's record is none of another kind, at the commit's place, of one record, of a zone, a block that there is not, with a byte too few. Conditions: 'Crd'.
-/
import Derived.Test.YtbfdpibjicjagaaGreatDoorGTa
import Derived.Test.YtbfdpibjicjagaaGreatDoorGImg
import Derived.Test.YtbfdpibjicjagaaGreatDoorGSl
import Derived.Test.YtbfdpibjicjagaaGreatDoorGGm
import Derived.Deep.RegionHeld3
set_option maxRecDepth 100000
namespace Go.Proofs.YtbfdpibjicjagaaGreatDoor.lrc
open Go.RowKit Go.Lib
open Go.Proofs.YtbfdpibjicjagaaGreatDoor.pck (le num le_length num_le num_one)
structure Rcd where
 kd : Int
 sq : Int
 ep : Int
 ps : Int
 nm : Int
 z : Int
 wh : Int
 l : List UInt8
theorem Rcd.eq_of {r q : Rcd} (h0 : r.kd = q.kd) (h1 : r.sq = q.sq) (h2 : r.ep = q.ep) (h3 : r.ps = q.ps) (h4 : r.nm = q.nm) (h5 : r.z = q.z) (h6 : r.wh = q.wh) (h7 : r.l = q.l) : r = q := by
 cases r
 cases q
 simp only at h0 h1 h2 h3 h4 h5 h6 h7
 subst h0 h1 h2 h3 h4 h5 h6 h7
 rfl
def noRec : Rcd := ⟨0, 0, 0, 0, 0, 0, 0, []⟩
def ImOk (z d : Int) (zn wh : Int) (l : List UInt8) : Prop := (0 ≤ zn ∧ zn ≤ z - 1) ∧ ((wh = 255 ∧ tbl.Told d l) ∨ (wh ≠ 255 ∧ (-1 ≤ wh ∧ wh ≤ d - 1) ∧ l.length = 8))
def None8 (r : Rcd) : Prop := r.z = 0 ∧ r.wh = 0 ∧ r.l = []
def Head (r : Rcd) : Prop := (0 ≤ r.sq ∧ r.sq ≤ 4294967295) ∧ (0 ≤ r.ep ∧ r.ep ≤ 4294967295) ∧ (2 ≤ r.nm ∧ r.nm ≤ 30)
def RecOk (z d : Int) (r : Rcd) : Prop :=
 (r.kd = 0 ∧ r.sq = 0 ∧ r.ep = 0 ∧ r.ps = 0 ∧ r.nm = 0 ∧ None8 r) ∨ (Head r ∧ r.kd = 2 ∧ r.ps = r.nm - 1 ∧ None8 r) ∨ (Head r ∧ r.kd = 1 ∧ (0 ≤ r.ps ∧ r.ps ≤ r.nm - 2) ∧ ImOk z d r.z r.wh r.l)
def whB (wh : Int) : Nat := if wh = -1 then 254 else wh.toNat
def whI (n : Nat) : Int := if n = 254 then -1 else n
def headB (r : Rcd) : List UInt8 := le 1 r.kd.toNat ++ (le 4 r.sq.toNat ++ (le 4 r.ep.toNat ++ (le 1 r.ps.toNat ++ le 1 r.nm.toNat)))
def imgB (r : Rcd) : List UInt8 := le 1 r.z.toNat ++ (le 1 (whB r.wh) ++ (le 1 r.l.length ++ r.l))
def encR (r : Rcd) : List UInt8 := headB r ++ (if r.kd = 1 then imgB r else [])
def at1 (b : List UInt8) (k : Nat) : Nat := num ((b.drop k).take 1)
def at4 (b : List UInt8) (k : Nat) : Nat := num ((b.drop k).take 4)
def recN (b : List UInt8) : Rcd := if at1 b 0 = 1 then ⟨at1 b 0, at4 b 1, at4 b 5, at1 b 9, at1 b 10, at1 b 11, whI (at1 b 12), b.drop 14⟩ else ⟨at1 b 0, at4 b 1, at4 b 5, at1 b 9, at1 b 10, 0, 0, []⟩
def LenOk (b : List UInt8) : Prop := 11 ≤ b.length ∧ ((at1 b 0 = 1 ∧ 14 ≤ b.length ∧ b.length = 14 + at1 b 13) ∨ (at1 b 0 ≠ 1 ∧ b.length = 11))
def RdOk (z d : Int) (b : List UInt8) : Prop := LenOk b ∧ RecOk z d (recN b)
theorem headB_length (r : Rcd) : (headB r).length = 11 := by unfold headB; simp [le_length]
theorem imgB_length (r : Rcd) : (imgB r).length = 3 + r.l.length := by unfold imgB; simp [le_length]; omega
theorem encR_length (r : Rcd) : (encR r).length = if r.kd = 1 then 14 + r.l.length else 11 := by
 unfold encR
 split
 ·rw [List.length_append, headB_length, imgB_length]; omega
 ·simp [headB_length]
theorem piece {a m c : List UInt8} {k n : Nat} (ha : a.length = k) (hm : m.length = n) : ((a ++ (m ++ c)).drop k).take n = m := by
 subst ha hm
 rw [List.drop_left, List.take_left]
theorem at1_of {a c : List UInt8} {k n : Nat} (ha : a.length = k) (hn : n < 256) : at1 (a ++ (le 1 n ++ c)) k = n := by
 unfold at1
 rw [piece ha (le_length 1 n), num_le 1 n (by omega)]
theorem at4_of {a c : List UInt8} {k n : Nat} (ha : a.length = k) (hn : n < 4294967296) : at4 (a ++ (le 4 n ++ c)) k = n := by
 unfold at4
 rw [piece ha (le_length 4 n), num_le 4 n (by omega)]
section
variable {r : Rcd} (X : List UInt8)
theorem h_eq : headB r ++ X = [] ++ (le 1 r.kd.toNat ++ (le 4 r.sq.toNat ++ (le 4 r.ep.toNat ++ (le 1 r.ps.toNat ++ (le 1 r.nm.toNat ++ X))))) := by unfold headB; simp
theorem at_kd (h : r.kd.toNat < 256) : at1 (headB r ++ X) 0 = r.kd.toNat := by rw [h_eq]; exact at1_of rfl h
theorem at_sq (h : r.sq.toNat < 4294967296) : at4 (headB r ++ X) 1 = r.sq.toNat := by
 rw [show headB r ++ X = (le 1 r.kd.toNat) ++ (le 4 r.sq.toNat ++ (le 4 r.ep.toNat ++ (le 1 r.ps.toNat ++ (le 1 r.nm.toNat ++ X)))) by unfold headB; simp]
 exact at4_of (by simp [le_length]) h
theorem at_ep (h : r.ep.toNat < 4294967296) : at4 (headB r ++ X) 5 = r.ep.toNat := by
 rw [show headB r ++ X = (le 1 r.kd.toNat ++ le 4 r.sq.toNat) ++ (le 4 r.ep.toNat ++ (le 1 r.ps.toNat ++ (le 1 r.nm.toNat ++ X))) by unfold headB; simp]
 exact at4_of (by simp [le_length]) h
theorem at_ps (h : r.ps.toNat < 256) : at1 (headB r ++ X) 9 = r.ps.toNat := by
 rw [show headB r ++ X = (le 1 r.kd.toNat ++ (le 4 r.sq.toNat ++ le 4 r.ep.toNat)) ++ (le 1 r.ps.toNat ++ (le 1 r.nm.toNat ++ X)) by unfold headB; simp]
 exact at1_of (by simp [le_length]) h
theorem at_nm (h : r.nm.toNat < 256) : at1 (headB r ++ X) 10 = r.nm.toNat := by
 rw [show headB r ++ X = (le 1 r.kd.toNat ++ (le 4 r.sq.toNat ++ (le 4 r.ep.toNat ++ le 1 r.ps.toNat))) ++ (le 1 r.nm.toNat ++ X) by unfold headB; simp]
 exact at1_of (by simp [le_length]) h
theorem at_z (h : r.z.toNat < 256) : at1 (headB r ++ imgB r) 11 = r.z.toNat := at1_of (headB_length r) h
theorem at_wh (h : whB r.wh < 256) : at1 (headB r ++ imgB r) 12 = whB r.wh := by
 rw [show headB r ++ imgB r = (headB r ++ le 1 r.z.toNat) ++ (le 1 (whB r.wh) ++ (le 1 r.l.length ++ r.l)) by unfold imgB; simp]
 exact at1_of (by simp [le_length, headB_length]) h
theorem at_len (h : r.l.length < 256) : at1 (headB r ++ imgB r) 13 = r.l.length := by
 rw [show headB r ++ imgB r = (headB r ++ (le 1 r.z.toNat ++ le 1 (whB r.wh))) ++ (le 1 r.l.length ++ r.l) by unfold imgB; simp]
 exact at1_of (by simp [le_length, headB_length]) h
theorem at_l : (headB r ++ imgB r).drop 14 = r.l := by
 rw [show headB r ++ imgB r = (headB r ++ (le 1 r.z.toNat ++ (le 1 (whB r.wh) ++ le 1 r.l.length))) ++ r.l by unfold imgB; simp]
 exact List.drop_left' (by simp [le_length, headB_length])
end
theorem whI_whB {wh d : Int} (hd : d ≤ 4) (h : wh = 255 ∨ (-1 ≤ wh ∧ wh ≤ d - 1)) : whI (whB wh) = wh ∧ whB wh < 256 := by
 unfold whI whB
 by_cases h1 : wh = -1
 ·rw [if_pos h1, if_pos rfl]
  exact ⟨h1.symm, by decide⟩
 ·rw [if_neg h1, if_neg (by omega)]
  omega
theorem imOk_len {z d zn wh : Int} {l : List UInt8} (h : ImOk z d zn wh l) (hd : 1 ≤ d ∧ d ≤ 4) : l.length ≤ 45 ∧ 8 ≤ l.length := by
 rcases h.2 with ⟨-, h2⟩ | ⟨-, -, h2⟩
 ·have := h2.1; omega
 ·omega
theorem imOk_wh {z d zn wh : Int} {l : List UInt8} (h : ImOk z d zn wh l) : wh = 255 ∨ (-1 ≤ wh ∧ wh ≤ d - 1) := by
 rcases h.2 with ⟨h1, -⟩ | ⟨-, h1, -⟩
 ·exact .inl h1
 ·exact .inr h1
theorem recOk_len {z d : Int} {r : Rcd} (h : RecOk z d r) (hd : 1 ≤ d ∧ d ≤ 4) : r.l.length ≤ 45 ∧ (r.kd ≠ 1 → r.l = []) := by
 rcases h with ⟨h0, -, -, -, -, -, -, h3⟩ | ⟨-, h0, -, -, -, h3⟩ | ⟨-, h0, -, h3⟩
 ·rw [h3]; exact ⟨by decide, fun _ => rfl⟩
 ·rw [h3]; exact ⟨by decide, fun _ => rfl⟩
 ·exact ⟨(imOk_len h3 hd).1, fun k => absurd h0 k⟩
theorem encR_short {z d : Int} {r : Rcd} (h : RecOk z d r) (hd : 1 ≤ d ∧ d ≤ 4) : 11 ≤ (encR r).length ∧ (encR r).length ≤ 59 := by
 have := (recOk_len h hd).1
 rw [encR_length]
 split <;> omega
theorem recN_of {z d : Int} {r : Rcd} (h : RecOk z d r) (hz : z ≤ 4) (hd : 1 ≤ d ∧ d ≤ 4) : recN (encR r) = r ∧ LenOk (encR r) := by
 have hl := encR_length r
 rcases h with ⟨h0, h1, h2, h3, h4, h5, h6, h7⟩ | ⟨⟨g1, g2, g3⟩, h0, h1, h5, h6, h7⟩ | ⟨⟨g1, g2, g3⟩, h0, h1, h2⟩
 ·have hk : ¬ r.kd = 1 := by omega
  have he : encR r = headB r ++ [] := by unfold encR; rw [if_neg hk]
  rw [if_neg hk] at hl
  have a0 := at_kd (r := r) [] (by omega)
  have a1 := at_sq (r := r) [] (by omega)
  have a2 := at_ep (r := r) [] (by omega)
  have a3 := at_ps (r := r) [] (by omega)
  have a4 := at_nm (r := r) [] (by omega)
  rw [← he] at a0 a1 a2 a3 a4
  refine ⟨?_, by omega, .inr ⟨by omega, hl⟩⟩
  unfold recN
  rw [if_neg (by omega)]
  refine Rcd.eq_of ?_ ?_ ?_ ?_ ?_ h5.symm h6.symm h7.symm <;> simp only <;> omega
 ·have hk : ¬ r.kd = 1 := by omega
  have he : encR r = headB r ++ [] := by unfold encR; rw [if_neg hk]
  rw [if_neg hk] at hl
  have a0 := at_kd (r := r) [] (by omega)
  have a1 := at_sq (r := r) [] (by omega)
  have a2 := at_ep (r := r) [] (by omega)
  have a3 := at_ps (r := r) [] (by omega)
  have a4 := at_nm (r := r) [] (by omega)
  rw [← he] at a0 a1 a2 a3 a4
  refine ⟨?_, by omega, .inr ⟨by omega, hl⟩⟩
  unfold recN
  rw [if_neg (by omega)]
  refine Rcd.eq_of ?_ ?_ ?_ ?_ ?_ h5.symm h6.symm h7.symm <;> simp only <;> omega
 ·have he : encR r = headB r ++ imgB r := by unfold encR; rw [if_pos h0]
  rw [if_pos h0] at hl
  have hil := imOk_len h2 hd
  have hz0 := h2.1
  obtain ⟨w1, w2⟩ := whI_whB hd.2 (imOk_wh h2)
  have a0 := at_kd (r := r) (imgB r) (by omega)
  have a1 := at_sq (r := r) (imgB r) (by omega)
  have a2 := at_ep (r := r) (imgB r) (by omega)
  have a3 := at_ps (r := r) (imgB r) (by omega)
  have a4 := at_nm (r := r) (imgB r) (by omega)
  have a5 := at_z (r := r) (by omega)
  have a6 := at_wh (r := r) w2
  have a7 := at_len (r := r) (by omega)
  have a8 := at_l (r := r)
  rw [← he] at a0 a1 a2 a3 a4 a5 a6 a7 a8
  refine ⟨?_, by omega, .inl ⟨by omega, by omega, by omega⟩⟩
  unfold recN
  rw [if_pos (by omega)]
  refine Rcd.eq_of ?_ ?_ ?_ ?_ ?_ ?_ ?_ ?_ <;> simp only
  any_goals omega
  all_goals first | rw [a6, w1] | exact a8
theorem rdOk_of {z d : Int} {r : Rcd} (h : RecOk z d r) (hz : z ≤ 4) (hd : 1 ≤ d ∧ d ≤ 4) : RdOk z d (encR r) := by
 obtain ⟨h1, h2⟩ := recN_of h hz hd
 exact ⟨h2, by rw [h1]; exact h⟩
end Go.Proofs.YtbfdpibjicjagaaGreatDoor.lrc
namespace Go.Proofs.YtbfdpibjicjagaaGreatDoor.lrc
open Go.RowKit Go.Lib
open Go.Proofs.YtbfdpibjicjagaaGreatDoor.anc (bl kal kst ks bm ka flat_get flat_len slv_cell)
open Go.Proofs.YtbfdpibjicjagaaGreatDoor.img
structure RcR where
 kd : Int
 sq : Int
 ep : Int
 ps : Int
 nm : Int
 i : ImR
def RcR.vs (r : RcR) : List Value := [.int .i64 r.kd, .int .i64 r.sq, .int .i64 r.ep, .int .i64 r.ps, .int .i64 r.nm, .int .i64 r.i.z, .int .i64 r.i.wh, .slice r.i.A r.i.l.length r.i.c]
def RcR.d (r : RcR) : Rcd := ⟨r.kd, r.sq, r.ep, r.ps, r.nm, r.i.z, r.i.wh, r.i.l⟩
def rvs (rs : List RcR) : List Value := rs.flatMap RcR.vs
def rds (rs : List RcR) : List Rcd := rs.map RcR.d
theorem rvs_length (rs : List RcR) : (rvs rs).length = rs.length * 8 := flat_len RcR.vs 8 (fun _ => rfl) rs
theorem rds_length (rs : List RcR) : (rds rs).length = rs.length := by simp [rds]
theorem rvs_append (a b : List RcR) : rvs (a ++ b) = rvs a ++ rvs b := by simp [rvs]
theorem rds_append (a b : List RcR) : rds (a ++ b) = rds a ++ rds b := by simp [rds]
def RIn (w : World) (B : Nat) (rs : List RcR) : Prop := ∀ r ∈ rs, BIn w B r.i
section
variable {w w' : World} {B B' : Nat} {rs : List RcR}
theorem RIn.below (h : RIn w B rs) (hb : Below B w w') : RIn w' B rs := fun r hr => (h r hr).below hb
theorem RIn.more (h : RIn w B rs) (hB : B ≤ B') : RIn w B' rs := fun r hr => (h r hr).more hB
theorem RIn.next (h : RIn w w.heap.size rs) (hb : Below w.heap.size w w') : RIn w' w'.heap.size rs := (h.below hb).more hb.size
theorem RIn.nil (w : World) (B : Nat) : RIn w B [] := fun r hr => by cases hr
end
theorem rec_at {w : World} {B k : Nat} {A : Option Addr} {rs : List RcR} (hA : SlV w B A (rvs rs)) (hR : RIn w B rs) (hk : k < rs.length) :
  ∃ b off r, A = some ⟨b, off, none⟩ ∧ b < B ∧ w.cell? ⟨b, off + k * 8, none⟩ = some (.int .i64 r.kd) ∧ w.cell? ⟨b, off + k * 8 + 1, none⟩ = some (.int .i64 r.sq) ∧ w.cell? ⟨b, off + k * 8 + 2, none⟩ = some (.int .i64 r.ep) ∧ w.cell? ⟨b, off + k * 8 + 3, none⟩ = some (.int .i64 r.ps) ∧ w.cell? ⟨b, off + k * 8 + 4, none⟩ = some (.int .i64 r.nm) ∧ w.cell? ⟨b, off + k * 8 + 5, none⟩ = some (.int .i64 r.i.z) ∧ w.cell? ⟨b, off + k * 8 + 6, none⟩ = some (.int .i64 r.i.wh) ∧ w.cell? ⟨b, off + k * 8 + 7, none⟩ = some (.slice r.i.A r.i.l.length r.i.c) ∧ BIn w B r.i ∧ r ∈ rs ∧ rs[k]? = some r ∧ (rds rs)[k]? = some r.d := by
 obtain ⟨b, off, rfl, -, -⟩ := hA (by rw [rvs_length]; omega)
 have g := fun j (hj : j < 8) => flat_get RcR.vs 8 (fun _ => rfl) rs k j hj
 rw [List.getElem?_eq_getElem hk] at g
 have c0 := slv_cell hA (i := k * 8 + 0) (v := .int .i64 rs[k].kd) ((g 0 (by omega)).trans rfl)
 have c1 := slv_cell hA (i := k * 8 + 1) (v := .int .i64 rs[k].sq) ((g 1 (by omega)).trans rfl)
 have c2 := slv_cell hA (i := k * 8 + 2) (v := .int .i64 rs[k].ep) ((g 2 (by omega)).trans rfl)
 have c3 := slv_cell hA (i := k * 8 + 3) (v := .int .i64 rs[k].ps) ((g 3 (by omega)).trans rfl)
 have c4 := slv_cell hA (i := k * 8 + 4) (v := .int .i64 rs[k].nm) ((g 4 (by omega)).trans rfl)
 have c5 := slv_cell hA (i := k * 8 + 5) (v := .int .i64 rs[k].i.z) ((g 5 (by omega)).trans rfl)
 have c6 := slv_cell hA (i := k * 8 + 6) (v := .int .i64 rs[k].i.wh) ((g 6 (by omega)).trans rfl)
 have c7 := slv_cell hA (i := k * 8 + 7) (v := .slice rs[k].i.A rs[k].i.l.length rs[k].i.c) ((g 7 (by omega)).trans rfl)
 have hm := List.getElem_mem hk
 exact ⟨b, off, rs[k], rfl, c0.2, c0.1, c1.1, c2.1, c3.1, c4.1, c5.1, c6.1, c7.1, hR _ hm, hm, List.getElem?_eq_getElem hk, by simp [rds, hk]⟩
structure C8 (W : World) (g : Nat) (a0 a1 a2 a3 a4 a5 a6 a7 : Value) : Prop where
 c0 : W.cell? ⟨g, 0, none⟩ = some a0
 c1 : W.cell? ⟨g, 1, none⟩ = some a1
 c2 : W.cell? ⟨g, 2, none⟩ = some a2
 c3 : W.cell? ⟨g, 3, none⟩ = some a3
 c4 : W.cell? ⟨g, 4, none⟩ = some a4
 c5 : W.cell? ⟨g, 5, none⟩ = some a5
 c6 : W.cell? ⟨g, 6, none⟩ = some a6
 c7 : W.cell? ⟨g, 7, none⟩ = some a7
section
variable {W W' : World} {g : Nat} {a0 a1 a2 a3 a4 a5 a6 a7 : Value}
theorem c8_new (w : World) (a0 a1 a2 a3 a4 a5 a6 a7 : Value) (t : TypeId) : C8 (w.alloc (.cells #[a0, a1, a2, a3, a4, a5, a6, a7] t)) w.heap.size a0 a1 a2 a3 a4 a5 a6 a7 := by
 have h := heap_alloc_new w (.cells #[a0, a1, a2, a3, a4, a5, a6, a7] t)
 constructor <;> (rw [cell_of_row _ _ _ _ _ _ h]; rfl)
theorem C8.keep {B : Nat} (h : C8 W g a0 a1 a2 a3 a4 a5 a6 a7) (hb : Below B W W') (hg : g < B) : C8 W' g a0 a1 a2 a3 a4 a5 a6 a7 := ⟨ks hb hg h.c0, ks hb hg h.c1, ks hb hg h.c2, ks hb hg h.c3, ks hb hg h.c4, ks hb hg h.c5, ks hb hg h.c6, ks hb hg h.c7⟩
theorem C8.apart (h : C8 W g a0 a1 a2 a3 a4 a5 a6 a7) {g' o : Nat} (hne : g ≠ g') (v : Value) : C8 (W.setCell ⟨g', o, none⟩ v) g a0 a1 a2 a3 a4 a5 a6 a7 := by
 have k : ∀ i : Nat, (W.setCell ⟨g', o, none⟩ v).cell? ⟨g, i, none⟩ = W.cell? ⟨g, i, none⟩ := fun i => World.cell?_setCell_other _ _ _ _ (by simp only [ne_eq, Addr.mk.injEq, not_and]; intro q; exact absurd q.symm hne)
 exact ⟨(k 0).trans h.c0, (k 1).trans h.c1, (k 2).trans h.c2, (k 3).trans h.c3, (k 4).trans h.c4, (k 5).trans h.c5, (k 6).trans h.c6, (k 7).trans h.c7⟩
end
end Go.Proofs.YtbfdpibjicjagaaGreatDoor.lrc
namespace Go.Proofs.YtbfdpibjicjagaaGreatDoor.lrc
open Go.RowKit Go.Lib
open Go.Proofs.YtbfdpibjicjagaaGreatDoor.gmt (Ok)
open Go.Proofs.YtbfdpibjicjagaaGreatDoor.anc (bl kal kst ks bm ka)
open Go.Proofs.YtbfdpibjicjagaaGreatDoor.tbl (C1 c1_new G5 g5_new)
open Go.Proofs.YtbfdpibjicjagaaGreatDoor.img
def BytR (base : Nat) (b : List UInt8) (e : Ending) (w' : World) : Prop := ∃ (X : Option Addr) (c : Nat), e = .returned (.tuple #[.slice X b.length c, .int .i64 0]) ∧ Own w' base 5 (.slice X b.length c) b
def RdR (base : Nat) (r : Rcd) (e : Ending) (w' : World) : Prop := ∃ (X : Option Addr) (c : Nat), e = .returned (.tuple #[.agg #[.int .i64 r.kd, .int .i64 r.sq, .int .i64 r.ep, .int .i64 r.ps, .int .i64 r.nm, .int .i64 r.z, .int .i64 r.wh, .slice X r.l.length c], .int .i64 0]) ∧ Own w' base 5 (.slice X r.l.length c) r.l
def RdNo (v : Int) (e : Ending) : Prop := ∃ (X : Option Addr) (c : Nat), c ≤ maxLen ∧ e = .returned (.tuple #[.agg #[.int .i64 0, .int .i64 0, .int .i64 0, .int .i64 0, .int .i64 0, .int .i64 0, .int .i64 0, .slice X 0 c], .int .i64 v])
def RdWhy (z d s l a : Int) (b : List UInt8) (v : Int) : Prop := (¬ Ok z d s l a ∧ v = 1) ∨ (Ok z d s l a ∧ ¬ RdOk z d b ∧ v = 4)
structure RV where
 A : Option Addr
 c : Nat
 rs : List RcR
structure RV.In (w : World) (B : Nat) (g : RV) : Prop where
 h : SlV w B g.A (rvs g.rs)
 i : RIn w B g.rs
 l : g.rs.length ≤ g.c ∧ g.c ≤ maxLen
section
variable {w w' : World} {B B' : Nat} {g : RV}
theorem RV.In.below (h : RV.In w B g) (hb : Below B w w') : RV.In w' B g := ⟨h.h.below hb, h.i.below hb, h.l⟩
theorem RV.In.more (h : RV.In w B g) (hB : B ≤ B') : RV.In w B' g := ⟨h.h.more hB, h.i.more hB, h.l⟩
theorem RV.In.next (h : RV.In w w.heap.size g) (hb : Below w.heap.size w w') : RV.In w' w'.heap.size g := (h.below hb).more hb.size
end
def NumOk (n : Int) : Prop := 0 ≤ n ∧ n ≤ 4294967295
def imgR (sq ep : Int) (n : Nat) (ds : List (Int × Int × List UInt8)) (i : Nat) : Rcd :=
 match ds[i]? with
 | some x => ⟨1, sq, ep, i, (n : Int) + 1, x.1, x.2.1, x.2.2⟩
 | none => noRec
def txnR (sq ep : Int) (ds : List (Int × Int × List UInt8)) : List Rcd := (List.range ds.length).map (imgR sq ep ds.length ds) ++ [⟨2, sq, ep, ds.length, (ds.length : Int) + 1, 0, 0, []⟩]
theorem txnR_length (sq ep : Int) (ds : List (Int × Int × List UInt8)) : (txnR sq ep ds).length = ds.length + 1 := by simp [txnR]
def ImsOk (z d : Int) (ds : List (Int × Int × List UInt8)) : Prop := ∀ x ∈ ds, ImOk z d x.1 x.2.1 x.2.2
def TxR (sq ep : Int) (ds : List (Int × Int × List UInt8)) (e : Ending) (w' : World) : Prop := ∃ (A : Option Addr) (c : Nat) (rs : List RcR), e = .returned (.tuple #[.slice A (ds.length + 1 : Nat) c, .int .i64 0]) ∧ rds rs = txnR sq ep ds ∧ RV.In w' w'.heap.size ⟨A, c, rs⟩
def SlotOk (l cp sl : Int) : Prop := (cp = 0 ∨ cp = 1) ∧ 0 ≤ sl ∧ sl ≤ l - 1
def cellN (l a cp sl : Int) : Nat := (a + cp * l + sl).toNat
end Go.Proofs.YtbfdpibjicjagaaGreatDoor.lrc
namespace Go.Proofs.YtbfdpibjicjagaaGreatDoor.lrc
open Go.RowKit Go.Lib
open Go.Proofs.YtbfdpibjicjagaaGreatDoor.anc (bl kal kst ks bm ka take_same take_other)
open Go.Proofs.YtbfdpibjicjagaaGreatDoor.img
end Go.Proofs.YtbfdpibjicjagaaGreatDoor.lrc
namespace Go.Proofs.YtbfdpibjicjagaaGreatDoor.lrc
open Go.RowKit Go.Lib
open Go.Proofs.YtbfdpibjicjagaaGreatDoor.gmt (Ok)
open Go.Proofs.YtbfdpibjicjagaaGreatDoor.anc (bl kal kst ks bm ka)
open Go.Proofs.YtbfdpibjicjagaaGreatDoor.tbl (C1 c1_new G5 g5_new)
open Go.Proofs.YtbfdpibjicjagaaGreatDoor.img
theorem in15 (b : Bool) (n lo hi : Int) (w : World) (hb : b = true ↔ lo ≤ n ∧ n ≤ hi) :
  Calls Tryz.prog 44 #[.int .i64 n, .int .i64 lo, .int .i64 hi] w fun e w' => e = .returned (.bool b) ∧ w = w' := by
 by_cases h1 : lo ≤ n
 ·by_cases h2 : n ≤ hi
  ·obtain rfl : b = true := hb.2 ⟨h1, h2⟩
   clear hb
   go_enter Tryz.func44, Tryz.ntmps44
   go_wp2
   go_ret
   exact ⟨rfl, rfl⟩
  ·obtain rfl : b = false := by
    cases b
    ·rfl
    ·exact absurd (hb.1 rfl).2 h2
   clear hb
   go_enter Tryz.func44, Tryz.ntmps44
   go_wp2
   go_ret
   exact ⟨rfl, rfl⟩
 ·obtain rfl : b = false := by
   cases b
   ·rfl
   ·exact absurd (hb.1 rfl).1 h1
  clear hb
  go_enter Tryz.func44, Tryz.ntmps44
  go_wp2
  go_ret
  exact ⟨rfl, rfl⟩
end Go.Proofs.YtbfdpibjicjagaaGreatDoor.lrc
namespace Go.Proofs.YtbfdpibjicjagaaGreatDoor.lrc
open Go.RowKit Go.Lib
open Go.Proofs.YtbfdpibjicjagaaGreatDoor.gmt (Ok)
open Go.Proofs.YtbfdpibjicjagaaGreatDoor.anc (bl kal kst ks bm ka)
open Go.Proofs.YtbfdpibjicjagaaGreatDoor.tbl (C1 c1_new G5 g5_new)
open Go.Proofs.YtbfdpibjicjagaaGreatDoor.img
theorem own_bytes {w : World} {base n c : Nat} {e : TypeId} {X : Option Addr} {l : List UInt8} (h : Own w base e (.slice X n c) l) : l.length = n ∧ n ≤ c ∧ c ≤ maxLen ∧ Sl w w.heap.size X l := by
 obtain ⟨Y, y, hv, h1, h2, h3, -⟩ := h.form
 simp only [Value.slice.injEq] at hv
 obtain ⟨rfl, rfl, rfl⟩ := hv
 exact ⟨rfl, h1, h2, h3⟩
end Go.Proofs.YtbfdpibjicjagaaGreatDoor.lrc
namespace Go.Proofs.YtbfdpibjicjagaaGreatDoor.lrc
open Go.RowKit Go.Lib
open Go.Proofs.YtbfdpibjicjagaaGreatDoor.gmt (Ok)
open Go.Proofs.YtbfdpibjicjagaaGreatDoor.anc (bl kal kst ks bm ka)
open Go.Proofs.YtbfdpibjicjagaaGreatDoor.tbl (C1 c1_new G5 g5_new)
open Go.Proofs.YtbfdpibjicjagaaGreatDoor.img
structure F8 (W : World) (g : Nat) (a0 a1 a2 a3 a4 a5 a6 a7 : Value) : Prop where
 c : C8 W g a0 a1 a2 a3 a4 a5 a6 a7
 f : ∀ o, W.frozen? ⟨g, o, none⟩ = false
theorem cell_x {W : World} {g o o' : Nat} (v : Value) (h : o' ≠ o) : (W.setCell ⟨g, o, none⟩ v).cell? ⟨g, o', none⟩ = W.cell? ⟨g, o', none⟩ := World.cell?_setCell_other _ _ _ _ (by simp only [ne_eq, Addr.mk.injEq, not_and]; intro _ k; exact absurd k.symm h)
theorem C8.set0 {W : World} {g : Nat} {a0 a1 a2 a3 a4 a5 a6 a7 : Value} (h : C8 W g a0 a1 a2 a3 a4 a5 a6 a7) (v : Value) : C8 (W.setCell ⟨g, 0, none⟩ v) g v a1 a2 a3 a4 a5 a6 a7 := ⟨World.cell?_setCell_same _ _ _ h.c0, (cell_x v (by decide)).trans h.c1, (cell_x v (by decide)).trans h.c2, (cell_x v (by decide)).trans h.c3, (cell_x v (by decide)).trans h.c4, (cell_x v (by decide)).trans h.c5, (cell_x v (by decide)).trans h.c6, (cell_x v (by decide)).trans h.c7⟩
theorem C8.set3 {W : World} {g : Nat} {a0 a1 a2 a3 a4 a5 a6 a7 : Value} (h : C8 W g a0 a1 a2 a3 a4 a5 a6 a7) (v : Value) : C8 (W.setCell ⟨g, 3, none⟩ v) g a0 a1 a2 v a4 a5 a6 a7 := ⟨(cell_x v (by decide)).trans h.c0, (cell_x v (by decide)).trans h.c1, (cell_x v (by decide)).trans h.c2, World.cell?_setCell_same _ _ _ h.c3, (cell_x v (by decide)).trans h.c4, (cell_x v (by decide)).trans h.c5, (cell_x v (by decide)).trans h.c6, (cell_x v (by decide)).trans h.c7⟩
theorem C8.set4 {W : World} {g : Nat} {a0 a1 a2 a3 a4 a5 a6 a7 : Value} (h : C8 W g a0 a1 a2 a3 a4 a5 a6 a7) (v : Value) : C8 (W.setCell ⟨g, 4, none⟩ v) g a0 a1 a2 a3 v a5 a6 a7 := ⟨(cell_x v (by decide)).trans h.c0, (cell_x v (by decide)).trans h.c1, (cell_x v (by decide)).trans h.c2, (cell_x v (by decide)).trans h.c3, World.cell?_setCell_same _ _ _ h.c4, (cell_x v (by decide)).trans h.c5, (cell_x v (by decide)).trans h.c6, (cell_x v (by decide)).trans h.c7⟩
theorem C8.set5 {W : World} {g : Nat} {a0 a1 a2 a3 a4 a5 a6 a7 : Value} (h : C8 W g a0 a1 a2 a3 a4 a5 a6 a7) (v : Value) : C8 (W.setCell ⟨g, 5, none⟩ v) g a0 a1 a2 a3 a4 v a6 a7 := ⟨(cell_x v (by decide)).trans h.c0, (cell_x v (by decide)).trans h.c1, (cell_x v (by decide)).trans h.c2, (cell_x v (by decide)).trans h.c3, (cell_x v (by decide)).trans h.c4, World.cell?_setCell_same _ _ _ h.c5, (cell_x v (by decide)).trans h.c6, (cell_x v (by decide)).trans h.c7⟩
theorem C8.set6 {W : World} {g : Nat} {a0 a1 a2 a3 a4 a5 a6 a7 : Value} (h : C8 W g a0 a1 a2 a3 a4 a5 a6 a7) (v : Value) : C8 (W.setCell ⟨g, 6, none⟩ v) g a0 a1 a2 a3 a4 a5 v a7 := ⟨(cell_x v (by decide)).trans h.c0, (cell_x v (by decide)).trans h.c1, (cell_x v (by decide)).trans h.c2, (cell_x v (by decide)).trans h.c3, (cell_x v (by decide)).trans h.c4, (cell_x v (by decide)).trans h.c5, World.cell?_setCell_same _ _ _ h.c6, (cell_x v (by decide)).trans h.c7⟩
theorem C8.set7 {W : World} {g : Nat} {a0 a1 a2 a3 a4 a5 a6 a7 : Value} (h : C8 W g a0 a1 a2 a3 a4 a5 a6 a7) (v : Value) : C8 (W.setCell ⟨g, 7, none⟩ v) g a0 a1 a2 a3 a4 a5 a6 v := ⟨(cell_x v (by decide)).trans h.c0, (cell_x v (by decide)).trans h.c1, (cell_x v (by decide)).trans h.c2, (cell_x v (by decide)).trans h.c3, (cell_x v (by decide)).trans h.c4, (cell_x v (by decide)).trans h.c5, (cell_x v (by decide)).trans h.c6, World.cell?_setCell_same _ _ _ h.c7⟩
section
variable {z d : Int} {x : ImR}
end
end Go.Proofs.YtbfdpibjicjagaaGreatDoor.lrc
