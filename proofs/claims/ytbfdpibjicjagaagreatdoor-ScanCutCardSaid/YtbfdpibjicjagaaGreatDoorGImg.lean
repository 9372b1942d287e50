/-
  Images of a zone: as plain data, and as they lie in memory (a row of images of three values each, an image's bytes a row of bytes). Conditions: each law's own.
  casematekeep.Image, casematekeep.Images: whether two images, two rows of images are the same. Conditions: rows and byte strings shorter than 2^20.
  Images of one's own. Conditions: each theorem's own.
-/
import Derived.Test.YtbfdpibjicjagaaGreatDoorGAn
import Derived.Test.YtbfdpibjicjagaaGreatDoorKeep
import Derived.Deep.RegionHeld3
import Derived.Deep.QuietTactic
import Derived.BigQuiet
import Derived.Deep.CutRange
import Derived.Test.YtbfdpibjicjagaaGreatDoorTail
set_option maxHeartbeats 4000000
set_option maxRecDepth 100000
namespace Go.Proofs.YtbfdpibjicjagaaGreatDoor.img
open Go.RowKit Go.Lib
open Go.Proofs.YtbfdpibjicjagaaGreatDoor.anc (flat_get flat_len slv_cell)
structure ImR where
 z : Int
 wh : Int
 A : Option Addr
 c : Nat
 l : List UInt8
def ImR.vs (r : ImR) : List Value := [.int .i64 r.z, .int .i64 r.wh, .slice r.A r.l.length r.c]
def ImR.v (r : ImR) : Value := .agg #[.int .i64 r.z, .int .i64 r.wh, .slice r.A r.l.length r.c]
def ImR.d (r : ImR) : Int × Int × List UInt8 := (r.z, r.wh, r.l)
def ivs (rs : List ImR) : List Value := rs.flatMap ImR.vs
def ids (rs : List ImR) : List (Int × Int × List UInt8) := rs.map ImR.d
theorem ivs_length (rs : List ImR) : (ivs rs).length = rs.length * 3 := flat_len ImR.vs 3 (fun _ => rfl) rs
theorem ids_length (rs : List ImR) : (ids rs).length = rs.length := by simp [ids]
theorem ivs_append (a b : List ImR) : ivs (a ++ b) = ivs a ++ ivs b := by simp [ivs]
theorem ids_append (a b : List ImR) : ids (a ++ b) = ids a ++ ids b := by simp [ids]
def BIn (w : World) (B : Nat) (r : ImR) : Prop := Sl w B r.A r.l ∧ r.l.length ≤ r.c ∧ r.c ≤ maxLen
def IIn (w : World) (B : Nat) (rs : List ImR) : Prop := ∀ r ∈ rs, BIn w B r
section
variable {w w' : World} {B B' : Nat} {r : ImR} {rs : List ImR}
theorem BIn.below (h : BIn w B r) (hb : Below B w w') : BIn w' B r := ⟨h.1.below hb, h.2⟩
theorem BIn.more (h : BIn w B r) (hB : B ≤ B') : BIn w B' r := ⟨h.1.more hB, h.2⟩
theorem BIn.next (h : BIn w w.heap.size r) (hb : Below w.heap.size w w') : BIn w' w'.heap.size r := (h.below hb).more hb.size
theorem IIn.below (h : IIn w B rs) (hb : Below B w w') : IIn w' B rs := fun r hr => (h r hr).below hb
theorem IIn.more (h : IIn w B rs) (hB : B ≤ B') : IIn w B' rs := fun r hr => (h r hr).more hB
theorem IIn.next (h : IIn w w.heap.size rs) (hb : Below w.heap.size w w') : IIn w' w'.heap.size rs := (h.below hb).more hb.size
theorem IIn.append {a b : List ImR} (h : IIn w B a) (k : IIn w B b) : IIn w B (a ++ b) := fun r hr => (List.mem_append.1 hr).elim (h r) (k r)
theorem IIn.nil (w : World) (B : Nat) : IIn w B [] := fun r hr => by cases hr
end
theorem img_at {w : World} {B k : Nat} {A : Option Addr} {rs : List ImR} (hA : SlV w B A (ivs rs)) (hR : IIn w B rs) (hk : k < rs.length) :
  ∃ b off r, A = some ⟨b, off, none⟩ ∧ b < B ∧ w.cell? ⟨b, off + k * 3, none⟩ = some (.int .i64 r.z) ∧ w.cell? ⟨b, off + k * 3 + 1, none⟩ = some (.int .i64 r.wh) ∧ w.cell? ⟨b, off + k * 3 + 2, none⟩ = some (.slice r.A r.l.length r.c) ∧ BIn w B r ∧ r ∈ rs ∧ rs[k]? = some r ∧ (ids rs)[k]? = some r.d := by
 obtain ⟨b, off, rfl, -, -⟩ := hA (by rw [ivs_length]; omega)
 have g := fun j (hj : j < 3) => flat_get ImR.vs 3 (fun _ => rfl) rs k j hj
 rw [List.getElem?_eq_getElem hk] at g
 have c0 := slv_cell hA (i := k * 3 + 0) (v := .int .i64 rs[k].z) ((g 0 (by omega)).trans rfl)
 have c1 := slv_cell hA (i := k * 3 + 1) (v := .int .i64 rs[k].wh) ((g 1 (by omega)).trans rfl)
 have c2 := slv_cell hA (i := k * 3 + 2) (v := .slice rs[k].A rs[k].l.length rs[k].c) ((g 2 (by omega)).trans rfl)
 have hm := List.getElem_mem hk
 exact ⟨b, off, rs[k], rfl, c0.2, c0.1, c1.1, c2.1, hR _ hm, hm, List.getElem?_eq_getElem hk, by simp [ids, hk]⟩
structure IV where
 A : Option Addr
 c : Nat
 rs : List ImR
def IV.v (g : IV) : Value := .slice g.A g.rs.length g.c
structure IV.In (w : World) (B : Nat) (g : IV) : Prop where
 h : SlV w B g.A (ivs g.rs)
 i : IIn w B g.rs
 l : g.rs.length ≤ g.c ∧ g.c ≤ maxLen
section
variable {w w' : World} {B B' : Nat} {g : IV}
theorem IV.In.below (h : IV.In w B g) (hb : Below B w w') : IV.In w' B g := ⟨h.h.below hb, h.i.below hb, h.l⟩
theorem IV.In.more (h : IV.In w B g) (hB : B ≤ B') : IV.In w B' g := ⟨h.h.more hB, h.i.more hB, h.l⟩
theorem IV.In.next (h : IV.In w w.heap.size g) (hb : Below w.heap.size w w') : IV.In w' w'.heap.size g := (h.below hb).more hb.size
end
end Go.Proofs.YtbfdpibjicjagaaGreatDoor.img
namespace Go.Proofs.YtbfdpibjicjagaaGreatDoor.img
open Go.RowKit Go.Lib
open Go.Proofs.YtbfdpibjicjagaaGreatDoor.anc (bl kal kst ks bm ka take_same take_other)
def IShort (n : Nat) (rs : List ImR) : Prop := ∀ r ∈ rs, r.l.length ≤ n
theorem keep_bin (r r' : ImR) (W : World) (h : BIn W W.heap.size r) (h' : BIn W W.heap.size r') (hl : r.l.length ≤ 1048576) :
  Calls Tryz.prog 27 #[.slice r.A r.l.length r.c, .slice r'.A r'.l.length r'.c] W fun e w' => e = .returned (.bool (decide (r.l = r'.l))) ∧ Below W.heap.size W w' :=
 keep_any _ _ _ _ _ _ _ _ W h.1 h'.1 (Nat.le_refl _) (Nat.le_refl _) hl
structure C3 (W : World) (g : Nat) (a b c : Value) : Prop where
 c0 : W.cell? ⟨g, 0, none⟩ = some a
 c1 : W.cell? ⟨g, 1, none⟩ = some b
 c2 : W.cell? ⟨g, 2, none⟩ = some c
theorem c3_new (w : World) (a b c : Value) (t : TypeId) : C3 (w.alloc (.cells #[a, b, c] t)) w.heap.size a b c := by
 have h := heap_alloc_new w (.cells #[a, b, c] t)
 refine ⟨?_, ?_, ?_⟩
 ·rw [cell_of_row _ _ 0 _ _ _ h]; rfl
 ·rw [cell_of_row _ _ 1 _ _ _ h]; rfl
 ·rw [cell_of_row _ _ 2 _ _ _ h]; rfl
theorem C3.keep {W W' : World} {B g : Nat} {a b c : Value} (h : C3 W g a b c) (hb : Below B W W') (hg : g < B) : C3 W' g a b c := ⟨ks hb hg h.c0, ks hb hg h.c1, ks hb hg h.c2⟩
theorem img_c (b : Bool) (z wh z' wh' : Int) (A A' : Option Addr) (n n' c c' : Nat) (w : World) (hb : ∀ W, Below w.heap.size w W → Calls Tryz.prog 27 #[.slice A n c, .slice A' n' c'] W fun e w' => e = .returned (.bool b) ∧ Below W.heap.size W w') :
  Calls Tryz.prog 57 #[.agg #[.int .i64 z, .int .i64 wh, .slice A n c], .agg #[.int .i64 z', .int .i64 wh', .slice A' n' c']] w fun e w' => e = .returned (.bool (decide (z = z') && (decide (wh = wh') && b))) ∧ Below w.heap.size w w' := by
 have s1 : (w.alloc (.cells #[.int .i64 z, .int .i64 wh, .slice A n c] 81)).heap.size = w.heap.size + 1 := by simp
 have hx2 := bl (w.alloc (.cells #[.int .i64 z, .int .i64 wh, .slice A n c] 81)) (.cells #[.int .i64 z', .int .i64 wh', .slice A' n' c'] 81)
 have XX := (c3_new w (.int .i64 z) (.int .i64 wh) (.slice A n c) 81).keep hx2 (by simp)
 have YY := c3_new (w.alloc (.cells #[.int .i64 z, .int .i64 wh, .slice A n c] 81)) (.int .i64 z') (.int .i64 wh') (.slice A' n' c') 81
 rw [s1] at YY
 have hw := kal (bl w (.cells #[.int .i64 z, .int .i64 wh, .slice A n c] 81)) (.cells #[.int .i64 z', .int .i64 wh', .slice A' n' c'] 81)
 have HB := Lib.hid hb
 clear s1 hx2 hb
 go_enter Tryz.func57, Tryz.ntmps57
 go_upto_region 1 with fail
 generalize ((w.alloc (.cells #[.int .i64 z, .int .i64 wh, .slice A n c] 81)).alloc (.cells #[.int .i64 z', .int .i64 wh', .slice A' n' c'] 81)) = w0 at *
 obtain ⟨x0, x1, x2⟩ := id XX
 obtain ⟨y0, y1, y2⟩ := id YY
 by_cases h1 : z = z'
 case neg =>
  have q : (z == z') = false := beq_eq_false_iff_ne.2 h1
  have H : Hid (decide (z = z') = false) := Lib.hid (decide_eq_false h1)
  clear h1
  go_wp2_with fail
  go_ret
  exact ⟨by rw [H.out]; rfl, hw⟩
 have q : (z == z') = true := beq_iff_eq.2 h1
 have H : Hid (decide (z = z') = true) := Lib.hid (decide_eq_true h1)
 clear h1
 by_cases h2 : wh = wh'
 case neg =>
  have q2 : (wh == wh') = false := beq_eq_false_iff_ne.2 h2
  have H2 : Hid (decide (wh = wh') = false) := Lib.hid (decide_eq_false h2)
  clear h2
  go_wp2_with fail
  go_ret
  exact ⟨by rw [H.out, H2.out]; rfl, hw⟩
 have q2 : (wh == wh') = true := beq_iff_eq.2 h2
 have H2 : Hid (decide (wh = wh') = true) := Lib.hid (decide_eq_true h2)
 clear h2
 go_wp2_with (go_at_call 27; (with_reducible refine (HB.out _ hw).mono ?_); rintro e w1 ⟨rfl, hb1⟩)
 go_ret
 exact ⟨by rw [H.out, H2.out]; rfl, bt hw hb1⟩
theorem imgs_long (A A' : Option Addr) (c c' m n : Nat) (w : World) (h : m ≠ n) :
  Calls Tryz.prog 39 #[.slice A m c, .slice A' n c'] w fun e w' => e = .returned (.bool false) ∧ Below w.heap.size w w' := by
 have h2 : ((m : Int) != (n : Int)) = true := bne_iff_ne.2 (by omega)
 go_enter Tryz.func39, Tryz.ntmps39
 go_wp2
 go_ret
 exact ⟨rfl, Below.refl _ _⟩
theorem imgs_short (A A' : Option Addr) (c c' n : Nat) (a b : List ImR) (w : World) (ha : a.length = n) (hb : b.length = n) (hA : SlV w w.heap.size A (ivs a)) (hA' : SlV w w.heap.size A' (ivs b)) (hR : IIn w w.heap.size a) (hR' : IIn w w.heap.size b) (hn : n ≤ 1048576) (hs : IShort 1048576 a) :
  Calls Tryz.prog 39 #[.slice A n c, .slice A' n c'] w fun e w' => e = .returned (.bool (decide (ids a = ids b))) ∧ Below w.heap.size w w' := by
 have hla : (ids a).length = n := by rw [ids_length, ha]
 have hlb : (ids b).length = n := by rw [ids_length, hb]
 have h2 : ((n : Int) != (n : Int)) = false := bne_self_eq_false _
 go_enter Tryz.func39, Tryz.ntmps39
 go_upto_region 4 with fail
 go_loopw [5] (fun i w' => ∃ k : Nat, k ≤ n ∧ i = .int .i64 k ∧ (ids a).take k = (ids b).take k ∧ Below w.heap.size w w') (fun i _ => n - (RowKit.intOf i).toNat)
 case atStart => exact ⟨0, by omega, rfl, rfl, Below.refl _ _⟩
 case round =>
  obtain ⟨w5, rfl⟩ : ∃ x, x = wr := ⟨wr, rfl⟩
  obtain ⟨k, hk, rfl, hs2, hbr⟩ := hrel
  by_cases hlt : k < n
  ·obtain ⟨b1, off, x, rfl, hb1, g0, g1, g2, m1, hx, -, e1⟩ := img_at (hA.below hbr) (hR.below hbr) (show k < a.length by omega)
   obtain ⟨b2, off', y, rfl, hb2, g0', g1', g2', m2, -, -, e2⟩ := img_at (hA'.below hbr) (hR'.below hbr) (show k < b.length by omega)
   have i1 : (k : Int) < (n : Int) := by omega
   have m3 := hs _ hx
   have lw := hbr.size
   obtain ⟨q, hq⟩ : ∃ q : Bool, q = (decide (x.z = y.z) && (decide (x.wh = y.wh) && decide (x.l = y.l))) := ⟨_, rfl⟩
   have cI : ∀ W, Below w5.heap.size w5 W → Calls Tryz.prog 57 #[.agg #[.int .i64 x.z, .int .i64 x.wh, .slice x.A x.l.length x.c], .agg #[.int .i64 y.z, .int .i64 y.wh, .slice y.A y.l.length y.c]] W fun e w' => e = .returned (.bool q) ∧ Below W.heap.size W w' := fun W hW => by
    rw [hq]
    exact img_c _ _ _ _ _ _ _ _ _ _ _ W fun W2 hW2 => keep_bin x y W2 ((m1.more lw).next (bt hW hW2)) ((m2.more lw).next (bt hW hW2)) m3
   have hqd : q = true ↔ x.d = y.d := by
    rw [hq]
    unfold ImR.d
    simp only [Bool.and_eq_true, decide_eq_true_eq, Prod.mk.injEq]
   have H1 : Hid (q = true → (ids a).take (k + 1) = (ids b).take (k + 1)) := fun h => take_same hs2 e1 e2 (hqd.1 h)
   have H2 : Hid (q = false → decide (ids a = ids b) = false) := fun h => decide_eq_false (take_other e1 e2 fun e => by rw [hqd.2 e] at h; cases h)
   have HI := Lib.hid cI
   clear m1 m2 m3 hs2 e1 e2 hA hA' hR hR' hs hla hlb ha hb hx hq hqd h2 cI
   go_upto_region 6 with fail
   go_region_held3 (fun W => W.cell? ⟨b1, off + k * 3, none⟩ = some (.int .i64 x.z) ∧ W.cell? ⟨b1, off + k * 3 + 1, none⟩ = some (.int .i64 x.wh) ∧ W.cell? ⟨b1, off + k * 3 + 2, none⟩ = some (.slice x.A x.l.length x.c) ∧ W.cell? ⟨b2, off' + k * 3, none⟩ = some (.int .i64 y.z) ∧ W.cell? ⟨b2, off' + k * 3 + 1, none⟩ = some (.int .i64 y.wh) ∧ W.cell? ⟨b2, off' + k * 3 + 2, none⟩ = some (.slice y.A y.l.length y.c) ∧ Below w5.heap.size w5 W)
    ((go_split_ands; refine ⟨?_, ?_, ?_, ?_, ?_, ?_, ?_⟩ <;> (first
     | assumption | exact below_dr (Below.refl _ _) | exact bt (by assumption) (by assumption)
     | exact kst (bt (a := w5) (by assumption) (by assumption)) (Nat.lt_of_lt_of_le hb1 lw) (by assumption) | exact kst (bt (a := w5) (by assumption) (by assumption)) (Nat.lt_of_lt_of_le hb2 lw) (by assumption) | fail)))
    (first
     | (go_at_call 57; (with_reducible refine (HI.out _ (by first | assumption | exact below_dr (Below.refl _ _) | exact below_dn (Below.refl _ _) _)).mono ?_); rintro e wx ⟨rfl, hbx⟩)
     | fail)
   have hbw := bt hbr (bt (below_dr (Below.refl _ _)) hbx)
   cases q with
   | true =>
    have H3 := Lib.hid (H1.out rfl)
    clear H1 H2
    go_wp2
    go_roundw
    case rel => exact ⟨k + 1, by omega, by go_num, H3.out, hbw⟩
    case measure => simp [RowKit.intOf]; omega
   | false =>
    have H3 := Lib.hid (H2.out rfl)
    clear H1 H2
    go_wp2
    go_ret
    exact ⟨ret_bool H3.out.symm, hbw⟩
  ·have H : Hid (decide (ids a = ids b) = true) := by
    show decide (ids a = ids b) = true
    rw [List.take_of_length_le (by omega), List.take_of_length_le (by omega)] at hs2
    exact decide_eq_true hs2
   go_wp2
   go_ret
   exact ⟨ret_bool H.out.symm, hbr⟩
theorem imgs_any (A A' : Option Addr) (c c' m n : Nat) (a b : List ImR) (w : World) (ha : a.length = m) (hb : b.length = n) (hA : SlV w w.heap.size A (ivs a)) (hA' : SlV w w.heap.size A' (ivs b)) (hR : IIn w w.heap.size a) (hR' : IIn w w.heap.size b) (hn : m ≤ 1048576) (hs : IShort 1048576 a) :
  Calls Tryz.prog 39 #[.slice A m c, .slice A' n c'] w fun e w' => e = .returned (.bool (decide (ids a = ids b))) ∧ Below w.heap.size w w' := by
 by_cases h : m = n
 ·subst h
  exact imgs_short A A' c c' m a b w ha hb hA hA' hR hR' hn hs
 ·have hf : decide (ids a = ids b) = false := decide_eq_false fun k => h (by have := congrArg List.length k; rw [ids_length, ids_length] at this; omega)
  rw [hf]
  exact imgs_long A A' c c' _ _ w h
end Go.Proofs.YtbfdpibjicjagaaGreatDoor.img
namespace Go.Proofs.YtbfdpibjicjagaaGreatDoor.img
open Go.RowKit Go.Lib
open Go.Proofs.YtbfdpibjicjagaaGreatDoor.anc (bl kal kst ks bm ka row_apart row_form row_below step_row)
def OwnI (w : World) (base : Nat) (v : Value) (rs : List ImR) : Prop :=
 w.ownsRow base 81 3 v rs.length (ivs rs) ∧ ∀ r ∈ rs, Own w base 5 (.slice r.A r.l.length r.c) r.l
theorem u8_img : 5 ≠ 81 := by decide
theorem im_info : (Tryz.prog.info? 81).map (fun i => (i.zero, i.size, i.bytes)) = some (some (.agg #[.int .i64 0, .int .i64 0, .slice none 0 0]), 3, 40) := by kernel_rfl
theorem src_img {P : Program} {w : World} {g : Nat} {t tx e' : TypeId} {a b d : Value} (hg : w.heap[g]? = some (.cells #[a, b, d] t)) (hk : P.underlying tx = some (.slice e')) (h1 : ∀ u ∈ [a, b, d], u.oneCell' = true) : Src P 3 tx (.slice (some ⟨g, 0, none⟩) 1 1) 1 [a, b, d] w := by
 refine Src.ofSlice w hk ⟨g, 0, none⟩ 1 1 [a, b, d] rfl (fun j u hu => ?_) h1
 rw [Addr.add_lit, cell_of_row w g (0 + j) _ t _ hg, Nat.zero_add, ← Array.getElem?_toList]
 exact hu
section
variable {w w' : World} {base : Nat} {v v' : Value} {rs : List ImR}
theorem ownI_nil (w : World) (base : Nat) : OwnI w base (.slice none 0 0) [] := ⟨World.ownsRow_nil w base _ 3, fun r hr => by cases hr⟩
theorem OwnI.below (h : OwnI w base v rs) (hb : Below w.heap.size w w') : OwnI w' base v rs := ⟨row_below h.1 hb, fun r hr => (h.2 r hr).below hb⟩
theorem OwnI.less {base' : Nat} (h : OwnI w base v rs) (hb : base' ≤ base) : OwnI w base' v rs := by
 refine ⟨⟨h.1.1, ?_⟩, fun r hr => (h.2 r hr).less hb⟩
 rcases h.1.2 with k | ⟨g, cap, cur, a, b, c⟩
 ·exact .inl k
 ·exact .inr ⟨g, cap, cur, a, by omega, c⟩
theorem OwnI.more {r : ImR} (h : OwnI w base v rs) (hg : w.grownBy w' v.ownBlock) (hp : Own w base 5 (.slice r.A r.l.length r.c) r.l) (h' : w'.ownsRow base 81 3 v' (rs.length + 1) (ivs rs ++ r.vs)) : OwnI w' base v' (rs ++ [r]) := by
 have hk : ∀ {q : ImR}, Own w base 5 (.slice q.A q.l.length q.c) q.l → Own w' base 5 (.slice q.A q.l.length q.c) q.l := fun hq => hq.kept hg (row_apart hq h.1 u8_img)
 refine ⟨?_, fun x hx => ?_⟩
 ·rw [List.length_append, ivs_append, show ivs [r] = r.vs by simp [ivs]]
  exact h'
 ·rcases List.mem_append.1 hx with k | k
  ·exact hk (h.2 x k)
  ·obtain rfl : x = r := List.mem_singleton.1 k
   exact hk hp
end
theorem OwnI.cell_set {w : World} {base g o : Nat} {v : Value} {rs : List ImR} (h : OwnI w base v rs) (hg : g < base) (x : Value) : OwnI (w.setCell ⟨g, o, none⟩ x) base v rs := by
 have hne : ∀ {e : TypeId} {u : Value} {k n : Nat} {xs : List Value}, w.ownsRow base e k u n xs → u.ownBlock ≠ some g := fun hu k => by have := (World.ownsRow.lt hu g k).1; omega
 exact ⟨ownsRow_setCell_other h.1 (hne h.1) x, fun r hr => ownsRow_setCell_other (h.2 r hr) (hne (h.2 r hr)) x⟩
theorem own_bin {w : World} {base : Nat} {e : TypeId} {r : ImR} (h : Own w base e (.slice r.A r.l.length r.c) r.l) : BIn w w.heap.size r := by
 obtain ⟨A, c, hv, h1, h2, hs, _⟩ := h.form
 simp only [Value.slice.injEq] at hv
 obtain ⟨ha, -, hc⟩ := hv
 exact ⟨by rw [ha]; exact hs, by omega, by omega⟩
theorem ownI_in {w : World} {base c : Nat} {A : Option Addr} {rs : List ImR} (h : OwnI w base (.slice A rs.length c) rs) : SlV w w.heap.size A (ivs rs) ∧ IIn w w.heap.size rs ∧ rs.length ≤ c ∧ c ≤ maxLen := by
 obtain ⟨A', c', hv, h1, h2, hs⟩ := row_form h.1
 simp only [Value.slice.injEq] at hv
 obtain ⟨rfl, -, rfl⟩ := hv
 exact ⟨hs, fun r hr => own_bin (h.2 r hr), h1, h2⟩
def IV.Own (w : World) (base : Nat) (g : IV) : Prop := OwnI w base (.slice g.A g.rs.length g.c) g.rs
theorem IV.Own.inn {w : World} {base : Nat} {g : IV} (h : IV.Own w base g) : g.In w w.heap.size := by
 obtain ⟨h1, h2, h3⟩ := ownI_in h
 exact ⟨h1, h2, h3⟩
end Go.Proofs.YtbfdpibjicjagaaGreatDoor.img
