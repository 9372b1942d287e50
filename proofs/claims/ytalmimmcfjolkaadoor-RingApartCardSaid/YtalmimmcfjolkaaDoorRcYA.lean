/-
  The developers' own isFrom, isNum, isMember, isNone, isImage, Image. Conditions: byte strings shorter than 2^20.
-/
import Derived.Test.YtalmimmcfjolkaaDoorRcP
import Derived.Test.YtalmimmcfjolkaaDoorTbW
import Derived.Test.YtalmimmcfjolkaaDoorGGm
import Derived.Deep.RegionHeld3
import Derived.Deep.QuietTactic
import Derived.BigQuiet
namespace Go.Proofs.YtalmimmcfjolkaaDoor.lrc
open Go.RowKit Go.Lib
open Go.Proofs.YtalmimmcfjolkaaDoor.gmt (Ok)
open Go.Proofs.YtalmimmcfjolkaaDoor.anc (bl kal kst ks bm ka)
open Go.Proofs.YtalmimmcfjolkaaDoor.tbl (C1 c1_new G5 g5_new)
open Go.Proofs.YtalmimmcfjolkaaDoor.img

/-- A member's four cells, a logged record's seven. -/
structure C4 (W : World) (g : Nat) (a0 a1 a2 a3 : Value) : Prop where
  c0 : W.cell? ⟨g, 0, none⟩ = some a0
  c1 : W.cell? ⟨g, 1, none⟩ = some a1
  c2 : W.cell? ⟨g, 2, none⟩ = some a2
  c3 : W.cell? ⟨g, 3, none⟩ = some a3
theorem c4_new (w : World) (a0 a1 a2 a3 : Value) (t : TypeId) : C4 (w.alloc (.cells #[a0, a1, a2, a3] t)) w.heap.size a0 a1 a2 a3 := by
  have h := heap_alloc_new w (.cells #[a0, a1, a2, a3] t)
  constructor <;> (rw [cell_of_row _ _ _ _ _ _ h]; rfl)
theorem C4.keep {W W' : World} {B g : Nat} {a0 a1 a2 a3 : Value} (h : C4 W g a0 a1 a2 a3) (hb : Below B W W') (hg : g < B) : C4 W' g a0 a1 a2 a3 := ⟨ks hb hg h.c0, ks hb hg h.c1, ks hb hg h.c2, ks hb hg h.c3⟩
structure C7 (W : World) (g : Nat) (a0 a1 a2 a3 a4 a5 a6 : Value) : Prop where
  c0 : W.cell? ⟨g, 0, none⟩ = some a0
  c1 : W.cell? ⟨g, 1, none⟩ = some a1
  c2 : W.cell? ⟨g, 2, none⟩ = some a2
  c3 : W.cell? ⟨g, 3, none⟩ = some a3
  c4 : W.cell? ⟨g, 4, none⟩ = some a4
  c5 : W.cell? ⟨g, 5, none⟩ = some a5
  c6 : W.cell? ⟨g, 6, none⟩ = some a6
theorem c7_new (w : World) (a0 a1 a2 a3 a4 a5 a6 : Value) (t : TypeId) : C7 (w.alloc (.cells #[a0, a1, a2, a3, a4, a5, a6] t)) w.heap.size a0 a1 a2 a3 a4 a5 a6 := by
  have h := heap_alloc_new w (.cells #[a0, a1, a2, a3, a4, a5, a6] t)
  constructor <;> (rw [cell_of_row _ _ _ _ _ _ h]; rfl)
theorem C7.keep {W W' : World} {B g : Nat} {a0 a1 a2 a3 a4 a5 a6 : Value} (h : C7 W g a0 a1 a2 a3 a4 a5 a6) (hb : Below B W W') (hg : g < B) : C7 W' g a0 a1 a2 a3 a4 a5 a6 := ⟨ks hb hg h.c0, ks hb hg h.c1, ks hb hg h.c2, ks hb hg h.c3, ks hb hg h.c4, ks hb hg h.c5, ks hb hg h.c6⟩
theorem bool_is (P : Prop) : ∃ b : Bool, b = true ↔ P := by
  by_cases h : P
  · exact ⟨true, iff_of_true rfl h⟩
  · exact ⟨false, iff_of_false Bool.false_ne_true h⟩
theorem bool_no {b : Bool} {P : Prop} (h : b = true ↔ P) (hp : ¬ P) : b = false := by
  cases b
  · rfl
  · exact absurd (h.1 rfl) hp
set_option maxRecDepth 100000 in
theorem from_c (b : Bool) (n lo hi : Int) (w : World) (hb : b = true ↔ lo ≤ n ∧ n ≤ hi) :
    Calls Tryd.prog 56 #[.int .i64 n, .int .i64 lo, .int .i64 hi] w fun e w' => e = .returned (.bool b) ∧ w = w' := by
  by_cases h1 : lo ≤ n
  · by_cases h2 : n ≤ hi
    · obtain rfl : b = true := hb.2 ⟨h1, h2⟩
      clear hb
      go_enter Tryd.func56, Tryd.ntmps56
      go_wp2
      go_ret
      exact ⟨rfl, rfl⟩
    · obtain rfl : b = false := bool_no hb fun h => h2 h.2
      clear hb
      go_enter Tryd.func56, Tryd.ntmps56
      go_wp2
      go_ret
      exact ⟨rfl, rfl⟩
  · obtain rfl : b = false := bool_no hb fun h => h1 h.1
    clear hb
    go_enter Tryd.func56, Tryd.ntmps56
    go_wp2
    go_ret
    exact ⟨rfl, rfl⟩
theorem tab_c (b : Bool) (z d s l a : Int) (A : Option Addr) (n c : Nat) (L : List UInt8) (w : World) (ho : Ok z d s l a) (hx : BIn w w.heap.size ⟨0, 0, A, c, L⟩) (hn : L.length = n) (hn1 : n ≤ 1048576) (hb : b = true ↔ tbl.Told d L) :
    Calls Tryd.prog 57 #[.agg #[.int .i64 z, .int .i64 d, .int .i64 s, .int .i64 l, .int .i64 a], .slice A n c] w fun e w' => (∃ (X : Option Addr) (q x : Nat), e = .returned (.tuple #[.agg #[.slice X q x], .int .i64 (if b = true then 0 else 4)])) ∧ Below w.heap.size w w' := by
  obtain ⟨D, rfl⟩ : ∃ D : Nat, d = D := ⟨d.toNat, by have := ho.2.1; omega⟩
  refine (tbl.tread_any b z s l a D A n c L w ho hn (by rw [← hn]; exact hx.2.1) hx.2.2 hn1 hx.1 hb).mono ?_
  rintro e w' ⟨h, hw⟩
  refine ⟨?_, hw⟩
  unfold tbl.RdR at h
  split at h
  · rename_i hb1
    obtain ⟨t, rfl, -, -⟩ := h
    exact ⟨t.A, t.es.length, t.c, by rw [if_pos hb1]; rfl⟩
  · rename_i hb1
    obtain ⟨t, rfl, -, -⟩ := h
    exact ⟨t.A, t.es.length, t.c, by rw [if_neg hb1]; rfl⟩
set_option maxRecDepth 100000 in
set_option maxHeartbeats 8000000 in
theorem isimg_c (b : Bool) (z d s l a zn wh : Int) (A : Option Addr) (n c : Nat) (L : List UInt8) (w : World) (ho : Ok z d s l a) (hx : BIn w w.heap.size ⟨zn, wh, A, c, L⟩) (hn : L.length = n) (hn1 : n ≤ 1048576) (hb : b = true ↔ ImOk z d zn wh L) :
    Calls Tryd.prog 51 #[.agg #[.int .i64 z, .int .i64 d, .int .i64 s, .int .i64 l, .int .i64 a], .agg #[.int .i64 zn, .int .i64 wh, .slice A n c]] w fun e w' => e = .returned (.bool b) ∧ Below w.heap.size w w' := by
  have s1 : (w.alloc (.cells #[.int .i64 z, .int .i64 d, .int .i64 s, .int .i64 l, .int .i64 a] 23)).heap.size = w.heap.size + 1 := by simp
  have hx2 := bl (w.alloc (.cells #[.int .i64 z, .int .i64 d, .int .i64 s, .int .i64 l, .int .i64 a] 23)) (.cells #[.int .i64 zn, .int .i64 wh, .slice A n c] 56)
  have GG := (g5_new w z d s l a).keep hx2 (by omega)
  have XX := c3_new (w.alloc (.cells #[.int .i64 z, .int .i64 d, .int .i64 s, .int .i64 l, .int .i64 a] 23)) (.int .i64 zn) (.int .i64 wh) (.slice A n c) 56
  rw [s1] at XX
  have hw := kal (bl w (.cells #[.int .i64 z, .int .i64 d, .int .i64 s, .int .i64 l, .int .i64 a] 23)) (.cells #[.int .i64 zn, .int .i64 wh, .slice A n c] 56)
  obtain ⟨b1, hb1⟩ := bool_is (0 ≤ zn ∧ zn ≤ z - 1)
  obtain ⟨b2, hb2⟩ := bool_is (0 ≤ wh ∧ wh ≤ d - 1)
  obtain ⟨b3, hb3⟩ := bool_is (tbl.Told d L)
  have o1 := ho.1
  have o2 := ho.2.1
  have u1 : IntKind.i64.wrap (z - 1) = z - 1 := gmt.w6 _ (by omega) (by omega)
  have u2 : IntKind.i64.wrap (d - 1) = d - 1 := gmt.w6 _ (by omega) (by omega)
  have H1 := Lib.hid fun W => from_c b1 zn 0 (z - 1) W hb1
  have H2 := Lib.hid fun W => from_c b2 wh 0 (d - 1) W hb2
  have H3 := Lib.hid (show ∀ W, Below w.heap.size w W → Calls Tryd.prog 57 #[.agg #[.int .i64 z, .int .i64 d, .int .i64 s, .int .i64 l, .int .i64 a], .slice A n c] W fun e w' => (∃ (X : Option Addr) (q x : Nat), e = .returned (.tuple #[.agg #[.slice X q x], .int .i64 (if b3 = true then 0 else 4)])) ∧ Below W.heap.size W w' from fun W hW => tab_c b3 z d s l a A n c L W ho (hx.next hW) hn hn1 hb3)
  have HB := Lib.hid hb
  have HO := Lib.hid o2
  have HC := Lib.hid (And.intro hb1 (And.intro hb2 (And.intro hb3 hn)))
  clear s1 hx2 hb hb1 hb2 hb3 hn ho hx o1 o2
  go_enter Tryd.func51, Tryd.ntmps51
  go_upto_region 1 with fail
  generalize (w.alloc (.cells #[.int .i64 z, .int .i64 d, .int .i64 s, .int .i64 l, .int .i64 a] 23)).alloc (.cells #[.int .i64 zn, .int .i64 wh, .slice A n c] 56) = w0 at *
  obtain ⟨g0, g1, g2, g3, g4⟩ := id GG
  obtain ⟨x0, x1, x2⟩ := id XX
  cases b1
  · have H : Hid (b = false) := Lib.hid (bool_no HB.out fun h => absurd (HC.out.1.2 h.1) Bool.false_ne_true)
    clear H2 H3
    go_wp2_with (go_at_call 56; (with_reducible refine (H1.out _).mono ?_); rintro e w1 ⟨rfl, rfl⟩)
    go_ret
    exact ⟨ret_bool H.out.symm, hw⟩
  by_cases h255 : wh = 255
  · subst h255
    have H : Hid (b = b3) := Lib.hid (by
      rw [Bool.eq_iff_iff, HB.out, HC.out.2.2.1]
      refine ⟨fun h => ?_, fun h => ⟨HC.out.1.1 rfl, .inl ⟨rfl, h⟩⟩⟩
      rcases h.2 with ⟨-, h9⟩ | ⟨h9, -⟩
      · exact h9
      · exact absurd rfl h9)
    clear H2
    cases b3
    · replace H3 : Hid (∀ W, Below w.heap.size w W → Calls Tryd.prog 57 #[.agg #[.int .i64 z, .int .i64 d, .int .i64 s, .int .i64 l, .int .i64 a], .slice A n c] W fun e w' => (∃ (X : Option Addr) (q x : Nat), e = .returned (.tuple #[.agg #[.slice X q x], .int .i64 4])) ∧ Below W.heap.size W w') := H3
      go_wp2_with (first
        | (go_at_call 56; (with_reducible refine (H1.out _).mono ?_); rintro e w1 ⟨rfl, rfl⟩)
        | (go_at_call 57; (with_reducible refine (H3.out _ hw).mono ?_); rintro e w1 ⟨⟨X, qq, x, rfl⟩, hb1⟩))
      go_ret
      exact ⟨ret_bool H.out.symm, kal (bt hw hb1) _⟩
    · replace H3 : Hid (∀ W, Below w.heap.size w W → Calls Tryd.prog 57 #[.agg #[.int .i64 z, .int .i64 d, .int .i64 s, .int .i64 l, .int .i64 a], .slice A n c] W fun e w' => (∃ (X : Option Addr) (q x : Nat), e = .returned (.tuple #[.agg #[.slice X q x], .int .i64 0])) ∧ Below W.heap.size W w') := H3
      go_wp2_with (first
        | (go_at_call 56; (with_reducible refine (H1.out _).mono ?_); rintro e w1 ⟨rfl, rfl⟩)
        | (go_at_call 57; (with_reducible refine (H3.out _ hw).mono ?_); rintro e w1 ⟨⟨X, qq, x, rfl⟩, hb1⟩))
      go_ret
      exact ⟨ret_bool H.out.symm, kal (bt hw hb1) _⟩
  have q : (wh == 255) = false := beq_eq_false_iff_ne.2 h255
  have HW := Lib.hid h255
  clear h255 H3
  by_cases hm1 : wh = -1
  · subst hm1
    clear H2
    by_cases h8 : n = 8
    · have H : Hid (b = true) := Lib.hid (HB.out.2 ⟨HC.out.1.1 rfl, .inr ⟨HW.out, by have := HO.out; omega, by rw [HC.out.2.2.2]; exact h8⟩⟩)
      subst h8
      go_wp2_with (go_at_call 56; (with_reducible refine (H1.out _).mono ?_); rintro e w1 ⟨rfl, rfl⟩)
      go_ret
      exact ⟨ret_bool H.out.symm, hw⟩
    · have H : Hid (b = false) := Lib.hid (bool_no HB.out fun h => by
        rcases h.2 with ⟨h9, -⟩ | ⟨-, -, h9⟩
        · exact HW.out h9
        · exact h8 (by rw [← HC.out.2.2.2]; exact h9))
      have q8 : ((n : Int) == 8) = false := beq_eq_false_iff_ne.2 (by omega)
      clear h8
      go_wp2_with (go_at_call 56; (with_reducible refine (H1.out _).mono ?_); rintro e w1 ⟨rfl, rfl⟩)
      go_ret
      exact ⟨ret_bool H.out.symm, hw⟩
  have qm : (wh == -1) = false := beq_eq_false_iff_ne.2 hm1
  have HM := Lib.hid hm1
  clear hm1
  cases b2
  · have H : Hid (b = false) := Lib.hid (bool_no HB.out fun h => by
      rcases h.2 with ⟨h9, -⟩ | ⟨-, h9, -⟩
      · exact HW.out h9
      · exact absurd (HC.out.2.1.2 ⟨by have := HM.out; omega, h9.2⟩) Bool.false_ne_true)
    go_wp2_with (first
      | (go_at_call 56; (with_reducible refine (H1.out _).mono ?_); rintro e w1 ⟨rfl, rfl⟩)
      | (go_at_call 56; (with_reducible refine (H2.out _).mono ?_); rintro e w1 ⟨rfl, rfl⟩))
    go_ret
    exact ⟨ret_bool H.out.symm, hw⟩
  by_cases h8 : n = 8
  · have H : Hid (b = true) := Lib.hid (HB.out.2 ⟨HC.out.1.1 rfl, .inr ⟨HW.out, ⟨by have := (HC.out.2.1.1 rfl).1; omega, (HC.out.2.1.1 rfl).2⟩, by rw [HC.out.2.2.2]; exact h8⟩⟩)
    subst h8
    go_wp2_with (first
      | (go_at_call 56; (with_reducible refine (H1.out _).mono ?_); rintro e w1 ⟨rfl, rfl⟩)
      | (go_at_call 56; (with_reducible refine (H2.out _).mono ?_); rintro e w1 ⟨rfl, rfl⟩))
    go_ret
    exact ⟨ret_bool H.out.symm, hw⟩
  · have H : Hid (b = false) := Lib.hid (bool_no HB.out fun h => by
      rcases h.2 with ⟨h9, -⟩ | ⟨-, -, h9⟩
      · exact HW.out h9
      · exact h8 (by rw [← HC.out.2.2.2]; exact h9))
    have q8 : ((n : Int) == 8) = false := beq_eq_false_iff_ne.2 (by omega)
    clear h8
    go_wp2_with (first
      | (go_at_call 56; (with_reducible refine (H1.out _).mono ?_); rintro e w1 ⟨rfl, rfl⟩)
      | (go_at_call 56; (with_reducible refine (H2.out _).mono ?_); rintro e w1 ⟨rfl, rfl⟩))
    go_ret
    exact ⟨ret_bool H.out.symm, hw⟩
set_option maxRecDepth 100000 in
set_option maxHeartbeats 8000000 in
theorem image_c (c : Bool) (z d s l a : Int) (x : ImR) (n : Nat) (w : World) (hx : BIn w w.heap.size x) (hn : x.l.length = n) (hn1 : n ≤ 1048576) (hc : c = true ↔ Ok z d s l a ∧ ImOk z d x.z x.wh x.l) :
    Calls Tryd.prog 44 #[.agg #[.int .i64 z, .int .i64 d, .int .i64 s, .int .i64 l, .int .i64 a], .agg #[.int .i64 x.z, .int .i64 x.wh, .slice x.A n x.c]] w fun e w' => e = .returned (.int .i64 (if c = true then 0 else 1)) ∧ Below w.heap.size w w' := by
  have s1 : (w.alloc (.cells #[.int .i64 z, .int .i64 d, .int .i64 s, .int .i64 l, .int .i64 a] 23)).heap.size = w.heap.size + 1 := by simp
  have hx2 := bl (w.alloc (.cells #[.int .i64 z, .int .i64 d, .int .i64 s, .int .i64 l, .int .i64 a] 23)) (.cells #[.int .i64 x.z, .int .i64 x.wh, .slice x.A n x.c] 56)
  have GG := (g5_new w z d s l a).keep hx2 (by omega)
  have XX := c3_new (w.alloc (.cells #[.int .i64 z, .int .i64 d, .int .i64 s, .int .i64 l, .int .i64 a] 23)) (.int .i64 x.z) (.int .i64 x.wh) (.slice x.A n x.c) 56
  rw [s1] at XX
  have hw := kal (bl w (.cells #[.int .i64 z, .int .i64 d, .int .i64 s, .int .i64 l, .int .i64 a] 23)) (.cells #[.int .i64 x.z, .int .i64 x.wh, .slice x.A n x.c] 56)
  have l2 : ((w.alloc (.cells #[.int .i64 z, .int .i64 d, .int .i64 s, .int .i64 l, .int .i64 a] 23)).alloc (.cells #[.int .i64 x.z, .int .i64 x.wh, .slice x.A n x.c] 56)).heap.size = w.heap.size + 2 := by simp
  by_cases ho : Ok z d s l a
  · have HI := Lib.hid (show ∀ W, Below w.heap.size w W → Calls Tryd.prog 51 #[.agg #[.int .i64 z, .int .i64 d, .int .i64 s, .int .i64 l, .int .i64 a], .agg #[.int .i64 x.z, .int .i64 x.wh, .slice x.A n x.c]] W fun e w' => e = .returned (.bool c) ∧ Below W.heap.size W w' from fun W hW => isimg_c c z d s l a x.z x.wh x.A n x.c x.l W ho (hx.next hW) hn hn1 (hc.trans (and_iff_right ho)))
    have HG := Lib.hid fun W => gmt.check_ok z d s l a W ho
    clear s1 hx2 hx hc hn ho
    go_enter Tryd.func44, Tryd.ntmps44
    go_upto_region 1 with fail
    generalize (w.alloc (.cells #[.int .i64 z, .int .i64 d, .int .i64 s, .int .i64 l, .int .i64 a] 23)).alloc (.cells #[.int .i64 x.z, .int .i64 x.wh, .slice x.A n x.c] 56) = w0 at *
    obtain ⟨g0, g1, g2, g3, g4⟩ := id GG
    go_upto_region 4 with (go_at_call 24; (with_reducible refine (HG.out _).mono ?_); rintro e w2 ⟨rfl, hb2⟩)
    have G2 := GG.keep hb2 (by omega)
    have X2 := XX.keep hb2 (by omega)
    have B2 := bt hw hb2
    clear g0 g1 g2 g3 g4 GG XX
    obtain ⟨g0, g1, g2, g3, g4⟩ := id G2
    obtain ⟨x0, x1, x2⟩ := id X2
    cases c
    · go_wp2_with (go_at_call 51; (with_reducible refine (HI.out _ B2).mono ?_); rintro e w3 ⟨rfl, hb3⟩)
      go_ret
      exact ⟨rfl, bt B2 hb3⟩
    · go_wp2_with (go_at_call 51; (with_reducible refine (HI.out _ B2).mono ?_); rintro e w3 ⟨rfl, hb3⟩)
      go_ret
      exact ⟨rfl, bt B2 hb3⟩
  · obtain rfl : c = false := bool_no hc fun h => ho h.1
    have HG := Lib.hid fun W => gmt.check_no z d s l a W ho
    clear s1 hx2 hx hc hn ho
    go_enter Tryd.func44, Tryd.ntmps44
    go_upto_region 1 with fail
    generalize (w.alloc (.cells #[.int .i64 z, .int .i64 d, .int .i64 s, .int .i64 l, .int .i64 a] 23)).alloc (.cells #[.int .i64 x.z, .int .i64 x.wh, .slice x.A n x.c] 56) = w0 at *
    obtain ⟨g0, g1, g2, g3, g4⟩ := id GG
    go_wp2_with (go_at_call 24; (with_reducible refine (HG.out _).mono ?_); rintro e w2 ⟨rfl, hb2⟩)
    go_ret
    exact ⟨rfl, bt hw hb2⟩
end Go.Proofs.YtalmimmcfjolkaaDoor.lrc
