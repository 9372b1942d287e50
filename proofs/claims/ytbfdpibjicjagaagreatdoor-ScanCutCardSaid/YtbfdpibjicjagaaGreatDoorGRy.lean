/-
  The developers' own isFrom, isNum, isMember, isNone, isImage, Image. Conditions: byte strings shorter than 2^20.
  The developers' own byKind, isValid, typed, Check. Conditions: byte strings shorter than 2^20.
  The developers' own encodeHead, encodeImage. Conditions: numbers that fit.
  The developers' own encode. Conditions: right records.
  The developers' own typed, Check, Bytes, Cell. Conditions: byte strings shorter than 2^20.
  The developers' own Cell. Conditions: byte strings shorter than 2^20.
  The developers' own parseImage. Conditions: fewer than 2^32 bytes.
  The developers' own parse. Conditions: fewer than 2^32 bytes.
  The developers' own Read. Conditions: fewer than 2^20 bytes.
-/
import Derived.Test.YtbfdpibjicjagaaGreatDoorGRc
import Derived.Test.YtbfdpibjicjagaaGreatDoorGTw
import Derived.Test.YtbfdpibjicjagaaGreatDoorGGm
import Derived.Deep.RegionHeld3
import Derived.Deep.QuietTactic
import Derived.BigQuiet
import Derived.Test.YtbfdpibjicjagaaGreatDoorGPk
import Derived.Test.YtbfdpibjicjagaaGreatDoorGSl
import Derived.Test.YtbfdpibjicjagaaGreatDoorTail
import Derived.Deep.CutRange
set_option maxHeartbeats 8000000
set_option maxRecDepth 100000
namespace Go.Proofs.YtbfdpibjicjagaaGreatDoor.lrc
open Go.RowKit Go.Lib
open Go.Proofs.YtbfdpibjicjagaaGreatDoor.gmt (Ok)
open Go.Proofs.YtbfdpibjicjagaaGreatDoor.anc (bl kal kst ks bm ka)
open Go.Proofs.YtbfdpibjicjagaaGreatDoor.tbl (C1 c1_new G5 g5_new)
open Go.Proofs.YtbfdpibjicjagaaGreatDoor.img
structure C4 (W : World) (g : Nat) (a0 a1 a2 a3 : Value) : Prop where
 c0 : W.cell? ⟨g, 0, none⟩ = some a0
 c1 : W.cell? ⟨g, 1, none⟩ = some a1
 c2 : W.cell? ⟨g, 2, none⟩ = some a2
 c3 : W.cell? ⟨g, 3, none⟩ = some a3
theorem c4_new (w : World) (a0 a1 a2 a3 : Value) (t : TypeId) : C4 (w.alloc (.cells #[a0, a1, a2, a3] t)) w.heap.size a0 a1 a2 a3 := by
 have h := heap_alloc_new w (.cells #[a0, a1, a2, a3] t)
 constructor <;> (rw [cell_of_row _ _ _ _ _ _ h]; rfl)
theorem C4.keep {W W' : World} {B g : Nat} {a0 a1 a2 a3 : Value} (h : C4 W g a0 a1 a2 a3) (hb : Below B W W') (hg : g < B) : C4 W' g a0 a1 a2 a3 := ⟨ks hb hg h.c0, ks hb hg h.c1, ks hb hg h.c2, ks hb hg h.c3⟩
structure C7 (W : World) (g : Nat) (a0 a1 a2 a3 a4 a5 a6 : Value) : Prop where
 c0 : W.cell? ⟨g, 0, none⟩ = some a0
 c1 : W.cell? ⟨g, 1, none⟩ = some a1
 c2 : W.cell? ⟨g, 2, none⟩ = some a2
 c3 : W.cell? ⟨g, 3, none⟩ = some a3
 c4 : W.cell? ⟨g, 4, none⟩ = some a4
 c5 : W.cell? ⟨g, 5, none⟩ = some a5
 c6 : W.cell? ⟨g, 6, none⟩ = some a6
theorem c7_new (w : World) (a0 a1 a2 a3 a4 a5 a6 : Value) (t : TypeId) : C7 (w.alloc (.cells #[a0, a1, a2, a3, a4, a5, a6] t)) w.heap.size a0 a1 a2 a3 a4 a5 a6 := by
 have h := heap_alloc_new w (.cells #[a0, a1, a2, a3, a4, a5, a6] t)
 constructor <;> (rw [cell_of_row _ _ _ _ _ _ h]; rfl)
theorem C7.keep {W W' : World} {B g : Nat} {a0 a1 a2 a3 a4 a5 a6 : Value} (h : C7 W g a0 a1 a2 a3 a4 a5 a6) (hb : Below B W W') (hg : g < B) : C7 W' g a0 a1 a2 a3 a4 a5 a6 := ⟨ks hb hg h.c0, ks hb hg h.c1, ks hb hg h.c2, ks hb hg h.c3, ks hb hg h.c4, ks hb hg h.c5, ks hb hg h.c6⟩
theorem bool_is (P : Prop) : ∃ b : Bool, b = true ↔ P := by
 by_cases h : P
 ·exact ⟨true, iff_of_true rfl h⟩
 ·exact ⟨false, iff_of_false Bool.false_ne_true h⟩
theorem bool_no {b : Bool} {P : Prop} (h : b = true ↔ P) (hp : ¬ P) : b = false := by
 cases b
 ·rfl
 ·exact absurd (h.1 rfl) hp
theorem from_c (b : Bool) (n lo hi : Int) (w : World) (hb : b = true ↔ lo ≤ n ∧ n ≤ hi) :
  Calls Tryz.prog 127 #[.int .i64 n, .int .i64 lo, .int .i64 hi] w fun e w' => e = .returned (.bool b) ∧ w = w' := by
 by_cases h1 : lo ≤ n
 ·by_cases h2 : n ≤ hi
  ·obtain rfl : b = true := hb.2 ⟨h1, h2⟩
   clear hb
   go_enter Tryz.func127, Tryz.ntmps127
   go_wp2
   go_ret
   exact ⟨rfl, rfl⟩
  ·obtain rfl : b = false := bool_no hb fun h => h2 h.2
   clear hb
   go_enter Tryz.func127, Tryz.ntmps127
   go_wp2
   go_ret
   exact ⟨rfl, rfl⟩
 ·obtain rfl : b = false := bool_no hb fun h => h1 h.1
  clear hb
  go_enter Tryz.func127, Tryz.ntmps127
  go_wp2
  go_ret
  exact ⟨rfl, rfl⟩
theorem num_c (b : Bool) (n : Int) (w : World) (hb : b = true ↔ NumOk n) :
  Calls Tryz.prog 130 #[.int .i64 n] w fun e w' => e = .returned (.bool b) ∧ w = w' := by
 have cF := from_c b n 0 4294967295 w hb
 clear hb
 go_enter Tryz.func130, Tryz.ntmps130
 go_wp2_with (go_at_call 127; (with_reducible refine cF.mono ?_); rintro e w1 ⟨rfl, rfl⟩)
 go_ret
 exact ⟨rfl, rfl⟩
theorem mem_c (b : Bool) (sq ep ps nm : Int) (w : World) (hb : b = true ↔ NumOk sq ∧ NumOk ep ∧ (2 ≤ nm ∧ nm ≤ 30)) :
  Calls Tryz.prog 126 #[.agg #[.int .i64 sq, .int .i64 ep, .int .i64 ps, .int .i64 nm]] w fun e w' => e = .returned (.bool b) ∧ Below w.heap.size w w' := by
 obtain ⟨b1, h1⟩ := bool_is (NumOk sq)
 obtain ⟨b2, h2⟩ := bool_is (NumOk ep)
 obtain ⟨b3, h3⟩ := bool_is (2 ≤ nm ∧ nm ≤ 30)
 have H := Lib.hid (show b = (b1 && (b2 && b3)) by
  rw [Bool.eq_iff_iff, hb, Bool.and_eq_true, Bool.and_eq_true, h1, h2, h3])
 have c1 := fun W => num_c b1 sq W h1
 have c2 := fun W => num_c b2 ep W h2
 have c3 := fun W => from_c b3 nm 2 30 W h3
 have MM := c4_new w (.int .i64 sq) (.int .i64 ep) (.int .i64 ps) (.int .i64 nm) 180
 have hw := bl w (.cells #[.int .i64 sq, .int .i64 ep, .int .i64 ps, .int .i64 nm] 180)
 clear hb h1 h2 h3
 go_enter Tryz.func126, Tryz.ntmps126
 go_upto_region 1 with fail
 generalize w.alloc (.cells #[.int .i64 sq, .int .i64 ep, .int .i64 ps, .int .i64 nm] 180) = w0 at *
 obtain ⟨m0, m1, m2, m3⟩ := id MM
 cases b1
 ·go_wp2_with (go_at_call 130; (with_reducible refine (c1 _).mono ?_); rintro e w1 ⟨rfl, rfl⟩)
  go_ret
  exact ⟨ret_bool H.out.symm, hw⟩
 ·cases b2
  ·go_wp2_with (first
    | (go_at_call 130; (with_reducible refine (c1 _).mono ?_); rintro e w1 ⟨rfl, rfl⟩)
    | (go_at_call 130; (with_reducible refine (c2 _).mono ?_); rintro e w1 ⟨rfl, rfl⟩))
   go_ret
   exact ⟨ret_bool H.out.symm, hw⟩
  ·go_wp2_with (first
    | (go_at_call 130; (with_reducible refine (c1 _).mono ?_); rintro e w1 ⟨rfl, rfl⟩)
    | (go_at_call 130; (with_reducible refine (c2 _).mono ?_); rintro e w1 ⟨rfl, rfl⟩)
    | (go_at_call 127; (with_reducible refine (c3 _).mono ?_); rintro e w1 ⟨rfl, rfl⟩))
   go_ret
   exact ⟨ret_bool H.out.symm, hw⟩
theorem none_c (b : Bool) (z wh : Int) (A : Option Addr) (n c : Nat) (w : World) (hb : b = true ↔ z = 0 ∧ wh = 0 ∧ n = 0) :
  Calls Tryz.prog 125 #[.agg #[.int .i64 z, .int .i64 wh, .slice A n c]] w fun e w' => e = .returned (.bool b) ∧ Below w.heap.size w w' := by
 have MM := c3_new w (.int .i64 z) (.int .i64 wh) (.slice A n c) 81
 have hw := bl w (.cells #[.int .i64 z, .int .i64 wh, .slice A n c] 81)
 go_enter Tryz.func125, Tryz.ntmps125
 go_upto_region 1 with fail
 generalize w.alloc (.cells #[.int .i64 z, .int .i64 wh, .slice A n c] 81) = w0 at *
 obtain ⟨m0, m1, m2⟩ := id MM
 by_cases h1 : z = 0
 case neg =>
  have H : Hid (b = false) := Lib.hid (bool_no hb fun h => h1 h.1)
  have q : (z == 0) = false := beq_eq_false_iff_ne.2 h1
  clear h1 hb
  go_wp2_with fail
  go_ret
  exact ⟨ret_bool H.out.symm, hw⟩
 subst h1
 by_cases h2 : wh = 0
 case neg =>
  have H : Hid (b = false) := Lib.hid (bool_no hb fun h => h2 h.2.1)
  have q : (wh == 0) = false := beq_eq_false_iff_ne.2 h2
  clear h2 hb
  go_wp2_with fail
  go_ret
  exact ⟨ret_bool H.out.symm, hw⟩
 subst h2
 by_cases h3 : n = 0
 case neg =>
  have H : Hid (b = false) := Lib.hid (bool_no hb fun h => h3 h.2.2)
  have q : ((n : Int) == 0) = false := beq_eq_false_iff_ne.2 (by omega)
  clear h3 hb
  go_wp2_with fail
  go_ret
  exact ⟨ret_bool H.out.symm, hw⟩
 have H : Hid (b = true) := Lib.hid (hb.2 ⟨rfl, rfl, h3⟩)
 subst h3
 clear hb
 go_wp2_with fail
 go_ret
 exact ⟨ret_bool H.out.symm, hw⟩
theorem tab_c (b : Bool) (z d s l a : Int) (A : Option Addr) (n c : Nat) (L : List UInt8) (w : World) (ho : Ok z d s l a) (hx : BIn w w.heap.size ⟨0, 0, A, c, L⟩) (hn : L.length = n) (hn1 : n ≤ 1048576) (hb : b = true ↔ tbl.Told d L) :
  Calls Tryz.prog 131 #[.agg #[.int .i64 z, .int .i64 d, .int .i64 s, .int .i64 l, .int .i64 a], .slice A n c] w fun e w' => (∃ (X : Option Addr) (q x : Nat), e = .returned (.tuple #[.agg #[.slice X q x], .int .i64 (if b = true then 0 else 4)])) ∧ Below w.heap.size w w' := by
 obtain ⟨D, rfl⟩ : ∃ D : Nat, d = D := ⟨d.toNat, by have := ho.2.1; omega⟩
 refine (tbl.tread_any b z s l a D A n c L w ho hn (by rw [← hn]; exact hx.2.1) hx.2.2 hn1 hx.1 hb).mono ?_
 rintro e w' ⟨h, hw⟩
 refine ⟨?_, hw⟩
 unfold tbl.RdR at h
 split at h
 ·rename_i hb1
  obtain ⟨t, rfl, -, -⟩ := h
  exact ⟨t.A, t.es.length, t.c, by rw [if_pos hb1]; rfl⟩
 ·rename_i hb1
  obtain ⟨t, rfl, -, -⟩ := h
  exact ⟨t.A, t.es.length, t.c, by rw [if_neg hb1]; rfl⟩
theorem isimg_c (b : Bool) (z d s l a zn wh : Int) (A : Option Addr) (n c : Nat) (L : List UInt8) (w : World) (ho : Ok z d s l a) (hx : BIn w w.heap.size ⟨zn, wh, A, c, L⟩) (hn : L.length = n) (hn1 : n ≤ 1048576) (hb : b = true ↔ ImOk z d zn wh L) :
  Calls Tryz.prog 128 #[.agg #[.int .i64 z, .int .i64 d, .int .i64 s, .int .i64 l, .int .i64 a], .agg #[.int .i64 zn, .int .i64 wh, .slice A n c]] w fun e w' => e = .returned (.bool b) ∧ Below w.heap.size w w' := by
 have s1 : (w.alloc (.cells #[.int .i64 z, .int .i64 d, .int .i64 s, .int .i64 l, .int .i64 a] 23)).heap.size = w.heap.size + 1 := by simp
 have hx2 := bl (w.alloc (.cells #[.int .i64 z, .int .i64 d, .int .i64 s, .int .i64 l, .int .i64 a] 23)) (.cells #[.int .i64 zn, .int .i64 wh, .slice A n c] 81)
 have GG := (g5_new w z d s l a).keep hx2 (by omega)
 have XX := c3_new (w.alloc (.cells #[.int .i64 z, .int .i64 d, .int .i64 s, .int .i64 l, .int .i64 a] 23)) (.int .i64 zn) (.int .i64 wh) (.slice A n c) 81
 rw [s1] at XX
 have hw := kal (bl w (.cells #[.int .i64 z, .int .i64 d, .int .i64 s, .int .i64 l, .int .i64 a] 23)) (.cells #[.int .i64 zn, .int .i64 wh, .slice A n c] 81)
 obtain ⟨b1, hb1⟩ := bool_is (0 ≤ zn ∧ zn ≤ z - 1)
 obtain ⟨b2, hb2⟩ := bool_is (0 ≤ wh ∧ wh ≤ d - 1)
 obtain ⟨b3, hb3⟩ := bool_is (tbl.Told d L)
 have o1 := ho.1
 have o2 := ho.2.1
 have u1 : IntKind.i64.wrap (z - 1) = z - 1 := gmt.w6 _ (by omega) (by omega)
 have u2 : IntKind.i64.wrap (d - 1) = d - 1 := gmt.w6 _ (by omega) (by omega)
 have H1 := Lib.hid fun W => from_c b1 zn 0 (z - 1) W hb1
 have H2 := Lib.hid fun W => from_c b2 wh 0 (d - 1) W hb2
 have H3 := Lib.hid (show ∀ W, Below w.heap.size w W → Calls Tryz.prog 131 #[.agg #[.int .i64 z, .int .i64 d, .int .i64 s, .int .i64 l, .int .i64 a], .slice A n c] W fun e w' => (∃ (X : Option Addr) (q x : Nat), e = .returned (.tuple #[.agg #[.slice X q x], .int .i64 (if b3 = true then 0 else 4)])) ∧ Below W.heap.size W w' from fun W hW => tab_c b3 z d s l a A n c L W ho (hx.next hW) hn hn1 hb3)
 have HB := Lib.hid hb
 have HO := Lib.hid o2
 have HC := Lib.hid (And.intro hb1 (And.intro hb2 (And.intro hb3 hn)))
 clear s1 hx2 hb hb1 hb2 hb3 hn ho hx o1 o2
 go_enter Tryz.func128, Tryz.ntmps128
 go_upto_region 1 with fail
 generalize (w.alloc (.cells #[.int .i64 z, .int .i64 d, .int .i64 s, .int .i64 l, .int .i64 a] 23)).alloc (.cells #[.int .i64 zn, .int .i64 wh, .slice A n c] 81) = w0 at *
 obtain ⟨g0, g1, g2, g3, g4⟩ := id GG
 obtain ⟨x0, x1, x2⟩ := id XX
 cases b1
 ·have H : Hid (b = false) := Lib.hid (bool_no HB.out fun h => absurd (HC.out.1.2 h.1) Bool.false_ne_true)
  clear H2 H3
  go_wp2_with (go_at_call 127; (with_reducible refine (H1.out _).mono ?_); rintro e w1 ⟨rfl, rfl⟩)
  go_ret
  exact ⟨ret_bool H.out.symm, hw⟩
 by_cases h255 : wh = 255
 ·subst h255
  have H : Hid (b = b3) := Lib.hid (by
   rw [Bool.eq_iff_iff, HB.out, HC.out.2.2.1]
   refine ⟨fun h => ?_, fun h => ⟨HC.out.1.1 rfl, .inl ⟨rfl, h⟩⟩⟩
   rcases h.2 with ⟨-, h9⟩ | ⟨h9, -⟩
   ·exact h9
   ·exact absurd rfl h9)
  clear H2
  cases b3
  ·replace H3 : Hid (∀ W, Below w.heap.size w W → Calls Tryz.prog 131 #[.agg #[.int .i64 z, .int .i64 d, .int .i64 s, .int .i64 l, .int .i64 a], .slice A n c] W fun e w' => (∃ (X : Option Addr) (q x : Nat), e = .returned (.tuple #[.agg #[.slice X q x], .int .i64 4])) ∧ Below W.heap.size W w') := H3
   go_wp2_with (first
    | (go_at_call 127; (with_reducible refine (H1.out _).mono ?_); rintro e w1 ⟨rfl, rfl⟩)
    | (go_at_call 131; (with_reducible refine (H3.out _ hw).mono ?_); rintro e w1 ⟨⟨X, qq, x, rfl⟩, hb1⟩))
   go_ret
   exact ⟨ret_bool H.out.symm, kal (bt hw hb1) _⟩
  ·replace H3 : Hid (∀ W, Below w.heap.size w W → Calls Tryz.prog 131 #[.agg #[.int .i64 z, .int .i64 d, .int .i64 s, .int .i64 l, .int .i64 a], .slice A n c] W fun e w' => (∃ (X : Option Addr) (q x : Nat), e = .returned (.tuple #[.agg #[.slice X q x], .int .i64 0])) ∧ Below W.heap.size W w') := H3
   go_wp2_with (first
    | (go_at_call 127; (with_reducible refine (H1.out _).mono ?_); rintro e w1 ⟨rfl, rfl⟩)
    | (go_at_call 131; (with_reducible refine (H3.out _ hw).mono ?_); rintro e w1 ⟨⟨X, qq, x, rfl⟩, hb1⟩))
   go_ret
   exact ⟨ret_bool H.out.symm, kal (bt hw hb1) _⟩
 have q : (wh == 255) = false := beq_eq_false_iff_ne.2 h255
 have HW := Lib.hid h255
 clear h255 H3
 by_cases hm1 : wh = -1
 ·subst hm1
  clear H2
  by_cases h8 : n = 8
  ·have H : Hid (b = true) := Lib.hid (HB.out.2 ⟨HC.out.1.1 rfl, .inr ⟨HW.out, by have := HO.out; omega, by rw [HC.out.2.2.2]; exact h8⟩⟩)
   subst h8
   go_wp2_with (go_at_call 127; (with_reducible refine (H1.out _).mono ?_); rintro e w1 ⟨rfl, rfl⟩)
   go_ret
   exact ⟨ret_bool H.out.symm, hw⟩
  ·have H : Hid (b = false) := Lib.hid (bool_no HB.out fun h => by
    rcases h.2 with ⟨h9, -⟩ | ⟨-, -, h9⟩
    ·exact HW.out h9
    ·exact h8 (by rw [← HC.out.2.2.2]; exact h9))
   have q8 : ((n : Int) == 8) = false := beq_eq_false_iff_ne.2 (by omega)
   clear h8
   go_wp2_with (go_at_call 127; (with_reducible refine (H1.out _).mono ?_); rintro e w1 ⟨rfl, rfl⟩)
   go_ret
   exact ⟨ret_bool H.out.symm, hw⟩
 have qm : (wh == -1) = false := beq_eq_false_iff_ne.2 hm1
 have HM := Lib.hid hm1
 clear hm1
 cases b2
 ·have H : Hid (b = false) := Lib.hid (bool_no HB.out fun h => by
   rcases h.2 with ⟨h9, -⟩ | ⟨-, h9, -⟩
   ·exact HW.out h9
   ·exact absurd (HC.out.2.1.2 ⟨by have := HM.out; omega, h9.2⟩) Bool.false_ne_true)
  go_wp2_with (first
   | (go_at_call 127; (with_reducible refine (H1.out _).mono ?_); rintro e w1 ⟨rfl, rfl⟩)
   | (go_at_call 127; (with_reducible refine (H2.out _).mono ?_); rintro e w1 ⟨rfl, rfl⟩))
  go_ret
  exact ⟨ret_bool H.out.symm, hw⟩
 by_cases h8 : n = 8
 ·have H : Hid (b = true) := Lib.hid (HB.out.2 ⟨HC.out.1.1 rfl, .inr ⟨HW.out, ⟨by have := (HC.out.2.1.1 rfl).1; omega, (HC.out.2.1.1 rfl).2⟩, by rw [HC.out.2.2.2]; exact h8⟩⟩)
  subst h8
  go_wp2_with (first
   | (go_at_call 127; (with_reducible refine (H1.out _).mono ?_); rintro e w1 ⟨rfl, rfl⟩)
   | (go_at_call 127; (with_reducible refine (H2.out _).mono ?_); rintro e w1 ⟨rfl, rfl⟩))
  go_ret
  exact ⟨ret_bool H.out.symm, hw⟩
 ·have H : Hid (b = false) := Lib.hid (bool_no HB.out fun h => by
   rcases h.2 with ⟨h9, -⟩ | ⟨-, -, h9⟩
   ·exact HW.out h9
   ·exact h8 (by rw [← HC.out.2.2.2]; exact h9))
  have q8 : ((n : Int) == 8) = false := beq_eq_false_iff_ne.2 (by omega)
  clear h8
  go_wp2_with (first
   | (go_at_call 127; (with_reducible refine (H1.out _).mono ?_); rintro e w1 ⟨rfl, rfl⟩)
   | (go_at_call 127; (with_reducible refine (H2.out _).mono ?_); rintro e w1 ⟨rfl, rfl⟩))
  go_ret
  exact ⟨ret_bool H.out.symm, hw⟩
end Go.Proofs.YtbfdpibjicjagaaGreatDoor.lrc
namespace Go.Proofs.YtbfdpibjicjagaaGreatDoor.lrc
open Go.RowKit Go.Lib
open Go.Proofs.YtbfdpibjicjagaaGreatDoor.gmt (Ok)
open Go.Proofs.YtbfdpibjicjagaaGreatDoor.anc (bl kal kst ks bm ka)
open Go.Proofs.YtbfdpibjicjagaaGreatDoor.tbl (C1 c1_new G5 g5_new)
open Go.Proofs.YtbfdpibjicjagaaGreatDoor.img
theorem ret_ib {v : Value} {a b : Bool} (h : a = b) : Ending.returned (.tuple #[v, .bool a]) = .returned (.tuple #[v, .bool b]) := by rw [h]
theorem as_bb (v : Value) (W : World) : (Instr.typeAssert (.iface 176 v) 20 176 true).run Tryz.prog W = .ok (.tuple #[v, .bool true]) W := by kernel_rfl
theorem as_cb (v : Value) (W : World) : (Instr.typeAssert (.iface 182 v) 20 176 true).run Tryz.prog W = .ok (.tuple #[.agg #[], .bool false]) W := by kernel_rfl
theorem as_cc (v : Value) (W : World) : (Instr.typeAssert (.iface 182 v) 20 182 true).run Tryz.prog W = .ok (.tuple #[v, .bool true]) W := by kernel_rfl
theorem as_lb (v : Value) (W : World) : (Instr.typeAssert (.iface 185 v) 20 176 true).run Tryz.prog W = .ok (.tuple #[.agg #[], .bool false]) W := by kernel_rfl
theorem as_lc (v : Value) (W : World) : (Instr.typeAssert (.iface 185 v) 20 182 true).run Tryz.prog W = .ok (.tuple #[.agg #[.int .i64 0, .int .i64 0, .int .i64 0, .int .i64 0], .bool false]) W := by kernel_rfl
theorem as_ll (v : Value) (W : World) : (Instr.typeAssert (.iface 185 v) 20 185 false).run Tryz.prog W = .ok v W := by kernel_rfl
theorem kind0_c (w : World) (sq ep ps nm y wh : Int) (X : Option Addr) (q xc : Nat) (b : Bool) (hb : b = true ↔ (sq = 0 ∧ ep = 0 ∧ ps = 0 ∧ nm = 0) ∧ y = 0 ∧ wh = 0 ∧ q = 0) :
  Calls Tryz.prog 111 #[.agg #[.int .i64 0, .int .i64 sq, .int .i64 ep, .int .i64 ps, .int .i64 nm, .int .i64 y, .int .i64 wh, .slice X q xc]] w fun e w' => e = .returned (.tuple #[.iface 176 (.agg #[]), .bool b]) ∧ Below w.heap.size w w' := by
 obtain ⟨kd, hkd⟩ : ∃ k : Int, k = 0 := ⟨_, rfl⟩
 rw [← hkd]
 have HK := Lib.hid hkd
 clear hkd
 have RR := c8_new w (.int .i64 kd) (.int .i64 sq) (.int .i64 ep) (.int .i64 ps) (.int .i64 nm) (.int .i64 y) (.int .i64 wh) (.slice X q xc) 83
 have hw := bl w (.cells #[.int .i64 kd, .int .i64 sq, .int .i64 ep, .int .i64 ps, .int .i64 nm, .int .i64 y, .int .i64 wh, .slice X q xc] 83)
 have lw : w.heap.size < (w.alloc (.cells #[.int .i64 kd, .int .i64 sq, .int .i64 ep, .int .i64 ps, .int .i64 nm, .int .i64 y, .int .i64 wh, .slice X q xc] 83)).heap.size := by simp
 go_enter Tryz.func111, Tryz.ntmps111
 go_upto_region 1 with fail
 generalize w.alloc (.cells #[.int .i64 kd, .int .i64 sq, .int .i64 ep, .int .i64 ps, .int .i64 nm, .int .i64 y, .int .i64 wh, .slice X q xc] 83) = w0 at *
 obtain ⟨r0, r1, r2, r3, r4, r5, r6, r7⟩ := id RR
 go_upto_region 2 with fail
 have MM := c4_new w0 (.int .i64 sq) (.int .i64 ep) (.int .i64 ps) (.int .i64 nm) 180
 have R1 := RR.keep (bl w0 (.cells #[.int .i64 sq, .int .i64 ep, .int .i64 ps, .int .i64 nm] 180)) lw
 have hw1 := kal hw (.cells #[.int .i64 sq, .int .i64 ep, .int .i64 ps, .int .i64 nm] 180)
 have lm : w0.heap.size < (w0.alloc (.cells #[.int .i64 sq, .int .i64 ep, .int .i64 ps, .int .i64 nm] 180)).heap.size := by simp
 have hm1 := bl w0 (.cells #[.int .i64 sq, .int .i64 ep, .int .i64 ps, .int .i64 nm] 180)
 generalize w0.alloc (.cells #[.int .i64 sq, .int .i64 ep, .int .i64 ps, .int .i64 nm] 180) = w1 at *
 clear r0 r1 r2 r3 r4 r5 r6 r7 RR
 obtain ⟨r0, r1, r2, r3, r4, r5, r6, r7⟩ := id R1
 obtain ⟨m0, m1, m2, m3⟩ := id MM
 have hkd := HK.out
 subst hkd
 go_upto_region 4 with fail
 by_cases hsq : sq = 0
 case neg =>
  have H : Hid (b = false) := Lib.hid (bool_no hb fun h => hsq (by omega))
  clear hb
  go_wp2_with fail
  go_ret2
  exact ⟨ret_ib H.out.symm, hw1⟩
 subst hsq
 by_cases hep : ep = 0
 case neg =>
  have H : Hid (b = false) := Lib.hid (bool_no hb fun h => hep (by omega))
  clear hb
  go_wp2_with fail
  go_ret2
  exact ⟨ret_ib H.out.symm, hw1⟩
 subst hep
 by_cases hps : ps = 0
 case neg =>
  have H : Hid (b = false) := Lib.hid (bool_no hb fun h => hps (by omega))
  clear hb
  go_wp2_with fail
  go_ret2
  exact ⟨ret_ib H.out.symm, hw1⟩
 subst hps
 by_cases hnm : nm = 0
 case neg =>
  have H : Hid (b = false) := Lib.hid (bool_no hb fun h => hnm (by omega))
  clear hb
  go_wp2_with fail
  go_ret2
  exact ⟨ret_ib H.out.symm, hw1⟩
 subst hnm
 have HN := Lib.hid fun W => none_c b y wh X q xc W (hb.trans (and_iff_right ⟨rfl, rfl, rfl, rfl⟩))
 clear hb
 go_wp2_with (go_at_call 125; (with_reducible refine (HN.out _).mono ?_); rintro e w2 ⟨rfl, hb2⟩)
 go_ret2
 exact ⟨rfl, bt hw1 hb2⟩
theorem kind1_c (w : World) (sq ep ps nm y wh : Int) (X : Option Addr) (q xc : Nat) :
  Calls Tryz.prog 111 #[.agg #[.int .i64 1, .int .i64 sq, .int .i64 ep, .int .i64 ps, .int .i64 nm, .int .i64 y, .int .i64 wh, .slice X q xc]] w fun e w' => e = .returned (.tuple #[.iface 185 (.agg #[.int .i64 sq, .int .i64 ep, .int .i64 ps, .int .i64 nm, .int .i64 y, .int .i64 wh, .slice X q xc]), .bool true]) ∧ Below w.heap.size w w' := by
 obtain ⟨kd, hkd⟩ : ∃ k : Int, k = 1 := ⟨_, rfl⟩
 rw [← hkd]
 have HK := Lib.hid hkd
 clear hkd
 have RR := c8_new w (.int .i64 kd) (.int .i64 sq) (.int .i64 ep) (.int .i64 ps) (.int .i64 nm) (.int .i64 y) (.int .i64 wh) (.slice X q xc) 83
 have hw := bl w (.cells #[.int .i64 kd, .int .i64 sq, .int .i64 ep, .int .i64 ps, .int .i64 nm, .int .i64 y, .int .i64 wh, .slice X q xc] 83)
 have lw : w.heap.size < (w.alloc (.cells #[.int .i64 kd, .int .i64 sq, .int .i64 ep, .int .i64 ps, .int .i64 nm, .int .i64 y, .int .i64 wh, .slice X q xc] 83)).heap.size := by simp
 go_enter Tryz.func111, Tryz.ntmps111
 go_upto_region 1 with fail
 generalize w.alloc (.cells #[.int .i64 kd, .int .i64 sq, .int .i64 ep, .int .i64 ps, .int .i64 nm, .int .i64 y, .int .i64 wh, .slice X q xc] 83) = w0 at *
 obtain ⟨r0, r1, r2, r3, r4, r5, r6, r7⟩ := id RR
 go_upto_region 2 with fail
 have MM := c4_new w0 (.int .i64 sq) (.int .i64 ep) (.int .i64 ps) (.int .i64 nm) 180
 have R1 := RR.keep (bl w0 (.cells #[.int .i64 sq, .int .i64 ep, .int .i64 ps, .int .i64 nm] 180)) lw
 have hw1 := kal hw (.cells #[.int .i64 sq, .int .i64 ep, .int .i64 ps, .int .i64 nm] 180)
 have lm : w0.heap.size < (w0.alloc (.cells #[.int .i64 sq, .int .i64 ep, .int .i64 ps, .int .i64 nm] 180)).heap.size := by simp
 have hm1 := bl w0 (.cells #[.int .i64 sq, .int .i64 ep, .int .i64 ps, .int .i64 nm] 180)
 generalize w0.alloc (.cells #[.int .i64 sq, .int .i64 ep, .int .i64 ps, .int .i64 nm] 180) = w1 at *
 clear r0 r1 r2 r3 r4 r5 r6 r7 RR
 obtain ⟨r0, r1, r2, r3, r4, r5, r6, r7⟩ := id R1
 obtain ⟨m0, m1, m2, m3⟩ := id MM
 have hkd := HK.out
 subst hkd
 go_wp2_with fail
 go_ret2
 exact ⟨rfl, hw1⟩
theorem kind2_c (w : World) (sq ep ps nm y wh : Int) (X : Option Addr) (q xc : Nat) (b : Bool) (hb : b = true ↔ y = 0 ∧ wh = 0 ∧ q = 0) :
  Calls Tryz.prog 111 #[.agg #[.int .i64 2, .int .i64 sq, .int .i64 ep, .int .i64 ps, .int .i64 nm, .int .i64 y, .int .i64 wh, .slice X q xc]] w fun e w' => e = .returned (.tuple #[.iface 182 (.agg #[.int .i64 sq, .int .i64 ep, .int .i64 ps, .int .i64 nm]), .bool b]) ∧ Below w.heap.size w w' := by
 obtain ⟨kd, hkd⟩ : ∃ k : Int, k = 2 := ⟨_, rfl⟩
 rw [← hkd]
 have HK := Lib.hid hkd
 clear hkd
 have RR := c8_new w (.int .i64 kd) (.int .i64 sq) (.int .i64 ep) (.int .i64 ps) (.int .i64 nm) (.int .i64 y) (.int .i64 wh) (.slice X q xc) 83
 have hw := bl w (.cells #[.int .i64 kd, .int .i64 sq, .int .i64 ep, .int .i64 ps, .int .i64 nm, .int .i64 y, .int .i64 wh, .slice X q xc] 83)
 have lw : w.heap.size < (w.alloc (.cells #[.int .i64 kd, .int .i64 sq, .int .i64 ep, .int .i64 ps, .int .i64 nm, .int .i64 y, .int .i64 wh, .slice X q xc] 83)).heap.size := by simp
 go_enter Tryz.func111, Tryz.ntmps111
 go_upto_region 1 with fail
 generalize w.alloc (.cells #[.int .i64 kd, .int .i64 sq, .int .i64 ep, .int .i64 ps, .int .i64 nm, .int .i64 y, .int .i64 wh, .slice X q xc] 83) = w0 at *
 obtain ⟨r0, r1, r2, r3, r4, r5, r6, r7⟩ := id RR
 go_upto_region 2 with fail
 have MM := c4_new w0 (.int .i64 sq) (.int .i64 ep) (.int .i64 ps) (.int .i64 nm) 180
 have R1 := RR.keep (bl w0 (.cells #[.int .i64 sq, .int .i64 ep, .int .i64 ps, .int .i64 nm] 180)) lw
 have hw1 := kal hw (.cells #[.int .i64 sq, .int .i64 ep, .int .i64 ps, .int .i64 nm] 180)
 have lm : w0.heap.size < (w0.alloc (.cells #[.int .i64 sq, .int .i64 ep, .int .i64 ps, .int .i64 nm] 180)).heap.size := by simp
 have hm1 := bl w0 (.cells #[.int .i64 sq, .int .i64 ep, .int .i64 ps, .int .i64 nm] 180)
 generalize w0.alloc (.cells #[.int .i64 sq, .int .i64 ep, .int .i64 ps, .int .i64 nm] 180) = w1 at *
 clear r0 r1 r2 r3 r4 r5 r6 r7 RR
 obtain ⟨r0, r1, r2, r3, r4, r5, r6, r7⟩ := id R1
 obtain ⟨m0, m1, m2, m3⟩ := id MM
 have hkd := HK.out
 subst hkd
 have HN := Lib.hid fun W => none_c b y wh X q xc W hb
 have HF := Lib.hid (show ∀ W, Below w1.heap.size w1 W → (W.cell? ⟨w.heap.size, 5, none⟩ = some (.int .i64 y) ∧ W.cell? ⟨w.heap.size, 6, none⟩ = some (.int .i64 wh) ∧ W.cell? ⟨w.heap.size, 7, none⟩ = some (.slice X q xc)) ∧ (W.cell? ⟨w0.heap.size, 0, none⟩ = some (.int .i64 sq) ∧ W.cell? ⟨w0.heap.size, 1, none⟩ = some (.int .i64 ep) ∧ W.cell? ⟨w0.heap.size, 2, none⟩ = some (.int .i64 ps) ∧ W.cell? ⟨w0.heap.size, 3, none⟩ = some (.int .i64 nm)) ∧ Below w1.heap.size w1 W from fun W hW => by
  have R := R1.keep hW (by omega)
  have M := MM.keep hW lm
  exact ⟨⟨R.c5, R.c6, R.c7⟩, ⟨M.c0, M.c1, M.c2, M.c3⟩, hW⟩)
 clear hb
 go_upto_region 8 with fail
 clear r0 r1 r2 r3 r4 r5 r6 r7 m0 m1 m2 m3
 go_region_held3 (fun W => (W.cell? ⟨w.heap.size, 5, none⟩ = some (.int .i64 y) ∧ W.cell? ⟨w.heap.size, 6, none⟩ = some (.int .i64 wh) ∧ W.cell? ⟨w.heap.size, 7, none⟩ = some (.slice X q xc)) ∧ (W.cell? ⟨w0.heap.size, 0, none⟩ = some (.int .i64 sq) ∧ W.cell? ⟨w0.heap.size, 1, none⟩ = some (.int .i64 ep) ∧ W.cell? ⟨w0.heap.size, 2, none⟩ = some (.int .i64 ps) ∧ W.cell? ⟨w0.heap.size, 3, none⟩ = some (.int .i64 nm)) ∧ Below w1.heap.size w1 W)
  ((refine HF.out _ ?_; first
   | with_reducible exact below_dr (Below.refl _ _)
   | with_reducible exact bt (below_dr (Below.refl _ _)) (by assumption)
   | fail))
  (first
   | (go_at_call 125; (with_reducible refine (HN.out _).mono ?_); rintro e w2 ⟨rfl, hb2⟩)
   | fail)
 go_wp2_with fail
 go_ret2
 exact ⟨rfl, bt hw1 (bt (below_dr (Below.refl _ _)) hb2)⟩
theorem kind3_c (w : World) (kd sq ep ps nm y wh : Int) (X : Option Addr) (q xc : Nat) (hk : kd ≠ 0 ∧ kd ≠ 1 ∧ kd ≠ 2) :
  Calls Tryz.prog 111 #[.agg #[.int .i64 kd, .int .i64 sq, .int .i64 ep, .int .i64 ps, .int .i64 nm, .int .i64 y, .int .i64 wh, .slice X q xc]] w fun e w' => e = .returned (.tuple #[.nilIface, .bool false]) ∧ Below w.heap.size w w' := by
 have q0 : (kd == 0) = false := beq_eq_false_iff_ne.2 hk.1
 have q1 : (kd == 1) = false := beq_eq_false_iff_ne.2 hk.2.1
 have q2 : (kd == 2) = false := beq_eq_false_iff_ne.2 hk.2.2
 clear hk
 have RR := c8_new w (.int .i64 kd) (.int .i64 sq) (.int .i64 ep) (.int .i64 ps) (.int .i64 nm) (.int .i64 y) (.int .i64 wh) (.slice X q xc) 83
 have hw := bl w (.cells #[.int .i64 kd, .int .i64 sq, .int .i64 ep, .int .i64 ps, .int .i64 nm, .int .i64 y, .int .i64 wh, .slice X q xc] 83)
 have lw : w.heap.size < (w.alloc (.cells #[.int .i64 kd, .int .i64 sq, .int .i64 ep, .int .i64 ps, .int .i64 nm, .int .i64 y, .int .i64 wh, .slice X q xc] 83)).heap.size := by simp
 go_enter Tryz.func111, Tryz.ntmps111
 go_upto_region 1 with fail
 generalize w.alloc (.cells #[.int .i64 kd, .int .i64 sq, .int .i64 ep, .int .i64 ps, .int .i64 nm, .int .i64 y, .int .i64 wh, .slice X q xc] 83) = w0 at *
 obtain ⟨r0, r1, r2, r3, r4, r5, r6, r7⟩ := id RR
 go_upto_region 2 with fail
 have MM := c4_new w0 (.int .i64 sq) (.int .i64 ep) (.int .i64 ps) (.int .i64 nm) 180
 have R1 := RR.keep (bl w0 (.cells #[.int .i64 sq, .int .i64 ep, .int .i64 ps, .int .i64 nm] 180)) lw
 have hw1 := kal hw (.cells #[.int .i64 sq, .int .i64 ep, .int .i64 ps, .int .i64 nm] 180)
 have lm : w0.heap.size < (w0.alloc (.cells #[.int .i64 sq, .int .i64 ep, .int .i64 ps, .int .i64 nm] 180)).heap.size := by simp
 have hm1 := bl w0 (.cells #[.int .i64 sq, .int .i64 ep, .int .i64 ps, .int .i64 nm] 180)
 generalize w0.alloc (.cells #[.int .i64 sq, .int .i64 ep, .int .i64 ps, .int .i64 nm] 180) = w1 at *
 clear r0 r1 r2 r3 r4 r5 r6 r7 RR
 obtain ⟨r0, r1, r2, r3, r4, r5, r6, r7⟩ := id R1
 obtain ⟨m0, m1, m2, m3⟩ := id MM
 go_wp2_with fail
 go_ret2
 exact ⟨rfl, hw1⟩
theorem val0_c (z d s l a : Int) (w : World) :
  Calls Tryz.prog 112 #[.agg #[.int .i64 z, .int .i64 d, .int .i64 s, .int .i64 l, .int .i64 a], .iface 176 (.agg #[])] w fun e w' => e = .returned (.bool true) ∧ Below w.heap.size w w' := by
 have hw := bl w (.cells #[.int .i64 z, .int .i64 d, .int .i64 s, .int .i64 l, .int .i64 a] 23)
 have a1 := as_bb
 go_enter Tryz.func112, Tryz.ntmps112
 go_upto_region 1 with fail
 generalize w.alloc (.cells #[.int .i64 z, .int .i64 d, .int .i64 s, .int .i64 l, .int .i64 a] 23) = w0 at *
 go_wp2_with fail
 go_ret
 exact ⟨rfl, kal hw _⟩
theorem val2_c (b : Bool) (z d s l a sq ep ps nm : Int) (w : World) (hb : b = true ↔ (NumOk sq ∧ NumOk ep ∧ (2 ≤ nm ∧ nm ≤ 30)) ∧ ps = nm - 1) :
  Calls Tryz.prog 112 #[.agg #[.int .i64 z, .int .i64 d, .int .i64 s, .int .i64 l, .int .i64 a], .iface 182 (.agg #[.int .i64 sq, .int .i64 ep, .int .i64 ps, .int .i64 nm])] w fun e w' => e = .returned (.bool b) ∧ Below w.heap.size w w' := by
 obtain ⟨b1, h1⟩ := bool_is (NumOk sq ∧ NumOk ep ∧ (2 ≤ nm ∧ nm ≤ 30))
 have HM := Lib.hid fun W => mem_c b1 sq ep ps nm W h1
 have HB := Lib.hid hb
 have H1 := Lib.hid h1
 have hw := bl w (.cells #[.int .i64 z, .int .i64 d, .int .i64 s, .int .i64 l, .int .i64 a] 23)
 have a1 := as_cb
 have a2 := as_cc
 clear hb h1
 go_enter Tryz.func112, Tryz.ntmps112
 go_upto_region 1 with fail
 generalize w.alloc (.cells #[.int .i64 z, .int .i64 d, .int .i64 s, .int .i64 l, .int .i64 a] 23) = w0 at *
 go_upto_region 2 with fail
 have hw1 := kal hw (.cells #[] 176)
 generalize w0.alloc (.cells #[] 176) = w1 at *
 go_upto_region 5 with fail
 have CC := c4_new w1 (.int .i64 sq) (.int .i64 ep) (.int .i64 ps) (.int .i64 nm) 182
 have hw2 := kal hw1 (.cells #[.int .i64 sq, .int .i64 ep, .int .i64 ps, .int .i64 nm] 182)
 have lm : w1.heap.size < (w1.alloc (.cells #[.int .i64 sq, .int .i64 ep, .int .i64 ps, .int .i64 nm] 182)).heap.size := by simp
 generalize w1.alloc (.cells #[.int .i64 sq, .int .i64 ep, .int .i64 ps, .int .i64 nm] 182) = w2 at *
 obtain ⟨m0, m1, m2, m3⟩ := id CC
 cases b1
 ·have H : Hid (b = false) := Lib.hid (bool_no HB.out fun h => absurd (H1.out.2 h.1) Bool.false_ne_true)
  go_wp2_with (go_at_call 126; (with_reducible refine (HM.out _).mono ?_); rintro e w3 ⟨rfl, hb3⟩)
  go_ret
  exact ⟨ret_bool H.out.symm, bt hw2 hb3⟩
 have hnm := (H1.out.1 rfl).2.2
 have u1 : IntKind.i64.wrap (nm - 1) = nm - 1 := gmt.w6 _ (by omega) (by omega)
 clear hnm
 by_cases hp : ps = nm - 1
 ·have H : Hid (b = true) := Lib.hid (HB.out.2 ⟨H1.out.1 rfl, hp⟩)
  have q : (ps == nm - 1) = true := beq_iff_eq.2 hp
  clear hp
  go_wp2_with (go_at_call 126; (with_reducible refine (HM.out _).mono ?_); rintro e w3 ⟨rfl, hb3⟩; (have C2 := CC.keep hb3 lm); obtain ⟨k0, k1, k2, k3⟩ := id C2)
  go_ret
  exact ⟨ret_bool H.out.symm, bt hw2 hb3⟩
 ·have H : Hid (b = false) := Lib.hid (bool_no HB.out fun h => hp h.2)
  have q : (ps == nm - 1) = false := beq_eq_false_iff_ne.2 hp
  clear hp
  go_wp2_with (go_at_call 126; (with_reducible refine (HM.out _).mono ?_); rintro e w3 ⟨rfl, hb3⟩; (have C2 := CC.keep hb3 lm); obtain ⟨k0, k1, k2, k3⟩ := id C2)
  go_ret
  exact ⟨ret_bool H.out.symm, bt hw2 hb3⟩
theorem val1_c (b : Bool) (z d s l a sq ep ps nm y wh : Int) (X : Option Addr) (q xc : Nat) (L : List UInt8) (w : World) (ho : Ok z d s l a) (hx : BIn w w.heap.size ⟨y, wh, X, xc, L⟩) (hn : L.length = q) (hn1 : q ≤ 1048576) (hb : b = true ↔ (NumOk sq ∧ NumOk ep ∧ (2 ≤ nm ∧ nm ≤ 30)) ∧ (0 ≤ ps ∧ ps ≤ nm - 2) ∧ ImOk z d y wh L) :
  Calls Tryz.prog 112 #[.agg #[.int .i64 z, .int .i64 d, .int .i64 s, .int .i64 l, .int .i64 a], .iface 185 (.agg #[.int .i64 sq, .int .i64 ep, .int .i64 ps, .int .i64 nm, .int .i64 y, .int .i64 wh, .slice X q xc])] w fun e w' => e = .returned (.bool b) ∧ Below w.heap.size w w' := by
 obtain ⟨b1, h1⟩ := bool_is (NumOk sq ∧ NumOk ep ∧ (2 ≤ nm ∧ nm ≤ 30))
 obtain ⟨b2, h2⟩ := bool_is (0 ≤ ps ∧ ps ≤ nm - 2)
 obtain ⟨b3, h3⟩ := bool_is (ImOk z d y wh L)
 have HM := Lib.hid fun W => mem_c b1 sq ep ps nm W h1
 have HP := Lib.hid fun W => from_c b2 ps 0 (nm - 2) W h2
 have HI := Lib.hid (show ∀ W, Below w.heap.size w W → Calls Tryz.prog 128 #[.agg #[.int .i64 z, .int .i64 d, .int .i64 s, .int .i64 l, .int .i64 a], .agg #[.int .i64 y, .int .i64 wh, .slice X q xc]] W fun e w' => e = .returned (.bool b3) ∧ Below W.heap.size W w' from fun W hW => isimg_c b3 z d s l a y wh X q xc L W ho (hx.next hW) hn hn1 h3)
 have HB := Lib.hid (show b = (b1 && (b2 && b3)) by
  rw [Bool.eq_iff_iff, hb, Bool.and_eq_true, Bool.and_eq_true, h1, h2, h3])
 have H1 := Lib.hid h1
 have hw := bl w (.cells #[.int .i64 z, .int .i64 d, .int .i64 s, .int .i64 l, .int .i64 a] 23)
 have GG := g5_new w z d s l a
 have lg : w.heap.size < (w.alloc (.cells #[.int .i64 z, .int .i64 d, .int .i64 s, .int .i64 l, .int .i64 a] 23)).heap.size := by simp
 have a1 := as_lb
 have a2 := as_lc
 have a3 := as_ll
 clear hb h1 h2 h3 hx hn ho
 go_enter Tryz.func112, Tryz.ntmps112
 go_upto_region 1 with fail
 generalize w.alloc (.cells #[.int .i64 z, .int .i64 d, .int .i64 s, .int .i64 l, .int .i64 a] 23) = w0 at *
 go_upto_region 2 with fail
 have hx1 := bl w0 (.cells #[] 176)
 generalize w0.alloc (.cells #[] 176) = w1 at *
 go_upto_region 5 with fail
 have hx2 := kal hx1 (.cells #[.int .i64 0, .int .i64 0, .int .i64 0, .int .i64 0] 182)
 generalize w1.alloc (.cells #[.int .i64 0, .int .i64 0, .int .i64 0, .int .i64 0] 182) = w2 at *
 go_upto_region 8 with fail
 have CC := c7_new w2 (.int .i64 sq) (.int .i64 ep) (.int .i64 ps) (.int .i64 nm) (.int .i64 y) (.int .i64 wh) (.slice X q xc) 185
 have hx3 := kal hx2 (.cells #[.int .i64 sq, .int .i64 ep, .int .i64 ps, .int .i64 nm, .int .i64 y, .int .i64 wh, .slice X q xc] 185)
 have lm : w2.heap.size < (w2.alloc (.cells #[.int .i64 sq, .int .i64 ep, .int .i64 ps, .int .i64 nm, .int .i64 y, .int .i64 wh, .slice X q xc] 185)).heap.size := by simp
 generalize w2.alloc (.cells #[.int .i64 sq, .int .i64 ep, .int .i64 ps, .int .i64 nm, .int .i64 y, .int .i64 wh, .slice X q xc] 185) = w3 at *
 have G3 := GG.keep hx3 lg
 have hw3 := bt hw hx3
 have l3 := hx3.size
 clear GG hx1 hx2 hx3 hw
 obtain ⟨m0, m1, m2, m3, m4, m5, m6⟩ := id CC
 cases b1
 ·go_wp2_with (go_at_call 126; (with_reducible refine (HM.out _).mono ?_); rintro e w4 ⟨rfl, hb4⟩)
  go_ret
  exact ⟨ret_bool HB.out.symm, bt hw3 hb4⟩
 have hnm := (H1.out.1 rfl).2.2
 have u1 : IntKind.i64.wrap (nm - 2) = nm - 2 := gmt.w6 _ (by omega) (by omega)
 clear hnm
 cases b2
 ·go_wp2_with (first
   | (go_at_call 126; (with_reducible refine (HM.out _).mono ?_); rintro e w4 ⟨rfl, hb4⟩; (have C4 := CC.keep hb4 lm); obtain ⟨k0, k1, k2, k3, k4, k5, k6⟩ := id C4)
   | (go_at_call 127; (with_reducible refine (HP.out _).mono ?_); rintro e w5 ⟨rfl, rfl⟩))
  go_ret
  exact ⟨ret_bool HB.out.symm, bt hw3 hb4⟩
 ·go_wp2_with (first
   | (go_at_call 126; (with_reducible refine (HM.out _).mono ?_); rintro e w4 ⟨rfl, hb4⟩; (have C4 := CC.keep hb4 lm); (have G4 := G3.keep hb4 (by omega)); (obtain ⟨k0, k1, k2, k3, k4, k5, k6⟩ := id C4); obtain ⟨g0, g1, g2, g3, g4⟩ := id G4)
   | (go_at_call 127; (with_reducible refine (HP.out _).mono ?_); rintro e w5 ⟨rfl, rfl⟩)
   | (go_at_call 128; (with_reducible refine (HI.out _ (bt hw3 hb4)).mono ?_); rintro e w6 ⟨rfl, hb6⟩))
  go_ret
  exact ⟨ret_bool HB.out.symm, bt (bt hw3 hb4) hb6⟩
end Go.Proofs.YtbfdpibjicjagaaGreatDoor.lrc
namespace Go.Proofs.YtbfdpibjicjagaaGreatDoor.lrc
open Go.RowKit Go.Lib
open Go.Proofs.YtbfdpibjicjagaaGreatDoor.gmt (Ok)
open Go.Proofs.YtbfdpibjicjagaaGreatDoor.anc (bl kal kst ks bm ka)
open Go.Proofs.YtbfdpibjicjagaaGreatDoor.tbl (C1 c1_new G5 g5_new)
open Go.Proofs.YtbfdpibjicjagaaGreatDoor.img
open Go.Proofs.YtbfdpibjicjagaaGreatDoor.pck (le le_length num AllFit bytesOf)
theorem own_qn {w : World} {base q : Nat} {e : TypeId} {v : Value} {l : List UInt8} (h : Own w base e v l) (hq : l.length = q) : ∃ X c, v = .slice X q c ∧ Own w base e (.slice X q c) l := by
 obtain ⟨A, c, rfl, -⟩ := h.form
 rw [hq] at h ⊢
 exact ⟨A, c, rfl, h⟩
theorem hsizes_c (w : World) :
  Calls Tryz.prog 109 #[] w fun e w' => e = .returned (.slice (some ⟨w.heap.size, 0, none⟩) 5 5) ∧ w' = w.alloc (.cells #[.int .i64 1, .int .i64 4, .int .i64 4, .int .i64 1, .int .i64 1] 3) := by
 go_enter Tryz.func109, Tryz.ntmps109
 go_wp2
 go_ret
 exact ⟨rfl, rfl⟩
theorem isizes_c (w : World) :
  Calls Tryz.prog 124 #[] w fun e w' => e = .returned (.slice (some ⟨w.heap.size, 0, none⟩) 2 2) ∧ w' = w.alloc (.cells #[.int .i64 1, .int .i64 1] 3) := by
 go_enter Tryz.func124, Tryz.ntmps124
 go_wp2
 go_ret
 exact ⟨rfl, rfl⟩
theorem head_fit (k sq ep ps nm : Int) (hk1 : 0 ≤ k ∧ k ≤ 255) (hsq : 0 ≤ sq ∧ sq ≤ 4294967295) (hep : 0 ≤ ep ∧ ep ≤ 4294967295) (hps : 0 ≤ ps ∧ ps ≤ 255) (hnm : 0 ≤ nm ∧ nm ≤ 255) : AllFit [(k, 1), (sq, 4), (ep, 4), (ps, 1), (nm, 1)] := by
 intro p hp
 simp only [List.mem_cons, List.not_mem_nil, or_false] at hp
 rcases hp with rfl | rfl | rfl | rfl | rfl
 ·exact ⟨1, k.toNat, rfl, by simp only; omega, .inl rfl, by omega⟩
 ·exact ⟨4, sq.toNat, rfl, by simp only; omega, .inr (.inr rfl), by omega⟩
 ·exact ⟨4, ep.toNat, rfl, by simp only; omega, .inr (.inr rfl), by omega⟩
 ·exact ⟨1, ps.toNat, rfl, by simp only; omega, .inl rfl, by omega⟩
 ·exact ⟨1, nm.toNat, rfl, by simp only; omega, .inl rfl, by omega⟩
theorem head_row (k sq ep ps nm : Int) (hk1 : 0 ≤ k ∧ k ≤ 255) (hsq : 0 ≤ sq ∧ sq ≤ 4294967295) (hep : 0 ≤ ep ∧ ep ≤ 4294967295) (hps : 0 ≤ ps ∧ ps ≤ 255) (hnm : 0 ≤ nm ∧ nm ≤ 255) (W : World) (g1 g2 c1 c2 : Nat) (t1 t2 : TypeId) (f1 f2 : Nat × Nat) (h1 : W.heap[g1]? = some (.cells #[.int .i64 k, .int .i64 sq, .int .i64 ep, .int .i64 ps, .int .i64 nm] t1 f1)) (h2 : W.heap[g2]? = some (.cells #[.int .i64 1, .int .i64 4, .int .i64 4, .int .i64 1, .int .i64 1] t2 f2)) :
  Calls Tryz.prog 96 #[.slice (some ⟨g1, 0, none⟩) 5 c1, .slice (some ⟨g2, 0, none⟩) 5 c2] W fun e w' => (∃ X x, e = .returned (.tuple #[.slice X 11 x, .int .i64 0]) ∧ Own w' W.heap.size 5 (.slice X 11 x) (le 1 k.toNat ++ (le 4 sq.toNat ++ (le 4 ep.toNat ++ (le 1 ps.toNat ++ le 1 nm.toNat))))) ∧ Below W.heap.size W w' := by
 have l1 : g1 < W.heap.size := (Array.getElem?_eq_some_iff.1 h1).1
 have l2 : g2 < W.heap.size := (Array.getElem?_eq_some_iff.1 h2).1
 have hl : ((le 1 k.toNat ++ (le 4 sq.toNat ++ (le 4 ep.toNat ++ (le 1 ps.toNat ++ le 1 nm.toNat)))) : List UInt8).length = 11 := by simp [le_length]
 have hy : bytesOf [(k, 1), (sq, 4), (ep, 4), (ps, 1), (nm, 1)] = (le 1 k.toNat ++ (le 4 sq.toNat ++ (le 4 ep.toNat ++ (le 1 ps.toNat ++ le 1 nm.toNat)))) := by simp [bytesOf]
 refine (pck.row_any 5 (some ⟨g1, 0, none⟩) (some ⟨g2, 0, none⟩) c1 c2 [(k, 1), (sq, 4), (ep, 4), (ps, 1), (nm, 1)] W rfl (by omega) (SlV.of_block h1 rfl l1) (SlV.of_block h2 rfl l2)).mono ?_
 rintro e w' ⟨h | h, hb⟩
 ·obtain ⟨-, v, rfl, ho⟩ := h
  rw [hy] at ho
  obtain ⟨X, x, rfl, ho⟩ := own_qn ho hl
  exact ⟨⟨X, x, rfl, ho⟩, hb⟩
 ·exact absurd (head_fit k sq ep ps nm hk1 hsq hep hps hnm) h.1
theorem head_orders (k sq ep ps nm : Int) (hk1 : 0 ≤ k ∧ k ≤ 255) (hsq : 0 ≤ sq ∧ sq ≤ 4294967295) (hep : 0 ≤ ep ∧ ep ≤ 4294967295) (hps : 0 ≤ ps ∧ ps ≤ 255) (hnm : 0 ≤ nm ∧ nm ≤ 255) (w0 : World) :
  Calls Tryz.prog 96 #[.slice (some ⟨w0.heap.size, 0, none⟩) 5 5, .slice (some ⟨w0.heap.size + 1, 0, none⟩) 5 5] ((w0.alloc (.cells #[.int .i64 k, .int .i64 sq, .int .i64 ep, .int .i64 ps, .int .i64 nm] 3)).alloc (.cells #[.int .i64 1, .int .i64 4, .int .i64 4, .int .i64 1, .int .i64 1] 3)).drew (fun e w' => (∃ X x, e = .returned (.tuple #[.slice X 11 x, .int .i64 0]) ∧ Own w' w0.heap.size 5 (.slice X 11 x) (le 1 k.toNat ++ (le 4 sq.toNat ++ (le 4 ep.toNat ++ (le 1 ps.toNat ++ le 1 nm.toNat))))) ∧ Below w0.heap.size w0 w') ∧
  Calls Tryz.prog 96 #[.slice (some ⟨w0.heap.size + 1, 0, none⟩) 5 5, .slice (some ⟨w0.heap.size, 0, none⟩) 5 5] ((w0.alloc (.cells #[.int .i64 1, .int .i64 4, .int .i64 4, .int .i64 1, .int .i64 1] 3)).alloc (.cells #[.int .i64 k, .int .i64 sq, .int .i64 ep, .int .i64 ps, .int .i64 nm] 3)).drew (fun e w' => (∃ X x, e = .returned (.tuple #[.slice X 11 x, .int .i64 0]) ∧ Own w' w0.heap.size 5 (.slice X 11 x) (le 1 k.toNat ++ (le 4 sq.toNat ++ (le 4 ep.toNat ++ (le 1 ps.toNat ++ le 1 nm.toNat))))) ∧ Below w0.heap.size w0 w') := by
 have h1 := head_row k sq ep ps nm hk1 hsq hep hps hnm ((w0.alloc (.cells #[.int .i64 k, .int .i64 sq, .int .i64 ep, .int .i64 ps, .int .i64 nm] 3)).alloc (.cells #[.int .i64 1, .int .i64 4, .int .i64 4, .int .i64 1, .int .i64 1] 3)).drew w0.heap.size (w0.heap.size + 1) 5 5 3 3 (0, 0) (0, 0) (sel.old_new w0 _ _) (sel.new_new w0 _ _)
 have h2 := head_row k sq ep ps nm hk1 hsq hep hps hnm ((w0.alloc (.cells #[.int .i64 1, .int .i64 4, .int .i64 4, .int .i64 1, .int .i64 1] 3)).alloc (.cells #[.int .i64 k, .int .i64 sq, .int .i64 ep, .int .i64 ps, .int .i64 nm] 3)).drew (w0.heap.size + 1) w0.heap.size 5 5 3 3 (0, 0) (0, 0) (sel.new_new w0 _ _) (sel.old_new w0 _ _)
 have s1 : w0.heap.size ≤ ((w0.alloc (.cells #[.int .i64 k, .int .i64 sq, .int .i64 ep, .int .i64 ps, .int .i64 nm] 3)).alloc (.cells #[.int .i64 1, .int .i64 4, .int .i64 4, .int .i64 1, .int .i64 1] 3)).drew.heap.size := (below_dr (kal (bl w0 _) _)).size
 have s2 : w0.heap.size ≤ ((w0.alloc (.cells #[.int .i64 1, .int .i64 4, .int .i64 4, .int .i64 1, .int .i64 1] 3)).alloc (.cells #[.int .i64 k, .int .i64 sq, .int .i64 ep, .int .i64 ps, .int .i64 nm] 3)).drew.heap.size := (below_dr (kal (bl w0 _) _)).size
 refine ⟨h1.mono ?_, h2.mono ?_⟩
 ·rintro e w' ⟨⟨X, x, he, ho⟩, hb⟩
  exact ⟨⟨X, x, he, ho.less s1⟩, bt (below_dr (kal (bl w0 _) _)) hb⟩
 ·rintro e w' ⟨⟨X, x, he, ho⟩, hb⟩
  exact ⟨⟨X, x, he, ho.less s2⟩, bt (below_dr (kal (bl w0 _) _)) hb⟩
theorem img_fit (y u : Int) (hy1 : 0 ≤ y ∧ y ≤ 255) (hh1 : 0 ≤ u ∧ u ≤ 255) : AllFit [(y, 1), (u, 1)] := by
 intro p hp
 simp only [List.mem_cons, List.not_mem_nil, or_false] at hp
 rcases hp with rfl | rfl
 ·exact ⟨1, y.toNat, rfl, by simp only; omega, .inl rfl, by omega⟩
 ·exact ⟨1, u.toNat, rfl, by simp only; omega, .inl rfl, by omega⟩
theorem img_row (y u : Int) (hy1 : 0 ≤ y ∧ y ≤ 255) (hh1 : 0 ≤ u ∧ u ≤ 255) (W : World) (g1 g2 c1 c2 : Nat) (t1 t2 : TypeId) (f1 f2 : Nat × Nat) (h1 : W.heap[g1]? = some (.cells #[.int .i64 y, .int .i64 u] t1 f1)) (h2 : W.heap[g2]? = some (.cells #[.int .i64 1, .int .i64 1] t2 f2)) :
  Calls Tryz.prog 96 #[.slice (some ⟨g1, 0, none⟩) 2 c1, .slice (some ⟨g2, 0, none⟩) 2 c2] W fun e w' => (∃ X x, e = .returned (.tuple #[.slice X 2 x, .int .i64 0]) ∧ Own w' W.heap.size 5 (.slice X 2 x) (le 1 y.toNat ++ le 1 u.toNat)) ∧ Below W.heap.size W w' := by
 have l1 : g1 < W.heap.size := (Array.getElem?_eq_some_iff.1 h1).1
 have l2 : g2 < W.heap.size := (Array.getElem?_eq_some_iff.1 h2).1
 have hl : ((le 1 y.toNat ++ le 1 u.toNat) : List UInt8).length = 2 := by simp [le_length]
 have hy : bytesOf [(y, 1), (u, 1)] = (le 1 y.toNat ++ le 1 u.toNat) := by simp [bytesOf]
 refine (pck.row_any 2 (some ⟨g1, 0, none⟩) (some ⟨g2, 0, none⟩) c1 c2 [(y, 1), (u, 1)] W rfl (by omega) (SlV.of_block h1 rfl l1) (SlV.of_block h2 rfl l2)).mono ?_
 rintro e w' ⟨h | h, hb⟩
 ·obtain ⟨-, v, rfl, ho⟩ := h
  rw [hy] at ho
  obtain ⟨X, x, rfl, ho⟩ := own_qn ho hl
  exact ⟨⟨X, x, rfl, ho⟩, hb⟩
 ·exact absurd (img_fit y u hy1 hh1) h.1
theorem img_orders (y u : Int) (hy1 : 0 ≤ y ∧ y ≤ 255) (hh1 : 0 ≤ u ∧ u ≤ 255) (w0 : World) :
  Calls Tryz.prog 96 #[.slice (some ⟨w0.heap.size, 0, none⟩) 2 2, .slice (some ⟨w0.heap.size + 1, 0, none⟩) 2 2] ((w0.alloc (.cells #[.int .i64 y, .int .i64 u] 3)).alloc (.cells #[.int .i64 1, .int .i64 1] 3)).drew (fun e w' => (∃ X x, e = .returned (.tuple #[.slice X 2 x, .int .i64 0]) ∧ Own w' w0.heap.size 5 (.slice X 2 x) (le 1 y.toNat ++ le 1 u.toNat)) ∧ Below w0.heap.size w0 w') ∧
  Calls Tryz.prog 96 #[.slice (some ⟨w0.heap.size + 1, 0, none⟩) 2 2, .slice (some ⟨w0.heap.size, 0, none⟩) 2 2] ((w0.alloc (.cells #[.int .i64 1, .int .i64 1] 3)).alloc (.cells #[.int .i64 y, .int .i64 u] 3)).drew (fun e w' => (∃ X x, e = .returned (.tuple #[.slice X 2 x, .int .i64 0]) ∧ Own w' w0.heap.size 5 (.slice X 2 x) (le 1 y.toNat ++ le 1 u.toNat)) ∧ Below w0.heap.size w0 w') := by
 have h1 := img_row y u hy1 hh1 ((w0.alloc (.cells #[.int .i64 y, .int .i64 u] 3)).alloc (.cells #[.int .i64 1, .int .i64 1] 3)).drew w0.heap.size (w0.heap.size + 1) 2 2 3 3 (0, 0) (0, 0) (sel.old_new w0 _ _) (sel.new_new w0 _ _)
 have h2 := img_row y u hy1 hh1 ((w0.alloc (.cells #[.int .i64 1, .int .i64 1] 3)).alloc (.cells #[.int .i64 y, .int .i64 u] 3)).drew (w0.heap.size + 1) w0.heap.size 2 2 3 3 (0, 0) (0, 0) (sel.new_new w0 _ _) (sel.old_new w0 _ _)
 have s1 : w0.heap.size ≤ ((w0.alloc (.cells #[.int .i64 y, .int .i64 u] 3)).alloc (.cells #[.int .i64 1, .int .i64 1] 3)).drew.heap.size := (below_dr (kal (bl w0 _) _)).size
 have s2 : w0.heap.size ≤ ((w0.alloc (.cells #[.int .i64 1, .int .i64 1] 3)).alloc (.cells #[.int .i64 y, .int .i64 u] 3)).drew.heap.size := (below_dr (kal (bl w0 _) _)).size
 refine ⟨h1.mono ?_, h2.mono ?_⟩
 ·rintro e w' ⟨⟨X, x, he, ho⟩, hb⟩
  exact ⟨⟨X, x, he, ho.less s1⟩, bt (below_dr (kal (bl w0 _) _)) hb⟩
 ·rintro e w' ⟨⟨X, x, he, ho⟩, hb⟩
  exact ⟨⟨X, x, he, ho.less s2⟩, bt (below_dr (kal (bl w0 _) _)) hb⟩
theorem head_c (k sq ep ps nm : Int) (hk1 : 0 ≤ k ∧ k ≤ 255) (hsq : 0 ≤ sq ∧ sq ≤ 4294967295) (hep : 0 ≤ ep ∧ ep ≤ 4294967295) (hps : 0 ≤ ps ∧ ps ≤ 255) (hnm : 0 ≤ nm ∧ nm ≤ 255) (w : World) :
  Calls Tryz.prog 113 #[.int .i64 k, .agg #[.int .i64 sq, .int .i64 ep, .int .i64 ps, .int .i64 nm]] w fun e w' => (∃ X x, e = .returned (.slice X 11 x) ∧ Own w' w.heap.size 5 (.slice X 11 x) (le 1 k.toNat ++ (le 4 sq.toNat ++ (le 4 ep.toNat ++ (le 1 ps.toNat ++ le 1 nm.toNat))))) ∧ Below w.heap.size w w' := by
 have HO := fun w0 => head_orders k sq ep ps nm hk1 hsq hep hps hnm w0
 generalize ((le 1 k.toNat ++ (le 4 sq.toNat ++ (le 4 ep.toNat ++ (le 1 ps.toNat ++ le 1 nm.toNat)))) : List UInt8) = B at *
 have MM := c4_new w (.int .i64 sq) (.int .i64 ep) (.int .i64 ps) (.int .i64 nm) 180
 have hw := bl w (.cells #[.int .i64 sq, .int .i64 ep, .int .i64 ps, .int .i64 nm] 180)
 have lw : w.heap.size < (w.alloc (.cells #[.int .i64 sq, .int .i64 ep, .int .i64 ps, .int .i64 nm] 180)).heap.size := by simp
 clear hk1 hsq hep hps hnm
 go_enter Tryz.func113, Tryz.ntmps113
 go_upto_region 1 with fail
 generalize w.alloc (.cells #[.int .i64 sq, .int .i64 ep, .int .i64 ps, .int .i64 nm] 180) = w0 at *
 have H1 := Lib.hid (HO w0).1
 have H2 := Lib.hid (HO w0).2
 have HF := Lib.hid (show ∀ W, Below w0.heap.size w0 W → (W.cell? ⟨w.heap.size, 0, none⟩ = some (.int .i64 sq) ∧ W.cell? ⟨w.heap.size, 1, none⟩ = some (.int .i64 ep) ∧ W.cell? ⟨w.heap.size, 2, none⟩ = some (.int .i64 ps) ∧ W.cell? ⟨w.heap.size, 3, none⟩ = some (.int .i64 nm)) ∧ Below w0.heap.size w0 W from fun W hW => by
  have M := MM.keep hW lw
  exact ⟨⟨M.c0, M.c1, M.c2, M.c3⟩, hW⟩)
 clear HO
 go_region_held3 (fun W => (W.cell? ⟨w.heap.size, 0, none⟩ = some (.int .i64 sq) ∧ W.cell? ⟨w.heap.size, 1, none⟩ = some (.int .i64 ep) ∧ W.cell? ⟨w.heap.size, 2, none⟩ = some (.int .i64 ps) ∧ W.cell? ⟨w.heap.size, 3, none⟩ = some (.int .i64 nm)) ∧ Below w0.heap.size w0 W)
  ((refine HF.out _ ?_; first
   | with_reducible exact below_dr (Below.refl _ _)
   | with_reducible exact below_dr (kal (Below.refl _ _) _)
   | with_reducible exact below_dr (kal (kal (Below.refl _ _) _) _)
   | with_reducible assumption
   | fail))
  (first
   | (go_at_call 109; (with_reducible refine (hsizes_c _).mono ?_); rintro e w1 ⟨rfl, rfl⟩)
   | (go_at_call 96; (with_reducible refine H1.out.mono ?_); rintro e w1 ⟨⟨X1, x1, rfl, ho1⟩, hb1⟩)
   | (go_at_call 96; (with_reducible refine H2.out.mono ?_); rintro e w1 ⟨⟨X1, x1, rfl, ho1⟩, hb1⟩))
 all_goals
  go_wp2
  go_ret
  exact ⟨⟨X1, x1, rfl, ho1.less hw.size⟩, bt hw hb1⟩
theorem concat_own (X1 X2 : Option Addr) (x1 x2 n1 n2 B1 B2 : Nat) (l1 l2 : List UInt8) (W : World) (hb : n1 + n2 ≤ 1048576) (h1 : l1.length = n1) (h2 : l2.length = n2) (s1 : Own W B1 5 (.slice X1 n1 x1) l1) (s2 : Own W B2 5 (.slice X2 n2 x2) l2) :
  Calls Tryz.prog 99 #[.slice (some ⟨W.heap.size, 0, none⟩) 2 2] (W.alloc (.cells #[.slice X1 n1 x1, .slice X2 n2 x2] 49)) fun e w' => (∃ X x, e = .returned (.slice X (n1 + n2 : Nat) x) ∧ Own w' W.heap.size 5 (.slice X (n1 + n2 : Nat) x) (l1 ++ l2)) ∧ Below W.heap.size W w' := by
 subst h1 h2
 obtain ⟨A1, c1, e1, -, -, k1, -⟩ := s1.form
 obtain ⟨A2, c2, e2, -, -, k2, -⟩ := s2.form
 cases e1
 cases e2
 have hB := bl W (.cells #[.slice X1 l1.length x1, .slice X2 l2.length x2] 49)
 have hf : sel.flats [⟨X1, x1, l1⟩, ⟨X2, x2, l2⟩] = l1 ++ l2 := by simp [sel.flats]
 have hc := sel.concat_any (some ⟨W.heap.size, 0, none⟩) 2 _ 2 [⟨X1, x1, l1⟩, ⟨X2, x2, l2⟩] (W.alloc (.cells #[.slice X1 l1.length x1, .slice X2 l2.length x2] 49)) rfl (SlV.of_block (heap_alloc_new W _) rfl (by simp))
  (fun r hr => by
   simp only [List.mem_cons, List.not_mem_nil, or_false] at hr
   rcases hr with rfl | rfl
   ·exact (k1.below hB).more hB.size
   ·exact (k2.below hB).more hB.size) (Nat.le_refl _) (by omega) (by rw [hf, List.length_append]; exact hb)
 rw [hf] at hc
 refine hc.mono ?_
 rintro e w' ⟨⟨v, rfl, ho⟩, hb'⟩
 obtain ⟨X, x, rfl, ho⟩ := own_qn ho (List.length_append)
 exact ⟨⟨X, x, rfl, ho.less hB.size⟩, bt hB hb'⟩
theorem encimg_c (y wh : Int) (X : Option Addr) (q xc : Nat) (L : List UInt8) (w : World) (hy1 : 0 ≤ y ∧ y ≤ 255) (hwh : -1 ≤ wh ∧ wh ≤ 255) (hx : BIn w w.heap.size ⟨y, wh, X, xc, L⟩) (hn : L.length = q) (hn1 : q ≤ 255) :
  Calls Tryz.prog 114 #[.agg #[.int .i64 y, .int .i64 wh, .slice X q xc]] w fun e w' => (∃ X' x', e = .returned (.slice X' (3 + q : Nat) x') ∧ Own w' w.heap.size 5 (.slice X' (3 + q : Nat) x') (le 1 y.toNat ++ (le 1 (whB wh) ++ (le 1 q ++ L)))) ∧ Below w.heap.size w w' := by
 obtain ⟨h, hh⟩ : ∃ h : Int, h = if wh = -1 then 254 else wh := ⟨_, rfl⟩
 have hh1 : 0 ≤ h ∧ h ≤ 255 := by rw [hh]; split <;> omega
 have hwb : whB wh = h.toNat := by unfold whB; rw [hh]; split <;> rfl
 rw [hwb]
 have HO := fun w0 => img_orders y h hy1 hh1 w0
 have HP := Lib.hid (show ∀ W, Below w.heap.size w W → Calls Tryz.prog 98 #[.slice X q xc] W fun e w' => (∃ X' x', e = .returned (.tuple #[.slice X' (q + 1 : Nat) x', .int .i64 0]) ∧ Own w' W.heap.size 5 (.slice X' (q + 1 : Nat) x') (le 1 q ++ L)) ∧ Below W.heap.size W w' from fun W hW => by
  refine (pck.part_ok q X xc L W hn hn1 (hx.next hW).1).mono ?_
  rintro e w' ⟨⟨v, rfl, ho⟩, hb⟩
  obtain ⟨X', x', rfl, ho⟩ := own_qn ho (show (le 1 q ++ L).length = q + 1 by rw [List.length_append, le_length]; omega)
  exact ⟨⟨X', x', rfl, ho⟩, hb⟩)
 have hl1 : (le 1 y.toNat ++ le 1 h.toNat).length = 2 := by simp [le_length]
 have hl2 : (le 1 q ++ L).length = q + 1 := by rw [List.length_append, le_length]; omega
 have HC := Lib.hid fun (W : World) (X1 X2 : Option Addr) (x1 x2 B1 B2 : Nat) (s1 : Own W B1 5 (.slice X1 2 x1) (le 1 y.toNat ++ le 1 h.toNat)) (s2 : Own W B2 5 (.slice X2 (q + 1 : Nat) x2) (le 1 q ++ L)) => concat_own X1 X2 x1 x2 2 (q + 1) B1 B2 _ _ W (by omega) hl1 hl2 s1 s2
 rw [show le 1 y.toNat ++ (le 1 h.toNat ++ (le 1 q ++ L)) = (le 1 y.toNat ++ le 1 h.toNat) ++ (le 1 q ++ L) by simp, show 3 + q = 2 + (q + 1) by omega]
 generalize le 1 y.toNat ++ le 1 h.toNat = F at *
 generalize le 1 q ++ L = G at *
 have MM := c3_new w (.int .i64 y) (.int .i64 wh) (.slice X q xc) 81
 have hw := bl w (.cells #[.int .i64 y, .int .i64 wh, .slice X q xc] 81)
 have lw : w.heap.size < (w.alloc (.cells #[.int .i64 y, .int .i64 wh, .slice X q xc] 81)).heap.size := by simp
 have HH := Lib.hid hh
 clear hwb hx hn hy1 hwh hh hl1 hl2
 go_enter Tryz.func114, Tryz.ntmps114
 go_upto_region 1 with fail
 generalize w.alloc (.cells #[.int .i64 y, .int .i64 wh, .slice X q xc] 81) = w0 at *
 have H1 := Lib.hid (HO w0).1
 have H2 := Lib.hid (HO w0).2
 clear HO
 have HF := Lib.hid (show ∀ W, Below w0.heap.size w0 W → W.cell? ⟨w.heap.size, 0, none⟩ = some (.int .i64 y) ∧ Below w0.heap.size w0 W from fun W hW => ⟨(MM.keep hW lw).c0, hW⟩)
 obtain ⟨m0, m1, m2⟩ := id MM
 go_upto_if 11 with fail
 go_cut [3] from 12 (fun v wc => v = .int .i64 h ∧ wc = w0)
 case first =>
  by_cases hm : wh = -1
  ·have q : (wh == -1) = true := beq_iff_eq.2 hm
   have e1 : h = 254 := by rw [HH.out, if_pos hm]
   have E1 := Lib.hid e1
   clear e1 hm
   go_wp2_with fail
   go_meet
   case rel => exact ⟨by rw [E1.out], rfl⟩
  ·have q : (wh == -1) = false := beq_eq_false_iff_ne.2 hm
   have e1 : h = wh := by rw [HH.out, if_neg hm]
   have E1 := Lib.hid e1
   clear e1
   go_wp2_with fail
   go_meet
   case rel => exact ⟨by rw [E1.out], rfl⟩
 case rest =>
  obtain ⟨rfl, rfl⟩ := hcut
  clear m0 m1 m2
  go_upto_region 4 with fail
  go_region_held3 (fun W => W.cell? ⟨w.heap.size, 0, none⟩ = some (.int .i64 y) ∧ Below wc.heap.size wc W)
   ((refine HF.out _ ?_; first
    | with_reducible exact below_dr (Below.refl _ _)
    | with_reducible exact below_dr (kal (Below.refl _ _) _)
    | with_reducible exact below_dr (kal (kal (Below.refl _ _) _) _)
    | with_reducible assumption
    | fail))
   (first
    | (go_at_call 124; (with_reducible refine (isizes_c _).mono ?_); rintro e w1 ⟨rfl, rfl⟩)
    | (go_at_call 96; (with_reducible refine H1.out.mono ?_); rintro e w1 ⟨⟨X1, x1, rfl, ho1⟩, hb1⟩)
    | (go_at_call 96; (with_reducible refine H2.out.mono ?_); rintro e w1 ⟨⟨X1, x1, rfl, ho1⟩, hb1⟩))
  all_goals
   have M1 := MM.keep hb1 lw
   have hw1 := bt hw hb1
   obtain ⟨m0, m1, m2⟩ := id M1
   go_wp2_with (first
    | (go_at_call 98; (with_reducible refine (HP.out _ hw1).mono ?_); rintro e w2 ⟨⟨X2, x2, rfl, ho2⟩, hb2⟩; have ho1 := ho1.below hb2)
    | (go_at_call 99; (with_reducible refine (HC.out _ _ _ _ _ _ _ ho1 ho2).mono ?_); rintro e w3 ⟨⟨X3, x3, rfl, ho3⟩, hb3⟩))
   go_ret
   exact ⟨⟨X3, x3, rfl, ho3.less (bt hw1 hb2).size⟩, bt (bt hw1 hb2) hb3⟩
end Go.Proofs.YtbfdpibjicjagaaGreatDoor.lrc
namespace Go.Proofs.YtbfdpibjicjagaaGreatDoor.lrc
open Go.RowKit Go.Lib
open Go.Proofs.YtbfdpibjicjagaaGreatDoor.gmt (Ok)
open Go.Proofs.YtbfdpibjicjagaaGreatDoor.anc (bl kal kst ks bm ka)
open Go.Proofs.YtbfdpibjicjagaaGreatDoor.tbl (C1 c1_new G5 g5_new)
open Go.Proofs.YtbfdpibjicjagaaGreatDoor.img
open Go.Proofs.YtbfdpibjicjagaaGreatDoor.pck (le le_length num)
def recV (r : RcR) (n : Nat) : Value := if r.kd = 0 then .iface 176 (.agg #[]) else if r.kd = 1 then .iface 185 (.agg #[.int .i64 r.sq, .int .i64 r.ep, .int .i64 r.ps, .int .i64 r.nm, .int .i64 r.i.z, .int .i64 r.i.wh, .slice r.i.A n r.i.c]) else .iface 182 (.agg #[.int .i64 r.sq, .int .i64 r.ep, .int .i64 r.ps, .int .i64 r.nm])
def Enc1 (base : Nat) (b : List UInt8) (e : Ending) (w' : World) : Prop := ∃ (X : Option Addr) (c : Nat), e = .returned (.slice X b.length c) ∧ Own w' base 5 (.slice X b.length c) b
theorem enc0_c (w : World) : Calls Tryz.prog 95 #[.iface 176 (.agg #[])] w fun e w' => (∃ X x, e = .returned (.slice X 11 x) ∧ Own w' w.heap.size 5 (.slice X 11 x) (headB noRec)) ∧ Below w.heap.size w w' := by
 have HH := Lib.hid (show ∀ W, Calls Tryz.prog 113 #[.int .i64 0, .agg #[.int .i64 0, .int .i64 0, .int .i64 0, .int .i64 0]] W fun e w' => (∃ X x, e = .returned (.slice X 11 x) ∧ Own w' W.heap.size 5 (.slice X 11 x) (headB noRec)) ∧ Below W.heap.size W w' from fun W => head_c 0 0 0 0 0 (by omega) (by omega) (by omega) (by omega) (by omega) W)
 have a1 := as_bb
 generalize headB noRec = B at *
 go_enter Tryz.func95, Tryz.ntmps95
 have hw := bl w (.cells #[] 176)
 go_upto_region 2 with fail
 generalize w.alloc (.cells #[] 176) = w0 at *
 go_wp2_with (go_at_call 113; (with_reducible refine (HH.out _).mono ?_); rintro e w1 ⟨⟨X, x, rfl, ho⟩, hb1⟩)
 go_ret
 exact ⟨⟨X, x, rfl, ho.less hw.size⟩, bt hw hb1⟩
theorem enc2_c (r : RcR) (w : World) (hh : Head r.d) (hp : r.ps = r.nm - 1) (hk : r.kd = 2) : Calls Tryz.prog 95 #[.iface 182 (.agg #[.int .i64 r.sq, .int .i64 r.ep, .int .i64 r.ps, .int .i64 r.nm])] w fun e w' => (∃ X x, e = .returned (.slice X 11 x) ∧ Own w' w.heap.size 5 (.slice X 11 x) (headB r.d)) ∧ Below w.heap.size w w' := by
 obtain ⟨q1, q2, q3⟩ := hh
 simp only [RcR.d] at q1 q2 q3
 have HH := Lib.hid (show ∀ W, Calls Tryz.prog 113 #[.int .i64 2, .agg #[.int .i64 r.sq, .int .i64 r.ep, .int .i64 r.ps, .int .i64 r.nm]] W fun e w' => (∃ X x, e = .returned (.slice X 11 x) ∧ Own w' W.heap.size 5 (.slice X 11 x) (headB r.d)) ∧ Below W.heap.size W w' from fun W => by
  have h9 := head_c 2 r.sq r.ep r.ps r.nm (by omega) q1 q2 (by omega) (by omega) W
  rw [show headB r.d = le 1 r.kd.toNat ++ (le 4 r.sq.toNat ++ (le 4 r.ep.toNat ++ (le 1 r.ps.toNat ++ le 1 r.nm.toNat))) from rfl, hk]
  exact h9)
 have a1 := as_cb
 have a2 := as_cc
 generalize headB r.d = B at *
 clear q1 q2 q3 hp hk
 go_enter Tryz.func95, Tryz.ntmps95
 have hw := bl w (.cells #[] 176)
 go_upto_region 2 with fail
 generalize w.alloc (.cells #[] 176) = w0 at *
 have hw1 := kal hw (.cells #[.int .i64 r.sq, .int .i64 r.ep, .int .i64 r.ps, .int .i64 r.nm] 182)
 have CC := c4_new w0 (.int .i64 r.sq) (.int .i64 r.ep) (.int .i64 r.ps) (.int .i64 r.nm) 182
 go_upto_region 5 with fail
 generalize w0.alloc (.cells #[.int .i64 r.sq, .int .i64 r.ep, .int .i64 r.ps, .int .i64 r.nm] 182) = w1 at *
 obtain ⟨c0, c1, c2, c3⟩ := id CC
 go_wp2_with (go_at_call 113; (with_reducible refine (HH.out _).mono ?_); rintro e w2 ⟨⟨X, x, rfl, ho⟩, hb2⟩)
 go_ret
 exact ⟨⟨X, x, rfl, ho.less hw1.size⟩, bt hw1 hb2⟩
theorem enc1_c (r : RcR) (n : Nat) (w : World) (hh : Head r.d) (hp : 0 ≤ r.ps ∧ r.ps ≤ r.nm - 2) (hz : 0 ≤ r.i.z ∧ r.i.z ≤ 255) (hwh : -1 ≤ r.i.wh ∧ r.i.wh ≤ 255) (hk : r.kd = 1) (hx : BIn w w.heap.size r.i) (hn : r.i.l.length = n) (hn1 : n ≤ 255) : Calls Tryz.prog 95 #[.iface 185 (.agg #[.int .i64 r.sq, .int .i64 r.ep, .int .i64 r.ps, .int .i64 r.nm, .int .i64 r.i.z, .int .i64 r.i.wh, .slice r.i.A n r.i.c])] w fun e w' => (∃ X x, e = .returned (.slice X (11 + (3 + n) : Nat) x) ∧ Own w' w.heap.size 5 (.slice X (11 + (3 + n) : Nat) x) (headB r.d ++ imgB r.d)) ∧ Below w.heap.size w w' := by
 obtain ⟨q1, q2, q3⟩ := hh
 simp only [RcR.d] at q1 q2 q3
 have HH := Lib.hid (show ∀ W, Calls Tryz.prog 113 #[.int .i64 1, .agg #[.int .i64 r.sq, .int .i64 r.ep, .int .i64 r.ps, .int .i64 r.nm]] W fun e w' => (∃ X x, e = .returned (.slice X 11 x) ∧ Own w' W.heap.size 5 (.slice X 11 x) (headB r.d)) ∧ Below W.heap.size W w' from fun W => by
  have h9 := head_c 1 r.sq r.ep r.ps r.nm (by omega) q1 q2 (by omega) (by omega) W
  rw [show headB r.d = le 1 r.kd.toNat ++ (le 4 r.sq.toNat ++ (le 4 r.ep.toNat ++ (le 1 r.ps.toNat ++ le 1 r.nm.toNat))) from rfl, hk]
  exact h9)
 have HI := Lib.hid (show ∀ W, Below w.heap.size w W → Calls Tryz.prog 114 #[.agg #[.int .i64 r.i.z, .int .i64 r.i.wh, .slice r.i.A n r.i.c]] W fun e w' => (∃ X x, e = .returned (.slice X (3 + n : Nat) x) ∧ Own w' W.heap.size 5 (.slice X (3 + n : Nat) x) (imgB r.d)) ∧ Below W.heap.size W w' from fun W hW => by
  have h9 := encimg_c r.i.z r.i.wh r.i.A n r.i.c r.i.l W hz hwh (hx.next hW) hn hn1
  rw [show imgB r.d = le 1 r.i.z.toNat ++ (le 1 (whB r.i.wh) ++ (le 1 r.i.l.length ++ r.i.l)) from rfl, hn]
  exact h9)
 have hl1 : (headB r.d).length = 11 := headB_length _
 have hl2 : (imgB r.d).length = 3 + n := by rw [imgB_length, show r.d.l.length = n from hn]
 have HC := Lib.hid fun (W : World) (X1 X2 : Option Addr) (x1 x2 B1 B2 : Nat) (s1 : Own W B1 5 (.slice X1 11 x1) (headB r.d)) (s2 : Own W B2 5 (.slice X2 (3 + n : Nat) x2) (imgB r.d)) => concat_own X1 X2 x1 x2 11 (3 + n) B1 B2 _ _ W (by omega) hl1 hl2 s1 s2
 have a1 := as_lb
 have a2 := as_lc
 have a3 := as_ll
 generalize headB r.d = B at *
 generalize imgB r.d = J at *
 clear q1 q2 q3 hp hk hz hwh hx hn hl1 hl2
 go_enter Tryz.func95, Tryz.ntmps95
 have hw := bl w (.cells #[] 176)
 go_upto_region 2 with fail
 generalize w.alloc (.cells #[] 176) = w0 at *
 have hw1 := kal hw (.cells #[.int .i64 0, .int .i64 0, .int .i64 0, .int .i64 0] 182)
 go_upto_region 5 with fail
 generalize w0.alloc (.cells #[.int .i64 0, .int .i64 0, .int .i64 0, .int .i64 0] 182) = w1 at *
 have hw2 := kal hw1 (.cells #[.int .i64 r.sq, .int .i64 r.ep, .int .i64 r.ps, .int .i64 r.nm, .int .i64 r.i.z, .int .i64 r.i.wh, .slice r.i.A n r.i.c] 185)
 have CC := c7_new w1 (.int .i64 r.sq) (.int .i64 r.ep) (.int .i64 r.ps) (.int .i64 r.nm) (.int .i64 r.i.z) (.int .i64 r.i.wh) (.slice r.i.A n r.i.c) 185
 have lw : w1.heap.size < (w1.alloc (.cells #[.int .i64 r.sq, .int .i64 r.ep, .int .i64 r.ps, .int .i64 r.nm, .int .i64 r.i.z, .int .i64 r.i.wh, .slice r.i.A n r.i.c] 185)).heap.size := by simp
 go_upto_region 8 with fail
 generalize w1.alloc (.cells #[.int .i64 r.sq, .int .i64 r.ep, .int .i64 r.ps, .int .i64 r.nm, .int .i64 r.i.z, .int .i64 r.i.wh, .slice r.i.A n r.i.c] 185) = w2 at *
 have HF := Lib.hid (show ∀ W, Below w2.heap.size w2 W → (W.cell? ⟨w1.heap.size, 0, none⟩ = some (.int .i64 r.sq) ∧ W.cell? ⟨w1.heap.size, 1, none⟩ = some (.int .i64 r.ep) ∧ W.cell? ⟨w1.heap.size, 2, none⟩ = some (.int .i64 r.ps) ∧ W.cell? ⟨w1.heap.size, 3, none⟩ = some (.int .i64 r.nm) ∧ W.cell? ⟨w1.heap.size, 4, none⟩ = some (.int .i64 r.i.z) ∧ W.cell? ⟨w1.heap.size, 5, none⟩ = some (.int .i64 r.i.wh) ∧ W.cell? ⟨w1.heap.size, 6, none⟩ = some (.slice r.i.A n r.i.c)) ∧ Below w2.heap.size w2 W from fun W hW => by
  have M := CC.keep hW lw
  exact ⟨⟨M.c0, M.c1, M.c2, M.c3, M.c4, M.c5, M.c6⟩, hW⟩)
 have hd0 : Below w2.heap.size w2 w2.drew := below_dr (Below.refl _ _)
 go_region_held3 (fun W => (W.cell? ⟨w1.heap.size, 0, none⟩ = some (.int .i64 r.sq) ∧ W.cell? ⟨w1.heap.size, 1, none⟩ = some (.int .i64 r.ep) ∧ W.cell? ⟨w1.heap.size, 2, none⟩ = some (.int .i64 r.ps) ∧ W.cell? ⟨w1.heap.size, 3, none⟩ = some (.int .i64 r.nm) ∧ W.cell? ⟨w1.heap.size, 4, none⟩ = some (.int .i64 r.i.z) ∧ W.cell? ⟨w1.heap.size, 5, none⟩ = some (.int .i64 r.i.wh) ∧ W.cell? ⟨w1.heap.size, 6, none⟩ = some (.slice r.i.A n r.i.c)) ∧ Below w2.heap.size w2 W)
  ((refine HF.out _ ?_; first
   | with_reducible exact hd0
   | with_reducible exact bt hd0 (by assumption)
   | with_reducible exact bt (bt hd0 (by assumption)) (by assumption)
   | with_reducible exact hh3
   | with_reducible exact hh4
   | with_reducible exact bt hh3 hb5
   | with_reducible exact bt hh4 hb5
   | with_reducible exact kal hh3 _
   | with_reducible exact kal hh4 _
   | fail))
  (first
   | (go_at_call 113; (with_reducible refine (HH.out _).mono ?_); rintro e w3 ⟨⟨X3, x3, rfl, ho3⟩, hb3⟩; first | (have hh3 := bt hh4 hb3; have ho4 := ho4.below hb3) | have hh3 := bt hd0 hb3)
   | (go_at_call 114; (first | with_reducible refine (HI.out _ (bt hw2 hh3)).mono ?_ | with_reducible refine (HI.out _ (bt hw2 hd0)).mono ?_); rintro e w4 ⟨⟨X4, x4, rfl, ho4⟩, hb4⟩; first | (have hh4 := bt hh3 hb4; have ho3 := ho3.below hb4) | have hh4 := bt hd0 hb4)
   | (go_at_call 99; (with_reducible refine (HC.out _ _ _ _ _ _ _ ho3 ho4).mono ?_); rintro e w5 ⟨⟨X5, x5, rfl, ho5⟩, hb5⟩)
   | fail)
 go_wp2
 go_ret
 exact ⟨⟨X5, x5, rfl, ho5.less (bt hw2 hh4).size⟩, bt (bt hw2 hh4) hb5⟩
end Go.Proofs.YtbfdpibjicjagaaGreatDoor.lrc
namespace Go.Proofs.YtbfdpibjicjagaaGreatDoor.lrc
open Go.RowKit Go.Lib
open Go.Proofs.YtbfdpibjicjagaaGreatDoor.gmt (Ok)
open Go.Proofs.YtbfdpibjicjagaaGreatDoor.anc (bl kal kst ks bm ka)
open Go.Proofs.YtbfdpibjicjagaaGreatDoor.tbl (C1 c1_new G5 g5_new)
open Go.Proofs.YtbfdpibjicjagaaGreatDoor.img
open Go.Proofs.YtbfdpibjicjagaaGreatDoor.pck (le le_length num)
theorem typ_go (k v : Bool) (V : Value) (z d s l a : Int) (r : RcR) (n : Nat) (w : World) (ho : Ok z d s l a)
  (hK : ∀ W, Below w.heap.size w W → Calls Tryz.prog 111 #[.agg #[.int .i64 r.kd, .int .i64 r.sq, .int .i64 r.ep, .int .i64 r.ps, .int .i64 r.nm, .int .i64 r.i.z, .int .i64 r.i.wh, .slice r.i.A n r.i.c]] W fun e w' => e = .returned (.tuple #[V, .bool k]) ∧ Below W.heap.size W w')
  (hV : k = true → ∀ W, Below w.heap.size w W → Calls Tryz.prog 112 #[.agg #[.int .i64 z, .int .i64 d, .int .i64 s, .int .i64 l, .int .i64 a], V] W fun e w' => e = .returned (.bool v) ∧ Below W.heap.size W w') :
  Calls Tryz.prog 94 #[.agg #[.int .i64 z, .int .i64 d, .int .i64 s, .int .i64 l, .int .i64 a], .agg #[.int .i64 r.kd, .int .i64 r.sq, .int .i64 r.ep, .int .i64 r.ps, .int .i64 r.nm, .int .i64 r.i.z, .int .i64 r.i.wh, .slice r.i.A n r.i.c]] w fun e w' => ((k && v) = true ∧ e = .returned (.tuple #[V, .int .i64 0]) ∨ (k && v) = false ∧ e = .returned (.tuple #[.nilIface, .int .i64 1])) ∧ Below w.heap.size w w' := by
 have s1 : (w.alloc (.cells #[.int .i64 z, .int .i64 d, .int .i64 s, .int .i64 l, .int .i64 a] 23)).heap.size = w.heap.size + 1 := by simp
 have hx2 := bl (w.alloc (.cells #[.int .i64 z, .int .i64 d, .int .i64 s, .int .i64 l, .int .i64 a] 23)) (.cells #[.int .i64 r.kd, .int .i64 r.sq, .int .i64 r.ep, .int .i64 r.ps, .int .i64 r.nm, .int .i64 r.i.z, .int .i64 r.i.wh, .slice r.i.A n r.i.c] 83)
 have GG := (g5_new w z d s l a).keep hx2 (by omega)
 have RR := c8_new (w.alloc (.cells #[.int .i64 z, .int .i64 d, .int .i64 s, .int .i64 l, .int .i64 a] 23)) (.int .i64 r.kd) (.int .i64 r.sq) (.int .i64 r.ep) (.int .i64 r.ps) (.int .i64 r.nm) (.int .i64 r.i.z) (.int .i64 r.i.wh) (.slice r.i.A n r.i.c) 83
 rw [s1] at RR
 have hw := kal (bl w (.cells #[.int .i64 z, .int .i64 d, .int .i64 s, .int .i64 l, .int .i64 a] 23)) (.cells #[.int .i64 r.kd, .int .i64 r.sq, .int .i64 r.ep, .int .i64 r.ps, .int .i64 r.nm, .int .i64 r.i.z, .int .i64 r.i.wh, .slice r.i.A n r.i.c] 83)
 have l2 : ((w.alloc (.cells #[.int .i64 z, .int .i64 d, .int .i64 s, .int .i64 l, .int .i64 a] 23)).alloc (.cells #[.int .i64 r.kd, .int .i64 r.sq, .int .i64 r.ep, .int .i64 r.ps, .int .i64 r.nm, .int .i64 r.i.z, .int .i64 r.i.wh, .slice r.i.A n r.i.c] 83)).heap.size = w.heap.size + 2 := by simp
 have HG := Lib.hid fun W => gmt.check_ok z d s l a W ho
 have HK := Lib.hid hK
 have HV := Lib.hid hV
 clear s1 hx2 hK hV ho
 go_enter Tryz.func94, Tryz.ntmps94
 go_upto_region 1 with fail
 generalize (w.alloc (.cells #[.int .i64 z, .int .i64 d, .int .i64 s, .int .i64 l, .int .i64 a] 23)).alloc (.cells #[.int .i64 r.kd, .int .i64 r.sq, .int .i64 r.ep, .int .i64 r.ps, .int .i64 r.nm, .int .i64 r.i.z, .int .i64 r.i.wh, .slice r.i.A n r.i.c] 83) = w0 at *
 obtain ⟨g0, g1, g2, g3, g4⟩ := id GG
 go_upto_region 4 with (go_at_call 46; (with_reducible refine (HG.out _).mono ?_); rintro e w2 ⟨rfl, hb2⟩)
 have G2 := GG.keep hb2 (by omega)
 have R2 := RR.keep hb2 (by omega)
 have B2 := bt hw hb2
 have l3 := hb2.size
 clear g0 g1 g2 g3 g4 GG RR
 obtain ⟨g0, g1, g2, g3, g4⟩ := id G2
 obtain ⟨r0, r1, r2, r3, r4, r5, r6, r7⟩ := id R2
 go_upto_region 5 with (go_at_call 111; (with_reducible refine (HK.out _ B2).mono ?_); rintro e w3 ⟨rfl, hb3⟩)
 clear r0 r1 r2 r3 r4 r5 r6 r7 R2 g0 g1 g2 g3 g4
 have G3 := G2.keep hb3 (by omega)
 have B3 := bt B2 hb3
 obtain ⟨g0, g1, g2, g3, g4⟩ := id G3
 cases k
 ·go_wp2_with fail
  go_ret2
  exact ⟨.inr ⟨rfl, rfl⟩, B3⟩
 ·cases v
  ·go_wp2_with (go_at_call 112; (with_reducible refine (HV.out rfl _ B3).mono ?_); rintro e w4 ⟨rfl, hb4⟩)
   go_ret2
   exact ⟨.inr ⟨rfl, rfl⟩, bt B3 hb4⟩
  ·go_wp2_with (go_at_call 112; (with_reducible refine (HV.out rfl _ B3).mono ?_); rintro e w4 ⟨rfl, hb4⟩)
   go_ret2
   exact ⟨.inl ⟨rfl, rfl⟩, bt B3 hb4⟩
def Typed (c : Bool) (r : RcR) (n : Nat) (e : Ending) : Prop := (c = true ∧ e = .returned (.tuple #[recV r n, .int .i64 0])) ∨ (c = false ∧ e = .returned (.tuple #[.nilIface, .int .i64 1]))
theorem typ_geo (z d s l a : Int) (r : RcR) (n : Nat) (w : World) (ho : ¬ Ok z d s l a) :
  Calls Tryz.prog 94 #[.agg #[.int .i64 z, .int .i64 d, .int .i64 s, .int .i64 l, .int .i64 a], .agg #[.int .i64 r.kd, .int .i64 r.sq, .int .i64 r.ep, .int .i64 r.ps, .int .i64 r.nm, .int .i64 r.i.z, .int .i64 r.i.wh, .slice r.i.A n r.i.c]] w fun e w' => Typed false r n e ∧ Below w.heap.size w w' := by
 have s1 : (w.alloc (.cells #[.int .i64 z, .int .i64 d, .int .i64 s, .int .i64 l, .int .i64 a] 23)).heap.size = w.heap.size + 1 := by simp
 have hx2 := bl (w.alloc (.cells #[.int .i64 z, .int .i64 d, .int .i64 s, .int .i64 l, .int .i64 a] 23)) (.cells #[.int .i64 r.kd, .int .i64 r.sq, .int .i64 r.ep, .int .i64 r.ps, .int .i64 r.nm, .int .i64 r.i.z, .int .i64 r.i.wh, .slice r.i.A n r.i.c] 83)
 have GG := (g5_new w z d s l a).keep hx2 (by omega)
 have hw := kal (bl w (.cells #[.int .i64 z, .int .i64 d, .int .i64 s, .int .i64 l, .int .i64 a] 23)) (.cells #[.int .i64 r.kd, .int .i64 r.sq, .int .i64 r.ep, .int .i64 r.ps, .int .i64 r.nm, .int .i64 r.i.z, .int .i64 r.i.wh, .slice r.i.A n r.i.c] 83)
 have HG := Lib.hid fun W => gmt.check_no z d s l a W ho
 clear s1 hx2 ho
 go_enter Tryz.func94, Tryz.ntmps94
 go_upto_region 1 with fail
 generalize (w.alloc (.cells #[.int .i64 z, .int .i64 d, .int .i64 s, .int .i64 l, .int .i64 a] 23)).alloc (.cells #[.int .i64 r.kd, .int .i64 r.sq, .int .i64 r.ep, .int .i64 r.ps, .int .i64 r.nm, .int .i64 r.i.z, .int .i64 r.i.wh, .slice r.i.A n r.i.c] 83) = w0 at *
 obtain ⟨g0, g1, g2, g3, g4⟩ := id GG
 go_wp2_with (go_at_call 46; (with_reducible refine (HG.out _).mono ?_); rintro e w2 ⟨rfl, hb2⟩)
 go_ret2
 exact ⟨.inr ⟨rfl, rfl⟩, bt hw hb2⟩
theorem typ_c (c : Bool) (z d s l a : Int) (r : RcR) (n : Nat) (w : World) (hx : BIn w w.heap.size r.i) (hn : r.i.l.length = n) (hn1 : n ≤ 1048576) (hc : c = true ↔ Ok z d s l a ∧ RecOk z d r.d) :
  Calls Tryz.prog 94 #[.agg #[.int .i64 z, .int .i64 d, .int .i64 s, .int .i64 l, .int .i64 a], .agg #[.int .i64 r.kd, .int .i64 r.sq, .int .i64 r.ep, .int .i64 r.ps, .int .i64 r.nm, .int .i64 r.i.z, .int .i64 r.i.wh, .slice r.i.A n r.i.c]] w fun e w' => Typed c r n e ∧ Below w.heap.size w w' := by
 by_cases ho : Ok z d s l a
 ·replace hc := hc.trans (and_iff_right ho)
  have hq : r.i.l = [] ↔ n = 0 := by rw [← hn]; exact List.length_eq_zero_iff.symm
  by_cases h0 : r.kd = 0
  ·have hV : recV r n = .iface 176 (.agg #[]) := by unfold recV; rw [if_pos h0]
   refine (typ_go c true (.iface 176 (.agg #[])) z d s l a r n w ho (fun W hW => ?_) (fun _ W _ => val0_c z d s l a W)).mono ?_
   ·rw [h0]
    refine kind0_c W r.sq r.ep r.ps r.nm r.i.z r.i.wh r.i.A n r.i.c c (hc.trans ⟨fun h => ?_, fun h => ?_⟩)
    ·rcases h with ⟨-, h1, h2, h3, h4, h5, h6, h7⟩ | ⟨-, h, -⟩ | ⟨-, h, -⟩
     ·exact ⟨⟨h1, h2, h3, h4⟩, h5, h6, hq.1 h7⟩
     ·exact absurd (h0.symm.trans h) (by decide)
     ·exact absurd (h0.symm.trans h) (by decide)
    ·exact .inl ⟨h0, h.1.1, h.1.2.1, h.1.2.2.1, h.1.2.2.2, h.2.1, h.2.2.1, hq.2 h.2.2.2⟩
   ·rintro e w' ⟨h, hb⟩
    rw [Bool.and_true] at h
    exact ⟨by unfold Typed; rw [hV]; exact h, hb⟩
  by_cases h1 : r.kd = 1
  ·have hV : recV r n = .iface 185 (.agg #[.int .i64 r.sq, .int .i64 r.ep, .int .i64 r.ps, .int .i64 r.nm, .int .i64 r.i.z, .int .i64 r.i.wh, .slice r.i.A n r.i.c]) := by unfold recV; rw [if_neg h0, if_pos h1]
   refine (typ_go true c (.iface 185 (.agg #[.int .i64 r.sq, .int .i64 r.ep, .int .i64 r.ps, .int .i64 r.nm, .int .i64 r.i.z, .int .i64 r.i.wh, .slice r.i.A n r.i.c])) z d s l a r n w ho (fun W hW => ?_) (fun _ W hW => ?_)).mono ?_
   ·rw [h1]
    exact kind1_c W r.sq r.ep r.ps r.nm r.i.z r.i.wh r.i.A n r.i.c
   ·refine val1_c c z d s l a r.sq r.ep r.ps r.nm r.i.z r.i.wh r.i.A n r.i.c r.i.l W ho (hx.next hW) hn hn1 (hc.trans ⟨fun h => ?_, fun h => ?_⟩)
    ·rcases h with ⟨h, -⟩ | ⟨-, h, -⟩ | ⟨h3, -, h4, h5⟩
     ·exact absurd h h0
     ·exact absurd (h1.symm.trans h) (by decide)
     ·exact ⟨h3, h4, h5⟩
    ·exact .inr (.inr ⟨h.1, h1, h.2.1, h.2.2⟩)
   ·rintro e w' ⟨h, hb⟩
    rw [Bool.true_and] at h
    exact ⟨by unfold Typed; rw [hV]; exact h, hb⟩
  by_cases h2 : r.kd = 2
  ·have hV : recV r n = .iface 182 (.agg #[.int .i64 r.sq, .int .i64 r.ep, .int .i64 r.ps, .int .i64 r.nm]) := by unfold recV; rw [if_neg h0, if_neg h1]
   obtain ⟨b1, hb1⟩ := bool_is (r.i.z = 0 ∧ r.i.wh = 0 ∧ n = 0)
   obtain ⟨b2, hb2⟩ := bool_is ((NumOk r.sq ∧ NumOk r.ep ∧ (2 ≤ r.nm ∧ r.nm ≤ 30)) ∧ r.ps = r.nm - 1)
   have hcc : (b1 && b2) = c := by
    rw [Bool.eq_iff_iff, Bool.and_eq_true, hb1, hb2, hc]
    refine ⟨fun h => .inr (.inl ⟨h.2.1, h2, h.2.2, h.1.1, h.1.2.1, hq.2 h.1.2.2⟩), fun h => ?_⟩
    rcases h with ⟨h, -⟩ | ⟨h3, -, h4, h5, h6, h7⟩ | ⟨-, h, -⟩
    ·exact absurd h h0
    ·exact ⟨⟨h5, h6, hq.1 h7⟩, h3, h4⟩
    ·exact absurd h h1
   refine (typ_go b1 b2 (.iface 182 (.agg #[.int .i64 r.sq, .int .i64 r.ep, .int .i64 r.ps, .int .i64 r.nm])) z d s l a r n w ho (fun W hW => ?_) (fun _ W hW => val2_c b2 z d s l a r.sq r.ep r.ps r.nm W hb2)).mono ?_
   ·rw [h2]
    exact kind2_c W r.sq r.ep r.ps r.nm r.i.z r.i.wh r.i.A n r.i.c b1 hb1
   ·rintro e w' ⟨h, hb⟩
    rw [hcc] at h
    exact ⟨by unfold Typed; rw [hV]; exact h, hb⟩
  ·have hcf : c = false := bool_no hc fun h => by
    rcases h with ⟨h, -⟩ | ⟨-, h, -⟩ | ⟨-, h, -⟩
    ·exact h0 h
    ·exact h2 h
    ·exact h1 h
   subst hcf
   refine (typ_go false false .nilIface z d s l a r n w ho (fun W hW => kind3_c W r.kd r.sq r.ep r.ps r.nm r.i.z r.i.wh r.i.A n r.i.c ⟨h0, h1, h2⟩) (fun h => absurd h Bool.false_ne_true)).mono ?_
   rintro e w' ⟨h, hb⟩
   rcases h with ⟨h, -⟩ | ⟨-, h⟩
   ·exact absurd h Bool.false_ne_true
   ·exact ⟨.inr ⟨rfl, h⟩, hb⟩
 ·obtain rfl : c = false := bool_no hc fun h => ho h.1
  exact typ_geo z d s l a r n w ho
theorem encode_c (z d s l a : Int) (r : RcR) (n : Nat) (w : World) (ho : Ok z d s l a) (hx : BIn w w.heap.size r.i) (hn : r.i.l.length = n) (hr : RecOk z d r.d) :
  Calls Tryz.prog 95 #[recV r n] w fun e w' => Enc1 w.heap.size (encR r.d) e w' ∧ Below w.heap.size w w' := by
 have hlen := encR_length r.d
 rcases id hr with ⟨h0, h1, h2, h3, h4, h5, h6, h7⟩ | ⟨h1, h2, h3, h4⟩ | ⟨h1, h2, h3, h4⟩
 ·have hV : recV r n = .iface 176 (.agg #[]) := by unfold recV; rw [if_pos (show r.kd = 0 from h0)]
  have hd : encR r.d = headB noRec := by
   have e1 : r.d = noRec := Rcd.eq_of h0 h1 h2 h3 h4 h5 h6 h7
   rw [e1]
   unfold encR
   rw [if_neg (by decide), List.append_nil]
  rw [hV]
  refine (enc0_c w).mono ?_
  rintro e w' ⟨⟨X, x, rfl, ho⟩, hb⟩
  rw [← hd] at ho
  rw [if_neg (by rw [h0]; decide)] at hlen
  exact ⟨⟨X, x, by rw [hlen], by rw [hlen]; exact ho⟩, hb⟩
 ·have hV : recV r n = .iface 182 (.agg #[.int .i64 r.sq, .int .i64 r.ep, .int .i64 r.ps, .int .i64 r.nm]) := by unfold recV; rw [if_neg (by rw [show r.kd = 2 from h2]; decide), if_neg (by rw [show r.kd = 2 from h2]; decide)]
  have hd : encR r.d = headB r.d := by
   unfold encR
   rw [if_neg (by rw [h2]; decide), List.append_nil]
  rw [hV]
  refine (enc2_c r w h1 h3 h2).mono ?_
  rintro e w' ⟨⟨X, x, rfl, ho⟩, hb⟩
  rw [← hd] at ho
  rw [if_neg (by rw [h2]; decide)] at hlen
  exact ⟨⟨X, x, by rw [hlen], by rw [hlen]; exact ho⟩, hb⟩
 ·have hV : recV r n = .iface 185 (.agg #[.int .i64 r.sq, .int .i64 r.ep, .int .i64 r.ps, .int .i64 r.nm, .int .i64 r.i.z, .int .i64 r.i.wh, .slice r.i.A n r.i.c]) := by unfold recV; rw [if_neg (by rw [show r.kd = 1 from h2]; decide), if_pos (show r.kd = 1 from h2)]
  have hd : encR r.d = headB r.d ++ imgB r.d := by
   unfold encR
   rw [if_pos h2]
  have hil := imOk_len h4 ho.2.1
  have hwh := imOk_wh h4
  have hz := h4.1
  have o1 := ho.1
  have o2 := ho.2.1
  simp only [RcR.d] at hil hwh hz
  rw [hV]
  refine (enc1_c r n w h1 h3 (by omega) (by omega) h2 hx hn (by omega)).mono ?_
  rintro e w' ⟨⟨X, x, rfl, ho⟩, hb⟩
  rw [← hd] at ho
  rw [if_pos h2, show r.d.l.length = n from hn] at hlen
  have e9 : 11 + (3 + n) = (encR r.d).length := by omega
  rw [e9] at ho ⊢
  exact ⟨⟨X, x, rfl, ho⟩, hb⟩
theorem check_c (c : Bool) (z d s l a : Int) (r : RcR) (n : Nat) (w : World) (hx : BIn w w.heap.size r.i) (hn : r.i.l.length = n) (hn1 : n ≤ 1048576) (hc : c = true ↔ Ok z d s l a ∧ RecOk z d r.d) :
  Calls Tryz.prog 93 #[.agg #[.int .i64 z, .int .i64 d, .int .i64 s, .int .i64 l, .int .i64 a], .agg #[.int .i64 r.kd, .int .i64 r.sq, .int .i64 r.ep, .int .i64 r.ps, .int .i64 r.nm, .int .i64 r.i.z, .int .i64 r.i.wh, .slice r.i.A n r.i.c]] w fun e w' => e = .returned (.int .i64 (if c = true then 0 else 1)) ∧ Below w.heap.size w w' := by
 have s1 : (w.alloc (.cells #[.int .i64 z, .int .i64 d, .int .i64 s, .int .i64 l, .int .i64 a] 23)).heap.size = w.heap.size + 1 := by simp
 have hx2 := bl (w.alloc (.cells #[.int .i64 z, .int .i64 d, .int .i64 s, .int .i64 l, .int .i64 a] 23)) (.cells #[.int .i64 r.kd, .int .i64 r.sq, .int .i64 r.ep, .int .i64 r.ps, .int .i64 r.nm, .int .i64 r.i.z, .int .i64 r.i.wh, .slice r.i.A n r.i.c] 83)
 have GG := (g5_new w z d s l a).keep hx2 (by omega)
 have RR := c8_new (w.alloc (.cells #[.int .i64 z, .int .i64 d, .int .i64 s, .int .i64 l, .int .i64 a] 23)) (.int .i64 r.kd) (.int .i64 r.sq) (.int .i64 r.ep) (.int .i64 r.ps) (.int .i64 r.nm) (.int .i64 r.i.z) (.int .i64 r.i.wh) (.slice r.i.A n r.i.c) 83
 rw [s1] at RR
 have hw := kal (bl w (.cells #[.int .i64 z, .int .i64 d, .int .i64 s, .int .i64 l, .int .i64 a] 23)) (.cells #[.int .i64 r.kd, .int .i64 r.sq, .int .i64 r.ep, .int .i64 r.ps, .int .i64 r.nm, .int .i64 r.i.z, .int .i64 r.i.wh, .slice r.i.A n r.i.c] 83)
 have HT := Lib.hid (typ_c c z d s l a r n ((w.alloc (.cells #[.int .i64 z, .int .i64 d, .int .i64 s, .int .i64 l, .int .i64 a] 23)).alloc (.cells #[.int .i64 r.kd, .int .i64 r.sq, .int .i64 r.ep, .int .i64 r.ps, .int .i64 r.nm, .int .i64 r.i.z, .int .i64 r.i.wh, .slice r.i.A n r.i.c] 83)) (hx.next hw) hn hn1 hc)
 clear s1 hx2 hx hc hn
 unfold Typed at HT
 generalize recV r n = V at *
 go_enter Tryz.func93, Tryz.ntmps93
 go_upto_region 1 with fail
 generalize (w.alloc (.cells #[.int .i64 z, .int .i64 d, .int .i64 s, .int .i64 l, .int .i64 a] 23)).alloc (.cells #[.int .i64 r.kd, .int .i64 r.sq, .int .i64 r.ep, .int .i64 r.ps, .int .i64 r.nm, .int .i64 r.i.z, .int .i64 r.i.wh, .slice r.i.A n r.i.c] 83) = w0 at *
 obtain ⟨g0, g1, g2, g3, g4⟩ := id GG
 obtain ⟨r0, r1, r2, r3, r4, r5, r6, r7⟩ := id RR
 cases c
 ·go_wp2_with (go_at_call 94; (with_reducible refine (HT.out).mono ?_); rintro e w2 ⟨h2, hb2⟩; (obtain rfl := (h2.resolve_left fun h => absurd h.1 Bool.false_ne_true).2); clear h2)
  go_ret
  exact ⟨rfl, bt hw hb2⟩
 ·go_wp2_with (go_at_call 94; (with_reducible refine (HT.out).mono ?_); rintro e w2 ⟨h2, hb2⟩; (obtain rfl := (h2.resolve_right fun h => absurd h.1.symm Bool.false_ne_true).2); clear h2)
  go_ret
  exact ⟨rfl, bt hw hb2⟩
theorem bytes_c (z d s l a : Int) (r : RcR) (n : Nat) (w : World) (ho : Ok z d s l a) (hx : BIn w w.heap.size r.i) (hn : r.i.l.length = n) (hr : RecOk z d r.d) :
  Calls Tryz.prog 82 #[.agg #[.int .i64 z, .int .i64 d, .int .i64 s, .int .i64 l, .int .i64 a], .agg #[.int .i64 r.kd, .int .i64 r.sq, .int .i64 r.ep, .int .i64 r.ps, .int .i64 r.nm, .int .i64 r.i.z, .int .i64 r.i.wh, .slice r.i.A n r.i.c]] w fun e w' => BytR w.heap.size (encR r.d) e w' ∧ Below w.heap.size w w' := by
 have s1 : (w.alloc (.cells #[.int .i64 z, .int .i64 d, .int .i64 s, .int .i64 l, .int .i64 a] 23)).heap.size = w.heap.size + 1 := by simp
 have hx2 := bl (w.alloc (.cells #[.int .i64 z, .int .i64 d, .int .i64 s, .int .i64 l, .int .i64 a] 23)) (.cells #[.int .i64 r.kd, .int .i64 r.sq, .int .i64 r.ep, .int .i64 r.ps, .int .i64 r.nm, .int .i64 r.i.z, .int .i64 r.i.wh, .slice r.i.A n r.i.c] 83)
 have GG := (g5_new w z d s l a).keep hx2 (by omega)
 have RR := c8_new (w.alloc (.cells #[.int .i64 z, .int .i64 d, .int .i64 s, .int .i64 l, .int .i64 a] 23)) (.int .i64 r.kd) (.int .i64 r.sq) (.int .i64 r.ep) (.int .i64 r.ps) (.int .i64 r.nm) (.int .i64 r.i.z) (.int .i64 r.i.wh) (.slice r.i.A n r.i.c) 83
 rw [s1] at RR
 have hw := kal (bl w (.cells #[.int .i64 z, .int .i64 d, .int .i64 s, .int .i64 l, .int .i64 a] 23)) (.cells #[.int .i64 r.kd, .int .i64 r.sq, .int .i64 r.ep, .int .i64 r.ps, .int .i64 r.nm, .int .i64 r.i.z, .int .i64 r.i.wh, .slice r.i.A n r.i.c] 83)
 have hl : n ≤ 45 := by
  have := (recOk_len hr ho.2.1).1
  simp only [RcR.d] at this
  omega
 have HT := Lib.hid (typ_c true z d s l a r n ((w.alloc (.cells #[.int .i64 z, .int .i64 d, .int .i64 s, .int .i64 l, .int .i64 a] 23)).alloc (.cells #[.int .i64 r.kd, .int .i64 r.sq, .int .i64 r.ep, .int .i64 r.ps, .int .i64 r.nm, .int .i64 r.i.z, .int .i64 r.i.wh, .slice r.i.A n r.i.c] 83)) (hx.next hw) hn (by omega) (iff_of_true rfl ⟨ho, hr⟩))
 have HE := Lib.hid (show ∀ W, Below w.heap.size w W → Calls Tryz.prog 95 #[recV r n] W fun e w' => Enc1 W.heap.size (encR r.d) e w' ∧ Below W.heap.size W w' from fun W hW => encode_c z d s l a r n W ho (hx.next hW) hn hr)
 clear s1 hx2 hx hn hl ho hr
 unfold Typed at HT
 generalize recV r n = V at *
 generalize encR r.d = E at *
 go_enter Tryz.func82, Tryz.ntmps82
 go_upto_region 1 with fail
 generalize (w.alloc (.cells #[.int .i64 z, .int .i64 d, .int .i64 s, .int .i64 l, .int .i64 a] 23)).alloc (.cells #[.int .i64 r.kd, .int .i64 r.sq, .int .i64 r.ep, .int .i64 r.ps, .int .i64 r.nm, .int .i64 r.i.z, .int .i64 r.i.wh, .slice r.i.A n r.i.c] 83) = w0 at *
 obtain ⟨g0, g1, g2, g3, g4⟩ := id GG
 obtain ⟨r0, r1, r2, r3, r4, r5, r6, r7⟩ := id RR
 unfold Enc1 at HE
 go_wp2_with (first
  | (go_at_call 94; (with_reducible refine (HT.out).mono ?_); rintro e w2 ⟨h2, hb2⟩; (obtain rfl := (h2.resolve_right fun h => absurd h.1.symm Bool.false_ne_true).2); clear h2)
  | (go_at_call 95; (with_reducible refine (HE.out _ (bt hw hb2)).mono ?_); rintro e w3 ⟨⟨X, x, rfl, hown⟩, hb3⟩))
 go_ret2
 exact ⟨⟨X, x, rfl, hown.less (bt hw hb2).size⟩, bt (bt hw hb2) hb3⟩
end Go.Proofs.YtbfdpibjicjagaaGreatDoor.lrc
namespace Go.Proofs.YtbfdpibjicjagaaGreatDoor.lrc
open Go.RowKit Go.Lib
open Go.Proofs.YtbfdpibjicjagaaGreatDoor.gmt (Ok)
open Go.Proofs.YtbfdpibjicjagaaGreatDoor.anc (bl kal kst ks bm ka)
open Go.Proofs.YtbfdpibjicjagaaGreatDoor.tbl (C1 c1_new G5 g5_new)
open Go.Proofs.YtbfdpibjicjagaaGreatDoor.img
open Go.Proofs.YtbfdpibjicjagaaGreatDoor.pck (le le_length num)
theorem make_own (u sq : Int) (X : Option Addr) (m x base : Nat) (E : List UInt8) (W : World) (ho : sel.OkS u sq) (hm : E.length = m) (h96 : m ≤ 96) (hown : Own W base 5 (.slice X m x) E) :
  Calls Tryz.prog 83 #[.agg #[.int .i64 u, .int .i64 sq, .slice X m x]] W fun e w' => pck.Put W.heap.size (sel.enc u.toNat sq.toNat E) e w' ∧ Below W.heap.size W w' := by
 obtain ⟨A1, c1, e1, -, -, k1, -⟩ := hown.form
 have k2 : X = A1 := (Value.slice.injEq .. ▸ e1).1
 rw [k2]
 exact sel.make_ok u sq A1 m x W E ho hm h96 k1
theorem cell_c (z d s l a : Int) (cp sl : Int) (r : RcR) (n : Nat) (w : World) (ho : Ok z d s l a) (hx : BIn w w.heap.size r.i) (hn : r.i.l.length = n) (hr : RecOk z d r.d) (hs : SlotOk l cp sl) :
  Calls Tryz.prog 69 #[.agg #[.int .i64 z, .int .i64 d, .int .i64 s, .int .i64 l, .int .i64 a], .agg #[.int .i64 r.kd, .int .i64 r.sq, .int .i64 r.ep, .int .i64 r.ps, .int .i64 r.nm, .int .i64 r.i.z, .int .i64 r.i.wh, .slice r.i.A n r.i.c], .int .i64 cp, .int .i64 sl] w fun e w' => BytR w.heap.size (sel.enc (cellN l a cp sl) r.sq.toNat (encR r.d)) e w' ∧ Below w.heap.size w w' := by
 have s1 : (w.alloc (.cells #[.int .i64 z, .int .i64 d, .int .i64 s, .int .i64 l, .int .i64 a] 23)).heap.size = w.heap.size + 1 := by simp
 have hx2 := bl (w.alloc (.cells #[.int .i64 z, .int .i64 d, .int .i64 s, .int .i64 l, .int .i64 a] 23)) (.cells #[.int .i64 r.kd, .int .i64 r.sq, .int .i64 r.ep, .int .i64 r.ps, .int .i64 r.nm, .int .i64 r.i.z, .int .i64 r.i.wh, .slice r.i.A n r.i.c] 83)
 have GG := (g5_new w z d s l a).keep hx2 (by omega)
 have RR := c8_new (w.alloc (.cells #[.int .i64 z, .int .i64 d, .int .i64 s, .int .i64 l, .int .i64 a] 23)) (.int .i64 r.kd) (.int .i64 r.sq) (.int .i64 r.ep) (.int .i64 r.ps) (.int .i64 r.nm) (.int .i64 r.i.z) (.int .i64 r.i.wh) (.slice r.i.A n r.i.c) 83
 rw [s1] at RR
 have hw := kal (bl w (.cells #[.int .i64 z, .int .i64 d, .int .i64 s, .int .i64 l, .int .i64 a] 23)) (.cells #[.int .i64 r.kd, .int .i64 r.sq, .int .i64 r.ep, .int .i64 r.ps, .int .i64 r.nm, .int .i64 r.i.z, .int .i64 r.i.wh, .slice r.i.A n r.i.c] 83)
 have l2 : ((w.alloc (.cells #[.int .i64 z, .int .i64 d, .int .i64 s, .int .i64 l, .int .i64 a] 23)).alloc (.cells #[.int .i64 r.kd, .int .i64 r.sq, .int .i64 r.ep, .int .i64 r.ps, .int .i64 r.nm, .int .i64 r.i.z, .int .i64 r.i.wh, .slice r.i.A n r.i.c] 83)).heap.size = w.heap.size + 2 := by simp
 have o4 := ho.2.2.2.1
 have o5 := ho.2.2.2.2
 have hlE := encR_short hr ho.2.1
 have hsq : 0 ≤ r.sq ∧ r.sq ≤ 4294967295 := by
  rcases hr with ⟨-, h, -⟩ | ⟨h, -⟩ | ⟨h, -⟩
  ·simp only [RcR.d] at h
   omega
  ·exact h.1
  ·exact h.1
 have hm := gmt.mul_le (i := cp) (n := 1) (p := l) (P := 30) (by have := hs.1; omega) (by have := hs.1; omega) (by omega) (by omega)
 obtain ⟨h1, h3⟩ := id hs
 have HB := Lib.hid (bytes_c z d s l a r n ((w.alloc (.cells #[.int .i64 z, .int .i64 d, .int .i64 s, .int .i64 l, .int .i64 a] 23)).alloc (.cells #[.int .i64 r.kd, .int .i64 r.sq, .int .i64 r.ep, .int .i64 r.ps, .int .i64 r.nm, .int .i64 r.i.z, .int .i64 r.i.wh, .slice r.i.A n r.i.c] 83)) ho (hx.next hw) hn hr)
 have HL := Lib.hid fun W => gmt.log_at z d s l a cp sl (a + cp * l + sl) 0 W ho ⟨fun _ => ⟨rfl, rfl⟩, fun h => absurd ⟨by omega, by omega⟩ h⟩
 have hcell : ((cellN l a cp sl : Nat) : Int) = a + cp * l + sl := by unfold cellN; omega
 obtain ⟨u, hu⟩ : ∃ u : Int, u = a + cp * l + sl := ⟨_, rfl⟩
 have hu1 : 0 ≤ u ∧ u ≤ 65535 := by omega
 rw [← hu] at HL
 rw [show cellN l a cp sl = u.toNat by unfold cellN; rw [hu]]
 generalize encR r.d = E at *
 obtain ⟨m, hmE⟩ : ∃ m, E.length = m := ⟨_, rfl⟩
 have hos : sel.OkS u r.sq := by unfold sel.OkS; omega
 have hm96 : m ≤ 96 := by omega
 have HM := Lib.hid fun (W : World) (X : Option Addr) (x base : Nat) (hown : Own W base 5 (.slice X m x) E) => make_own u r.sq X m x base E W hos hmE hm96 hown
 generalize sel.enc u.toNat r.sq.toNat E = F at *
 unfold BytR at HB
 rw [hmE] at HB
 clear s1 hx2 hx hn ho hr hs hm h1 h3 hcell hu hu1 hsq hlE o4 o5 hmE hos hm96
 go_enter Tryz.func69, Tryz.ntmps69
 go_upto_region 1 with fail
 generalize (w.alloc (.cells #[.int .i64 z, .int .i64 d, .int .i64 s, .int .i64 l, .int .i64 a] 23)).alloc (.cells #[.int .i64 r.kd, .int .i64 r.sq, .int .i64 r.ep, .int .i64 r.ps, .int .i64 r.nm, .int .i64 r.i.z, .int .i64 r.i.wh, .slice r.i.A n r.i.c] 83) = w0 at *
 obtain ⟨g0, g1, g2, g3, g4⟩ := id GG
 obtain ⟨r0, r1, r2, r3, r4, r5, r6, r7⟩ := id RR
 go_upto_region 4 with (go_at_call 82; (with_reducible refine (HB.out).mono ?_); rintro e w2 ⟨⟨X, x, rfl, hown⟩, hb2⟩)
 have G2 := GG.keep hb2 (by omega)
 have R2 := RR.keep hb2 (by omega)
 have lw := hb2.size
 clear g0 g1 g2 g3 g4 r0 r1 r2 r3 r4 r5 r6 r7 GG RR
 obtain ⟨g0, g1, g2, g3, g4⟩ := id G2
 go_upto_region 7 with (go_at_call 66; (with_reducible refine (HL.out _).mono ?_); rintro e w3 ⟨rfl, hb3⟩)
 have R3 := R2.keep hb3 (by omega)
 have hown3 := hown.below hb3
 have hw3 := bt (bt hw hb2) hb3
 clear g0 g1 g2 g3 g4 G2 R2 hown
 obtain ⟨r0, r1, r2, r3, r4, r5, r6, r7⟩ := id R3
 go_wp2_with (go_at_call 83; (with_reducible refine (HM.out _ _ _ _ hown3).mono ?_); rintro e w4 ⟨⟨v, rfl, hown4⟩, hb4⟩)
 go_ret2
 obtain ⟨A4, c4, rfl, -⟩ := hown4.form
 exact ⟨⟨_, _, rfl, hown4.less hw3.size⟩, bt hw3 hb4⟩
end Go.Proofs.YtbfdpibjicjagaaGreatDoor.lrc
namespace Go.Proofs.YtbfdpibjicjagaaGreatDoor.lrc
open Go.RowKit Go.Lib
open Go.Proofs.YtbfdpibjicjagaaGreatDoor.gmt (Ok)
open Go.Proofs.YtbfdpibjicjagaaGreatDoor.anc (bl kal kst ks bm ka)
open Go.Proofs.YtbfdpibjicjagaaGreatDoor.tbl (C1 c1_new G5 g5_new)
open Go.Proofs.YtbfdpibjicjagaaGreatDoor.img
open Go.Proofs.YtbfdpibjicjagaaGreatDoor.pck (le le_length num unrow unrow_any)
theorem unrow_er (n m : Nat) (A A' : Option Addr) (c c' : Nat) (l : List UInt8) (ss : List Int) (x : Int) (w : World) (hn : l.length = n) (hm : ss.length = m) (hl : m ≤ 1048576) (hc : n ≤ c) (hx : c ≤ maxLen) (hl2 : n ≤ 4294967296) (hr : unrow ss l = .error x) (hA : Sl w w.heap.size A l) (hA' : SlV w w.heap.size A' (ints ss)) :
  Calls Tryz.prog 108 #[.slice A n c, .slice A' m c'] w fun e w' => e = .returned (.tuple #[.slice none 0 0, .slice none 0 0, .int .i64 x]) ∧ Below w.heap.size w w' := by
 refine (unrow_any n m A A' c c' l ss w hn hm hl hc hx hl2 hA hA').mono fun e w' h => ⟨?_, h.2⟩
 have := h.1
 rw [hr] at this
 exact this
def UnrowK (base p q : Nat) (ns : List Int) (r : List UInt8) (e : Ending) (w' : World) : Prop := ∃ g c X d, e = .returned (.tuple #[.slice (some ⟨g, 0, none⟩) p c, .slice X q d, .int .i64 0]) ∧ (p ≤ c ∧ c ≤ maxLen) ∧ (base ≤ g ∧ g < w'.heap.size) ∧ SlV w' w'.heap.size (some ⟨g, 0, none⟩) (ints ns) ∧ (q ≤ d ∧ d ≤ maxLen) ∧ Own w' base 5 (.slice X q d) r
theorem unrow_ok (n m p q : Nat) (A A' : Option Addr) (c c' : Nat) (l r : List UInt8) (ss ns : List Int) (w : World) (hn : l.length = n) (hm : ss.length = m) (hl : m ≤ 1048576) (hc : n ≤ c) (hx : c ≤ maxLen) (hl2 : n ≤ 4294967296) (hr : unrow ss l = .ok (ns, r)) (hp : ns.length = p) (hp1 : 0 < p) (hq : r.length = q) (hA : Sl w w.heap.size A l) (hA' : SlV w w.heap.size A' (ints ss)) :
  Calls Tryz.prog 108 #[.slice A n c, .slice A' m c'] w fun e w' => UnrowK w.heap.size p q ns r e w' ∧ Below w.heap.size w w' := by
 refine (unrow_any n m A A' c c' l ss w hn hm hl hc hx hl2 hA hA').mono fun e w' h => ⟨?_, h.2⟩
 have := h.1
 rw [hr] at this
 obtain ⟨v, u, rfl, o1, o2⟩ := this
 obtain ⟨g, c1, hv1, k1, k2, h3, h4⟩ := o1.at (by rw [ints_length, hp]; exact hp1)
 obtain ⟨X2, c2, hv2, k3, k4, -, -⟩ := id o2.form
 obtain ⟨X1, c9, hv9, -, -, hs, -⟩ := o1.form
 subst hv1 hv2
 cases hv9
 rw [ints_length, hp] at *
 rw [hq] at *
 exact ⟨g, c1, X2, c2, rfl, ⟨k1, k2⟩, ⟨h3, h4⟩, hs, ⟨k3, k4⟩, o2⟩
theorem isz_slv (w : World) : SlV (w.alloc (.cells #[.int .i64 1, .int .i64 1] 3)) (w.alloc (.cells #[.int .i64 1, .int .i64 1] 3)).heap.size (some ⟨w.heap.size, 0, none⟩) (ints [1, 1]) := SlV.of_block (heap_alloc_new w _) rfl (by simp)
theorem hsz_slv (w : World) : SlV (w.alloc (.cells #[.int .i64 1, .int .i64 4, .int .i64 4, .int .i64 1, .int .i64 1] 3)) (w.alloc (.cells #[.int .i64 1, .int .i64 4, .int .i64 4, .int .i64 1, .int .i64 1] 3)).heap.size (some ⟨w.heap.size, 0, none⟩) (ints [1, 4, 4, 1, 1]) := SlV.of_block (heap_alloc_new w _) rfl (by simp)
theorem below_set3 {w w' : World} {B q o1 o2 o3 : Nat} (h : Below B w w') (hq : B ≤ q) (x y z : Value) : Below B w (((w'.setCell ⟨q, o1, none⟩ x).setCell ⟨q, o2, none⟩ y).setCell ⟨q, o3, none⟩ z) :=
 ((h.setCell (p := ⟨q, o1, none⟩) hq x).setCell (p := ⟨q, o2, none⟩) hq y).setCell (p := ⟨q, o3, none⟩) hq z
theorem own_st {w : World} {base g o : Nat} {e : TypeId} {v : Value} {l : List UInt8} (h : Own w base e v l) (hg : g < base) (u : Value) : Own (w.setCell ⟨g, o, none⟩ u) base e v l :=
 h.kept (row := some g) ⟨by first | rfl | simp, by first | rfl | simp, by first | rfl | simp, by rw [World.size_setCell]; exact Nat.le_refl _, fun k _ hk => heap_setCell_other w ⟨g, o, none⟩ k u (fun q => hk (by rw [q]))⟩ (.inr fun he => absurd (pck.own_far h g he) (by omega))
theorem own_sl {w : World} {base q c : Nat} {X : Option Addr} {e : TypeId} {l : List UInt8} (h : Own w base e (.slice X q c) l) : Sl w w.heap.size X l := by
 obtain ⟨A, c', he, -, -, hs, -⟩ := h.form
 have k : X = A := (Value.slice.injEq .. ▸ he).1
 rw [k]
 exact hs
theorem unrow2_no {b : List UInt8} (h : b.length < 2) : unrow [1, 1] b = .error 4 := by
 by_cases h1 : b.length < 1
 ·simp [unrow, h1]
 ·simp [unrow, h1, show b.length - 1 < 1 by omega]
theorem unrow2_yes {b : List UInt8} (h : ¬ b.length < 2) : unrow [1, 1] b = .ok ([(at1 b 0 : Int), (at1 b 1 : Int)], b.drop 2) := by
 simp [unrow, at1, show ¬ b.length < 1 by omega, show ¬ b.length - 1 < 1 by omega]
theorem pimg_short (A : Option Addr) (c n : Nat) (b : List UInt8) (w : World) (hn : b.length = n) (hA : Sl w w.heap.size A b) (hc : n ≤ c) (hm : c ≤ maxLen) (hl : n ≤ 4294967296) (h2 : b.length < 2) :
  Calls Tryz.prog 110 #[.slice A n c] w fun e w' => e = .returned (.tuple #[.agg #[.int .i64 0, .int .i64 0, .slice none 0 0], .slice none 0 0, .int .i64 4]) ∧ Below w.heap.size w w' := by
 have TT := anc.tri_new w (.int .i64 0) (.int .i64 0) (.slice none 0 0) 81
 have B0 := bl w (.cells #[.int .i64 0, .int .i64 0, .slice none 0 0] 81)
 have lw : w.heap.size < (w.alloc (.cells #[.int .i64 0, .int .i64 0, .slice none 0 0] 81)).heap.size := by simp
 have HU := Lib.hid fun (W : World) (X : Option Addr) (d : Nat) (hW : Below w.heap.size w W) (h : SlV W W.heap.size X (ints [1, 1])) => unrow_er n 2 A X c d b [1, 1] 4 W hn rfl (by omega) hc hm hl (unrow2_no h2) (hA.next hW) h
 clear hn hA hc hm hl h2
 go_enter Tryz.func110, Tryz.ntmps110
 go_upto_region 1 with fail
 generalize w.alloc (.cells #[.int .i64 0, .int .i64 0, .slice none 0 0] 81) = w0 at *
 go_upto_region 2 with (first
  | (go_at_call 124; (with_reducible refine (isizes_c _).mono ?_); rintro e w1 ⟨rfl, rfl⟩)
  | (go_at_call 108; (with_reducible refine (HU.out _ _ _ (kal B0 _) (isz_slv _)).mono ?_); rintro e w3 ⟨rfl, hb3⟩))
 have B3 := bt (kal B0 _) hb3
 have T3 := TT.keep (bt (bl _ _) hb3) lw
 obtain ⟨t0, t1, t2, f0, f1, f2⟩ := id T3
 go_wp2_with fail
 have k3 := ((T3.set0 (.int .i64 0)).set1 (.int .i64 0)).set2 (.slice none 0 0)
 exact bodyPost_ret (v := .tuple #[.agg #[.int .i64 0, .int .i64 0, .slice none 0 0], .slice none 0 0, .int .i64 4]) (by simp [results, Tryz.results110, go_sem, k3.c0, k3.c1, k3.c2]) rfl ⟨rfl, below_set3 B3 (Nat.le_refl _) _ _ _⟩
theorem pimg_no (A : Option Addr) (c n m : Nat) (b : List UInt8) (w : World) (hn : b.length = n) (hA : Sl w w.heap.size A b) (hc : n ≤ c) (hm : c ≤ maxLen) (hl : n ≤ 4294967296) (h2 : ¬ b.length < 2) (hm0 : at1 b 2 = m) (h3 : n < 3 + m) :
  Calls Tryz.prog 110 #[.slice A n c] w fun e w' => e = .returned (.tuple #[.agg #[.int .i64 0, .int .i64 0, .slice none 0 0], .slice none 0 0, .int .i64 4]) ∧ Below w.heap.size w w' := by
 obtain ⟨q, hq⟩ : ∃ q, (b.drop 2).length = q := ⟨_, rfl⟩
 have hqn : q = n - 2 := by rw [← hq, List.length_drop, hn]
 obtain ⟨a0, ha0⟩ : ∃ k, at1 b 0 = k := ⟨_, rfl⟩
 obtain ⟨a1, ha1⟩ : ∃ k, at1 b 1 = k := ⟨_, rfl⟩
 have hu := unrow2_yes h2
 rw [ha0, ha1] at hu
 have HP := Lib.hid fun (W : World) (X : Option Addr) (d base : Nat) (h : Own W base 5 (.slice X q d) (b.drop 2)) (h1 : q ≤ d) (h2 : d ≤ maxLen) => pck.unpart_no q X d (b.drop 2) W hq (by rw [show num ((b.drop 2).take 1) = m from hm0]; omega) h1 h2 (own_sl h)
 have HU := Lib.hid fun (W : World) (X : Option Addr) (d : Nat) (hW : Below w.heap.size w W) (h : SlV W W.heap.size X (ints [1, 1])) => unrow_ok n 2 2 q A X c d b (b.drop 2) [1, 1] [(a0 : Int), (a1 : Int)] W hn rfl (by omega) hc hm hl hu rfl (by omega) hq (hA.next hW) h
 have TT := anc.tri_new w (.int .i64 0) (.int .i64 0) (.slice none 0 0) 81
 have B0 := bl w (.cells #[.int .i64 0, .int .i64 0, .slice none 0 0] 81)
 have lw : w.heap.size < (w.alloc (.cells #[.int .i64 0, .int .i64 0, .slice none 0 0] 81)).heap.size := by simp
 clear hn hA hc hm hl h2 hu hq hm0 hqn h3
 go_enter Tryz.func110, Tryz.ntmps110
 go_upto_region 1 with fail
 generalize w.alloc (.cells #[.int .i64 0, .int .i64 0, .slice none 0 0] 81) = w0 at *
 have ls : (w0.alloc (.cells #[.int .i64 1, .int .i64 1] 3)).heap.size = w0.heap.size + 1 := by simp
 go_upto_region 4 with (first
  | (go_at_call 124; (with_reducible refine (isizes_c _).mono ?_); rintro e w1 ⟨rfl, rfl⟩)
  | (go_at_call 108; (with_reducible refine (HU.out _ _ _ (kal B0 _) (isz_slv _)).mono ?_); rintro e w3 ⟨⟨g, c3, X3, d3, rfl, ⟨k1, k2⟩, ⟨l1, l2⟩, s3, ⟨k3, k4⟩, o3⟩, hb3⟩))
 have B3 := bt (kal B0 _) hb3
 have lb := hb3.size
 have T3 := TT.keep (bt (bl _ _) hb3) lw
 rw [ls] at o3 lb
 obtain ⟨b', off', he, hb', hcs⟩ := s3 (by simp [ints_length])
 cases he
 have e0 := hcs 0 (by simp [ints_length])
 have e1 := hcs 1 (by simp [ints_length])
 rw [ints_get] at e0 e1
 simp only [List.getElem_cons_zero, List.getElem_cons_succ, Nat.zero_add] at e0 e1
 have lw3 : w.heap.size < w3.heap.size := by omega
 replace o3 := o3.less (show w.heap.size + 1 ≤ w0.heap.size + 1 by omega)
 clear TT hb3 hcs hb' s3 HU l1 l2
 refine wp_region_tail (S := fun W => W.cell? ⟨g, 0, none⟩ = some (.int .i64 a0) ∧ W.cell? ⟨g, 1, none⟩ = some (.int .i64 a1) ∧ Below w3.heap.size w3 W) 7 rfl (by kernel_rfl) (by kernel_rfl) ⟨e0, e1, below_dr (Below.refl _ _)⟩ (fun hS => ?_)
 simp only [List.take_succ_cons, List.take_zero]
 (refine wpAnyH_take (i := 0) (v := ?_) rfl (by kernel_rfl) (by kernel_rfl) (by kernel_rfl) (fun _ _ _ h => h) (Or.inl ⟨by rfl, ?_⟩) (by assumption) ?_; rotate_left; (focus (intro w hSw; (try dsimp only at hSw); go_split_ands; go_simp <;> with_reducible rfl)); simp only [List.getElem_toArray, List.getElem_cons_zero, Act.put, List.setIfInBounds_toArray, List.set_cons_zero, List.set_cons_succ])
 (refine wpAnyH_take (i := 1) (v := ?_) rfl (by kernel_rfl) (by kernel_rfl) (by kernel_rfl) (fun _ _ _ h => h) (Or.inl ⟨by rfl, ?_⟩) (by assumption) ?_; rotate_left; (focus (intro w hSw; (try dsimp only at hSw); go_split_ands; go_simp <;> with_reducible rfl)); simp only [List.getElem_toArray, List.getElem_cons_zero, List.getElem_cons_succ, Act.put, List.setIfInBounds_toArray, List.set_cons_zero, List.set_cons_succ])
 (refine wpAnyH_take (i := 2) (v := ?_) rfl (by kernel_rfl) (by kernel_rfl) (by kernel_rfl) (fun _ _ _ h => h) (Or.inl ⟨by rfl, ?_⟩) (by assumption) ?_; rotate_left; (focus (intro w hSw; (try dsimp only at hSw); go_split_ands; go_simp <;> with_reducible rfl)); simp only [List.getElem_toArray, List.getElem_cons_zero, List.getElem_cons_succ, Act.put, List.setIfInBounds_toArray, List.set_cons_zero, List.set_cons_succ])
 (refine wpAnyH_take (i := 3) (v := ?_) rfl (by kernel_rfl) (by kernel_rfl) (by kernel_rfl) (fun _ _ _ h => h) (Or.inl ⟨by rfl, ?_⟩) (by assumption) ?_; rotate_left; (focus (intro w hSw; (try dsimp only at hSw); go_split_ands; go_simp <;> with_reducible rfl)); simp only [List.getElem_toArray, List.getElem_cons_zero, List.getElem_cons_succ, Act.put, List.setIfInBounds_toArray, List.set_cons_zero, List.set_cons_succ])
 (refine wpAnyH_take (i := 4) (v := ?_) rfl (by kernel_rfl) (by kernel_rfl) (by kernel_rfl) (fun _ _ _ h => h) (Or.inl ⟨by rfl, ?_⟩) (by assumption) ?_; rotate_left; (focus (intro w hSw; (try dsimp only at hSw); go_split_ands; go_simp <;> with_reducible rfl)); simp only [List.getElem_toArray, List.getElem_cons_zero, List.getElem_cons_succ, Act.put, List.setIfInBounds_toArray, List.set_cons_zero, List.set_cons_succ])
 (refine wpAnyH_take (i := 5) (v := ?_) rfl (by kernel_rfl) (by kernel_rfl) (by kernel_rfl) (fun _ _ _ h => h) (Or.inl ⟨by rfl, ?_⟩) (by assumption) ?_; rotate_left; (focus (intro w hSw; (try dsimp only at hSw); go_split_ands; go_simp <;> with_reducible rfl)); simp only [List.getElem_toArray, List.getElem_cons_zero, List.getElem_cons_succ, Act.put, List.setIfInBounds_toArray, List.set_cons_zero, List.set_cons_succ])
 (refine wpAnyH_take (i := 6) (v := ?_) rfl (by kernel_rfl) (by kernel_rfl) (by kernel_rfl) (fun _ _ _ h => h) (Or.inl ⟨by rfl, ?_⟩) (by assumption) ?_; rotate_left; (focus (intro w hSw; (try dsimp only at hSw); go_split_ands; go_simp <;> with_reducible rfl)); simp only [List.getElem_toArray, List.getElem_cons_zero, List.getElem_cons_succ, Act.put, List.setIfInBounds_toArray, List.set_cons_zero, List.set_cons_succ])
 refine wpAnyH_done (by kernel_rfl) ?_ _
 obtain ⟨t0, t1, t2, f0, f1, f2⟩ := id T3
 simp only [tailQ]
 go_simp
 have T4 := (((T3.set0 (.int .i64 a0)).set1 (.int .i64 a1)).set2 (.slice none 0 0)).keep (below_dr (Below.refl (w.heap.size + 1) _)) (Nat.lt_succ_self _)
 have o4 := (own_st (o := 2) (own_st (o := 1) (own_st (o := 0) o3 (Nat.lt_succ_self _) (.int .i64 a0)) (Nat.lt_succ_self _) (.int .i64 a1)) (Nat.lt_succ_self _) (.slice none 0 0)).drew
 have B4 := below_dr (below_set3 (o1 := 0) (o2 := 1) (o3 := 2) B3 (Nat.le_refl _) (.int .i64 a0) (.int .i64 a1) (.slice none 0 0))
 have l4 : w.heap.size < ((((w3.setCell ⟨w.heap.size, 0, none⟩ (.int .i64 a0)).setCell ⟨w.heap.size, 1, none⟩ (.int .i64 a1)).setCell ⟨w.heap.size, 2, none⟩ (.slice none 0 0)).drew).heap.size := by simpa using lw3
 clear t0 t1 t2 f0 f1 f2 T3 o3 B3 e0 e1 lw3
 generalize (((w3.setCell ⟨w.heap.size, 0, none⟩ (.int .i64 a0)).setCell ⟨w.heap.size, 1, none⟩ (.int .i64 a1)).setCell ⟨w.heap.size, 2, none⟩ (.slice none 0 0)).drew = w4 at *
 obtain ⟨t0, t1, t2, f0, f1, f2⟩ := id T4
 have HA0 := Lib.hid ha0
 have HA1 := Lib.hid ha1
 clear ha0 ha1
 by_cases h254 : a1 = 254
 ·have i5 : (a1 : Int) = 254 := by omega
  have T5 := T4.set1 (.int .i64 (-1))
  have o5 := own_st (o := 1) o4 (Nat.lt_succ_self _) (.int .i64 (-1))
  have B5 := B4.setCell (p := ⟨w.heap.size, 1, none⟩) (Nat.le_refl w.heap.size) (.int .i64 (-1))
  have l5 : w.heap.size < (w4.setCell ⟨w.heap.size, 1, none⟩ (.int .i64 (-1))).heap.size := by rw [World.size_setCell]; exact l4
  have HW := Lib.hid (show whI a1 = -1 by unfold whI; rw [if_pos h254])
  clear h254
  go_upto_region 7 with fail
  clear i5 t0 t1 t2 f0 f1 f2 T4 o4 B4 l4
  generalize w4.setCell ⟨w.heap.size, 1, none⟩ (.int .i64 (-1)) = w5 at *
  obtain ⟨t0, t1, t2, f0, f1, f2⟩ := id T5
  go_wp2_with (go_at_call 107; (with_reducible refine (HP.out _ _ _ _ o5 k3 k4).mono ?_); rintro e w6 ⟨rfl, hb6⟩; (have T6 := T5.keep hb6 l5); obtain ⟨u0, u1, u2, h0, h1, h2⟩ := id T6)
  have k9 := (((T6.set2 (.slice none 0 0)).set0 (.int .i64 0)).set1 (.int .i64 0)).set2 (.slice none 0 0)
  exact bodyPost_ret (v := .tuple #[.agg #[.int .i64 0, .int .i64 0, .slice none 0 0], .slice none 0 0, .int .i64 4]) (by simp [results, Tryz.results110, go_sem, k9.c0, k9.c1, k9.c2]) rfl ⟨rfl, below_set3 ((bt B5 hb6).setCell (p := ⟨w.heap.size, 2, none⟩) (Nat.le_refl w.heap.size) _) (Nat.le_refl _) _ _ _⟩
 ·have i5 : ¬ (a1 : Int) = 254 := by omega
  have T5 := T4
  have o5 := o4
  have B5 := B4
  have l5 := l4
  have HW := Lib.hid (show whI a1 = (a1 : Int) by unfold whI; rw [if_neg h254])
  clear h254
  go_upto_region 7 with fail
  go_wp2_with (go_at_call 107; (with_reducible refine (HP.out _ _ _ _ o5 k3 k4).mono ?_); rintro e w6 ⟨rfl, hb6⟩; (have T6 := T5.keep hb6 l5); obtain ⟨u0, u1, u2, h0, h1, h2⟩ := id T6)
  have k9 := (((T6.set2 (.slice none 0 0)).set0 (.int .i64 0)).set1 (.int .i64 0)).set2 (.slice none 0 0)
  exact bodyPost_ret (v := .tuple #[.agg #[.int .i64 0, .int .i64 0, .slice none 0 0], .slice none 0 0, .int .i64 4]) (by simp [results, Tryz.results110, go_sem, k9.c0, k9.c1, k9.c2]) rfl ⟨rfl, below_set3 ((bt B5 hb6).setCell (p := ⟨w.heap.size, 2, none⟩) (Nat.le_refl w.heap.size) _) (Nat.le_refl _) _ _ _⟩
theorem pimg_yes (A : Option Addr) (c n m k : Nat) (b : List UInt8) (w : World) (hn : b.length = n) (hA : Sl w w.heap.size A b) (hc : n ≤ c) (hm : c ≤ maxLen) (hl : n ≤ 4294967296) (h2 : ¬ b.length < 2) (hm0 : at1 b 2 = m) (h3 : n = 3 + m + k) :
  Calls Tryz.prog 110 #[.slice A n c] w fun e w' => (∃ X x Y y, e = .returned (.tuple #[.agg #[.int .i64 (at1 b 0), .int .i64 (whI (at1 b 1)), .slice X m x], .slice Y k y, .int .i64 0]) ∧ Own w' w.heap.size 5 (.slice X m x) ((b.drop 3).take m)) ∧ Below w.heap.size w w' := by
 obtain ⟨q, hq⟩ : ∃ q, (b.drop 2).length = q := ⟨_, rfl⟩
 have hqn : q = n - 2 := by rw [← hq, List.length_drop, hn]
 obtain ⟨a0, ha0⟩ : ∃ k, at1 b 0 = k := ⟨_, rfl⟩
 obtain ⟨a1, ha1⟩ : ∃ k, at1 b 1 = k := ⟨_, rfl⟩
 have hu := unrow2_yes h2
 rw [ha0, ha1] at hu
 have hL : ((b.drop 2).drop 1).take m = (b.drop 3).take m := by rw [List.drop_drop]
 have hL1 : ((b.drop 3).take m).length = m := by rw [List.length_take, List.length_drop]; omega
 have hL2 : (((b.drop 2).drop 1).drop m).length = k := by rw [List.length_drop, List.length_drop, List.length_drop]; omega
 have HP := Lib.hid (show ∀ (W : World) (X : Option Addr) (d base : Nat), Own W base 5 (.slice X q d) (b.drop 2) → q ≤ d → d ≤ maxLen → Calls Tryz.prog 107 #[.slice X q d] W fun e w' => (∃ X' x' Y y, e = .returned (.tuple #[.slice X' m x', .slice Y k y, .int .i64 0]) ∧ Own w' W.heap.size 5 (.slice X' m x') ((b.drop 3).take m)) ∧ Below W.heap.size W w' from fun W X d base h h1 h2 => by
  refine (pck.unpart_ok q m X d (b.drop 2) W hq (by omega) hm0 (by omega) h1 h2 (by omega) (own_sl h)).mono ?_
  rintro e w' ⟨⟨v, u, rfl, o1, o2⟩, hb⟩
  rw [hL] at o1
  obtain ⟨X', x', rfl, o1⟩ := own_qn o1 hL1
  obtain ⟨Y, y, rfl, o2⟩ := own_qn o2 hL2
  exact ⟨⟨X', x', Y, y, rfl, o1⟩, hb⟩)
 have HU := Lib.hid fun (W : World) (X : Option Addr) (d : Nat) (hW : Below w.heap.size w W) (h : SlV W W.heap.size X (ints [1, 1])) => unrow_ok n 2 2 q A X c d b (b.drop 2) [1, 1] [(a0 : Int), (a1 : Int)] W hn rfl (by omega) hc hm hl hu rfl (by omega) hq (hA.next hW) h
 have TT := anc.tri_new w (.int .i64 0) (.int .i64 0) (.slice none 0 0) 81
 have B0 := bl w (.cells #[.int .i64 0, .int .i64 0, .slice none 0 0] 81)
 have lw : w.heap.size < (w.alloc (.cells #[.int .i64 0, .int .i64 0, .slice none 0 0] 81)).heap.size := by simp
 clear hn hA hc hm hl h2 hu hq hm0 hqn h3 hL hL1 hL2
 go_enter Tryz.func110, Tryz.ntmps110
 go_upto_region 1 with fail
 generalize w.alloc (.cells #[.int .i64 0, .int .i64 0, .slice none 0 0] 81) = w0 at *
 have ls : (w0.alloc (.cells #[.int .i64 1, .int .i64 1] 3)).heap.size = w0.heap.size + 1 := by simp
 go_upto_region 4 with (first
  | (go_at_call 124; (with_reducible refine (isizes_c _).mono ?_); rintro e w1 ⟨rfl, rfl⟩)
  | (go_at_call 108; (with_reducible refine (HU.out _ _ _ (kal B0 _) (isz_slv _)).mono ?_); rintro e w3 ⟨⟨g, c3, X3, d3, rfl, ⟨k1, k2⟩, ⟨l1, l2⟩, s3, ⟨k3, k4⟩, o3⟩, hb3⟩))
 have B3 := bt (kal B0 _) hb3
 have lb := hb3.size
 have T3 := TT.keep (bt (bl _ _) hb3) lw
 rw [ls] at o3 lb
 obtain ⟨b', off', he, hb', hcs⟩ := s3 (by simp [ints_length])
 cases he
 have e0 := hcs 0 (by simp [ints_length])
 have e1 := hcs 1 (by simp [ints_length])
 rw [ints_get] at e0 e1
 simp only [List.getElem_cons_zero, List.getElem_cons_succ, Nat.zero_add] at e0 e1
 have lw3 : w.heap.size < w3.heap.size := by omega
 replace o3 := o3.less (show w.heap.size + 1 ≤ w0.heap.size + 1 by omega)
 clear TT hb3 hcs hb' s3 HU l1 l2
 refine wp_region_tail (S := fun W => W.cell? ⟨g, 0, none⟩ = some (.int .i64 a0) ∧ W.cell? ⟨g, 1, none⟩ = some (.int .i64 a1) ∧ Below w3.heap.size w3 W) 7 rfl (by kernel_rfl) (by kernel_rfl) ⟨e0, e1, below_dr (Below.refl _ _)⟩ (fun hS => ?_)
 simp only [List.take_succ_cons, List.take_zero]
 (refine wpAnyH_take (i := 0) (v := ?_) rfl (by kernel_rfl) (by kernel_rfl) (by kernel_rfl) (fun _ _ _ h => h) (Or.inl ⟨by rfl, ?_⟩) (by assumption) ?_; rotate_left; (focus (intro w hSw; (try dsimp only at hSw); go_split_ands; go_simp <;> with_reducible rfl)); simp only [List.getElem_toArray, List.getElem_cons_zero, Act.put, List.setIfInBounds_toArray, List.set_cons_zero, List.set_cons_succ])
 (refine wpAnyH_take (i := 1) (v := ?_) rfl (by kernel_rfl) (by kernel_rfl) (by kernel_rfl) (fun _ _ _ h => h) (Or.inl ⟨by rfl, ?_⟩) (by assumption) ?_; rotate_left; (focus (intro w hSw; (try dsimp only at hSw); go_split_ands; go_simp <;> with_reducible rfl)); simp only [List.getElem_toArray, List.getElem_cons_zero, List.getElem_cons_succ, Act.put, List.setIfInBounds_toArray, List.set_cons_zero, List.set_cons_succ])
 (refine wpAnyH_take (i := 2) (v := ?_) rfl (by kernel_rfl) (by kernel_rfl) (by kernel_rfl) (fun _ _ _ h => h) (Or.inl ⟨by rfl, ?_⟩) (by assumption) ?_; rotate_left; (focus (intro w hSw; (try dsimp only at hSw); go_split_ands; go_simp <;> with_reducible rfl)); simp only [List.getElem_toArray, List.getElem_cons_zero, List.getElem_cons_succ, Act.put, List.setIfInBounds_toArray, List.set_cons_zero, List.set_cons_succ])
 (refine wpAnyH_take (i := 3) (v := ?_) rfl (by kernel_rfl) (by kernel_rfl) (by kernel_rfl) (fun _ _ _ h => h) (Or.inl ⟨by rfl, ?_⟩) (by assumption) ?_; rotate_left; (focus (intro w hSw; (try dsimp only at hSw); go_split_ands; go_simp <;> with_reducible rfl)); simp only [List.getElem_toArray, List.getElem_cons_zero, List.getElem_cons_succ, Act.put, List.setIfInBounds_toArray, List.set_cons_zero, List.set_cons_succ])
 (refine wpAnyH_take (i := 4) (v := ?_) rfl (by kernel_rfl) (by kernel_rfl) (by kernel_rfl) (fun _ _ _ h => h) (Or.inl ⟨by rfl, ?_⟩) (by assumption) ?_; rotate_left; (focus (intro w hSw; (try dsimp only at hSw); go_split_ands; go_simp <;> with_reducible rfl)); simp only [List.getElem_toArray, List.getElem_cons_zero, List.getElem_cons_succ, Act.put, List.setIfInBounds_toArray, List.set_cons_zero, List.set_cons_succ])
 (refine wpAnyH_take (i := 5) (v := ?_) rfl (by kernel_rfl) (by kernel_rfl) (by kernel_rfl) (fun _ _ _ h => h) (Or.inl ⟨by rfl, ?_⟩) (by assumption) ?_; rotate_left; (focus (intro w hSw; (try dsimp only at hSw); go_split_ands; go_simp <;> with_reducible rfl)); simp only [List.getElem_toArray, List.getElem_cons_zero, List.getElem_cons_succ, Act.put, List.setIfInBounds_toArray, List.set_cons_zero, List.set_cons_succ])
 (refine wpAnyH_take (i := 6) (v := ?_) rfl (by kernel_rfl) (by kernel_rfl) (by kernel_rfl) (fun _ _ _ h => h) (Or.inl ⟨by rfl, ?_⟩) (by assumption) ?_; rotate_left; (focus (intro w hSw; (try dsimp only at hSw); go_split_ands; go_simp <;> with_reducible rfl)); simp only [List.getElem_toArray, List.getElem_cons_zero, List.getElem_cons_succ, Act.put, List.setIfInBounds_toArray, List.set_cons_zero, List.set_cons_succ])
 refine wpAnyH_done (by kernel_rfl) ?_ _
 obtain ⟨t0, t1, t2, f0, f1, f2⟩ := id T3
 simp only [tailQ]
 go_simp
 have T4 := (((T3.set0 (.int .i64 a0)).set1 (.int .i64 a1)).set2 (.slice none 0 0)).keep (below_dr (Below.refl (w.heap.size + 1) _)) (Nat.lt_succ_self _)
 have o4 := (own_st (o := 2) (own_st (o := 1) (own_st (o := 0) o3 (Nat.lt_succ_self _) (.int .i64 a0)) (Nat.lt_succ_self _) (.int .i64 a1)) (Nat.lt_succ_self _) (.slice none 0 0)).drew
 have B4 := below_dr (below_set3 (o1 := 0) (o2 := 1) (o3 := 2) B3 (Nat.le_refl _) (.int .i64 a0) (.int .i64 a1) (.slice none 0 0))
 have l4 : w.heap.size < ((((w3.setCell ⟨w.heap.size, 0, none⟩ (.int .i64 a0)).setCell ⟨w.heap.size, 1, none⟩ (.int .i64 a1)).setCell ⟨w.heap.size, 2, none⟩ (.slice none 0 0)).drew).heap.size := by simpa using lw3
 clear t0 t1 t2 f0 f1 f2 T3 o3 B3 e0 e1 lw3
 generalize (((w3.setCell ⟨w.heap.size, 0, none⟩ (.int .i64 a0)).setCell ⟨w.heap.size, 1, none⟩ (.int .i64 a1)).setCell ⟨w.heap.size, 2, none⟩ (.slice none 0 0)).drew = w4 at *
 obtain ⟨t0, t1, t2, f0, f1, f2⟩ := id T4
 have HA0 := Lib.hid ha0
 have HA1 := Lib.hid ha1
 clear ha0 ha1
 by_cases h254 : a1 = 254
 ·have i5 : (a1 : Int) = 254 := by omega
  have T5 := T4.set1 (.int .i64 (-1))
  have o5 := own_st (o := 1) o4 (Nat.lt_succ_self _) (.int .i64 (-1))
  have B5 := B4.setCell (p := ⟨w.heap.size, 1, none⟩) (Nat.le_refl w.heap.size) (.int .i64 (-1))
  have l5 : w.heap.size < (w4.setCell ⟨w.heap.size, 1, none⟩ (.int .i64 (-1))).heap.size := by rw [World.size_setCell]; exact l4
  have HW := Lib.hid (show whI a1 = -1 by unfold whI; rw [if_pos h254])
  clear h254
  go_upto_region 7 with fail
  clear i5 t0 t1 t2 f0 f1 f2 T4 o4 B4 l4
  generalize w4.setCell ⟨w.heap.size, 1, none⟩ (.int .i64 (-1)) = w5 at *
  obtain ⟨t0, t1, t2, f0, f1, f2⟩ := id T5
  go_wp2_with (go_at_call 107; (with_reducible refine (HP.out _ _ _ _ o5 k3 k4).mono ?_); rintro e w6 ⟨⟨X6, x6, Y6, y6, rfl, o6⟩, hb6⟩; (have T6 := T5.keep hb6 l5); obtain ⟨u0, u1, u2, h0, h1, h2⟩ := id T6)
  have k9 := (((T6.set2 (.slice X6 m x6)).set0 (.int .i64 a0)).set1 (.int .i64 (-1))).set2 (.slice X6 m x6)
  have o7 := own_st (o := 2) (own_st (o := 1) (own_st (o := 0) (own_st (o := 2) (o6.less (show w.heap.size + 1 ≤ _ from l5)) (Nat.lt_succ_self _) (.slice X6 m x6)) (Nat.lt_succ_self _) (.int .i64 a0)) (Nat.lt_succ_self _) (.int .i64 (-1))) (Nat.lt_succ_self _) (.slice X6 m x6)
  exact bodyPost_ret (v := .tuple #[.agg #[.int .i64 a0, .int .i64 (-1), .slice X6 m x6], .slice Y6 k y6, .int .i64 0]) (by simp [results, Tryz.results110, go_sem, k9.c0, k9.c1, k9.c2]) rfl ⟨⟨X6, x6, Y6, y6, by rw [HA0.out, HA1.out, HW.out], o7.less (Nat.le_succ _)⟩, below_set3 ((bt B5 hb6).setCell (p := ⟨w.heap.size, 2, none⟩) (Nat.le_refl w.heap.size) _) (Nat.le_refl _) _ _ _⟩
 ·have i5 : ¬ (a1 : Int) = 254 := by omega
  have T5 := T4
  have o5 := o4
  have B5 := B4
  have l5 := l4
  have HW := Lib.hid (show whI a1 = (a1 : Int) by unfold whI; rw [if_neg h254])
  clear h254
  go_upto_region 7 with fail
  go_wp2_with (go_at_call 107; (with_reducible refine (HP.out _ _ _ _ o5 k3 k4).mono ?_); rintro e w6 ⟨⟨X6, x6, Y6, y6, rfl, o6⟩, hb6⟩; (have T6 := T5.keep hb6 l5); obtain ⟨u0, u1, u2, h0, h1, h2⟩ := id T6)
  have k9 := (((T6.set2 (.slice X6 m x6)).set0 (.int .i64 a0)).set1 (.int .i64 (a1))).set2 (.slice X6 m x6)
  have o7 := own_st (o := 2) (own_st (o := 1) (own_st (o := 0) (own_st (o := 2) (o6.less (show w.heap.size + 1 ≤ _ from l5)) (Nat.lt_succ_self _) (.slice X6 m x6)) (Nat.lt_succ_self _) (.int .i64 a0)) (Nat.lt_succ_self _) (.int .i64 (a1))) (Nat.lt_succ_self _) (.slice X6 m x6)
  exact bodyPost_ret (v := .tuple #[.agg #[.int .i64 a0, .int .i64 (a1), .slice X6 m x6], .slice Y6 k y6, .int .i64 0]) (by simp [results, Tryz.results110, go_sem, k9.c0, k9.c1, k9.c2]) rfl ⟨⟨X6, x6, Y6, y6, by rw [HA0.out, HA1.out, HW.out], o7.less (Nat.le_succ _)⟩, below_set3 ((bt B5 hb6).setCell (p := ⟨w.heap.size, 2, none⟩) (Nat.le_refl w.heap.size) _) (Nat.le_refl _) _ _ _⟩
end Go.Proofs.YtbfdpibjicjagaaGreatDoor.lrc
namespace Go.Proofs.YtbfdpibjicjagaaGreatDoor.lrc
open Go.RowKit Go.Lib
open Go.Proofs.YtbfdpibjicjagaaGreatDoor.gmt (Ok)
open Go.Proofs.YtbfdpibjicjagaaGreatDoor.anc (bl kal kst ks bm ka)
open Go.Proofs.YtbfdpibjicjagaaGreatDoor.tbl (C1 c1_new G5 g5_new)
open Go.Proofs.YtbfdpibjicjagaaGreatDoor.img
open Go.Proofs.YtbfdpibjicjagaaGreatDoor.pck (le le_length num unrow unrow_any)
structure Eig (W : World) (g : Nat) (a0 a1 a2 a3 a4 a5 a6 a7 : Value) : Prop where
 c0 : W.cell? ⟨g, 0, none⟩ = some a0
 c1 : W.cell? ⟨g, 1, none⟩ = some a1
 c2 : W.cell? ⟨g, 2, none⟩ = some a2
 c3 : W.cell? ⟨g, 3, none⟩ = some a3
 c4 : W.cell? ⟨g, 4, none⟩ = some a4
 c5 : W.cell? ⟨g, 5, none⟩ = some a5
 c6 : W.cell? ⟨g, 6, none⟩ = some a6
 c7 : W.cell? ⟨g, 7, none⟩ = some a7
 f0 : W.frozen? ⟨g, 0, none⟩ = false
 f1 : W.frozen? ⟨g, 1, none⟩ = false
 f2 : W.frozen? ⟨g, 2, none⟩ = false
 f3 : W.frozen? ⟨g, 3, none⟩ = false
 f4 : W.frozen? ⟨g, 4, none⟩ = false
 f5 : W.frozen? ⟨g, 5, none⟩ = false
 f6 : W.frozen? ⟨g, 6, none⟩ = false
 f7 : W.frozen? ⟨g, 7, none⟩ = false
section
variable {W W' : World} {g : Nat} {a0 a1 a2 a3 a4 a5 a6 a7 : Value}
theorem eig_new (w : World) (a0 a1 a2 a3 a4 a5 a6 a7 : Value) (t : TypeId) : Eig (w.alloc (.cells #[a0, a1, a2, a3, a4, a5, a6, a7] t)) w.heap.size a0 a1 a2 a3 a4 a5 a6 a7 := by
 have h := heap_alloc_new w (.cells #[a0, a1, a2, a3, a4, a5, a6, a7] t)
 constructor <;> first | (rw [cell_of_row _ _ _ _ _ _ h]; rfl) | exact World.frozen?_alloc_new _ _ _ _
theorem Eig.keep {B : Nat} (h : Eig W g a0 a1 a2 a3 a4 a5 a6 a7) (hb : Below B W W') (hg : g < B) : Eig W' g a0 a1 a2 a3 a4 a5 a6 a7 :=
 ⟨(hb.cell (p := ⟨g, 0, none⟩) hg).trans h.c0, (hb.cell (p := ⟨g, 1, none⟩) hg).trans h.c1, (hb.cell (p := ⟨g, 2, none⟩) hg).trans h.c2, (hb.cell (p := ⟨g, 3, none⟩) hg).trans h.c3, (hb.cell (p := ⟨g, 4, none⟩) hg).trans h.c4, (hb.cell (p := ⟨g, 5, none⟩) hg).trans h.c5, (hb.cell (p := ⟨g, 6, none⟩) hg).trans h.c6, (hb.cell (p := ⟨g, 7, none⟩) hg).trans h.c7, (hb.frozen (p := ⟨g, 0, none⟩) hg).trans h.f0, (hb.frozen (p := ⟨g, 1, none⟩) hg).trans h.f1, (hb.frozen (p := ⟨g, 2, none⟩) hg).trans h.f2, (hb.frozen (p := ⟨g, 3, none⟩) hg).trans h.f3, (hb.frozen (p := ⟨g, 4, none⟩) hg).trans h.f4, (hb.frozen (p := ⟨g, 5, none⟩) hg).trans h.f5, (hb.frozen (p := ⟨g, 6, none⟩) hg).trans h.f6, (hb.frozen (p := ⟨g, 7, none⟩) hg).trans h.f7⟩
theorem Eig.set0 (h : Eig W g a0 a1 a2 a3 a4 a5 a6 a7) (v : Value) : Eig (W.setCell ⟨g, 0, none⟩ v) g v a1 a2 a3 a4 a5 a6 a7 := by
 refine ⟨?_, ?_, ?_, ?_, ?_, ?_, ?_, ?_, ?_, ?_, ?_, ?_, ?_, ?_, ?_, ?_⟩
 ·exact World.cell?_setCell_same _ _ _ h.c0
 ·rw [World.cell?_setCell_other _ _ _ _ (by simp)]; exact h.c1
 ·rw [World.cell?_setCell_other _ _ _ _ (by simp)]; exact h.c2
 ·rw [World.cell?_setCell_other _ _ _ _ (by simp)]; exact h.c3
 ·rw [World.cell?_setCell_other _ _ _ _ (by simp)]; exact h.c4
 ·rw [World.cell?_setCell_other _ _ _ _ (by simp)]; exact h.c5
 ·rw [World.cell?_setCell_other _ _ _ _ (by simp)]; exact h.c6
 ·rw [World.cell?_setCell_other _ _ _ _ (by simp)]; exact h.c7
 ·rw [World.frozen?_setCell]; exact h.f0
 ·rw [World.frozen?_setCell]; exact h.f1
 ·rw [World.frozen?_setCell]; exact h.f2
 ·rw [World.frozen?_setCell]; exact h.f3
 ·rw [World.frozen?_setCell]; exact h.f4
 ·rw [World.frozen?_setCell]; exact h.f5
 ·rw [World.frozen?_setCell]; exact h.f6
 ·rw [World.frozen?_setCell]; exact h.f7
theorem Eig.set1 (h : Eig W g a0 a1 a2 a3 a4 a5 a6 a7) (v : Value) : Eig (W.setCell ⟨g, 1, none⟩ v) g a0 v a2 a3 a4 a5 a6 a7 := by
 refine ⟨?_, ?_, ?_, ?_, ?_, ?_, ?_, ?_, ?_, ?_, ?_, ?_, ?_, ?_, ?_, ?_⟩
 ·rw [World.cell?_setCell_other _ _ _ _ (by simp)]; exact h.c0
 ·exact World.cell?_setCell_same _ _ _ h.c1
 ·rw [World.cell?_setCell_other _ _ _ _ (by simp)]; exact h.c2
 ·rw [World.cell?_setCell_other _ _ _ _ (by simp)]; exact h.c3
 ·rw [World.cell?_setCell_other _ _ _ _ (by simp)]; exact h.c4
 ·rw [World.cell?_setCell_other _ _ _ _ (by simp)]; exact h.c5
 ·rw [World.cell?_setCell_other _ _ _ _ (by simp)]; exact h.c6
 ·rw [World.cell?_setCell_other _ _ _ _ (by simp)]; exact h.c7
 ·rw [World.frozen?_setCell]; exact h.f0
 ·rw [World.frozen?_setCell]; exact h.f1
 ·rw [World.frozen?_setCell]; exact h.f2
 ·rw [World.frozen?_setCell]; exact h.f3
 ·rw [World.frozen?_setCell]; exact h.f4
 ·rw [World.frozen?_setCell]; exact h.f5
 ·rw [World.frozen?_setCell]; exact h.f6
 ·rw [World.frozen?_setCell]; exact h.f7
theorem Eig.set2 (h : Eig W g a0 a1 a2 a3 a4 a5 a6 a7) (v : Value) : Eig (W.setCell ⟨g, 2, none⟩ v) g a0 a1 v a3 a4 a5 a6 a7 := by
 refine ⟨?_, ?_, ?_, ?_, ?_, ?_, ?_, ?_, ?_, ?_, ?_, ?_, ?_, ?_, ?_, ?_⟩
 ·rw [World.cell?_setCell_other _ _ _ _ (by simp)]; exact h.c0
 ·rw [World.cell?_setCell_other _ _ _ _ (by simp)]; exact h.c1
 ·exact World.cell?_setCell_same _ _ _ h.c2
 ·rw [World.cell?_setCell_other _ _ _ _ (by simp)]; exact h.c3
 ·rw [World.cell?_setCell_other _ _ _ _ (by simp)]; exact h.c4
 ·rw [World.cell?_setCell_other _ _ _ _ (by simp)]; exact h.c5
 ·rw [World.cell?_setCell_other _ _ _ _ (by simp)]; exact h.c6
 ·rw [World.cell?_setCell_other _ _ _ _ (by simp)]; exact h.c7
 ·rw [World.frozen?_setCell]; exact h.f0
 ·rw [World.frozen?_setCell]; exact h.f1
 ·rw [World.frozen?_setCell]; exact h.f2
 ·rw [World.frozen?_setCell]; exact h.f3
 ·rw [World.frozen?_setCell]; exact h.f4
 ·rw [World.frozen?_setCell]; exact h.f5
 ·rw [World.frozen?_setCell]; exact h.f6
 ·rw [World.frozen?_setCell]; exact h.f7
theorem Eig.set3 (h : Eig W g a0 a1 a2 a3 a4 a5 a6 a7) (v : Value) : Eig (W.setCell ⟨g, 3, none⟩ v) g a0 a1 a2 v a4 a5 a6 a7 := by
 refine ⟨?_, ?_, ?_, ?_, ?_, ?_, ?_, ?_, ?_, ?_, ?_, ?_, ?_, ?_, ?_, ?_⟩
 ·rw [World.cell?_setCell_other _ _ _ _ (by simp)]; exact h.c0
 ·rw [World.cell?_setCell_other _ _ _ _ (by simp)]; exact h.c1
 ·rw [World.cell?_setCell_other _ _ _ _ (by simp)]; exact h.c2
 ·exact World.cell?_setCell_same _ _ _ h.c3
 ·rw [World.cell?_setCell_other _ _ _ _ (by simp)]; exact h.c4
 ·rw [World.cell?_setCell_other _ _ _ _ (by simp)]; exact h.c5
 ·rw [World.cell?_setCell_other _ _ _ _ (by simp)]; exact h.c6
 ·rw [World.cell?_setCell_other _ _ _ _ (by simp)]; exact h.c7
 ·rw [World.frozen?_setCell]; exact h.f0
 ·rw [World.frozen?_setCell]; exact h.f1
 ·rw [World.frozen?_setCell]; exact h.f2
 ·rw [World.frozen?_setCell]; exact h.f3
 ·rw [World.frozen?_setCell]; exact h.f4
 ·rw [World.frozen?_setCell]; exact h.f5
 ·rw [World.frozen?_setCell]; exact h.f6
 ·rw [World.frozen?_setCell]; exact h.f7
theorem Eig.set4 (h : Eig W g a0 a1 a2 a3 a4 a5 a6 a7) (v : Value) : Eig (W.setCell ⟨g, 4, none⟩ v) g a0 a1 a2 a3 v a5 a6 a7 := by
 refine ⟨?_, ?_, ?_, ?_, ?_, ?_, ?_, ?_, ?_, ?_, ?_, ?_, ?_, ?_, ?_, ?_⟩
 ·rw [World.cell?_setCell_other _ _ _ _ (by simp)]; exact h.c0
 ·rw [World.cell?_setCell_other _ _ _ _ (by simp)]; exact h.c1
 ·rw [World.cell?_setCell_other _ _ _ _ (by simp)]; exact h.c2
 ·rw [World.cell?_setCell_other _ _ _ _ (by simp)]; exact h.c3
 ·exact World.cell?_setCell_same _ _ _ h.c4
 ·rw [World.cell?_setCell_other _ _ _ _ (by simp)]; exact h.c5
 ·rw [World.cell?_setCell_other _ _ _ _ (by simp)]; exact h.c6
 ·rw [World.cell?_setCell_other _ _ _ _ (by simp)]; exact h.c7
 ·rw [World.frozen?_setCell]; exact h.f0
 ·rw [World.frozen?_setCell]; exact h.f1
 ·rw [World.frozen?_setCell]; exact h.f2
 ·rw [World.frozen?_setCell]; exact h.f3
 ·rw [World.frozen?_setCell]; exact h.f4
 ·rw [World.frozen?_setCell]; exact h.f5
 ·rw [World.frozen?_setCell]; exact h.f6
 ·rw [World.frozen?_setCell]; exact h.f7
theorem Eig.set5 (h : Eig W g a0 a1 a2 a3 a4 a5 a6 a7) (v : Value) : Eig (W.setCell ⟨g, 5, none⟩ v) g a0 a1 a2 a3 a4 v a6 a7 := by
 refine ⟨?_, ?_, ?_, ?_, ?_, ?_, ?_, ?_, ?_, ?_, ?_, ?_, ?_, ?_, ?_, ?_⟩
 ·rw [World.cell?_setCell_other _ _ _ _ (by simp)]; exact h.c0
 ·rw [World.cell?_setCell_other _ _ _ _ (by simp)]; exact h.c1
 ·rw [World.cell?_setCell_other _ _ _ _ (by simp)]; exact h.c2
 ·rw [World.cell?_setCell_other _ _ _ _ (by simp)]; exact h.c3
 ·rw [World.cell?_setCell_other _ _ _ _ (by simp)]; exact h.c4
 ·exact World.cell?_setCell_same _ _ _ h.c5
 ·rw [World.cell?_setCell_other _ _ _ _ (by simp)]; exact h.c6
 ·rw [World.cell?_setCell_other _ _ _ _ (by simp)]; exact h.c7
 ·rw [World.frozen?_setCell]; exact h.f0
 ·rw [World.frozen?_setCell]; exact h.f1
 ·rw [World.frozen?_setCell]; exact h.f2
 ·rw [World.frozen?_setCell]; exact h.f3
 ·rw [World.frozen?_setCell]; exact h.f4
 ·rw [World.frozen?_setCell]; exact h.f5
 ·rw [World.frozen?_setCell]; exact h.f6
 ·rw [World.frozen?_setCell]; exact h.f7
theorem Eig.set6 (h : Eig W g a0 a1 a2 a3 a4 a5 a6 a7) (v : Value) : Eig (W.setCell ⟨g, 6, none⟩ v) g a0 a1 a2 a3 a4 a5 v a7 := by
 refine ⟨?_, ?_, ?_, ?_, ?_, ?_, ?_, ?_, ?_, ?_, ?_, ?_, ?_, ?_, ?_, ?_⟩
 ·rw [World.cell?_setCell_other _ _ _ _ (by simp)]; exact h.c0
 ·rw [World.cell?_setCell_other _ _ _ _ (by simp)]; exact h.c1
 ·rw [World.cell?_setCell_other _ _ _ _ (by simp)]; exact h.c2
 ·rw [World.cell?_setCell_other _ _ _ _ (by simp)]; exact h.c3
 ·rw [World.cell?_setCell_other _ _ _ _ (by simp)]; exact h.c4
 ·rw [World.cell?_setCell_other _ _ _ _ (by simp)]; exact h.c5
 ·exact World.cell?_setCell_same _ _ _ h.c6
 ·rw [World.cell?_setCell_other _ _ _ _ (by simp)]; exact h.c7
 ·rw [World.frozen?_setCell]; exact h.f0
 ·rw [World.frozen?_setCell]; exact h.f1
 ·rw [World.frozen?_setCell]; exact h.f2
 ·rw [World.frozen?_setCell]; exact h.f3
 ·rw [World.frozen?_setCell]; exact h.f4
 ·rw [World.frozen?_setCell]; exact h.f5
 ·rw [World.frozen?_setCell]; exact h.f6
 ·rw [World.frozen?_setCell]; exact h.f7
theorem Eig.set7 (h : Eig W g a0 a1 a2 a3 a4 a5 a6 a7) (v : Value) : Eig (W.setCell ⟨g, 7, none⟩ v) g a0 a1 a2 a3 a4 a5 a6 v := by
 refine ⟨?_, ?_, ?_, ?_, ?_, ?_, ?_, ?_, ?_, ?_, ?_, ?_, ?_, ?_, ?_, ?_⟩
 ·rw [World.cell?_setCell_other _ _ _ _ (by simp)]; exact h.c0
 ·rw [World.cell?_setCell_other _ _ _ _ (by simp)]; exact h.c1
 ·rw [World.cell?_setCell_other _ _ _ _ (by simp)]; exact h.c2
 ·rw [World.cell?_setCell_other _ _ _ _ (by simp)]; exact h.c3
 ·rw [World.cell?_setCell_other _ _ _ _ (by simp)]; exact h.c4
 ·rw [World.cell?_setCell_other _ _ _ _ (by simp)]; exact h.c5
 ·rw [World.cell?_setCell_other _ _ _ _ (by simp)]; exact h.c6
 ·exact World.cell?_setCell_same _ _ _ h.c7
 ·rw [World.frozen?_setCell]; exact h.f0
 ·rw [World.frozen?_setCell]; exact h.f1
 ·rw [World.frozen?_setCell]; exact h.f2
 ·rw [World.frozen?_setCell]; exact h.f3
 ·rw [World.frozen?_setCell]; exact h.f4
 ·rw [World.frozen?_setCell]; exact h.f5
 ·rw [World.frozen?_setCell]; exact h.f6
 ·rw [World.frozen?_setCell]; exact h.f7
end
theorem Eig.all {W : World} {g : Nat} {a0 a1 a2 a3 a4 a5 a6 a7 : Value} (h : Eig W g a0 a1 a2 a3 a4 a5 a6 a7) (v0 v1 v2 v3 v4 v5 v6 v7 : Value) : Eig ((((((((W.setCell ⟨g, 0, none⟩ v0).setCell ⟨g, 1, none⟩ v1).setCell ⟨g, 2, none⟩ v2).setCell ⟨g, 3, none⟩ v3).setCell ⟨g, 4, none⟩ v4).setCell ⟨g, 5, none⟩ v5).setCell ⟨g, 6, none⟩ v6).setCell ⟨g, 7, none⟩ v7) g v0 v1 v2 v3 v4 v5 v6 v7 := ((((((((h.set0 v0).set1 v1).set2 v2).set3 v3).set4 v4).set5 v5).set6 v6).set7 v7)
theorem own_all {W : World} {base g : Nat} {e : TypeId} {u : Value} {l : List UInt8} (h : Own W base e u l) (hg : g < base) (v0 v1 v2 v3 v4 v5 v6 v7 : Value) : Own ((((((((W.setCell ⟨g, 0, none⟩ v0).setCell ⟨g, 1, none⟩ v1).setCell ⟨g, 2, none⟩ v2).setCell ⟨g, 3, none⟩ v3).setCell ⟨g, 4, none⟩ v4).setCell ⟨g, 5, none⟩ v5).setCell ⟨g, 6, none⟩ v6).setCell ⟨g, 7, none⟩ v7) base e u l := own_st (own_st (own_st (own_st (own_st (own_st (own_st (own_st h hg v0) hg v1) hg v2) hg v3) hg v4) hg v5) hg v6) hg v7
theorem below_all {w W : World} {B g : Nat} (h : Below B w W) (hg : B ≤ g) (v0 v1 v2 v3 v4 v5 v6 v7 : Value) : Below B w ((((((((W.setCell ⟨g, 0, none⟩ v0).setCell ⟨g, 1, none⟩ v1).setCell ⟨g, 2, none⟩ v2).setCell ⟨g, 3, none⟩ v3).setCell ⟨g, 4, none⟩ v4).setCell ⟨g, 5, none⟩ v5).setCell ⟨g, 6, none⟩ v6).setCell ⟨g, 7, none⟩ v7) :=
 ((((((((h.setCell (p := ⟨g, 0, none⟩) hg v0).setCell (p := ⟨g, 1, none⟩) hg v1).setCell (p := ⟨g, 2, none⟩) hg v2).setCell (p := ⟨g, 3, none⟩) hg v3).setCell (p := ⟨g, 4, none⟩) hg v4).setCell (p := ⟨g, 5, none⟩) hg v5).setCell (p := ⟨g, 6, none⟩) hg v6).setCell (p := ⟨g, 7, none⟩) hg v7)
theorem unrow5_no {b : List UInt8} (h : b.length < 11) : unrow [1, 4, 4, 1, 1] b = .error 4 := by
 by_cases h1 : b.length < 1
 ·simp [unrow, h1]
 by_cases h2 : b.length - 1 < 4
 ·simp [unrow, h1, h2]
 by_cases h3 : b.length - 5 < 4
 ·simp [unrow, h1, h2, h3]
 by_cases h4 : b.length - 9 < 1
 ·simp [unrow, h1, h2, h3, h4]
 ·simp [unrow, h1, h2, h3, h4, show b.length - 10 < 1 by omega]
theorem unrow5_yes {b : List UInt8} (h : ¬ b.length < 11) : unrow [1, 4, 4, 1, 1] b = .ok ([(at1 b 0 : Int), (at4 b 1 : Int), (at4 b 5 : Int), (at1 b 9 : Int), (at1 b 10 : Int)], b.drop 11) := by
 simp [unrow, at1, at4, show ¬ b.length < 1 by omega, show ¬ b.length - 1 < 4 by omega, show ¬ b.length - 5 < 4 by omega, show ¬ b.length - 9 < 1 by omega, show ¬ b.length - 10 < 1 by omega]
theorem at1_drop (b : List UInt8) (j k : Nat) : at1 (b.drop j) k = at1 b (j + k) := by unfold at1; rw [List.drop_drop]
theorem parse_shortR (A : Option Addr) (c n : Nat) (b : List UInt8) (w : World) (hn : b.length = n) (hA : Sl w w.heap.size A b) (hc : n ≤ c) (hm : c ≤ maxLen) (hl : n ≤ 4294967296) (h2 : b.length < 11) :
  Calls Tryz.prog 92 #[.slice A n c] w fun e w' => e = .returned (.tuple #[.agg #[.int .i64 0, .int .i64 0, .int .i64 0, .int .i64 0, .int .i64 0, .int .i64 0, .int .i64 0, .slice none 0 0], .slice none 0 0, .int .i64 4]) ∧ Below w.heap.size w w' := by
 have TT := eig_new w (.int .i64 0) (.int .i64 0) (.int .i64 0) (.int .i64 0) (.int .i64 0) (.int .i64 0) (.int .i64 0) (.slice none 0 0) 83
 have B0 := bl w (.cells #[.int .i64 0, .int .i64 0, .int .i64 0, .int .i64 0, .int .i64 0, .int .i64 0, .int .i64 0, .slice none 0 0] 83)
 have lw : w.heap.size < (w.alloc (.cells #[.int .i64 0, .int .i64 0, .int .i64 0, .int .i64 0, .int .i64 0, .int .i64 0, .int .i64 0, .slice none 0 0] 83)).heap.size := by simp
 have HU := Lib.hid fun (W : World) (X : Option Addr) (d : Nat) (hW : Below w.heap.size w W) (h : SlV W W.heap.size X (ints [1, 4, 4, 1, 1])) => unrow_er n 5 A X c d b [1, 4, 4, 1, 1] 4 W hn rfl (by omega) hc hm hl (unrow5_no h2) (hA.next hW) h
 clear hn hA hc hm hl h2
 go_enter Tryz.func92, Tryz.ntmps92
 go_upto_region 1 with fail
 generalize w.alloc (.cells #[.int .i64 0, .int .i64 0, .int .i64 0, .int .i64 0, .int .i64 0, .int .i64 0, .int .i64 0, .slice none 0 0] 83) = w0 at *
 go_upto_region 2 with (first
  | (go_at_call 109; (with_reducible refine (hsizes_c _).mono ?_); rintro e w1 ⟨rfl, rfl⟩)
  | (go_at_call 108; (with_reducible refine (HU.out _ _ _ (kal B0 _) (hsz_slv _)).mono ?_); rintro e w3 ⟨rfl, hb3⟩))
 have B3 := bt (kal B0 _) hb3
 have T3 := TT.keep (bt (bl _ _) hb3) lw
 obtain ⟨t0, t1, t2, t3, t4, t5, t6, t7, f0, f1, f2, f3, f4, f5, f6, f7⟩ := id T3
 go_wp2_with fail
 have k9 := T3.all (.int .i64 0) (.int .i64 0) (.int .i64 0) (.int .i64 0) (.int .i64 0) (.int .i64 0) (.int .i64 0) (.slice none 0 0)
 exact bodyPost_ret (v := .tuple #[.agg #[.int .i64 0, .int .i64 0, .int .i64 0, .int .i64 0, .int .i64 0, .int .i64 0, .int .i64 0, .slice none 0 0], .slice none 0 0, .int .i64 4]) (by simp [results, Tryz.results92, go_sem, k9.c0, k9.c1, k9.c2, k9.c3, k9.c4, k9.c5, k9.c6, k9.c7]) rfl ⟨rfl, below_all B3 (Nat.le_refl _) _ _ _ _ _ _ _ _⟩
theorem parse_ok0 (A : Option Addr) (c n : Nat) (b : List UInt8) (w : World) (hn : b.length = n) (hA : Sl w w.heap.size A b) (hc : n ≤ c) (hm : c ≤ maxLen) (hl : n ≤ 4294967296) (h2 : ¬ b.length < 11) (h0 : at1 b 0 ≠ 1) :
  Calls Tryz.prog 92 #[.slice A n c] w fun e w' => (∃ Y y, e = .returned (.tuple #[.agg #[.int .i64 (at1 b 0), .int .i64 (at4 b 1), .int .i64 (at4 b 5), .int .i64 (at1 b 9), .int .i64 (at1 b 10), .int .i64 0, .int .i64 0, .slice none 0 0], .slice Y (n - 11) y, .int .i64 0])) ∧ Below w.heap.size w w' := by
 obtain ⟨q, hq⟩ : ∃ q, (b.drop 11).length = q := ⟨_, rfl⟩
 have hqn : q = n - 11 := by rw [← hq, List.length_drop, hn]
 obtain ⟨kd, hkd⟩ : ∃ k, at1 b 0 = k := ⟨_, rfl⟩
 obtain ⟨sq, hsq⟩ : ∃ k, at4 b 1 = k := ⟨_, rfl⟩
 obtain ⟨ep, hep⟩ : ∃ k, at4 b 5 = k := ⟨_, rfl⟩
 obtain ⟨ps, hps⟩ : ∃ k, at1 b 9 = k := ⟨_, rfl⟩
 obtain ⟨nm, hnm⟩ : ∃ k, at1 b 10 = k := ⟨_, rfl⟩
 have hu := unrow5_yes h2
 rw [hkd, hsq, hep, hps, hnm] at hu
 have i1 : ((kd : Int) != 1) = true := bne_iff_ne.2 (by omega)
 have i2 : ((kd : Int) == 1) = false := beq_eq_false_iff_ne.2 (by omega)
 rw [← hqn]
 have HU := Lib.hid fun (W : World) (X : Option Addr) (d : Nat) (hW : Below w.heap.size w W) (h : SlV W W.heap.size X (ints [1, 4, 4, 1, 1])) => unrow_ok n 5 5 q A X c d b (b.drop 11) [1, 4, 4, 1, 1] [(kd : Int), (sq : Int), (ep : Int), (ps : Int), (nm : Int)] W hn rfl (by omega) hc hm hl hu rfl (by omega) hq (hA.next hW) h
 have TT := eig_new w (.int .i64 0) (.int .i64 0) (.int .i64 0) (.int .i64 0) (.int .i64 0) (.int .i64 0) (.int .i64 0) (.slice none 0 0) 83
 have B0 := bl w (.cells #[.int .i64 0, .int .i64 0, .int .i64 0, .int .i64 0, .int .i64 0, .int .i64 0, .int .i64 0, .slice none 0 0] 83)
 have lw : w.heap.size < (w.alloc (.cells #[.int .i64 0, .int .i64 0, .int .i64 0, .int .i64 0, .int .i64 0, .int .i64 0, .int .i64 0, .slice none 0 0] 83)).heap.size := by simp
 clear hn hA hc hm hl h2 hu hq hqn h0
 go_enter Tryz.func92, Tryz.ntmps92
 go_upto_region 1 with fail
 generalize w.alloc (.cells #[.int .i64 0, .int .i64 0, .int .i64 0, .int .i64 0, .int .i64 0, .int .i64 0, .int .i64 0, .slice none 0 0] 83) = w0 at *
 have ls : (w0.alloc (.cells #[.int .i64 1, .int .i64 4, .int .i64 4, .int .i64 1, .int .i64 1] 3)).heap.size = w0.heap.size + 1 := by simp
 go_upto_region 4 with (first
  | (go_at_call 109; (with_reducible refine (hsizes_c _).mono ?_); rintro e w1 ⟨rfl, rfl⟩)
  | (go_at_call 108; (with_reducible refine (HU.out _ _ _ (kal B0 _) (hsz_slv _)).mono ?_); rintro e w3 ⟨⟨g, c3, X3, d3, rfl, ⟨k1, k2⟩, ⟨l1, l2⟩, s3, ⟨k3, k4⟩, o3⟩, hb3⟩))
 have B3 := bt (kal B0 _) hb3
 have lb := hb3.size
 have T3 := TT.keep (bt (bl _ _) hb3) lw
 rw [ls] at o3 lb
 obtain ⟨b', off', he, hb', hcs⟩ := s3 (by simp [ints_length])
 cases he
 have e0 := hcs 0 (by simp [ints_length])
 have e1 := hcs 1 (by simp [ints_length])
 have e2 := hcs 2 (by simp [ints_length])
 have e3 := hcs 3 (by simp [ints_length])
 have e4 := hcs 4 (by simp [ints_length])
 rw [ints_get] at e0 e1 e2 e3 e4
 simp only [List.getElem_cons_zero, List.getElem_cons_succ, Nat.zero_add] at e0 e1 e2 e3 e4
 have lw3 : w.heap.size < w3.heap.size := by omega
 replace o3 := o3.less (show w.heap.size + 1 ≤ w0.heap.size + 1 by omega)
 clear TT hb3 hcs hb' s3 HU l1 l2
 refine wp_region_tail (S := fun W => (W.cell? ⟨g, 0, none⟩ = some (.int .i64 kd) ∧ W.cell? ⟨g, 1, none⟩ = some (.int .i64 sq) ∧ W.cell? ⟨g, 2, none⟩ = some (.int .i64 ep) ∧ W.cell? ⟨g, 3, none⟩ = some (.int .i64 ps) ∧ W.cell? ⟨g, 4, none⟩ = some (.int .i64 nm)) ∧ Below w3.heap.size w3 W) 16 rfl (by kernel_rfl) (by kernel_rfl) ⟨⟨e0, e1, e2, e3, e4⟩, below_dr (Below.refl _ _)⟩ (fun hS => ?_)
 simp only [List.take_succ_cons, List.take_zero]
 (refine wpAnyH_take (i := 0) (v := ?_) rfl (by kernel_rfl) (by kernel_rfl) (by kernel_rfl) (fun _ _ _ h => h) (Or.inl ⟨by rfl, ?_⟩) (by assumption) ?_; rotate_left; (focus (intro w hSw; (try dsimp only at hSw); go_split_ands; go_simp <;> with_reducible rfl)); simp only [List.getElem_toArray, List.getElem_cons_zero, Act.put, List.setIfInBounds_toArray, List.set_cons_zero, List.set_cons_succ])
 (refine wpAnyH_take (i := 1) (v := ?_) rfl (by kernel_rfl) (by kernel_rfl) (by kernel_rfl) (fun _ _ _ h => h) (Or.inl ⟨by rfl, ?_⟩) (by assumption) ?_; rotate_left; (focus (intro w hSw; (try dsimp only at hSw); go_split_ands; go_simp <;> with_reducible rfl)); simp only [List.getElem_toArray, List.getElem_cons_zero, List.getElem_cons_succ, Act.put, List.setIfInBounds_toArray, List.set_cons_zero, List.set_cons_succ])
 (refine wpAnyH_take (i := 2) (v := ?_) rfl (by kernel_rfl) (by kernel_rfl) (by kernel_rfl) (fun _ _ _ h => h) (Or.inl ⟨by rfl, ?_⟩) (by assumption) ?_; rotate_left; (focus (intro w hSw; (try dsimp only at hSw); go_split_ands; go_simp <;> with_reducible rfl)); simp only [List.getElem_toArray, List.getElem_cons_zero, List.getElem_cons_succ, Act.put, List.setIfInBounds_toArray, List.set_cons_zero, List.set_cons_succ])
 (refine wpAnyH_take (i := 3) (v := ?_) rfl (by kernel_rfl) (by kernel_rfl) (by kernel_rfl) (fun _ _ _ h => h) (Or.inl ⟨by rfl, ?_⟩) (by assumption) ?_; rotate_left; (focus (intro w hSw; (try dsimp only at hSw); go_split_ands; go_simp <;> with_reducible rfl)); simp only [List.getElem_toArray, List.getElem_cons_zero, List.getElem_cons_succ, Act.put, List.setIfInBounds_toArray, List.set_cons_zero, List.set_cons_succ])
 (refine wpAnyH_take (i := 4) (v := ?_) rfl (by kernel_rfl) (by kernel_rfl) (by kernel_rfl) (fun _ _ _ h => h) (Or.inl ⟨by rfl, ?_⟩) (by assumption) ?_; rotate_left; (focus (intro w hSw; (try dsimp only at hSw); go_split_ands; go_simp <;> with_reducible rfl)); simp only [List.getElem_toArray, List.getElem_cons_zero, List.getElem_cons_succ, Act.put, List.setIfInBounds_toArray, List.set_cons_zero, List.set_cons_succ])
 (refine wpAnyH_take (i := 5) (v := ?_) rfl (by kernel_rfl) (by kernel_rfl) (by kernel_rfl) (fun _ _ _ h => h) (Or.inl ⟨by rfl, ?_⟩) (by assumption) ?_; rotate_left; (focus (intro w hSw; (try dsimp only at hSw); go_split_ands; go_simp <;> with_reducible rfl)); simp only [List.getElem_toArray, List.getElem_cons_zero, List.getElem_cons_succ, Act.put, List.setIfInBounds_toArray, List.set_cons_zero, List.set_cons_succ])
 (refine wpAnyH_take (i := 6) (v := ?_) rfl (by kernel_rfl) (by kernel_rfl) (by kernel_rfl) (fun _ _ _ h => h) (Or.inl ⟨by rfl, ?_⟩) (by assumption) ?_; rotate_left; (focus (intro w hSw; (try dsimp only at hSw); go_split_ands; go_simp <;> with_reducible rfl)); simp only [List.getElem_toArray, List.getElem_cons_zero, List.getElem_cons_succ, Act.put, List.setIfInBounds_toArray, List.set_cons_zero, List.set_cons_succ])
 (refine wpAnyH_take (i := 7) (v := ?_) rfl (by kernel_rfl) (by kernel_rfl) (by kernel_rfl) (fun _ _ _ h => h) (Or.inl ⟨by rfl, ?_⟩) (by assumption) ?_; rotate_left; (focus (intro w hSw; (try dsimp only at hSw); go_split_ands; go_simp <;> with_reducible rfl)); simp only [List.getElem_toArray, List.getElem_cons_zero, List.getElem_cons_succ, Act.put, List.setIfInBounds_toArray, List.set_cons_zero, List.set_cons_succ])
 (refine wpAnyH_take (i := 8) (v := ?_) rfl (by kernel_rfl) (by kernel_rfl) (by kernel_rfl) (fun _ _ _ h => h) (Or.inl ⟨by rfl, ?_⟩) (by assumption) ?_; rotate_left; (focus (intro w hSw; (try dsimp only at hSw); go_split_ands; go_simp <;> with_reducible rfl)); simp only [List.getElem_toArray, List.getElem_cons_zero, List.getElem_cons_succ, Act.put, List.setIfInBounds_toArray, List.set_cons_zero, List.set_cons_succ])
 (refine wpAnyH_take (i := 9) (v := ?_) rfl (by kernel_rfl) (by kernel_rfl) (by kernel_rfl) (fun _ _ _ h => h) (Or.inl ⟨by rfl, ?_⟩) (by assumption) ?_; rotate_left; (focus (intro w hSw; (try dsimp only at hSw); go_split_ands; go_simp <;> with_reducible rfl)); simp only [List.getElem_toArray, List.getElem_cons_zero, List.getElem_cons_succ, Act.put, List.setIfInBounds_toArray, List.set_cons_zero, List.set_cons_succ])
 (refine wpAnyH_take (i := 10) (v := ?_) rfl (by kernel_rfl) (by kernel_rfl) (by kernel_rfl) (fun _ _ _ h => h) (Or.inl ⟨by rfl, ?_⟩) (by assumption) ?_; rotate_left; (focus (intro w hSw; (try dsimp only at hSw); go_split_ands; go_simp <;> with_reducible rfl)); simp only [List.getElem_toArray, List.getElem_cons_zero, List.getElem_cons_succ, Act.put, List.setIfInBounds_toArray, List.set_cons_zero, List.set_cons_succ])
 (refine wpAnyH_take (i := 11) (v := ?_) rfl (by kernel_rfl) (by kernel_rfl) (by kernel_rfl) (fun _ _ _ h => h) (Or.inl ⟨by rfl, ?_⟩) (by assumption) ?_; rotate_left; (focus (intro w hSw; (try dsimp only at hSw); go_split_ands; go_simp <;> with_reducible rfl)); simp only [List.getElem_toArray, List.getElem_cons_zero, List.getElem_cons_succ, Act.put, List.setIfInBounds_toArray, List.set_cons_zero, List.set_cons_succ])
 (refine wpAnyH_take (i := 12) (v := ?_) rfl (by kernel_rfl) (by kernel_rfl) (by kernel_rfl) (fun _ _ _ h => h) (Or.inl ⟨by rfl, ?_⟩) (by assumption) ?_; rotate_left; (focus (intro w hSw; (try dsimp only at hSw); go_split_ands; go_simp <;> with_reducible rfl)); simp only [List.getElem_toArray, List.getElem_cons_zero, List.getElem_cons_succ, Act.put, List.setIfInBounds_toArray, List.set_cons_zero, List.set_cons_succ])
 (refine wpAnyH_take (i := 13) (v := ?_) rfl (by kernel_rfl) (by kernel_rfl) (by kernel_rfl) (fun _ _ _ h => h) (Or.inl ⟨by rfl, ?_⟩) (by assumption) ?_; rotate_left; (focus (intro w hSw; (try dsimp only at hSw); go_split_ands; go_simp <;> with_reducible rfl)); simp only [List.getElem_toArray, List.getElem_cons_zero, List.getElem_cons_succ, Act.put, List.setIfInBounds_toArray, List.set_cons_zero, List.set_cons_succ])
 (refine wpAnyH_take (i := 14) (v := ?_) rfl (by kernel_rfl) (by kernel_rfl) (by kernel_rfl) (fun _ _ _ h => h) (Or.inl ⟨by rfl, ?_⟩) (by assumption) ?_; rotate_left; (focus (intro w hSw; (try dsimp only at hSw); go_split_ands; go_simp <;> with_reducible rfl)); simp only [List.getElem_toArray, List.getElem_cons_zero, List.getElem_cons_succ, Act.put, List.setIfInBounds_toArray, List.set_cons_zero, List.set_cons_succ])
 (refine wpAnyH_take (i := 15) (v := ?_) rfl (by kernel_rfl) (by kernel_rfl) (by kernel_rfl) (fun _ _ _ h => h) (Or.inl ⟨by rfl, ?_⟩) (by assumption) ?_; rotate_left; (focus (intro w hSw; (try dsimp only at hSw); go_split_ands; go_simp <;> with_reducible rfl)); simp only [List.getElem_toArray, List.getElem_cons_zero, List.getElem_cons_succ, Act.put, List.setIfInBounds_toArray, List.set_cons_zero, List.set_cons_succ])
 refine wpAnyH_done (by kernel_rfl) ?_ _
 obtain ⟨t0, t1, t2, t3, t4, t5, t6, t7, f0, f1, f2, f3, f4, f5, f6, f7⟩ := id T3
 simp only [tailQ]
 go_simp
 have T4 := (T3.all (.int .i64 kd) (.int .i64 sq) (.int .i64 ep) (.int .i64 ps) (.int .i64 nm) (.int .i64 0) (.int .i64 0) (.slice none 0 0)).keep (below_dr (Below.refl (w.heap.size + 1) _)) (Nat.lt_succ_self _)
 have o4 := (own_all o3 (Nat.lt_succ_self _) (.int .i64 kd) (.int .i64 sq) (.int .i64 ep) (.int .i64 ps) (.int .i64 nm) (.int .i64 0) (.int .i64 0) (.slice none 0 0)).drew
 have B4 := below_dr (below_all B3 (Nat.le_refl w.heap.size) (.int .i64 kd) (.int .i64 sq) (.int .i64 ep) (.int .i64 ps) (.int .i64 nm) (.int .i64 0) (.int .i64 0) (.slice none 0 0))
 have l4 : w.heap.size < (((((((((w3.setCell ⟨w.heap.size, 0, none⟩ (.int .i64 kd)).setCell ⟨w.heap.size, 1, none⟩ (.int .i64 sq)).setCell ⟨w.heap.size, 2, none⟩ (.int .i64 ep)).setCell ⟨w.heap.size, 3, none⟩ (.int .i64 ps)).setCell ⟨w.heap.size, 4, none⟩ (.int .i64 nm)).setCell ⟨w.heap.size, 5, none⟩ (.int .i64 0)).setCell ⟨w.heap.size, 6, none⟩ (.int .i64 0)).setCell ⟨w.heap.size, 7, none⟩ (.slice none 0 0)).drew).heap.size := by simpa using lw3
 clear t0 t1 t2 t3 t4 t5 t6 t7 f0 f1 f2 f3 f4 f5 f6 f7 T3 o3 B3 e0 e1 e2 e3 e4 lw3
 generalize ((((((((w3.setCell ⟨w.heap.size, 0, none⟩ (.int .i64 kd)).setCell ⟨w.heap.size, 1, none⟩ (.int .i64 sq)).setCell ⟨w.heap.size, 2, none⟩ (.int .i64 ep)).setCell ⟨w.heap.size, 3, none⟩ (.int .i64 ps)).setCell ⟨w.heap.size, 4, none⟩ (.int .i64 nm)).setCell ⟨w.heap.size, 5, none⟩ (.int .i64 0)).setCell ⟨w.heap.size, 6, none⟩ (.int .i64 0)).setCell ⟨w.heap.size, 7, none⟩ (.slice none 0 0)).drew = w4 at *
 obtain ⟨t0, t1, t2, t3, t4, t5, t6, t7, f0, f1, f2, f3, f4, f5, f6, f7⟩ := id T4
 have HV := Lib.hid (And.intro hkd (And.intro hsq (And.intro hep (And.intro hps hnm))))
 clear hkd hsq hep hps hnm
 go_wp2_with fail
 have k9 := T4.all (.int .i64 kd) (.int .i64 sq) (.int .i64 ep) (.int .i64 ps) (.int .i64 nm) (.int .i64 0) (.int .i64 0) (.slice none 0 0)
 exact bodyPost_ret (v := .tuple #[.agg #[.int .i64 kd, .int .i64 sq, .int .i64 ep, .int .i64 ps, .int .i64 nm, .int .i64 0, .int .i64 0, .slice none 0 0], .slice X3 q d3, .int .i64 0]) (by simp [results, Tryz.results92, go_sem, k9.c0, k9.c1, k9.c2, k9.c3, k9.c4, k9.c5, k9.c6, k9.c7]) rfl ⟨⟨X3, d3, by rw [HV.out.1, HV.out.2.1, HV.out.2.2.1, HV.out.2.2.2.1, HV.out.2.2.2.2]⟩, below_all B4 (Nat.le_refl _) _ _ _ _ _ _ _ _⟩
theorem parse_bad (A : Option Addr) (c n : Nat) (b : List UInt8) (w : World) (hn : b.length = n) (hA : Sl w w.heap.size A b) (hc : n ≤ c) (hm : c ≤ maxLen) (hl : n ≤ 4294967296) (h2 : ¬ b.length < 11) (h0 : at1 b 0 = 1) (h3 : n < 14 + at1 b 13) :
  Calls Tryz.prog 92 #[.slice A n c] w fun e w' => e = .returned (.tuple #[.agg #[.int .i64 0, .int .i64 0, .int .i64 0, .int .i64 0, .int .i64 0, .int .i64 0, .int .i64 0, .slice none 0 0], .slice none 0 0, .int .i64 4]) ∧ Below w.heap.size w w' := by
 obtain ⟨q, hq⟩ : ∃ q, (b.drop 11).length = q := ⟨_, rfl⟩
 have hqn : q = n - 11 := by rw [← hq, List.length_drop, hn]
 obtain ⟨kd, hkd⟩ : ∃ k, at1 b 0 = k := ⟨_, rfl⟩
 obtain ⟨sq, hsq⟩ : ∃ k, at4 b 1 = k := ⟨_, rfl⟩
 obtain ⟨ep, hep⟩ : ∃ k, at4 b 5 = k := ⟨_, rfl⟩
 obtain ⟨ps, hps⟩ : ∃ k, at1 b 9 = k := ⟨_, rfl⟩
 obtain ⟨nm, hnm⟩ : ∃ k, at1 b 10 = k := ⟨_, rfl⟩
 have hu := unrow5_yes h2
 rw [hkd, hsq, hep, hps, hnm] at hu
 have HI := Lib.hid (show ∀ (W : World) (X : Option Addr) (d base : Nat), Own W base 5 (.slice X q d) (b.drop 11) → q ≤ d → d ≤ maxLen → Calls Tryz.prog 110 #[.slice X q d] W fun e w' => e = .returned (.tuple #[.agg #[.int .i64 0, .int .i64 0, .slice none 0 0], .slice none 0 0, .int .i64 4]) ∧ Below W.heap.size W w' from fun W X d base h h5 h6 => by
  by_cases h7 : (b.drop 11).length < 2
  ·exact pimg_short X d q (b.drop 11) W hq (own_sl h) h5 h6 (by omega) h7
  ·exact pimg_no X d q (at1 b 13) (b.drop 11) W hq (own_sl h) h5 h6 (by omega) h7 (at1_drop b 11 2) (by omega))
 have HU := Lib.hid fun (W : World) (X : Option Addr) (d : Nat) (hW : Below w.heap.size w W) (h : SlV W W.heap.size X (ints [1, 4, 4, 1, 1])) => unrow_ok n 5 5 q A X c d b (b.drop 11) [1, 4, 4, 1, 1] [(kd : Int), (sq : Int), (ep : Int), (ps : Int), (nm : Int)] W hn rfl (by omega) hc hm hl hu rfl (by omega) hq (hA.next hW) h
 have TT := eig_new w (.int .i64 0) (.int .i64 0) (.int .i64 0) (.int .i64 0) (.int .i64 0) (.int .i64 0) (.int .i64 0) (.slice none 0 0) 83
 have B0 := bl w (.cells #[.int .i64 0, .int .i64 0, .int .i64 0, .int .i64 0, .int .i64 0, .int .i64 0, .int .i64 0, .slice none 0 0] 83)
 have lw : w.heap.size < (w.alloc (.cells #[.int .i64 0, .int .i64 0, .int .i64 0, .int .i64 0, .int .i64 0, .int .i64 0, .int .i64 0, .slice none 0 0] 83)).heap.size := by simp
 clear hn hA hc hm hl h2 hu hq hqn h3
 go_enter Tryz.func92, Tryz.ntmps92
 go_upto_region 1 with fail
 generalize w.alloc (.cells #[.int .i64 0, .int .i64 0, .int .i64 0, .int .i64 0, .int .i64 0, .int .i64 0, .int .i64 0, .slice none 0 0] 83) = w0 at *
 have ls : (w0.alloc (.cells #[.int .i64 1, .int .i64 4, .int .i64 4, .int .i64 1, .int .i64 1] 3)).heap.size = w0.heap.size + 1 := by simp
 go_upto_region 4 with (first
  | (go_at_call 109; (with_reducible refine (hsizes_c _).mono ?_); rintro e w1 ⟨rfl, rfl⟩)
  | (go_at_call 108; (with_reducible refine (HU.out _ _ _ (kal B0 _) (hsz_slv _)).mono ?_); rintro e w3 ⟨⟨g, c3, X3, d3, rfl, ⟨k1, k2⟩, ⟨l1, l2⟩, s3, ⟨k3, k4⟩, o3⟩, hb3⟩))
 have B3 := bt (kal B0 _) hb3
 have lb := hb3.size
 have T3 := TT.keep (bt (bl _ _) hb3) lw
 rw [ls] at o3 lb
 obtain ⟨b', off', he, hb', hcs⟩ := s3 (by simp [ints_length])
 cases he
 have e0 := hcs 0 (by simp [ints_length])
 have e1 := hcs 1 (by simp [ints_length])
 have e2 := hcs 2 (by simp [ints_length])
 have e3 := hcs 3 (by simp [ints_length])
 have e4 := hcs 4 (by simp [ints_length])
 rw [ints_get] at e0 e1 e2 e3 e4
 simp only [List.getElem_cons_zero, List.getElem_cons_succ, Nat.zero_add] at e0 e1 e2 e3 e4
 have lw3 : w.heap.size < w3.heap.size := by omega
 replace o3 := o3.less (show w.heap.size + 1 ≤ w0.heap.size + 1 by omega)
 clear TT hb3 hcs hb' s3 HU l1 l2
 refine wp_region_tail (S := fun W => (W.cell? ⟨g, 0, none⟩ = some (.int .i64 kd) ∧ W.cell? ⟨g, 1, none⟩ = some (.int .i64 sq) ∧ W.cell? ⟨g, 2, none⟩ = some (.int .i64 ep) ∧ W.cell? ⟨g, 3, none⟩ = some (.int .i64 ps) ∧ W.cell? ⟨g, 4, none⟩ = some (.int .i64 nm)) ∧ Below w3.heap.size w3 W) 16 rfl (by kernel_rfl) (by kernel_rfl) ⟨⟨e0, e1, e2, e3, e4⟩, below_dr (Below.refl _ _)⟩ (fun hS => ?_)
 simp only [List.take_succ_cons, List.take_zero]
 (refine wpAnyH_take (i := 0) (v := ?_) rfl (by kernel_rfl) (by kernel_rfl) (by kernel_rfl) (fun _ _ _ h => h) (Or.inl ⟨by rfl, ?_⟩) (by assumption) ?_; rotate_left; (focus (intro w hSw; (try dsimp only at hSw); go_split_ands; go_simp <;> with_reducible rfl)); simp only [List.getElem_toArray, List.getElem_cons_zero, Act.put, List.setIfInBounds_toArray, List.set_cons_zero, List.set_cons_succ])
 (refine wpAnyH_take (i := 1) (v := ?_) rfl (by kernel_rfl) (by kernel_rfl) (by kernel_rfl) (fun _ _ _ h => h) (Or.inl ⟨by rfl, ?_⟩) (by assumption) ?_; rotate_left; (focus (intro w hSw; (try dsimp only at hSw); go_split_ands; go_simp <;> with_reducible rfl)); simp only [List.getElem_toArray, List.getElem_cons_zero, List.getElem_cons_succ, Act.put, List.setIfInBounds_toArray, List.set_cons_zero, List.set_cons_succ])
 (refine wpAnyH_take (i := 2) (v := ?_) rfl (by kernel_rfl) (by kernel_rfl) (by kernel_rfl) (fun _ _ _ h => h) (Or.inl ⟨by rfl, ?_⟩) (by assumption) ?_; rotate_left; (focus (intro w hSw; (try dsimp only at hSw); go_split_ands; go_simp <;> with_reducible rfl)); simp only [List.getElem_toArray, List.getElem_cons_zero, List.getElem_cons_succ, Act.put, List.setIfInBounds_toArray, List.set_cons_zero, List.set_cons_succ])
 (refine wpAnyH_take (i := 3) (v := ?_) rfl (by kernel_rfl) (by kernel_rfl) (by kernel_rfl) (fun _ _ _ h => h) (Or.inl ⟨by rfl, ?_⟩) (by assumption) ?_; rotate_left; (focus (intro w hSw; (try dsimp only at hSw); go_split_ands; go_simp <;> with_reducible rfl)); simp only [List.getElem_toArray, List.getElem_cons_zero, List.getElem_cons_succ, Act.put, List.setIfInBounds_toArray, List.set_cons_zero, List.set_cons_succ])
 (refine wpAnyH_take (i := 4) (v := ?_) rfl (by kernel_rfl) (by kernel_rfl) (by kernel_rfl) (fun _ _ _ h => h) (Or.inl ⟨by rfl, ?_⟩) (by assumption) ?_; rotate_left; (focus (intro w hSw; (try dsimp only at hSw); go_split_ands; go_simp <;> with_reducible rfl)); simp only [List.getElem_toArray, List.getElem_cons_zero, List.getElem_cons_succ, Act.put, List.setIfInBounds_toArray, List.set_cons_zero, List.set_cons_succ])
 (refine wpAnyH_take (i := 5) (v := ?_) rfl (by kernel_rfl) (by kernel_rfl) (by kernel_rfl) (fun _ _ _ h => h) (Or.inl ⟨by rfl, ?_⟩) (by assumption) ?_; rotate_left; (focus (intro w hSw; (try dsimp only at hSw); go_split_ands; go_simp <;> with_reducible rfl)); simp only [List.getElem_toArray, List.getElem_cons_zero, List.getElem_cons_succ, Act.put, List.setIfInBounds_toArray, List.set_cons_zero, List.set_cons_succ])
 (refine wpAnyH_take (i := 6) (v := ?_) rfl (by kernel_rfl) (by kernel_rfl) (by kernel_rfl) (fun _ _ _ h => h) (Or.inl ⟨by rfl, ?_⟩) (by assumption) ?_; rotate_left; (focus (intro w hSw; (try dsimp only at hSw); go_split_ands; go_simp <;> with_reducible rfl)); simp only [List.getElem_toArray, List.getElem_cons_zero, List.getElem_cons_succ, Act.put, List.setIfInBounds_toArray, List.set_cons_zero, List.set_cons_succ])
 (refine wpAnyH_take (i := 7) (v := ?_) rfl (by kernel_rfl) (by kernel_rfl) (by kernel_rfl) (fun _ _ _ h => h) (Or.inl ⟨by rfl, ?_⟩) (by assumption) ?_; rotate_left; (focus (intro w hSw; (try dsimp only at hSw); go_split_ands; go_simp <;> with_reducible rfl)); simp only [List.getElem_toArray, List.getElem_cons_zero, List.getElem_cons_succ, Act.put, List.setIfInBounds_toArray, List.set_cons_zero, List.set_cons_succ])
 (refine wpAnyH_take (i := 8) (v := ?_) rfl (by kernel_rfl) (by kernel_rfl) (by kernel_rfl) (fun _ _ _ h => h) (Or.inl ⟨by rfl, ?_⟩) (by assumption) ?_; rotate_left; (focus (intro w hSw; (try dsimp only at hSw); go_split_ands; go_simp <;> with_reducible rfl)); simp only [List.getElem_toArray, List.getElem_cons_zero, List.getElem_cons_succ, Act.put, List.setIfInBounds_toArray, List.set_cons_zero, List.set_cons_succ])
 (refine wpAnyH_take (i := 9) (v := ?_) rfl (by kernel_rfl) (by kernel_rfl) (by kernel_rfl) (fun _ _ _ h => h) (Or.inl ⟨by rfl, ?_⟩) (by assumption) ?_; rotate_left; (focus (intro w hSw; (try dsimp only at hSw); go_split_ands; go_simp <;> with_reducible rfl)); simp only [List.getElem_toArray, List.getElem_cons_zero, List.getElem_cons_succ, Act.put, List.setIfInBounds_toArray, List.set_cons_zero, List.set_cons_succ])
 (refine wpAnyH_take (i := 10) (v := ?_) rfl (by kernel_rfl) (by kernel_rfl) (by kernel_rfl) (fun _ _ _ h => h) (Or.inl ⟨by rfl, ?_⟩) (by assumption) ?_; rotate_left; (focus (intro w hSw; (try dsimp only at hSw); go_split_ands; go_simp <;> with_reducible rfl)); simp only [List.getElem_toArray, List.getElem_cons_zero, List.getElem_cons_succ, Act.put, List.setIfInBounds_toArray, List.set_cons_zero, List.set_cons_succ])
 (refine wpAnyH_take (i := 11) (v := ?_) rfl (by kernel_rfl) (by kernel_rfl) (by kernel_rfl) (fun _ _ _ h => h) (Or.inl ⟨by rfl, ?_⟩) (by assumption) ?_; rotate_left; (focus (intro w hSw; (try dsimp only at hSw); go_split_ands; go_simp <;> with_reducible rfl)); simp only [List.getElem_toArray, List.getElem_cons_zero, List.getElem_cons_succ, Act.put, List.setIfInBounds_toArray, List.set_cons_zero, List.set_cons_succ])
 (refine wpAnyH_take (i := 12) (v := ?_) rfl (by kernel_rfl) (by kernel_rfl) (by kernel_rfl) (fun _ _ _ h => h) (Or.inl ⟨by rfl, ?_⟩) (by assumption) ?_; rotate_left; (focus (intro w hSw; (try dsimp only at hSw); go_split_ands; go_simp <;> with_reducible rfl)); simp only [List.getElem_toArray, List.getElem_cons_zero, List.getElem_cons_succ, Act.put, List.setIfInBounds_toArray, List.set_cons_zero, List.set_cons_succ])
 (refine wpAnyH_take (i := 13) (v := ?_) rfl (by kernel_rfl) (by kernel_rfl) (by kernel_rfl) (fun _ _ _ h => h) (Or.inl ⟨by rfl, ?_⟩) (by assumption) ?_; rotate_left; (focus (intro w hSw; (try dsimp only at hSw); go_split_ands; go_simp <;> with_reducible rfl)); simp only [List.getElem_toArray, List.getElem_cons_zero, List.getElem_cons_succ, Act.put, List.setIfInBounds_toArray, List.set_cons_zero, List.set_cons_succ])
 (refine wpAnyH_take (i := 14) (v := ?_) rfl (by kernel_rfl) (by kernel_rfl) (by kernel_rfl) (fun _ _ _ h => h) (Or.inl ⟨by rfl, ?_⟩) (by assumption) ?_; rotate_left; (focus (intro w hSw; (try dsimp only at hSw); go_split_ands; go_simp <;> with_reducible rfl)); simp only [List.getElem_toArray, List.getElem_cons_zero, List.getElem_cons_succ, Act.put, List.setIfInBounds_toArray, List.set_cons_zero, List.set_cons_succ])
 (refine wpAnyH_take (i := 15) (v := ?_) rfl (by kernel_rfl) (by kernel_rfl) (by kernel_rfl) (fun _ _ _ h => h) (Or.inl ⟨by rfl, ?_⟩) (by assumption) ?_; rotate_left; (focus (intro w hSw; (try dsimp only at hSw); go_split_ands; go_simp <;> with_reducible rfl)); simp only [List.getElem_toArray, List.getElem_cons_zero, List.getElem_cons_succ, Act.put, List.setIfInBounds_toArray, List.set_cons_zero, List.set_cons_succ])
 refine wpAnyH_done (by kernel_rfl) ?_ _
 obtain ⟨t0, t1, t2, t3, t4, t5, t6, t7, f0, f1, f2, f3, f4, f5, f6, f7⟩ := id T3
 simp only [tailQ]
 go_simp
 have T4 := (T3.all (.int .i64 kd) (.int .i64 sq) (.int .i64 ep) (.int .i64 ps) (.int .i64 nm) (.int .i64 0) (.int .i64 0) (.slice none 0 0)).keep (below_dr (Below.refl (w.heap.size + 1) _)) (Nat.lt_succ_self _)
 have o4 := (own_all o3 (Nat.lt_succ_self _) (.int .i64 kd) (.int .i64 sq) (.int .i64 ep) (.int .i64 ps) (.int .i64 nm) (.int .i64 0) (.int .i64 0) (.slice none 0 0)).drew
 have B4 := below_dr (below_all B3 (Nat.le_refl w.heap.size) (.int .i64 kd) (.int .i64 sq) (.int .i64 ep) (.int .i64 ps) (.int .i64 nm) (.int .i64 0) (.int .i64 0) (.slice none 0 0))
 have l4 : w.heap.size < (((((((((w3.setCell ⟨w.heap.size, 0, none⟩ (.int .i64 kd)).setCell ⟨w.heap.size, 1, none⟩ (.int .i64 sq)).setCell ⟨w.heap.size, 2, none⟩ (.int .i64 ep)).setCell ⟨w.heap.size, 3, none⟩ (.int .i64 ps)).setCell ⟨w.heap.size, 4, none⟩ (.int .i64 nm)).setCell ⟨w.heap.size, 5, none⟩ (.int .i64 0)).setCell ⟨w.heap.size, 6, none⟩ (.int .i64 0)).setCell ⟨w.heap.size, 7, none⟩ (.slice none 0 0)).drew).heap.size := by simpa using lw3
 clear t0 t1 t2 t3 t4 t5 t6 t7 f0 f1 f2 f3 f4 f5 f6 f7 T3 o3 B3 e0 e1 e2 e3 e4 lw3
 generalize ((((((((w3.setCell ⟨w.heap.size, 0, none⟩ (.int .i64 kd)).setCell ⟨w.heap.size, 1, none⟩ (.int .i64 sq)).setCell ⟨w.heap.size, 2, none⟩ (.int .i64 ep)).setCell ⟨w.heap.size, 3, none⟩ (.int .i64 ps)).setCell ⟨w.heap.size, 4, none⟩ (.int .i64 nm)).setCell ⟨w.heap.size, 5, none⟩ (.int .i64 0)).setCell ⟨w.heap.size, 6, none⟩ (.int .i64 0)).setCell ⟨w.heap.size, 7, none⟩ (.slice none 0 0)).drew = w4 at *
 obtain ⟨t0, t1, t2, t3, t4, t5, t6, t7, f0, f1, f2, f3, f4, f5, f6, f7⟩ := id T4
 have HV := Lib.hid (And.intro hkd (And.intro hsq (And.intro hep (And.intro hps hnm))))
 have hk1 : kd = 1 := hkd.symm.trans h0
 have i1 : ((kd : Int) != 1) = false := by rw [hk1]; rfl
 have i2 : ((kd : Int) == 1) = true := by rw [hk1]; rfl
 clear hkd hsq hep hps hnm hk1 h0
 go_upto_region 7 with fail
 go_wp2_with (go_at_call 110; (with_reducible refine (HI.out _ _ _ _ o4 k3 k4).mono ?_); rintro e w6 ⟨rfl, hb6⟩; (have T6 := T4.keep hb6 l4); obtain ⟨u0, u1, u2, u3, u4, u5, u6, u7, y0, y1, y2, y3, y4, y5, y6, y7⟩ := id T6)
 have k9 := (((T6.set5 (.int .i64 0)).set6 (.int .i64 0)).set7 (.slice none 0 0)).all (.int .i64 0) (.int .i64 0) (.int .i64 0) (.int .i64 0) (.int .i64 0) (.int .i64 0) (.int .i64 0) (.slice none 0 0)
 exact bodyPost_ret (v := .tuple #[.agg #[.int .i64 0, .int .i64 0, .int .i64 0, .int .i64 0, .int .i64 0, .int .i64 0, .int .i64 0, .slice none 0 0], .slice none 0 0, .int .i64 4]) (by simp [results, Tryz.results92, go_sem, k9.c0, k9.c1, k9.c2, k9.c3, k9.c4, k9.c5, k9.c6, k9.c7]) rfl ⟨rfl, below_all ((((bt B4 hb6).setCell (p := ⟨w.heap.size, 5, none⟩) (Nat.le_refl w.heap.size) _).setCell (p := ⟨w.heap.size, 6, none⟩) (Nat.le_refl w.heap.size) _).setCell (p := ⟨w.heap.size, 7, none⟩) (Nat.le_refl w.heap.size) _) (Nat.le_refl _) _ _ _ _ _ _ _ _⟩
theorem parse_ok1 (A : Option Addr) (c n m k : Nat) (b : List UInt8) (w : World) (hn : b.length = n) (hA : Sl w w.heap.size A b) (hc : n ≤ c) (hm : c ≤ maxLen) (hl : n ≤ 4294967296) (h2 : ¬ b.length < 11) (h0 : at1 b 0 = 1) (hm0 : at1 b 13 = m) (h3 : n = 14 + m + k) :
  Calls Tryz.prog 92 #[.slice A n c] w fun e w' => (∃ X x Y y, e = .returned (.tuple #[.agg #[.int .i64 (at1 b 0), .int .i64 (at4 b 1), .int .i64 (at4 b 5), .int .i64 (at1 b 9), .int .i64 (at1 b 10), .int .i64 (at1 b 11), .int .i64 (whI (at1 b 12)), .slice X m x], .slice Y k y, .int .i64 0]) ∧ Own w' w.heap.size 5 (.slice X m x) ((b.drop 14).take m)) ∧ Below w.heap.size w w' := by
 obtain ⟨q, hq⟩ : ∃ q, (b.drop 11).length = q := ⟨_, rfl⟩
 have hqn : q = n - 11 := by rw [← hq, List.length_drop, hn]
 obtain ⟨kd, hkd⟩ : ∃ k, at1 b 0 = k := ⟨_, rfl⟩
 obtain ⟨sq, hsq⟩ : ∃ k, at4 b 1 = k := ⟨_, rfl⟩
 obtain ⟨ep, hep⟩ : ∃ k, at4 b 5 = k := ⟨_, rfl⟩
 obtain ⟨ps, hps⟩ : ∃ k, at1 b 9 = k := ⟨_, rfl⟩
 obtain ⟨nm, hnm⟩ : ∃ k, at1 b 10 = k := ⟨_, rfl⟩
 have hu := unrow5_yes h2
 rw [hkd, hsq, hep, hps, hnm] at hu
 obtain ⟨yz, hyz⟩ : ∃ k : Int, (at1 b 11 : Nat) = k := ⟨_, rfl⟩
 obtain ⟨wh, hwh⟩ : ∃ k, whI (at1 b 12) = k := ⟨_, rfl⟩
 rw [hyz, hwh]
 have HI := Lib.hid (show ∀ (W : World) (X : Option Addr) (d base : Nat), Own W base 5 (.slice X q d) (b.drop 11) → q ≤ d → d ≤ maxLen → Calls Tryz.prog 110 #[.slice X q d] W fun e w' => (∃ X x Y y, e = .returned (.tuple #[.agg #[.int .i64 yz, .int .i64 wh, .slice X m x], .slice Y k y, .int .i64 0]) ∧ Own w' W.heap.size 5 (.slice X m x) ((b.drop 14).take m)) ∧ Below W.heap.size W w' from fun W X d base h h5 h6 => by
  have h9 := pimg_yes X d q m k (b.drop 11) W hq (own_sl h) h5 h6 (by omega) (by omega) (by rw [at1_drop]; exact hm0) (by omega)
  rw [at1_drop, at1_drop, List.drop_drop, hyz, hwh] at h9
  exact h9)
 have HU := Lib.hid fun (W : World) (X : Option Addr) (d : Nat) (hW : Below w.heap.size w W) (h : SlV W W.heap.size X (ints [1, 4, 4, 1, 1])) => unrow_ok n 5 5 q A X c d b (b.drop 11) [1, 4, 4, 1, 1] [(kd : Int), (sq : Int), (ep : Int), (ps : Int), (nm : Int)] W hn rfl (by omega) hc hm hl hu rfl (by omega) hq (hA.next hW) h
 have TT := eig_new w (.int .i64 0) (.int .i64 0) (.int .i64 0) (.int .i64 0) (.int .i64 0) (.int .i64 0) (.int .i64 0) (.slice none 0 0) 83
 have B0 := bl w (.cells #[.int .i64 0, .int .i64 0, .int .i64 0, .int .i64 0, .int .i64 0, .int .i64 0, .int .i64 0, .slice none 0 0] 83)
 have lw : w.heap.size < (w.alloc (.cells #[.int .i64 0, .int .i64 0, .int .i64 0, .int .i64 0, .int .i64 0, .int .i64 0, .int .i64 0, .slice none 0 0] 83)).heap.size := by simp
 clear hn hA hc hm hl h2 hu hq hqn h3 hm0 hyz hwh
 go_enter Tryz.func92, Tryz.ntmps92
 go_upto_region 1 with fail
 generalize w.alloc (.cells #[.int .i64 0, .int .i64 0, .int .i64 0, .int .i64 0, .int .i64 0, .int .i64 0, .int .i64 0, .slice none 0 0] 83) = w0 at *
 have ls : (w0.alloc (.cells #[.int .i64 1, .int .i64 4, .int .i64 4, .int .i64 1, .int .i64 1] 3)).heap.size = w0.heap.size + 1 := by simp
 go_upto_region 4 with (first
  | (go_at_call 109; (with_reducible refine (hsizes_c _).mono ?_); rintro e w1 ⟨rfl, rfl⟩)
  | (go_at_call 108; (with_reducible refine (HU.out _ _ _ (kal B0 _) (hsz_slv _)).mono ?_); rintro e w3 ⟨⟨g, c3, X3, d3, rfl, ⟨k1, k2⟩, ⟨l1, l2⟩, s3, ⟨k3, k4⟩, o3⟩, hb3⟩))
 have B3 := bt (kal B0 _) hb3
 have lb := hb3.size
 have T3 := TT.keep (bt (bl _ _) hb3) lw
 rw [ls] at o3 lb
 obtain ⟨b', off', he, hb', hcs⟩ := s3 (by simp [ints_length])
 cases he
 have e0 := hcs 0 (by simp [ints_length])
 have e1 := hcs 1 (by simp [ints_length])
 have e2 := hcs 2 (by simp [ints_length])
 have e3 := hcs 3 (by simp [ints_length])
 have e4 := hcs 4 (by simp [ints_length])
 rw [ints_get] at e0 e1 e2 e3 e4
 simp only [List.getElem_cons_zero, List.getElem_cons_succ, Nat.zero_add] at e0 e1 e2 e3 e4
 have lw3 : w.heap.size < w3.heap.size := by omega
 replace o3 := o3.less (show w.heap.size + 1 ≤ w0.heap.size + 1 by omega)
 clear TT hb3 hcs hb' s3 HU l1 l2
 refine wp_region_tail (S := fun W => (W.cell? ⟨g, 0, none⟩ = some (.int .i64 kd) ∧ W.cell? ⟨g, 1, none⟩ = some (.int .i64 sq) ∧ W.cell? ⟨g, 2, none⟩ = some (.int .i64 ep) ∧ W.cell? ⟨g, 3, none⟩ = some (.int .i64 ps) ∧ W.cell? ⟨g, 4, none⟩ = some (.int .i64 nm)) ∧ Below w3.heap.size w3 W) 16 rfl (by kernel_rfl) (by kernel_rfl) ⟨⟨e0, e1, e2, e3, e4⟩, below_dr (Below.refl _ _)⟩ (fun hS => ?_)
 simp only [List.take_succ_cons, List.take_zero]
 (refine wpAnyH_take (i := 0) (v := ?_) rfl (by kernel_rfl) (by kernel_rfl) (by kernel_rfl) (fun _ _ _ h => h) (Or.inl ⟨by rfl, ?_⟩) (by assumption) ?_; rotate_left; (focus (intro w hSw; (try dsimp only at hSw); go_split_ands; go_simp <;> with_reducible rfl)); simp only [List.getElem_toArray, List.getElem_cons_zero, Act.put, List.setIfInBounds_toArray, List.set_cons_zero, List.set_cons_succ])
 (refine wpAnyH_take (i := 1) (v := ?_) rfl (by kernel_rfl) (by kernel_rfl) (by kernel_rfl) (fun _ _ _ h => h) (Or.inl ⟨by rfl, ?_⟩) (by assumption) ?_; rotate_left; (focus (intro w hSw; (try dsimp only at hSw); go_split_ands; go_simp <;> with_reducible rfl)); simp only [List.getElem_toArray, List.getElem_cons_zero, List.getElem_cons_succ, Act.put, List.setIfInBounds_toArray, List.set_cons_zero, List.set_cons_succ])
 (refine wpAnyH_take (i := 2) (v := ?_) rfl (by kernel_rfl) (by kernel_rfl) (by kernel_rfl) (fun _ _ _ h => h) (Or.inl ⟨by rfl, ?_⟩) (by assumption) ?_; rotate_left; (focus (intro w hSw; (try dsimp only at hSw); go_split_ands; go_simp <;> with_reducible rfl)); simp only [List.getElem_toArray, List.getElem_cons_zero, List.getElem_cons_succ, Act.put, List.setIfInBounds_toArray, List.set_cons_zero, List.set_cons_succ])
 (refine wpAnyH_take (i := 3) (v := ?_) rfl (by kernel_rfl) (by kernel_rfl) (by kernel_rfl) (fun _ _ _ h => h) (Or.inl ⟨by rfl, ?_⟩) (by assumption) ?_; rotate_left; (focus (intro w hSw; (try dsimp only at hSw); go_split_ands; go_simp <;> with_reducible rfl)); simp only [List.getElem_toArray, List.getElem_cons_zero, List.getElem_cons_succ, Act.put, List.setIfInBounds_toArray, List.set_cons_zero, List.set_cons_succ])
 (refine wpAnyH_take (i := 4) (v := ?_) rfl (by kernel_rfl) (by kernel_rfl) (by kernel_rfl) (fun _ _ _ h => h) (Or.inl ⟨by rfl, ?_⟩) (by assumption) ?_; rotate_left; (focus (intro w hSw; (try dsimp only at hSw); go_split_ands; go_simp <;> with_reducible rfl)); simp only [List.getElem_toArray, List.getElem_cons_zero, List.getElem_cons_succ, Act.put, List.setIfInBounds_toArray, List.set_cons_zero, List.set_cons_succ])
 (refine wpAnyH_take (i := 5) (v := ?_) rfl (by kernel_rfl) (by kernel_rfl) (by kernel_rfl) (fun _ _ _ h => h) (Or.inl ⟨by rfl, ?_⟩) (by assumption) ?_; rotate_left; (focus (intro w hSw; (try dsimp only at hSw); go_split_ands; go_simp <;> with_reducible rfl)); simp only [List.getElem_toArray, List.getElem_cons_zero, List.getElem_cons_succ, Act.put, List.setIfInBounds_toArray, List.set_cons_zero, List.set_cons_succ])
 (refine wpAnyH_take (i := 6) (v := ?_) rfl (by kernel_rfl) (by kernel_rfl) (by kernel_rfl) (fun _ _ _ h => h) (Or.inl ⟨by rfl, ?_⟩) (by assumption) ?_; rotate_left; (focus (intro w hSw; (try dsimp only at hSw); go_split_ands; go_simp <;> with_reducible rfl)); simp only [List.getElem_toArray, List.getElem_cons_zero, List.getElem_cons_succ, Act.put, List.setIfInBounds_toArray, List.set_cons_zero, List.set_cons_succ])
 (refine wpAnyH_take (i := 7) (v := ?_) rfl (by kernel_rfl) (by kernel_rfl) (by kernel_rfl) (fun _ _ _ h => h) (Or.inl ⟨by rfl, ?_⟩) (by assumption) ?_; rotate_left; (focus (intro w hSw; (try dsimp only at hSw); go_split_ands; go_simp <;> with_reducible rfl)); simp only [List.getElem_toArray, List.getElem_cons_zero, List.getElem_cons_succ, Act.put, List.setIfInBounds_toArray, List.set_cons_zero, List.set_cons_succ])
 (refine wpAnyH_take (i := 8) (v := ?_) rfl (by kernel_rfl) (by kernel_rfl) (by kernel_rfl) (fun _ _ _ h => h) (Or.inl ⟨by rfl, ?_⟩) (by assumption) ?_; rotate_left; (focus (intro w hSw; (try dsimp only at hSw); go_split_ands; go_simp <;> with_reducible rfl)); simp only [List.getElem_toArray, List.getElem_cons_zero, List.getElem_cons_succ, Act.put, List.setIfInBounds_toArray, List.set_cons_zero, List.set_cons_succ])
 (refine wpAnyH_take (i := 9) (v := ?_) rfl (by kernel_rfl) (by kernel_rfl) (by kernel_rfl) (fun _ _ _ h => h) (Or.inl ⟨by rfl, ?_⟩) (by assumption) ?_; rotate_left; (focus (intro w hSw; (try dsimp only at hSw); go_split_ands; go_simp <;> with_reducible rfl)); simp only [List.getElem_toArray, List.getElem_cons_zero, List.getElem_cons_succ, Act.put, List.setIfInBounds_toArray, List.set_cons_zero, List.set_cons_succ])
 (refine wpAnyH_take (i := 10) (v := ?_) rfl (by kernel_rfl) (by kernel_rfl) (by kernel_rfl) (fun _ _ _ h => h) (Or.inl ⟨by rfl, ?_⟩) (by assumption) ?_; rotate_left; (focus (intro w hSw; (try dsimp only at hSw); go_split_ands; go_simp <;> with_reducible rfl)); simp only [List.getElem_toArray, List.getElem_cons_zero, List.getElem_cons_succ, Act.put, List.setIfInBounds_toArray, List.set_cons_zero, List.set_cons_succ])
 (refine wpAnyH_take (i := 11) (v := ?_) rfl (by kernel_rfl) (by kernel_rfl) (by kernel_rfl) (fun _ _ _ h => h) (Or.inl ⟨by rfl, ?_⟩) (by assumption) ?_; rotate_left; (focus (intro w hSw; (try dsimp only at hSw); go_split_ands; go_simp <;> with_reducible rfl)); simp only [List.getElem_toArray, List.getElem_cons_zero, List.getElem_cons_succ, Act.put, List.setIfInBounds_toArray, List.set_cons_zero, List.set_cons_succ])
 (refine wpAnyH_take (i := 12) (v := ?_) rfl (by kernel_rfl) (by kernel_rfl) (by kernel_rfl) (fun _ _ _ h => h) (Or.inl ⟨by rfl, ?_⟩) (by assumption) ?_; rotate_left; (focus (intro w hSw; (try dsimp only at hSw); go_split_ands; go_simp <;> with_reducible rfl)); simp only [List.getElem_toArray, List.getElem_cons_zero, List.getElem_cons_succ, Act.put, List.setIfInBounds_toArray, List.set_cons_zero, List.set_cons_succ])
 (refine wpAnyH_take (i := 13) (v := ?_) rfl (by kernel_rfl) (by kernel_rfl) (by kernel_rfl) (fun _ _ _ h => h) (Or.inl ⟨by rfl, ?_⟩) (by assumption) ?_; rotate_left; (focus (intro w hSw; (try dsimp only at hSw); go_split_ands; go_simp <;> with_reducible rfl)); simp only [List.getElem_toArray, List.getElem_cons_zero, List.getElem_cons_succ, Act.put, List.setIfInBounds_toArray, List.set_cons_zero, List.set_cons_succ])
 (refine wpAnyH_take (i := 14) (v := ?_) rfl (by kernel_rfl) (by kernel_rfl) (by kernel_rfl) (fun _ _ _ h => h) (Or.inl ⟨by rfl, ?_⟩) (by assumption) ?_; rotate_left; (focus (intro w hSw; (try dsimp only at hSw); go_split_ands; go_simp <;> with_reducible rfl)); simp only [List.getElem_toArray, List.getElem_cons_zero, List.getElem_cons_succ, Act.put, List.setIfInBounds_toArray, List.set_cons_zero, List.set_cons_succ])
 (refine wpAnyH_take (i := 15) (v := ?_) rfl (by kernel_rfl) (by kernel_rfl) (by kernel_rfl) (fun _ _ _ h => h) (Or.inl ⟨by rfl, ?_⟩) (by assumption) ?_; rotate_left; (focus (intro w hSw; (try dsimp only at hSw); go_split_ands; go_simp <;> with_reducible rfl)); simp only [List.getElem_toArray, List.getElem_cons_zero, List.getElem_cons_succ, Act.put, List.setIfInBounds_toArray, List.set_cons_zero, List.set_cons_succ])
 refine wpAnyH_done (by kernel_rfl) ?_ _
 obtain ⟨t0, t1, t2, t3, t4, t5, t6, t7, f0, f1, f2, f3, f4, f5, f6, f7⟩ := id T3
 simp only [tailQ]
 go_simp
 have T4 := (T3.all (.int .i64 kd) (.int .i64 sq) (.int .i64 ep) (.int .i64 ps) (.int .i64 nm) (.int .i64 0) (.int .i64 0) (.slice none 0 0)).keep (below_dr (Below.refl (w.heap.size + 1) _)) (Nat.lt_succ_self _)
 have o4 := (own_all o3 (Nat.lt_succ_self _) (.int .i64 kd) (.int .i64 sq) (.int .i64 ep) (.int .i64 ps) (.int .i64 nm) (.int .i64 0) (.int .i64 0) (.slice none 0 0)).drew
 have B4 := below_dr (below_all B3 (Nat.le_refl w.heap.size) (.int .i64 kd) (.int .i64 sq) (.int .i64 ep) (.int .i64 ps) (.int .i64 nm) (.int .i64 0) (.int .i64 0) (.slice none 0 0))
 have l4 : w.heap.size < (((((((((w3.setCell ⟨w.heap.size, 0, none⟩ (.int .i64 kd)).setCell ⟨w.heap.size, 1, none⟩ (.int .i64 sq)).setCell ⟨w.heap.size, 2, none⟩ (.int .i64 ep)).setCell ⟨w.heap.size, 3, none⟩ (.int .i64 ps)).setCell ⟨w.heap.size, 4, none⟩ (.int .i64 nm)).setCell ⟨w.heap.size, 5, none⟩ (.int .i64 0)).setCell ⟨w.heap.size, 6, none⟩ (.int .i64 0)).setCell ⟨w.heap.size, 7, none⟩ (.slice none 0 0)).drew).heap.size := by simpa using lw3
 clear t0 t1 t2 t3 t4 t5 t6 t7 f0 f1 f2 f3 f4 f5 f6 f7 T3 o3 B3 e0 e1 e2 e3 e4 lw3
 generalize ((((((((w3.setCell ⟨w.heap.size, 0, none⟩ (.int .i64 kd)).setCell ⟨w.heap.size, 1, none⟩ (.int .i64 sq)).setCell ⟨w.heap.size, 2, none⟩ (.int .i64 ep)).setCell ⟨w.heap.size, 3, none⟩ (.int .i64 ps)).setCell ⟨w.heap.size, 4, none⟩ (.int .i64 nm)).setCell ⟨w.heap.size, 5, none⟩ (.int .i64 0)).setCell ⟨w.heap.size, 6, none⟩ (.int .i64 0)).setCell ⟨w.heap.size, 7, none⟩ (.slice none 0 0)).drew = w4 at *
 obtain ⟨t0, t1, t2, t3, t4, t5, t6, t7, f0, f1, f2, f3, f4, f5, f6, f7⟩ := id T4
 have HV := Lib.hid (And.intro hkd (And.intro hsq (And.intro hep (And.intro hps hnm))))
 have hk1 : kd = 1 := hkd.symm.trans h0
 have i1 : ((kd : Int) != 1) = false := by rw [hk1]; rfl
 have i2 : ((kd : Int) == 1) = true := by rw [hk1]; rfl
 clear hkd hsq hep hps hnm hk1 h0
 go_upto_region 7 with fail
 go_wp2_with (go_at_call 110; (with_reducible refine (HI.out _ _ _ _ o4 k3 k4).mono ?_); rintro e w6 ⟨⟨X6, x6, Y6, yc6, rfl, o6⟩, hb6⟩; (have T6 := T4.keep hb6 l4); obtain ⟨u0, u1, u2, u3, u4, u5, u6, u7, y0, y1, y2, y3, y4, y5, y6, y7⟩ := id T6)
 have k9 := (((T6.set5 (.int .i64 yz)).set6 (.int .i64 wh)).set7 (.slice X6 m x6)).all (.int .i64 kd) (.int .i64 sq) (.int .i64 ep) (.int .i64 ps) (.int .i64 nm) (.int .i64 yz) (.int .i64 wh) (.slice X6 m x6)
 have o7 := own_all (own_st (o := 7) (own_st (o := 6) (own_st (o := 5) (o6.less (show w.heap.size + 1 ≤ _ from l4)) (Nat.lt_succ_self _) (.int .i64 yz)) (Nat.lt_succ_self _) (.int .i64 wh)) (Nat.lt_succ_self _) (.slice X6 m x6)) (Nat.lt_succ_self _) (.int .i64 kd) (.int .i64 sq) (.int .i64 ep) (.int .i64 ps) (.int .i64 nm) (.int .i64 yz) (.int .i64 wh) (.slice X6 m x6)
 exact bodyPost_ret (v := .tuple #[.agg #[.int .i64 kd, .int .i64 sq, .int .i64 ep, .int .i64 ps, .int .i64 nm, .int .i64 yz, .int .i64 wh, .slice X6 m x6], .slice Y6 k yc6, .int .i64 0]) (by simp [results, Tryz.results92, go_sem, k9.c0, k9.c1, k9.c2, k9.c3, k9.c4, k9.c5, k9.c6, k9.c7]) rfl ⟨⟨X6, x6, Y6, yc6, by rw [HV.out.1, HV.out.2.1, HV.out.2.2.1, HV.out.2.2.2.1, HV.out.2.2.2.2], o7.less (Nat.le_succ _)⟩, below_all ((((bt B4 hb6).setCell (p := ⟨w.heap.size, 5, none⟩) (Nat.le_refl w.heap.size) _).setCell (p := ⟨w.heap.size, 6, none⟩) (Nat.le_refl w.heap.size) _).setCell (p := ⟨w.heap.size, 7, none⟩) (Nat.le_refl w.heap.size) _) (Nat.le_refl _) _ _ _ _ _ _ _ _⟩
end Go.Proofs.YtbfdpibjicjagaaGreatDoor.lrc
namespace Go.Proofs.YtbfdpibjicjagaaGreatDoor.lrc
open Go.RowKit Go.Lib
open Go.Proofs.YtbfdpibjicjagaaGreatDoor.gmt (Ok)
open Go.Proofs.YtbfdpibjicjagaaGreatDoor.anc (bl kal kst ks bm ka)
open Go.Proofs.YtbfdpibjicjagaaGreatDoor.tbl (C1 c1_new G5 g5_new)
open Go.Proofs.YtbfdpibjicjagaaGreatDoor.img
open Go.Proofs.YtbfdpibjicjagaaGreatDoor.pck (le le_length num unrow unrow_any)
theorem read_geo_c (z d s l a : Int) (A : Option Addr) (n c : Nat) (w : World) (ho : ¬ Ok z d s l a) :
  Calls Tryz.prog 81 #[.agg #[.int .i64 z, .int .i64 d, .int .i64 s, .int .i64 l, .int .i64 a], .slice A n c] w fun e w' => RdNo 1 e ∧ Below w.heap.size w w' := by
 have s1 : (w.alloc (.cells #[.int .i64 z, .int .i64 d, .int .i64 s, .int .i64 l, .int .i64 a] 23)).heap.size = w.heap.size + 1 := by simp
 have hx2 := bl (w.alloc (.cells #[.int .i64 z, .int .i64 d, .int .i64 s, .int .i64 l, .int .i64 a] 23)) (.cells #[.int .i64 0, .int .i64 0, .int .i64 0, .int .i64 0, .int .i64 0, .int .i64 0, .int .i64 0, .slice none 0 0] 83)
 have GG := (g5_new w z d s l a).keep hx2 (by omega)
 have TT := eig_new (w.alloc (.cells #[.int .i64 z, .int .i64 d, .int .i64 s, .int .i64 l, .int .i64 a] 23)) (.int .i64 0) (.int .i64 0) (.int .i64 0) (.int .i64 0) (.int .i64 0) (.int .i64 0) (.int .i64 0) (.slice none 0 0) 83
 rw [s1] at TT
 have hw := kal (bl w (.cells #[.int .i64 z, .int .i64 d, .int .i64 s, .int .i64 l, .int .i64 a] 23)) (.cells #[.int .i64 0, .int .i64 0, .int .i64 0, .int .i64 0, .int .i64 0, .int .i64 0, .int .i64 0, .slice none 0 0] 83)
 have l2 : ((w.alloc (.cells #[.int .i64 z, .int .i64 d, .int .i64 s, .int .i64 l, .int .i64 a] 23)).alloc (.cells #[.int .i64 0, .int .i64 0, .int .i64 0, .int .i64 0, .int .i64 0, .int .i64 0, .int .i64 0, .slice none 0 0] 83)).heap.size = w.heap.size + 2 := by simp
 have HG := Lib.hid fun W => gmt.check_no z d s l a W ho
 clear s1 hx2 ho
 go_enter Tryz.func81, Tryz.ntmps81
 go_upto_region 1 with fail
 generalize (w.alloc (.cells #[.int .i64 z, .int .i64 d, .int .i64 s, .int .i64 l, .int .i64 a] 23)).alloc (.cells #[.int .i64 0, .int .i64 0, .int .i64 0, .int .i64 0, .int .i64 0, .int .i64 0, .int .i64 0, .slice none 0 0] 83) = w0 at *
 obtain ⟨g0, g1, g2, g3, g4⟩ := id GG
 go_upto_region 3 with (go_at_call 46; (with_reducible refine (HG.out _).mono ?_); rintro e w2 ⟨rfl, hb2⟩)
 have T2 := TT.keep hb2 (by omega)
 have B2 := bt hw hb2
 obtain ⟨t0, t1, t2, t3, t4, t5, t6, t7, f0, f1, f2, f3, f4, f5, f6, f7⟩ := id T2
 go_wp2_with fail
 have k9 := T2.all (.int .i64 0) (.int .i64 0) (.int .i64 0) (.int .i64 0) (.int .i64 0) (.int .i64 0) (.int .i64 0) (.slice none 0 0)
 exact bodyPost_ret (v := .tuple #[.agg #[.int .i64 0, .int .i64 0, .int .i64 0, .int .i64 0, .int .i64 0, .int .i64 0, .int .i64 0, .slice none 0 0], .int .i64 1]) (by simp [results, Tryz.results81, go_sem, k9.c0, k9.c1, k9.c2, k9.c3, k9.c4, k9.c5, k9.c6, k9.c7]) rfl ⟨⟨none, 0, by decide, rfl⟩, below_all B2 (Nat.le_succ _) _ _ _ _ _ _ _ _⟩
theorem read_bad_c (z d s l a : Int) (A : Option Addr) (n c : Nat) (w : World) (ho : Ok z d s l a) (hP : ∀ W, Below w.heap.size w W → Calls Tryz.prog 92 #[.slice A n c] W fun e w' => e = .returned (.tuple #[.agg #[.int .i64 0, .int .i64 0, .int .i64 0, .int .i64 0, .int .i64 0, .int .i64 0, .int .i64 0, .slice none 0 0], .slice none 0 0, .int .i64 4]) ∧ Below W.heap.size W w') :
  Calls Tryz.prog 81 #[.agg #[.int .i64 z, .int .i64 d, .int .i64 s, .int .i64 l, .int .i64 a], .slice A n c] w fun e w' => RdNo 4 e ∧ Below w.heap.size w w' := by
 have s1 : (w.alloc (.cells #[.int .i64 z, .int .i64 d, .int .i64 s, .int .i64 l, .int .i64 a] 23)).heap.size = w.heap.size + 1 := by simp
 have hx2 := bl (w.alloc (.cells #[.int .i64 z, .int .i64 d, .int .i64 s, .int .i64 l, .int .i64 a] 23)) (.cells #[.int .i64 0, .int .i64 0, .int .i64 0, .int .i64 0, .int .i64 0, .int .i64 0, .int .i64 0, .slice none 0 0] 83)
 have GG := (g5_new w z d s l a).keep hx2 (by omega)
 have TT := eig_new (w.alloc (.cells #[.int .i64 z, .int .i64 d, .int .i64 s, .int .i64 l, .int .i64 a] 23)) (.int .i64 0) (.int .i64 0) (.int .i64 0) (.int .i64 0) (.int .i64 0) (.int .i64 0) (.int .i64 0) (.slice none 0 0) 83
 rw [s1] at TT
 have hw := kal (bl w (.cells #[.int .i64 z, .int .i64 d, .int .i64 s, .int .i64 l, .int .i64 a] 23)) (.cells #[.int .i64 0, .int .i64 0, .int .i64 0, .int .i64 0, .int .i64 0, .int .i64 0, .int .i64 0, .slice none 0 0] 83)
 have l2 : ((w.alloc (.cells #[.int .i64 z, .int .i64 d, .int .i64 s, .int .i64 l, .int .i64 a] 23)).alloc (.cells #[.int .i64 0, .int .i64 0, .int .i64 0, .int .i64 0, .int .i64 0, .int .i64 0, .int .i64 0, .slice none 0 0] 83)).heap.size = w.heap.size + 2 := by simp
 have HG := Lib.hid fun W => gmt.check_ok z d s l a W ho
 have HP := Lib.hid hP
 clear s1 hx2 ho hP
 go_enter Tryz.func81, Tryz.ntmps81
 go_upto_region 1 with fail
 generalize (w.alloc (.cells #[.int .i64 z, .int .i64 d, .int .i64 s, .int .i64 l, .int .i64 a] 23)).alloc (.cells #[.int .i64 0, .int .i64 0, .int .i64 0, .int .i64 0, .int .i64 0, .int .i64 0, .int .i64 0, .slice none 0 0] 83) = w0 at *
 obtain ⟨g0, g1, g2, g3, g4⟩ := id GG
 go_upto_region 4 with (go_at_call 46; (with_reducible refine (HG.out _).mono ?_); rintro e w2 ⟨rfl, hb2⟩)
 have T2 := TT.keep hb2 (by omega)
 have B2 := bt hw hb2
 have l3 := hb2.size
 go_upto_region 5 with (go_at_call 92; (with_reducible refine (HP.out _ B2).mono ?_); rintro e w3 ⟨rfl, hb3⟩)
 have T3 := T2.keep (kal hb3 (.cells #[.int .i64 0, .int .i64 0, .int .i64 0, .int .i64 0, .int .i64 0, .int .i64 0, .int .i64 0, .slice none 0 0] 83)) (by omega)
 have B3 := bt B2 (kal hb3 (.cells #[.int .i64 0, .int .i64 0, .int .i64 0, .int .i64 0, .int .i64 0, .int .i64 0, .int .i64 0, .slice none 0 0] 83))
 generalize w3.alloc (.cells #[.int .i64 0, .int .i64 0, .int .i64 0, .int .i64 0, .int .i64 0, .int .i64 0, .int .i64 0, .slice none 0 0] 83) = w4 at *
 obtain ⟨t0, t1, t2, t3, t4, t5, t6, t7, f0, f1, f2, f3, f4, f5, f6, f7⟩ := id T3
 go_wp2_with fail
 have k9 := T3.all (.int .i64 0) (.int .i64 0) (.int .i64 0) (.int .i64 0) (.int .i64 0) (.int .i64 0) (.int .i64 0) (.slice none 0 0)
 exact bodyPost_ret (v := .tuple #[.agg #[.int .i64 0, .int .i64 0, .int .i64 0, .int .i64 0, .int .i64 0, .int .i64 0, .int .i64 0, .slice none 0 0], .int .i64 4]) (by simp [results, Tryz.results81, go_sem, k9.c0, k9.c1, k9.c2, k9.c3, k9.c4, k9.c5, k9.c6, k9.c7]) rfl ⟨⟨none, 0, by decide, rfl⟩, below_all B3 (Nat.le_succ _) _ _ _ _ _ _ _ _⟩
theorem read_rest_c (z d s l a kd sq ep ps nm y wh : Int) (A : Option Addr) (n c q m : Nat) (L : List UInt8) (w : World) (ho : Ok z d s l a) (hq : 0 < q) (hP : ∀ W, Below w.heap.size w W → Calls Tryz.prog 92 #[.slice A n c] W fun e w' => (∃ X x Y yc, e = .returned (.tuple #[.agg #[.int .i64 kd, .int .i64 sq, .int .i64 ep, .int .i64 ps, .int .i64 nm, .int .i64 y, .int .i64 wh, .slice X m x], .slice Y q yc, .int .i64 0]) ∧ Own w' W.heap.size 5 (.slice X m x) L) ∧ Below W.heap.size W w') :
  Calls Tryz.prog 81 #[.agg #[.int .i64 z, .int .i64 d, .int .i64 s, .int .i64 l, .int .i64 a], .slice A n c] w fun e w' => RdNo 4 e ∧ Below w.heap.size w w' := by
 have s1 : (w.alloc (.cells #[.int .i64 z, .int .i64 d, .int .i64 s, .int .i64 l, .int .i64 a] 23)).heap.size = w.heap.size + 1 := by simp
 have hx2 := bl (w.alloc (.cells #[.int .i64 z, .int .i64 d, .int .i64 s, .int .i64 l, .int .i64 a] 23)) (.cells #[.int .i64 0, .int .i64 0, .int .i64 0, .int .i64 0, .int .i64 0, .int .i64 0, .int .i64 0, .slice none 0 0] 83)
 have GG := (g5_new w z d s l a).keep hx2 (by omega)
 have TT := eig_new (w.alloc (.cells #[.int .i64 z, .int .i64 d, .int .i64 s, .int .i64 l, .int .i64 a] 23)) (.int .i64 0) (.int .i64 0) (.int .i64 0) (.int .i64 0) (.int .i64 0) (.int .i64 0) (.int .i64 0) (.slice none 0 0) 83
 rw [s1] at TT
 have hw := kal (bl w (.cells #[.int .i64 z, .int .i64 d, .int .i64 s, .int .i64 l, .int .i64 a] 23)) (.cells #[.int .i64 0, .int .i64 0, .int .i64 0, .int .i64 0, .int .i64 0, .int .i64 0, .int .i64 0, .slice none 0 0] 83)
 have l2 : ((w.alloc (.cells #[.int .i64 z, .int .i64 d, .int .i64 s, .int .i64 l, .int .i64 a] 23)).alloc (.cells #[.int .i64 0, .int .i64 0, .int .i64 0, .int .i64 0, .int .i64 0, .int .i64 0, .int .i64 0, .slice none 0 0] 83)).heap.size = w.heap.size + 2 := by simp
 have HG := Lib.hid fun W => gmt.check_ok z d s l a W ho
 have HP := Lib.hid hP
 clear s1 hx2 hP
 go_enter Tryz.func81, Tryz.ntmps81
 go_upto_region 1 with fail
 generalize (w.alloc (.cells #[.int .i64 z, .int .i64 d, .int .i64 s, .int .i64 l, .int .i64 a] 23)).alloc (.cells #[.int .i64 0, .int .i64 0, .int .i64 0, .int .i64 0, .int .i64 0, .int .i64 0, .int .i64 0, .slice none 0 0] 83) = w0 at *
 obtain ⟨g0, g1, g2, g3, g4⟩ := id GG
 go_upto_region 4 with (go_at_call 46; (with_reducible refine (HG.out _).mono ?_); rintro e w2 ⟨rfl, hb2⟩)
 have T2 := TT.keep hb2 (by omega)
 have G2 := GG.keep hb2 (by omega)
 have B2 := bt hw hb2
 have l3 := hb2.size
 clear g0 g1 g2 g3 g4 GG TT
 go_upto_region 5 with (go_at_call 92; (with_reducible refine (HP.out _ B2).mono ?_); rintro e w3 ⟨⟨X, x, Y, yc, rfl, o3⟩, hb3⟩)
 have l4 := hb3.size
 have R4 := c8_new w3 (.int .i64 kd) (.int .i64 sq) (.int .i64 ep) (.int .i64 ps) (.int .i64 nm) (.int .i64 y) (.int .i64 wh) (.slice X m x) 83
 have T4 := T2.keep (kal hb3 (.cells #[.int .i64 kd, .int .i64 sq, .int .i64 ep, .int .i64 ps, .int .i64 nm, .int .i64 y, .int .i64 wh, .slice X m x] 83)) (by omega)
 have G4 := G2.keep (kal hb3 (.cells #[.int .i64 kd, .int .i64 sq, .int .i64 ep, .int .i64 ps, .int .i64 nm, .int .i64 y, .int .i64 wh, .slice X m x] 83)) (by omega)
 have B4 := bt B2 (kal hb3 (.cells #[.int .i64 kd, .int .i64 sq, .int .i64 ep, .int .i64 ps, .int .i64 nm, .int .i64 y, .int .i64 wh, .slice X m x] 83))
 have o4 := o3.below (bl w3 (.cells #[.int .i64 kd, .int .i64 sq, .int .i64 ep, .int .i64 ps, .int .i64 nm, .int .i64 y, .int .i64 wh, .slice X m x] 83))
 have l5 : w3.heap.size < (w3.alloc (.cells #[.int .i64 kd, .int .i64 sq, .int .i64 ep, .int .i64 ps, .int .i64 nm, .int .i64 y, .int .i64 wh, .slice X m x] 83)).heap.size := by simp
 clear T2 G2 B2 HP HG hw o3 hb3
 generalize w3.alloc (.cells #[.int .i64 kd, .int .i64 sq, .int .i64 ep, .int .i64 ps, .int .i64 nm, .int .i64 y, .int .i64 wh, .slice X m x] 83) = w4 at *
 have i1 : (0 : Int) < (q : Int) := by omega
 clear ho
 obtain ⟨t0, t1, t2, t3, t4, t5, t6, t7, f0, f1, f2, f3, f4, f5, f6, f7⟩ := id T4
 go_wp2_with fail
 have k9 := T4.all (.int .i64 0) (.int .i64 0) (.int .i64 0) (.int .i64 0) (.int .i64 0) (.int .i64 0) (.int .i64 0) (.slice none 0 0)
 exact bodyPost_ret (v := .tuple #[.agg #[.int .i64 0, .int .i64 0, .int .i64 0, .int .i64 0, .int .i64 0, .int .i64 0, .int .i64 0, .slice none 0 0], .int .i64 4]) (by simp [results, Tryz.results81, go_sem, k9.c0, k9.c1, k9.c2, k9.c3, k9.c4, k9.c5, k9.c6, k9.c7]) rfl ⟨⟨none, 0, by decide, rfl⟩, below_all B4 (Nat.le_succ _) _ _ _ _ _ _ _ _⟩
theorem read_fin_c (cc : Bool) (z d s l a kd sq ep ps nm y wh : Int) (A : Option Addr) (n c m : Nat) (L : List UInt8) (w : World) (ho : Ok z d s l a) (hP : ∀ W, Below w.heap.size w W → Calls Tryz.prog 92 #[.slice A n c] W fun e w' => (∃ X x Y yc, e = .returned (.tuple #[.agg #[.int .i64 kd, .int .i64 sq, .int .i64 ep, .int .i64 ps, .int .i64 nm, .int .i64 y, .int .i64 wh, .slice X m x], .slice Y 0 yc, .int .i64 0]) ∧ Own w' W.heap.size 5 (.slice X m x) L) ∧ Below W.heap.size W w') (hm : L.length = m) (hm1 : m ≤ 1048576) (hcc : cc = true ↔ RecOk z d ⟨kd, sq, ep, ps, nm, y, wh, L⟩) :
  Calls Tryz.prog 81 #[.agg #[.int .i64 z, .int .i64 d, .int .i64 s, .int .i64 l, .int .i64 a], .slice A n c] w fun e w' => (if cc = true then RdR w.heap.size ⟨kd, sq, ep, ps, nm, y, wh, L⟩ e w' else RdNo 4 e) ∧ Below w.heap.size w w' := by
 have s1 : (w.alloc (.cells #[.int .i64 z, .int .i64 d, .int .i64 s, .int .i64 l, .int .i64 a] 23)).heap.size = w.heap.size + 1 := by simp
 have hx2 := bl (w.alloc (.cells #[.int .i64 z, .int .i64 d, .int .i64 s, .int .i64 l, .int .i64 a] 23)) (.cells #[.int .i64 0, .int .i64 0, .int .i64 0, .int .i64 0, .int .i64 0, .int .i64 0, .int .i64 0, .slice none 0 0] 83)
 have GG := (g5_new w z d s l a).keep hx2 (by omega)
 have TT := eig_new (w.alloc (.cells #[.int .i64 z, .int .i64 d, .int .i64 s, .int .i64 l, .int .i64 a] 23)) (.int .i64 0) (.int .i64 0) (.int .i64 0) (.int .i64 0) (.int .i64 0) (.int .i64 0) (.int .i64 0) (.slice none 0 0) 83
 rw [s1] at TT
 have hw := kal (bl w (.cells #[.int .i64 z, .int .i64 d, .int .i64 s, .int .i64 l, .int .i64 a] 23)) (.cells #[.int .i64 0, .int .i64 0, .int .i64 0, .int .i64 0, .int .i64 0, .int .i64 0, .int .i64 0, .slice none 0 0] 83)
 have l2 : ((w.alloc (.cells #[.int .i64 z, .int .i64 d, .int .i64 s, .int .i64 l, .int .i64 a] 23)).alloc (.cells #[.int .i64 0, .int .i64 0, .int .i64 0, .int .i64 0, .int .i64 0, .int .i64 0, .int .i64 0, .slice none 0 0] 83)).heap.size = w.heap.size + 2 := by simp
 have HG := Lib.hid fun W => gmt.check_ok z d s l a W ho
 have HP := Lib.hid hP
 clear s1 hx2 hP
 go_enter Tryz.func81, Tryz.ntmps81
 go_upto_region 1 with fail
 generalize (w.alloc (.cells #[.int .i64 z, .int .i64 d, .int .i64 s, .int .i64 l, .int .i64 a] 23)).alloc (.cells #[.int .i64 0, .int .i64 0, .int .i64 0, .int .i64 0, .int .i64 0, .int .i64 0, .int .i64 0, .slice none 0 0] 83) = w0 at *
 obtain ⟨g0, g1, g2, g3, g4⟩ := id GG
 go_upto_region 4 with (go_at_call 46; (with_reducible refine (HG.out _).mono ?_); rintro e w2 ⟨rfl, hb2⟩)
 have T2 := TT.keep hb2 (by omega)
 have G2 := GG.keep hb2 (by omega)
 have B2 := bt hw hb2
 have l3 := hb2.size
 clear g0 g1 g2 g3 g4 GG TT
 go_upto_region 5 with (go_at_call 92; (with_reducible refine (HP.out _ B2).mono ?_); rintro e w3 ⟨⟨X, x, Y, yc, rfl, o3⟩, hb3⟩)
 have l4 := hb3.size
 have R4 := c8_new w3 (.int .i64 kd) (.int .i64 sq) (.int .i64 ep) (.int .i64 ps) (.int .i64 nm) (.int .i64 y) (.int .i64 wh) (.slice X m x) 83
 have T4 := T2.keep (kal hb3 (.cells #[.int .i64 kd, .int .i64 sq, .int .i64 ep, .int .i64 ps, .int .i64 nm, .int .i64 y, .int .i64 wh, .slice X m x] 83)) (by omega)
 have G4 := G2.keep (kal hb3 (.cells #[.int .i64 kd, .int .i64 sq, .int .i64 ep, .int .i64 ps, .int .i64 nm, .int .i64 y, .int .i64 wh, .slice X m x] 83)) (by omega)
 have B4 := bt B2 (kal hb3 (.cells #[.int .i64 kd, .int .i64 sq, .int .i64 ep, .int .i64 ps, .int .i64 nm, .int .i64 y, .int .i64 wh, .slice X m x] 83))
 have o4 := o3.below (bl w3 (.cells #[.int .i64 kd, .int .i64 sq, .int .i64 ep, .int .i64 ps, .int .i64 nm, .int .i64 y, .int .i64 wh, .slice X m x] 83))
 have l5 : w3.heap.size < (w3.alloc (.cells #[.int .i64 kd, .int .i64 sq, .int .i64 ep, .int .i64 ps, .int .i64 nm, .int .i64 y, .int .i64 wh, .slice X m x] 83)).heap.size := by simp
 clear T2 G2 B2 HP HG hw o3 hb3
 generalize w3.alloc (.cells #[.int .i64 kd, .int .i64 sq, .int .i64 ep, .int .i64 ps, .int .i64 nm, .int .i64 y, .int .i64 wh, .slice X m x] 83) = w4 at *
 have HC := Lib.hid (show Calls Tryz.prog 93 #[.agg #[.int .i64 z, .int .i64 d, .int .i64 s, .int .i64 l, .int .i64 a], .agg #[.int .i64 kd, .int .i64 sq, .int .i64 ep, .int .i64 ps, .int .i64 nm, .int .i64 y, .int .i64 wh, .slice X m x]] w4 fun e w' => e = .returned (.int .i64 (if cc = true then 0 else 1)) ∧ Below w4.heap.size w4 w' from by
  obtain ⟨A', x', he, q1, q2, q3, -⟩ := o4.form
  have e1 : X = A' := (Value.slice.injEq .. ▸ he).1
  have e2 : x = x' := (Value.slice.injEq .. ▸ he).2.2
  rw [← e1] at q3
  rw [← e2] at q1 q2
  exact check_c cc z d s l a ⟨kd, sq, ep, ps, nm, ⟨y, wh, X, x, L⟩⟩ m w4 ⟨q3, q1, q2⟩ hm hm1 (hcc.trans (and_iff_right ho).symm))
 have HM := Lib.hid hm
 clear hm hm1 hcc ho
 obtain ⟨g0, g1, g2, g3, g4⟩ := id G4
 obtain ⟨r0, r1, r2, r3, r4, r5, r6, r7⟩ := id R4
 cases cc
 ·replace HC : Hid (Calls Tryz.prog 93 #[.agg #[.int .i64 z, .int .i64 d, .int .i64 s, .int .i64 l, .int .i64 a], .agg #[.int .i64 kd, .int .i64 sq, .int .i64 ep, .int .i64 ps, .int .i64 nm, .int .i64 y, .int .i64 wh, .slice X m x]] w4 fun e w' => e = .returned (.int .i64 1) ∧ Below w4.heap.size w4 w') := HC
  go_wp2_with (go_at_call 93; (with_reducible refine HC.out.mono ?_); rintro e w5 ⟨rfl, hb5⟩; (have T5 := T4.keep hb5 (by omega)); obtain ⟨u0, u1, u2, u3, u4, u5, u6, u7, y0, y1, y2, y3, y4, y5, y6, y7⟩ := id T5)
  have k9 := T5.all (.int .i64 0) (.int .i64 0) (.int .i64 0) (.int .i64 0) (.int .i64 0) (.int .i64 0) (.int .i64 0) (.slice none 0 0)
  exact bodyPost_ret (v := .tuple #[.agg #[.int .i64 0, .int .i64 0, .int .i64 0, .int .i64 0, .int .i64 0, .int .i64 0, .int .i64 0, .slice none 0 0], .int .i64 4]) (by simp [results, Tryz.results81, go_sem, k9.c0, k9.c1, k9.c2, k9.c3, k9.c4, k9.c5, k9.c6, k9.c7]) rfl ⟨⟨none, 0, by decide, rfl⟩, below_all (bt B4 hb5) (Nat.le_succ _) _ _ _ _ _ _ _ _⟩
 ·replace HC : Hid (Calls Tryz.prog 93 #[.agg #[.int .i64 z, .int .i64 d, .int .i64 s, .int .i64 l, .int .i64 a], .agg #[.int .i64 kd, .int .i64 sq, .int .i64 ep, .int .i64 ps, .int .i64 nm, .int .i64 y, .int .i64 wh, .slice X m x]] w4 fun e w' => e = .returned (.int .i64 0) ∧ Below w4.heap.size w4 w') := HC
  go_wp2_with (go_at_call 93; (with_reducible refine HC.out.mono ?_); rintro e w5 ⟨rfl, hb5⟩; (have T5 := T4.keep hb5 (by omega)); (obtain ⟨u0, u1, u2, u3, u4, u5, u6, u7, y0, y1, y2, y3, y4, y5, y6, y7⟩ := id T5); (have R5 := R4.keep hb5 l5); obtain ⟨q0, q1, q2, q3, q4, q5, q6, q7⟩ := id R5)
  have k9 := T5.all (.int .i64 kd) (.int .i64 sq) (.int .i64 ep) (.int .i64 ps) (.int .i64 nm) (.int .i64 y) (.int .i64 wh) (.slice X m x)
  have o9 := own_all (g := w.heap.size + 1) ((o4.below hb5).less (show w.heap.size + 2 ≤ w2.heap.size by omega)) (Nat.lt_succ_self _) (.int .i64 kd) (.int .i64 sq) (.int .i64 ep) (.int .i64 ps) (.int .i64 nm) (.int .i64 y) (.int .i64 wh) (.slice X m x)
  exact bodyPost_ret (v := .tuple #[.agg #[.int .i64 kd, .int .i64 sq, .int .i64 ep, .int .i64 ps, .int .i64 nm, .int .i64 y, .int .i64 wh, .slice X m x], .int .i64 0]) (by simp [results, Tryz.results81, go_sem, k9.c0, k9.c1, k9.c2, k9.c3, k9.c4, k9.c5, k9.c6, k9.c7]) rfl ⟨⟨X, x, by rw [HM.out], by rw [HM.out]; exact o9.less (by omega)⟩, below_all (bt B4 hb5) (Nat.le_succ _) _ _ _ _ _ _ _ _⟩
theorem read_no_c (v : Int) (z d s l a : Int) (A : Option Addr) (n c : Nat) (b : List UInt8) (w : World) (hv : RdWhy z d s l a b v) (hn : b.length = n) (hc : n ≤ c) (hm : c ≤ maxLen) (hl : n ≤ 1048576) (hA : Sl w w.heap.size A b) :
  Calls Tryz.prog 81 #[.agg #[.int .i64 z, .int .i64 d, .int .i64 s, .int .i64 l, .int .i64 a], .slice A n c] w fun e w' => RdNo v e ∧ Below w.heap.size w w' := by
 rcases hv with ⟨ho, rfl⟩ | ⟨ho, hno, rfl⟩
 ·exact read_geo_c z d s l a A n c w ho
 by_cases h11 : b.length < 11
 ·exact read_bad_c z d s l a A n c w ho fun W hW => parse_shortR A c n b W hn (hA.next hW) hc hm (by omega) h11
 by_cases h0 : at1 b 0 = 1
 ·by_cases h3 : n < 14 + at1 b 13
  ·exact read_bad_c z d s l a A n c w ho fun W hW => parse_bad A c n b W hn (hA.next hW) hc hm (by omega) h11 h0 h3
  ·obtain ⟨k, hk⟩ : ∃ k, n = 14 + at1 b 13 + k := ⟨n - (14 + at1 b 13), by omega⟩
   have hP := fun W (hW : Below w.heap.size w W) => parse_ok1 A c n (at1 b 13) k b W hn (hA.next hW) hc hm (by omega) h11 h0 rfl hk
   have hL : ((b.drop 14).take (at1 b 13)).length = at1 b 13 := by rw [List.length_take, List.length_drop]; omega
   rcases Nat.eq_zero_or_pos k with rfl | hkp
   ·have hcc : ¬ RecOk z d ⟨at1 b 0, at4 b 1, at4 b 5, at1 b 9, at1 b 10, at1 b 11, whI (at1 b 12), (b.drop 14).take (at1 b 13)⟩ := fun h => hno ⟨⟨by omega, .inl ⟨h0, by omega, by omega⟩⟩, by
     unfold recN
     rw [if_pos h0]
     rwa [List.take_of_length_le (by rw [List.length_drop]; omega)] at h⟩
    have h9 := read_fin_c false z d s l a _ _ _ _ _ _ _ A n c (at1 b 13) _ w ho hP hL (by omega) (iff_of_false Bool.false_ne_true hcc)
    simp only [Bool.false_eq_true, if_false] at h9
    exact h9
   ·exact read_rest_c z d s l a _ _ _ _ _ _ _ A n c k (at1 b 13) _ w ho hkp hP
 ·have hP := fun W (hW : Below w.heap.size w W) => (parse_ok0 A c n b W hn (hA.next hW) hc hm (by omega) h11 h0).mono (R' := fun e w' => (∃ X x Y yc, e = .returned (.tuple #[.agg #[.int .i64 (at1 b 0), .int .i64 (at4 b 1), .int .i64 (at4 b 5), .int .i64 (at1 b 9), .int .i64 (at1 b 10), .int .i64 0, .int .i64 0, .slice X (0 : Nat) x], .slice Y (n - 11) yc, .int .i64 0]) ∧ Own w' W.heap.size 5 (.slice X (0 : Nat) x) []) ∧ Below W.heap.size W w') (by
   rintro e w' ⟨⟨Y, y, rfl⟩, hb⟩
   exact ⟨⟨none, 0, Y, y, rfl, own_nil _ _ _⟩, hb⟩)
  by_cases hq : n = 11
  ·have hcc : ¬ RecOk z d ⟨at1 b 0, at4 b 1, at4 b 5, at1 b 9, at1 b 10, 0, 0, []⟩ := fun h => hno ⟨⟨by omega, .inr ⟨h0, by omega⟩⟩, by
    unfold recN
    rwa [if_neg h0]⟩
   rw [show n - 11 = 0 by omega] at hP
   have h9 := read_fin_c false z d s l a _ _ _ _ _ _ _ A n c 0 [] w ho hP rfl (by omega) (iff_of_false Bool.false_ne_true hcc)
   simp only [Bool.false_eq_true, if_false] at h9
   exact h9
  ·exact read_rest_c z d s l a _ _ _ _ _ _ _ A n c (n - 11) 0 [] w ho (by omega) hP
theorem read_yes_c (z d s l a : Int) (A : Option Addr) (n c : Nat) (b : List UInt8) (w : World) (ho : Ok z d s l a) (hn : b.length = n) (hc : n ≤ c) (hm : c ≤ maxLen) (hl : n ≤ 1048576) (hA : Sl w w.heap.size A b) (hr : RdOk z d b) :
  Calls Tryz.prog 81 #[.agg #[.int .i64 z, .int .i64 d, .int .i64 s, .int .i64 l, .int .i64 a], .slice A n c] w fun e w' => RdR w.heap.size (recN b) e w' ∧ Below w.heap.size w w' := by
 obtain ⟨⟨h11, hlen⟩, hrec⟩ := hr
 by_cases h0 : at1 b 0 = 1
 ·obtain ⟨h14, hb⟩ : 14 ≤ b.length ∧ b.length = 14 + at1 b 13 := by
   rcases hlen with h | h
   ·exact h.2
   ·exact absurd h0 h.1
  have hP := fun W (hW : Below w.heap.size w W) => parse_ok1 A c n (at1 b 13) 0 b W hn (hA.next hW) hc hm (by omega) (by omega) h0 rfl (by omega)
  have hL : ((b.drop 14).take (at1 b 13)).length = at1 b 13 := by rw [List.length_take, List.length_drop]; omega
  have he : recN b = ⟨at1 b 0, at4 b 1, at4 b 5, at1 b 9, at1 b 10, at1 b 11, whI (at1 b 12), (b.drop 14).take (at1 b 13)⟩ := by
   unfold recN
   rw [if_pos h0, List.take_of_length_le (by rw [List.length_drop]; omega)]
  rw [he] at hrec ⊢
  have h9 := read_fin_c true z d s l a _ _ _ _ _ _ _ A n c (at1 b 13) _ w ho hP hL (by omega) (iff_of_true rfl hrec)
  simp only [if_true] at h9
  exact h9
 ·have hb : b.length = 11 := by
   rcases hlen with h | h
   ·exact absurd h.1 h0
   ·exact h.2
  have hP := fun W (hW : Below w.heap.size w W) => (parse_ok0 A c n b W hn (hA.next hW) hc hm (by omega) (by omega) h0).mono (R' := fun e w' => (∃ X x Y yc, e = .returned (.tuple #[.agg #[.int .i64 (at1 b 0), .int .i64 (at4 b 1), .int .i64 (at4 b 5), .int .i64 (at1 b 9), .int .i64 (at1 b 10), .int .i64 0, .int .i64 0, .slice X (0 : Nat) x], .slice Y (n - 11) yc, .int .i64 0]) ∧ Own w' W.heap.size 5 (.slice X (0 : Nat) x) []) ∧ Below W.heap.size W w') (by
   rintro e w' ⟨⟨Y, y, rfl⟩, hb⟩
   exact ⟨⟨none, 0, Y, y, rfl, own_nil _ _ _⟩, hb⟩)
  have he : recN b = ⟨at1 b 0, at4 b 1, at4 b 5, at1 b 9, at1 b 10, 0, 0, []⟩ := by
   unfold recN
   rw [if_neg h0]
  rw [he] at hrec ⊢
  rw [show n - 11 = 0 by omega] at hP
  have h9 := read_fin_c true z d s l a _ _ _ _ _ _ _ A n c 0 [] w ho hP rfl (by omega) (iff_of_true rfl hrec)
  simp only [if_true] at h9
  exact h9
end Go.Proofs.YtbfdpibjicjagaaGreatDoor.lrc
