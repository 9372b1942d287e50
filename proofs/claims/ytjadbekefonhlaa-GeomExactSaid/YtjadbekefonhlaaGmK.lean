/-
  GeomExact of a geometry that is none, walked: all is refused, as the document says. Conditions: none.
-/
import Derived.Test.YtjadbekefonhlaaGmF
import Derived.Deep.CutRange
import Derived.Deep.CutBlock
namespace Go.Proofs.Ytjadbekefonhlaa.gmt
open Go.RowKit Go.Lib

/-- A geometry's variable, and what lies below stays. -/
structure Bx (w W : World) (b : Nat) (z d s l a : Int) : Prop where
  c0 : W.cell? ⟨b, 0, none⟩ = some (.int .i64 z)
  c1 : W.cell? ⟨b, 1, none⟩ = some (.int .i64 d)
  c2 : W.cell? ⟨b, 2, none⟩ = some (.int .i64 s)
  c3 : W.cell? ⟨b, 3, none⟩ = some (.int .i64 l)
  c4 : W.cell? ⟨b, 4, none⟩ = some (.int .i64 a)
  hb : b < W.heap.size
  hw : Below w.heap.size w W
theorem Bx.below {w W W' : World} {b : Nat} {z d s l a : Int} (h : Bx w W b z d s l a) (hb : Below W.heap.size W W') : Bx w W' b z d s l a :=
  ⟨kst hb h.hb h.c0, kst hb h.hb h.c1, kst hb h.hb h.c2, kst hb h.hb h.c3, kst hb h.hb h.c4, Nat.lt_of_lt_of_le h.hb hb.size, bt h.hw hb⟩
theorem Bx.new (w : World) (z d s l a : Int) : Bx w (w.alloc (.cells #[.int .i64 z, .int .i64 d, .int .i64 s, .int .i64 l, .int .i64 a] 23)) w.heap.size z d s l a := by
  obtain ⟨g0, g1, g2, g3, g4⟩ := five_new w z d s l a
  exact ⟨g0, g1, g2, g3, g4, by simp, bl w _⟩
theorem told_of (R : Prop) (v why : Int) : ∃ n e, Told R v why n e := by
  by_cases h : R
  · exact ⟨v, 0, fun _ => ⟨rfl, rfl⟩, fun k => absurd h k⟩
  · exact ⟨0, why, fun k => absurd k h, fun _ => ⟨rfl, rfl⟩⟩

set_option maxRecDepth 100000 in
set_option maxHeartbeats 4000000 in
theorem exact_no (z d s l a i j k : Int) (w : World) (ho : ¬ Ok z d s l a) :
    Calls Try.prog 3 #[.agg #[.int .i64 z, .int .i64 d, .int .i64 s, .int .i64 l, .int .i64 a], .int .i64 i, .int .i64 j, .int .i64 k] w fun e w' => e = .returned (.bool true) ∧ Below w.heap.size w w' := by
  have hB := Bx.new w z d s l a
  obtain ⟨g0, g1, g2, g3, g4, -, -⟩ := id hB
  go_enter Try.func3, Try.ntmps3
  go_upto_region 1 with fail
  generalize w.alloc (.cells #[.int .i64 z, .int .i64 d, .int .i64 s, .int .i64 l, .int .i64 a] 23) = w0 at *
  go_wp2_with (first
    | (go_at_call 9; (with_reducible refine (rgeo_no z d s l a _ ho).mono ?_); rintro e w10 ⟨rfl, hb10⟩; replace hB := hB.below hb10; clear g0 g1 g2 g3 g4; obtain ⟨g0, g1, g2, g3, g4, -, -⟩ := id hB)
    | (go_at_call 10; (with_reducible refine (check_no z d s l a _ ho).mono ?_); rintro e w11 ⟨rfl, hb11⟩; replace hB := hB.below hb11; clear g0 g1 g2 g3 g4; obtain ⟨g0, g1, g2, g3, g4, -, -⟩ := id hB)
    | (go_at_call 11; (with_reducible refine (cells_no z d s l a _ ho).mono ?_); rintro e w12 ⟨rfl, hb12⟩; replace hB := hB.below hb12; clear g0 g1 g2 g3 g4; obtain ⟨g0, g1, g2, g3, g4, -, -⟩ := id hB)
    | (go_at_call 12; (with_reducible refine (blocks_no z d s l a _ ho).mono ?_); rintro e w13 ⟨rfl, hb13⟩; replace hB := hB.below hb13; clear g0 g1 g2 g3 g4; obtain ⟨g0, g1, g2, g3, g4, -, -⟩ := id hB)
    | (go_at_call 13; (with_reducible refine (anchor_no z d s l a i _ ho).mono ?_); rintro e w14 ⟨rfl, hb14⟩; replace hB := hB.below hb14; clear g0 g1 g2 g3 g4; obtain ⟨g0, g1, g2, g3, g4, -, -⟩ := id hB)
    | (go_at_call 14; (with_reducible refine (log_no z d s l a i j _ ho).mono ?_); rintro e w15 ⟨rfl, hb15⟩; replace hB := hB.below hb15; clear g0 g1 g2 g3 g4; obtain ⟨g0, g1, g2, g3, g4, -, -⟩ := id hB)
    | (go_at_call 15; (with_reducible refine (table_no z d s l a i j _ ho).mono ?_); rintro e w16 ⟨rfl, hb16⟩; replace hB := hB.below hb16; clear g0 g1 g2 g3 g4; obtain ⟨g0, g1, g2, g3, g4, -, -⟩ := id hB)
    | (go_at_call 16; (with_reducible refine (slot_no z d s l a i j _ ho).mono ?_); rintro e w17 ⟨rfl, hb17⟩; replace hB := hB.below hb17; clear g0 g1 g2 g3 g4; obtain ⟨g0, g1, g2, g3, g4, -, -⟩ := id hB)
    | (go_at_call 17; (with_reducible refine (set_no z d s l a k _ ho).mono ?_); rintro e w18 ⟨rfl, hb18⟩; replace hB := hB.below hb18; clear g0 g1 g2 g3 g4; obtain ⟨g0, g1, g2, g3, g4, -, -⟩ := id hB)
    | (go_at_call 18; (with_reducible refine (sets_no z d s l a _ ho).mono ?_); rintro e w19 ⟨rfl, hb19⟩; replace hB := hB.below hb19; clear g0 g1 g2 g3 g4; obtain ⟨g0, g1, g2, g3, g4, -, -⟩ := id hB)
    | (go_at_call 19; (with_reducible refine (split_no z d s l a k _ ho).mono ?_); rintro e w20 ⟨rfl, hb20⟩; replace hB := hB.below hb20; clear g0 g1 g2 g3 g4; obtain ⟨g0, g1, g2, g3, g4, -, -⟩ := id hB)
    | (go_at_call 20; (with_reducible refine (wakes_any _).mono ?_); rintro e w21 ⟨rfl, hb21⟩; replace hB := hB.below hb21; clear g0 g1 g2 g3 g4; obtain ⟨g0, g1, g2, g3, g4, -, -⟩ := id hB))
  go_ret
  exact ⟨rfl, hB.hw⟩
end Go.Proofs.Ytjadbekefonhlaa.gmt
