/-
  RingApart, the law. Conditions: 'Crg'.
-/
import Derived.Test.YtalmimmcfjolkaaDoorRgC
namespace Go.Proofs.YtalmimmcfjolkaaDoor.rng
open Go.RowKit Go.Lib
open Go.Proofs.YtalmimmcfjolkaaDoor.gmt (Ok)
open Go.Proofs.YtalmimmcfjolkaaDoor.anc (AV HeavyA)

theorem ringapart_law (z d s l a : Int) (x : AV) (yA : Option Addr) (yc n : Nat) (ys : List Int) (fl : Int) (w : World) (hc : Crg w) (hx : x.In w w.heap.size) (hyn : ys.length = n) (hy : SlV w w.heap.size yA (ints ys)) (hfl : 0 ≤ fl ∧ fl ≤ 255) :
    Calls Tryd.prog 3 #[.agg #[.int .i64 z, .int .i64 d, .int .i64 s, .int .i64 l, .int .i64 a], .agg #[.int .i64 x.gen, .int .i64 x.ep, .int .i64 x.pos, .int .i64 x.seq, .int .i64 x.last, .string x.lab, .slice x.HA x.hs.length x.hc], .slice yA n yc, .int .u8 fl] w fun e w' => e = .returned (.bool true) ∧ Below w.heap.size w w' := by
  by_cases hh : HeavyA x.d
  · exact ra_heavy z d s l a x yA yc n fl w hx hh
  by_cases h40 : (40 : Int) < (n : Int)
  · exact ra_long z d s l a x yA yc n fl w hx hh h40
  by_cases ho : Ok z d s l a
  case neg => exact ra_geo z d s l a x yA yc n fl w hx hh h40 ho
  by_cases hg : anc.Good z d s l x.d
  case neg => exact ra_bad z d s l a x yA yc n fl w hx hh h40 ho hg
  by_cases hq : (1000000 : Int) < x.seq
  · exact ra_high z d s l a x yA yc n fl w hx hh h40 ho hg hq
  exact rap_main z d s l a x yA yc n ys fl w hc hx hh h40 hyn hy ho hg hq hfl
end Go.Proofs.YtalmimmcfjolkaaDoor.rng
