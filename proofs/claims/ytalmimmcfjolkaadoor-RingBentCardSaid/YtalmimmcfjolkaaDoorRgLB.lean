/-
  RingBent, the law. Conditions: 'Crg'.
-/
import Derived.Test.YtalmimmcfjolkaaDoorGRc
namespace Go.Proofs.YtalmimmcfjolkaaDoor.rng
open Go.RowKit Go.Lib
open Go.Proofs.YtalmimmcfjolkaaDoor.gmt (Ok)
open Go.Proofs.YtalmimmcfjolkaaDoor.anc (AV HeavyA)

theorem ringbent_law (z d s l a : Int) (x : AV) (yA : Option Addr) (yc n : Nat) (ys : List Int) (i how : Int) (w : World) (hc : Crg w) (hx : x.In w w.heap.size) (hyn : ys.length = n) (hy : SlV w w.heap.size yA (ints ys)) :
    Calls Tryd.prog 5 #[.agg #[.int .i64 z, .int .i64 d, .int .i64 s, .int .i64 l, .int .i64 a], .agg #[.int .i64 x.gen, .int .i64 x.ep, .int .i64 x.pos, .int .i64 x.seq, .int .i64 x.last, .string x.lab, .slice x.HA x.hs.length x.hc], .slice yA n yc, .int .i64 i, .int .i64 how] w fun e w' => e = .returned (.bool true) ∧ Below w.heap.size w w' := by
  by_cases hh : HeavyA x.d
  · exact rb_heavy z d s l a x yA yc n i how w hx hh
  by_cases h40 : (40 : Int) < (n : Int)
  · exact rb_long z d s l a x yA yc n i how w hx hh h40
  by_cases ho : Ok z d s l a
  case neg => exact rb_geo z d s l a x yA yc n i how w hx hh h40 ho
  by_cases hg : anc.Good z d s l x.d
  case neg => exact rb_bad z d s l a x yA yc n i how w hx hh h40 ho hg
  by_cases hq : (1000000 : Int) < x.seq
  · exact rb_high z d s l a x yA yc n i how w hx hh h40 ho hg hq
  have h := gmt.wrap_mod how 5 (by decide)
  exact rgb_main ((IntKind.u64.wrap how).tmod 5).toNat z d s l a x yA yc n ys i how w hc hx hh h40 hyn hy ho hg hq (by omega) (by omega)
end Go.Proofs.YtalmimmcfjolkaaDoor.rng
