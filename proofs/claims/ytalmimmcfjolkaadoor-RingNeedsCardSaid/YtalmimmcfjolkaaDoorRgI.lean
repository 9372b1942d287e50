/-
  The way out at the front of RingNeeds. Conditions: none.
-/
import Derived.Test.YtalmimmcfjolkaaDoorGRb
import Derived.Test.YtalmimmcfjolkaaDoorGRd
namespace Go.Proofs.YtalmimmcfjolkaaDoor.rng
open Go.RowKit Go.Lib
open Go.Proofs.YtalmimmcfjolkaaDoor.gmt (Ok)
open Go.Proofs.YtalmimmcfjolkaaDoor.anc (bl kal kst ks bm ka)
open Go.Proofs.YtalmimmcfjolkaaDoor.tbl (G5 g5_new)

set_option maxRecDepth 100000 in
set_option maxHeartbeats 8000000 in
theorem rn_long (zones data : Int) (yA : Option Addr) (yc n : Nat) (w : World) (h30 : (30 : Int) < (n : Int)) :
    Calls Tryd.prog 4 #[.int .i64 zones, .int .i64 data, .slice yA n yc] w fun e w' => e = .returned (.bool true) ∧ Below w.heap.size w w' := by
  have HS := Lib.hid fun W => gmt.some_any zones data 1 0 0 W
  go_enter Tryd.func4, Tryd.ntmps4
  go_upto_region 2 with (go_at_call 15; (with_reducible refine (HS.out _).mono ?_); rintro e w1 ⟨⟨z, d, s, l, a, ho, rfl⟩, hb1⟩; have HO := Lib.hid ho; clear ho)
  have hb2 := kal hb1 (.cells #[.int .i64 z, .int .i64 d, .int .i64 s, .int .i64 l, .int .i64 a] 23)
  clear hb1
  generalize w1.alloc (.cells #[.int .i64 z, .int .i64 d, .int .i64 s, .int .i64 l, .int .i64 a] 23) = w2 at *
  go_wp2_with fail
  go_ret
  exact ⟨rfl, hb2⟩
end Go.Proofs.YtalmimmcfjolkaaDoor.rng
