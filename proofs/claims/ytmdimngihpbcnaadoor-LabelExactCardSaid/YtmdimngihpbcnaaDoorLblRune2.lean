/-
  The reader of one rune of 2 bytes, walked, each way by itself. No condition but those that each fact names.
-/
import Derived.Test.YtmdimngihpbcnaaDoorLblRune
namespace Go.Proofs.YtmdimngihpbcnaaDoor.lbl
open Go.RowKit Go.Lib

set_option maxHeartbeats 1000000 in
set_option maxRecDepth 100000 in
theorem r2_short (t : ByteArray) (w : World) (hm : t.size ≤ maxLen) (D : Int × Int) (h0 : 0 < t.size) (hn : t.size < 2) (ha : 192 ≤ t[0].toNat) (hb : t[0].toNat < 224) (hD : D = ((0 : Int), 0)) :
    Calls Tryd.prog 22 #[.string t] w (OneEnd D w) := by
  unfold maxLen at hm
  have ia : ¬ ((t[0].toNat : Int) < 128) := by omega
  have ib : (192 : Int) ≤ (t[0].toNat : Int) := by omega
  have ic : (t[0].toNat : Int) < 224 := by omega
  have hn' : (t.size : Int) < 2 := by omega
  have HD := Lib.hid hD
  clear hD
  go_enter Tryd.func22, Tryd.ntmps22
  go_wp2
  go_ret2
  exact one_end HD.out

set_option maxHeartbeats 1000000 in
set_option maxRecDepth 100000 in
theorem r2_lo1 (t : ByteArray) (w : World) (hm : t.size ≤ maxLen) (D : Int × Int) (h0 : 0 < t.size) (h1 : 1 < t.size) (ha : 192 ≤ t[0].toNat) (hb : t[0].toNat < 224)  (x : t[1].toNat < 128) (hD : D = ((0 : Int), 0)) :
    Calls Tryd.prog 22 #[.string t] w (OneEnd D w) := by
  unfold maxLen at hm
  have ia : ¬ ((t[0].toNat : Int) < 128) := by omega
  have ib : (192 : Int) ≤ (t[0].toNat : Int) := by omega
  have ic : (t[0].toNat : Int) < 224 := by omega
  have hn' : ¬ ((t.size : Int) < 2) := by omega
  have xi : (t[1].toNat : Int) < 128 := by omega
  have HD := Lib.hid hD
  clear hD
  go_enter Tryd.func22, Tryd.ntmps22
  go_wp2
  refine wp_loop_rounds 1 ?_
  rw [rounds_succ]
  go_wp2
  go_ret2
  exact one_end HD.out

set_option maxHeartbeats 1000000 in
set_option maxRecDepth 100000 in
theorem r2_hi1 (t : ByteArray) (w : World) (hm : t.size ≤ maxLen) (D : Int × Int) (h0 : 0 < t.size) (h1 : 1 < t.size) (ha : 192 ≤ t[0].toNat) (hb : t[0].toNat < 224)  (x : 192 ≤ t[1].toNat) (hD : D = ((0 : Int), 0)) :
    Calls Tryd.prog 22 #[.string t] w (OneEnd D w) := by
  unfold maxLen at hm
  have ia : ¬ ((t[0].toNat : Int) < 128) := by omega
  have ib : (192 : Int) ≤ (t[0].toNat : Int) := by omega
  have ic : (t[0].toNat : Int) < 224 := by omega
  have hn' : ¬ ((t.size : Int) < 2) := by omega
  have zi : (t[1].toNat : Int) ≤ 255 := by have := t[1].toNat_lt; omega
  have xi : ¬ ((t[1].toNat : Int) < 128) := by omega
  have yi : (192 : Int) ≤ (t[1].toNat : Int) := by omega
  have HD := Lib.hid hD
  clear hD
  go_enter Tryd.func22, Tryd.ntmps22
  go_wp2
  refine wp_loop_rounds 1 ?_
  rw [rounds_succ]
  go_wp2
  go_ret2
  exact one_end HD.out

set_option maxHeartbeats 1000000 in
set_option maxRecDepth 100000 in
theorem r2_small (t : ByteArray) (w : World) (hm : t.size ≤ maxLen) (D : Int × Int) (h0 : 0 < t.size) (h1 : 1 < t.size) (ha : 192 ≤ t[0].toNat) (hb : t[0].toNat < 224) (c1 : 128 ≤ t[1].toNat) (d1 : t[1].toNat < 192) (x : 64 * ((t[0].toNat : Int) - 192) + (t[1].toNat : Int) - 128 < 128) (hD : D = ((0 : Int), 0)) :
    Calls Tryd.prog 22 #[.string t] w (OneEnd D w) := by
  unfold maxLen at hm
  have ia : ¬ ((t[0].toNat : Int) < 128) := by omega
  have ib : (192 : Int) ≤ (t[0].toNat : Int) := by omega
  have ic : (t[0].toNat : Int) < 224 := by omega
  have hn' : ¬ ((t.size : Int) < 2) := by omega
  have ci1 : ¬ ((t[1].toNat : Int) < 128) := by omega
  have di1 : ¬ ((192 : Int) ≤ (t[1].toNat : Int)) := by omega
  have HD := Lib.hid hD
  clear hD
  go_enter Tryd.func22, Tryd.ntmps22
  go_wp2
  refine wp_loop_rounds 2 ?_
  rw [rounds_succ]
  go_wp2
  rw [rounds_succ]
  go_wp2
  go_ret2
  exact one_end HD.out

set_option maxHeartbeats 1000000 in
set_option maxRecDepth 100000 in
theorem r2_ok (t : ByteArray) (w : World) (hm : t.size ≤ maxLen) (D : Int × Int) (h0 : 0 < t.size) (h1 : 1 < t.size) (ha : 192 ≤ t[0].toNat) (hb : t[0].toNat < 224) (c1 : 128 ≤ t[1].toNat) (d1 : t[1].toNat < 192) (x : ¬ (64 * ((t[0].toNat : Int) - 192) + (t[1].toNat : Int) - 128 < 128)) (y : ¬ (1114111 < 64 * ((t[0].toNat : Int) - 192) + (t[1].toNat : Int) - 128)) (z : ¬ (55296 ≤ 64 * ((t[0].toNat : Int) - 192) + (t[1].toNat : Int) - 128)) (hD : D = ((2 : Int), 64 * ((t[0].toNat : Int) - 192) + (t[1].toNat : Int) - 128)) :
    Calls Tryd.prog 22 #[.string t] w (OneEnd D w) := by
  unfold maxLen at hm
  have ia : ¬ ((t[0].toNat : Int) < 128) := by omega
  have ib : (192 : Int) ≤ (t[0].toNat : Int) := by omega
  have ic : (t[0].toNat : Int) < 224 := by omega
  have hn' : ¬ ((t.size : Int) < 2) := by omega
  have ci1 : ¬ ((t[1].toNat : Int) < 128) := by omega
  have di1 : ¬ ((192 : Int) ≤ (t[1].toNat : Int)) := by omega
  have HD := Lib.hid hD
  clear hD
  go_enter Tryd.func22, Tryd.ntmps22
  go_wp2
  refine wp_loop_rounds 2 ?_
  rw [rounds_succ]
  go_wp2
  rw [rounds_succ]
  go_wp2
  go_ret2
  exact one_end HD.out

end Go.Proofs.YtmdimngihpbcnaaDoor.lbl
