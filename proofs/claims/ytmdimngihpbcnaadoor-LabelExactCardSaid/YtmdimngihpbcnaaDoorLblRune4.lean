/-
  The reader of one rune of 4 bytes, walked, each way by itself. No condition but those that each fact names.
-/
import Derived.Test.YtmdimngihpbcnaaDoorLblRune
namespace Go.Proofs.YtmdimngihpbcnaaDoor.lbl
open Go.RowKit Go.Lib

set_option maxHeartbeats 1000000 in
set_option maxRecDepth 100000 in
theorem r4_short (t : ByteArray) (w : World) (hm : t.size ≤ maxLen) (D : Int × Int) (h0 : 0 < t.size) (hn : t.size < 4) (ha : 240 ≤ t[0].toNat) (hb : t[0].toNat < 248) (hD : D = ((0 : Int), 0)) :
    Calls Tryd.prog 22 #[.string t] w (OneEnd D w) := by
  unfold maxLen at hm
  have ia : ¬ ((t[0].toNat : Int) < 128) := by omega
  have ib : (240 : Int) ≤ (t[0].toNat : Int) := by omega
  have ic : (t[0].toNat : Int) < 248 := by omega
  have id : (192 : Int) ≤ (t[0].toNat : Int) := by omega
  have ie : ¬ ((t[0].toNat : Int) < 224) := by omega
  have ig : (224 : Int) ≤ (t[0].toNat : Int) := by omega
  have ih : ¬ ((t[0].toNat : Int) < 240) := by omega
  have hn' : (t.size : Int) < 4 := by omega
  have HD := Lib.hid hD
  clear hD
  go_enter Tryd.func22, Tryd.ntmps22
  go_wp2
  go_ret2
  exact one_end HD.out

set_option maxHeartbeats 1000000 in
set_option maxRecDepth 100000 in
theorem r4_lo1 (t : ByteArray) (w : World) (hm : t.size ≤ maxLen) (D : Int × Int) (h0 : 0 < t.size) (h1 : 1 < t.size) (h2 : 2 < t.size) (h3 : 3 < t.size) (ha : 240 ≤ t[0].toNat) (hb : t[0].toNat < 248)  (x : t[1].toNat < 128) (hD : D = ((0 : Int), 0)) :
    Calls Tryd.prog 22 #[.string t] w (OneEnd D w) := by
  unfold maxLen at hm
  have ia : ¬ ((t[0].toNat : Int) < 128) := by omega
  have ib : (240 : Int) ≤ (t[0].toNat : Int) := by omega
  have ic : (t[0].toNat : Int) < 248 := by omega
  have id : (192 : Int) ≤ (t[0].toNat : Int) := by omega
  have ie : ¬ ((t[0].toNat : Int) < 224) := by omega
  have ig : (224 : Int) ≤ (t[0].toNat : Int) := by omega
  have ih : ¬ ((t[0].toNat : Int) < 240) := by omega
  have hn' : ¬ ((t.size : Int) < 4) := by omega
  have xi : (t[1].toNat : Int) < 128 := by omega
  have HD := Lib.hid hD
  clear hD
  go_enter Tryd.func22, Tryd.ntmps22
  go_wp2
  refine wp_loop_rounds 1 ?_
  rw [rounds_succ]
  go_wp2
  go_ret2
  exact one_end HD.out

set_option maxHeartbeats 1000000 in
set_option maxRecDepth 100000 in
theorem r4_hi1 (t : ByteArray) (w : World) (hm : t.size ≤ maxLen) (D : Int × Int) (h0 : 0 < t.size) (h1 : 1 < t.size) (h2 : 2 < t.size) (h3 : 3 < t.size) (ha : 240 ≤ t[0].toNat) (hb : t[0].toNat < 248)  (x : 192 ≤ t[1].toNat) (hD : D = ((0 : Int), 0)) :
    Calls Tryd.prog 22 #[.string t] w (OneEnd D w) := by
  unfold maxLen at hm
  have ia : ¬ ((t[0].toNat : Int) < 128) := by omega
  have ib : (240 : Int) ≤ (t[0].toNat : Int) := by omega
  have ic : (t[0].toNat : Int) < 248 := by omega
  have id : (192 : Int) ≤ (t[0].toNat : Int) := by omega
  have ie : ¬ ((t[0].toNat : Int) < 224) := by omega
  have ig : (224 : Int) ≤ (t[0].toNat : Int) := by omega
  have ih : ¬ ((t[0].toNat : Int) < 240) := by omega
  have hn' : ¬ ((t.size : Int) < 4) := by omega
  have zi : (t[1].toNat : Int) ≤ 255 := by have := t[1].toNat_lt; omega
  have xi : ¬ ((t[1].toNat : Int) < 128) := by omega
  have yi : (192 : Int) ≤ (t[1].toNat : Int) := by omega
  have HD := Lib.hid hD
  clear hD
  go_enter Tryd.func22, Tryd.ntmps22
  go_wp2
  refine wp_loop_rounds 1 ?_
  rw [rounds_succ]
  go_wp2
  go_ret2
  exact one_end HD.out

set_option maxHeartbeats 1000000 in
set_option maxRecDepth 100000 in
theorem r4_lo2 (t : ByteArray) (w : World) (hm : t.size ≤ maxLen) (D : Int × Int) (h0 : 0 < t.size) (h1 : 1 < t.size) (h2 : 2 < t.size) (h3 : 3 < t.size) (ha : 240 ≤ t[0].toNat) (hb : t[0].toNat < 248) (c1 : 128 ≤ t[1].toNat) (d1 : t[1].toNat < 192) (x : t[2].toNat < 128) (hD : D = ((0 : Int), 0)) :
    Calls Tryd.prog 22 #[.string t] w (OneEnd D w) := by
  unfold maxLen at hm
  have ia : ¬ ((t[0].toNat : Int) < 128) := by omega
  have ib : (240 : Int) ≤ (t[0].toNat : Int) := by omega
  have ic : (t[0].toNat : Int) < 248 := by omega
  have id : (192 : Int) ≤ (t[0].toNat : Int) := by omega
  have ie : ¬ ((t[0].toNat : Int) < 224) := by omega
  have ig : (224 : Int) ≤ (t[0].toNat : Int) := by omega
  have ih : ¬ ((t[0].toNat : Int) < 240) := by omega
  have hn' : ¬ ((t.size : Int) < 4) := by omega
  have ci1 : ¬ ((t[1].toNat : Int) < 128) := by omega
  have di1 : ¬ ((192 : Int) ≤ (t[1].toNat : Int)) := by omega
  have xi : (t[2].toNat : Int) < 128 := by omega
  have HD := Lib.hid hD
  clear hD
  go_enter Tryd.func22, Tryd.ntmps22
  go_wp2
  refine wp_loop_rounds 2 ?_
  rw [rounds_succ]
  go_wp2
  rw [rounds_succ]
  go_wp2
  go_ret2
  exact one_end HD.out

set_option maxHeartbeats 1000000 in
set_option maxRecDepth 100000 in
theorem r4_hi2 (t : ByteArray) (w : World) (hm : t.size ≤ maxLen) (D : Int × Int) (h0 : 0 < t.size) (h1 : 1 < t.size) (h2 : 2 < t.size) (h3 : 3 < t.size) (ha : 240 ≤ t[0].toNat) (hb : t[0].toNat < 248) (c1 : 128 ≤ t[1].toNat) (d1 : t[1].toNat < 192) (x : 192 ≤ t[2].toNat) (hD : D = ((0 : Int), 0)) :
    Calls Tryd.prog 22 #[.string t] w (OneEnd D w) := by
  unfold maxLen at hm
  have ia : ¬ ((t[0].toNat : Int) < 128) := by omega
  have ib : (240 : Int) ≤ (t[0].toNat : Int) := by omega
  have ic : (t[0].toNat : Int) < 248 := by omega
  have id : (192 : Int) ≤ (t[0].toNat : Int) := by omega
  have ie : ¬ ((t[0].toNat : Int) < 224) := by omega
  have ig : (224 : Int) ≤ (t[0].toNat : Int) := by omega
  have ih : ¬ ((t[0].toNat : Int) < 240) := by omega
  have hn' : ¬ ((t.size : Int) < 4) := by omega
  have ci1 : ¬ ((t[1].toNat : Int) < 128) := by omega
  have di1 : ¬ ((192 : Int) ≤ (t[1].toNat : Int)) := by omega
  have zi : (t[2].toNat : Int) ≤ 255 := by have := t[2].toNat_lt; omega
  have xi : ¬ ((t[2].toNat : Int) < 128) := by omega
  have yi : (192 : Int) ≤ (t[2].toNat : Int) := by omega
  have HD := Lib.hid hD
  clear hD
  go_enter Tryd.func22, Tryd.ntmps22
  go_wp2
  refine wp_loop_rounds 2 ?_
  rw [rounds_succ]
  go_wp2
  rw [rounds_succ]
  go_wp2
  go_ret2
  exact one_end HD.out

set_option maxHeartbeats 1000000 in
set_option maxRecDepth 100000 in
theorem r4_lo3 (t : ByteArray) (w : World) (hm : t.size ≤ maxLen) (D : Int × Int) (h0 : 0 < t.size) (h1 : 1 < t.size) (h2 : 2 < t.size) (h3 : 3 < t.size) (ha : 240 ≤ t[0].toNat) (hb : t[0].toNat < 248) (c1 : 128 ≤ t[1].toNat) (d1 : t[1].toNat < 192) (c2 : 128 ≤ t[2].toNat) (d2 : t[2].toNat < 192) (x : t[3].toNat < 128) (hD : D = ((0 : Int), 0)) :
    Calls Tryd.prog 22 #[.string t] w (OneEnd D w) := by
  unfold maxLen at hm
  have ia : ¬ ((t[0].toNat : Int) < 128) := by omega
  have ib : (240 : Int) ≤ (t[0].toNat : Int) := by omega
  have ic : (t[0].toNat : Int) < 248 := by omega
  have id : (192 : Int) ≤ (t[0].toNat : Int) := by omega
  have ie : ¬ ((t[0].toNat : Int) < 224) := by omega
  have ig : (224 : Int) ≤ (t[0].toNat : Int) := by omega
  have ih : ¬ ((t[0].toNat : Int) < 240) := by omega
  have hn' : ¬ ((t.size : Int) < 4) := by omega
  have ci1 : ¬ ((t[1].toNat : Int) < 128) := by omega
  have ci2 : ¬ ((t[2].toNat : Int) < 128) := by omega
  have di1 : ¬ ((192 : Int) ≤ (t[1].toNat : Int)) := by omega
  have di2 : ¬ ((192 : Int) ≤ (t[2].toNat : Int)) := by omega
  have xi : (t[3].toNat : Int) < 128 := by omega
  have HD := Lib.hid hD
  clear hD
  go_enter Tryd.func22, Tryd.ntmps22
  go_wp2
  refine wp_loop_rounds 3 ?_
  rw [rounds_succ]
  go_wp2
  rw [rounds_succ]
  go_wp2
  rw [rounds_succ]
  go_wp2
  go_ret2
  exact one_end HD.out

set_option maxHeartbeats 1000000 in
set_option maxRecDepth 100000 in
theorem r4_hi3 (t : ByteArray) (w : World) (hm : t.size ≤ maxLen) (D : Int × Int) (h0 : 0 < t.size) (h1 : 1 < t.size) (h2 : 2 < t.size) (h3 : 3 < t.size) (ha : 240 ≤ t[0].toNat) (hb : t[0].toNat < 248) (c1 : 128 ≤ t[1].toNat) (d1 : t[1].toNat < 192) (c2 : 128 ≤ t[2].toNat) (d2 : t[2].toNat < 192) (x : 192 ≤ t[3].toNat) (hD : D = ((0 : Int), 0)) :
    Calls Tryd.prog 22 #[.string t] w (OneEnd D w) := by
  unfold maxLen at hm
  have ia : ¬ ((t[0].toNat : Int) < 128) := by omega
  have ib : (240 : Int) ≤ (t[0].toNat : Int) := by omega
  have ic : (t[0].toNat : Int) < 248 := by omega
  have id : (192 : Int) ≤ (t[0].toNat : Int) := by omega
  have ie : ¬ ((t[0].toNat : Int) < 224) := by omega
  have ig : (224 : Int) ≤ (t[0].toNat : Int) := by omega
  have ih : ¬ ((t[0].toNat : Int) < 240) := by omega
  have hn' : ¬ ((t.size : Int) < 4) := by omega
  have ci1 : ¬ ((t[1].toNat : Int) < 128) := by omega
  have ci2 : ¬ ((t[2].toNat : Int) < 128) := by omega
  have di1 : ¬ ((192 : Int) ≤ (t[1].toNat : Int)) := by omega
  have di2 : ¬ ((192 : Int) ≤ (t[2].toNat : Int)) := by omega
  have zi : (t[3].toNat : Int) ≤ 255 := by have := t[3].toNat_lt; omega
  have xi : ¬ ((t[3].toNat : Int) < 128) := by omega
  have yi : (192 : Int) ≤ (t[3].toNat : Int) := by omega
  have HD := Lib.hid hD
  clear hD
  go_enter Tryd.func22, Tryd.ntmps22
  go_wp2
  refine wp_loop_rounds 3 ?_
  rw [rounds_succ]
  go_wp2
  rw [rounds_succ]
  go_wp2
  rw [rounds_succ]
  go_wp2
  go_ret2
  exact one_end HD.out

set_option maxHeartbeats 1000000 in
set_option maxRecDepth 100000 in
theorem r4_small (t : ByteArray) (w : World) (hm : t.size ≤ maxLen) (D : Int × Int) (h0 : 0 < t.size) (h1 : 1 < t.size) (h2 : 2 < t.size) (h3 : 3 < t.size) (ha : 240 ≤ t[0].toNat) (hb : t[0].toNat < 248) (c1 : 128 ≤ t[1].toNat) (d1 : t[1].toNat < 192) (c2 : 128 ≤ t[2].toNat) (d2 : t[2].toNat < 192) (c3 : 128 ≤ t[3].toNat) (d3 : t[3].toNat < 192) (x : 64 * (64 * (64 * ((t[0].toNat : Int) - 240) + (t[1].toNat : Int) - 128) + (t[2].toNat : Int) - 128) + (t[3].toNat : Int) - 128 < 65536) (hD : D = ((0 : Int), 0)) :
    Calls Tryd.prog 22 #[.string t] w (OneEnd D w) := by
  unfold maxLen at hm
  have ia : ¬ ((t[0].toNat : Int) < 128) := by omega
  have ib : (240 : Int) ≤ (t[0].toNat : Int) := by omega
  have ic : (t[0].toNat : Int) < 248 := by omega
  have id : (192 : Int) ≤ (t[0].toNat : Int) := by omega
  have ie : ¬ ((t[0].toNat : Int) < 224) := by omega
  have ig : (224 : Int) ≤ (t[0].toNat : Int) := by omega
  have ih : ¬ ((t[0].toNat : Int) < 240) := by omega
  have hn' : ¬ ((t.size : Int) < 4) := by omega
  have ci1 : ¬ ((t[1].toNat : Int) < 128) := by omega
  have ci2 : ¬ ((t[2].toNat : Int) < 128) := by omega
  have ci3 : ¬ ((t[3].toNat : Int) < 128) := by omega
  have di1 : ¬ ((192 : Int) ≤ (t[1].toNat : Int)) := by omega
  have di2 : ¬ ((192 : Int) ≤ (t[2].toNat : Int)) := by omega
  have di3 : ¬ ((192 : Int) ≤ (t[3].toNat : Int)) := by omega
  have HD := Lib.hid hD
  clear hD
  go_enter Tryd.func22, Tryd.ntmps22
  go_wp2
  refine wp_loop_rounds 4 ?_
  rw [rounds_succ]
  go_wp2
  rw [rounds_succ]
  go_wp2
  rw [rounds_succ]
  go_wp2
  rw [rounds_succ]
  go_wp2
  go_ret2
  exact one_end HD.out

set_option maxHeartbeats 1000000 in
set_option maxRecDepth 100000 in
theorem r4_big (t : ByteArray) (w : World) (hm : t.size ≤ maxLen) (D : Int × Int) (h0 : 0 < t.size) (h1 : 1 < t.size) (h2 : 2 < t.size) (h3 : 3 < t.size) (ha : 240 ≤ t[0].toNat) (hb : t[0].toNat < 248) (c1 : 128 ≤ t[1].toNat) (d1 : t[1].toNat < 192) (c2 : 128 ≤ t[2].toNat) (d2 : t[2].toNat < 192) (c3 : 128 ≤ t[3].toNat) (d3 : t[3].toNat < 192) (x : ¬ (64 * (64 * (64 * ((t[0].toNat : Int) - 240) + (t[1].toNat : Int) - 128) + (t[2].toNat : Int) - 128) + (t[3].toNat : Int) - 128 < 65536)) (y : 1114111 < 64 * (64 * (64 * ((t[0].toNat : Int) - 240) + (t[1].toNat : Int) - 128) + (t[2].toNat : Int) - 128) + (t[3].toNat : Int) - 128) (hD : D = ((0 : Int), 0)) :
    Calls Tryd.prog 22 #[.string t] w (OneEnd D w) := by
  unfold maxLen at hm
  have ia : ¬ ((t[0].toNat : Int) < 128) := by omega
  have ib : (240 : Int) ≤ (t[0].toNat : Int) := by omega
  have ic : (t[0].toNat : Int) < 248 := by omega
  have id : (192 : Int) ≤ (t[0].toNat : Int) := by omega
  have ie : ¬ ((t[0].toNat : Int) < 224) := by omega
  have ig : (224 : Int) ≤ (t[0].toNat : Int) := by omega
  have ih : ¬ ((t[0].toNat : Int) < 240) := by omega
  have hn' : ¬ ((t.size : Int) < 4) := by omega
  have ci1 : ¬ ((t[1].toNat : Int) < 128) := by omega
  have ci2 : ¬ ((t[2].toNat : Int) < 128) := by omega
  have ci3 : ¬ ((t[3].toNat : Int) < 128) := by omega
  have di1 : ¬ ((192 : Int) ≤ (t[1].toNat : Int)) := by omega
  have di2 : ¬ ((192 : Int) ≤ (t[2].toNat : Int)) := by omega
  have di3 : ¬ ((192 : Int) ≤ (t[3].toNat : Int)) := by omega
  have HD := Lib.hid hD
  clear hD
  go_enter Tryd.func22, Tryd.ntmps22
  go_wp2
  refine wp_loop_rounds 4 ?_
  rw [rounds_succ]
  go_wp2
  rw [rounds_succ]
  go_wp2
  rw [rounds_succ]
  go_wp2
  rw [rounds_succ]
  go_wp2
  go_ret2
  exact one_end HD.out

set_option maxHeartbeats 1000000 in
set_option maxRecDepth 100000 in
theorem r4_ok (t : ByteArray) (w : World) (hm : t.size ≤ maxLen) (D : Int × Int) (h0 : 0 < t.size) (h1 : 1 < t.size) (h2 : 2 < t.size) (h3 : 3 < t.size) (ha : 240 ≤ t[0].toNat) (hb : t[0].toNat < 248) (c1 : 128 ≤ t[1].toNat) (d1 : t[1].toNat < 192) (c2 : 128 ≤ t[2].toNat) (d2 : t[2].toNat < 192) (c3 : 128 ≤ t[3].toNat) (d3 : t[3].toNat < 192) (x : ¬ (64 * (64 * (64 * ((t[0].toNat : Int) - 240) + (t[1].toNat : Int) - 128) + (t[2].toNat : Int) - 128) + (t[3].toNat : Int) - 128 < 65536)) (y : ¬ (1114111 < 64 * (64 * (64 * ((t[0].toNat : Int) - 240) + (t[1].toNat : Int) - 128) + (t[2].toNat : Int) - 128) + (t[3].toNat : Int) - 128)) (hD : D = ((4 : Int), 64 * (64 * (64 * ((t[0].toNat : Int) - 240) + (t[1].toNat : Int) - 128) + (t[2].toNat : Int) - 128) + (t[3].toNat : Int) - 128)) :
    Calls Tryd.prog 22 #[.string t] w (OneEnd D w) := by
  unfold maxLen at hm
  have ia : ¬ ((t[0].toNat : Int) < 128) := by omega
  have ib : (240 : Int) ≤ (t[0].toNat : Int) := by omega
  have ic : (t[0].toNat : Int) < 248 := by omega
  have id : (192 : Int) ≤ (t[0].toNat : Int) := by omega
  have ie : ¬ ((t[0].toNat : Int) < 224) := by omega
  have ig : (224 : Int) ≤ (t[0].toNat : Int) := by omega
  have ih : ¬ ((t[0].toNat : Int) < 240) := by omega
  have hn' : ¬ ((t.size : Int) < 4) := by omega
  have ci1 : ¬ ((t[1].toNat : Int) < 128) := by omega
  have ci2 : ¬ ((t[2].toNat : Int) < 128) := by omega
  have ci3 : ¬ ((t[3].toNat : Int) < 128) := by omega
  have di1 : ¬ ((192 : Int) ≤ (t[1].toNat : Int)) := by omega
  have di2 : ¬ ((192 : Int) ≤ (t[2].toNat : Int)) := by omega
  have di3 : ¬ ((192 : Int) ≤ (t[3].toNat : Int)) := by omega
  have HD := Lib.hid hD
  clear hD
  go_enter Tryd.func22, Tryd.ntmps22
  go_wp2
  refine wp_loop_rounds 4 ?_
  rw [rounds_succ]
  go_wp2
  rw [rounds_succ]
  go_wp2
  rw [rounds_succ]
  go_wp2
  rw [rounds_succ]
  go_wp2
  go_ret2
  exact one_end HD.out

end Go.Proofs.YtmdimngihpbcnaaDoor.lbl
