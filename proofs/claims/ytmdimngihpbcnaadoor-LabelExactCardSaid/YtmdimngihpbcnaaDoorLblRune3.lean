/-
  The reader of one rune of 3 bytes, walked, each way by itself. No condition but those that each fact names.
-/
import Derived.Test.YtmdimngihpbcnaaDoorLblRune
namespace Go.Proofs.YtmdimngihpbcnaaDoor.lbl
open Go.RowKit Go.Lib

set_option maxHeartbeats 1000000 in
set_option maxRecDepth 100000 in
theorem r3_short (t : ByteArray) (w : World) (hm : t.size ≤ maxLen) (D : Int × Int) (h0 : 0 < t.size) (hn : t.size < 3) (ha : 224 ≤ t[0].toNat) (hb : t[0].toNat < 240) (hD : D = ((0 : Int), 0)) :
    Calls Tryd.prog 22 #[.string t] w (OneEnd D w) := by
  unfold maxLen at hm
  have ia : ¬ ((t[0].toNat : Int) < 128) := by omega
  have ib : (224 : Int) ≤ (t[0].toNat : Int) := by omega
  have ic : (t[0].toNat : Int) < 240 := by omega
  have id : (192 : Int) ≤ (t[0].toNat : Int) := by omega
  have ie : ¬ ((t[0].toNat : Int) < 224) := by omega
  have hn' : (t.size : Int) < 3 := by omega
  have HD := Lib.hid hD
  clear hD
  go_enter Tryd.func22, Tryd.ntmps22
  go_wp2
  go_ret2
  exact one_end HD.out

set_option maxHeartbeats 1000000 in
set_option maxRecDepth 100000 in
theorem r3_lo1 (t : ByteArray) (w : World) (hm : t.size ≤ maxLen) (D : Int × Int) (h0 : 0 < t.size) (h1 : 1 < t.size) (h2 : 2 < t.size) (ha : 224 ≤ t[0].toNat) (hb : t[0].toNat < 240)  (x : t[1].toNat < 128) (hD : D = ((0 : Int), 0)) :
    Calls Tryd.prog 22 #[.string t] w (OneEnd D w) := by
  unfold maxLen at hm
  have ia : ¬ ((t[0].toNat : Int) < 128) := by omega
  have ib : (224 : Int) ≤ (t[0].toNat : Int) := by omega
  have ic : (t[0].toNat : Int) < 240 := by omega
  have id : (192 : Int) ≤ (t[0].toNat : Int) := by omega
  have ie : ¬ ((t[0].toNat : Int) < 224) := by omega
  have hn' : ¬ ((t.size : Int) < 3) := by omega
  have xi : (t[1].toNat : Int) < 128 := by omega
  have HD := Lib.hid hD
  clear hD
  go_enter Tryd.func22, Tryd.ntmps22
  go_wp2
  refine wp_loop_rounds 1 ?_
  rw [rounds_succ]
  go_wp2
  go_ret2
  exact one_end HD.out

set_option maxHeartbeats 1000000 in
set_option maxRecDepth 100000 in
theorem r3_hi1 (t : ByteArray) (w : World) (hm : t.size ≤ maxLen) (D : Int × Int) (h0 : 0 < t.size) (h1 : 1 < t.size) (h2 : 2 < t.size) (ha : 224 ≤ t[0].toNat) (hb : t[0].toNat < 240)  (x : 192 ≤ t[1].toNat) (hD : D = ((0 : Int), 0)) :
    Calls Tryd.prog 22 #[.string t] w (OneEnd D w) := by
  unfold maxLen at hm
  have ia : ¬ ((t[0].toNat : Int) < 128) := by omega
  have ib : (224 : Int) ≤ (t[0].toNat : Int) := by omega
  have ic : (t[0].toNat : Int) < 240 := by omega
  have id : (192 : Int) ≤ (t[0].toNat : Int) := by omega
  have ie : ¬ ((t[0].toNat : Int) < 224) := by omega
  have hn' : ¬ ((t.size : Int) < 3) := by omega
  have zi : (t[1].toNat : Int) ≤ 255 := by have := t[1].toNat_lt; omega
  have xi : ¬ ((t[1].toNat : Int) < 128) := by omega
  have yi : (192 : Int) ≤ (t[1].toNat : Int) := by omega
  have HD := Lib.hid hD
  clear hD
  go_enter Tryd.func22, Tryd.ntmps22
  go_wp2
  refine wp_loop_rounds 1 ?_
  rw [rounds_succ]
  go_wp2
  go_ret2
  exact one_end HD.out

set_option maxHeartbeats 1000000 in
set_option maxRecDepth 100000 in
theorem r3_lo2 (t : ByteArray) (w : World) (hm : t.size ≤ maxLen) (D : Int × Int) (h0 : 0 < t.size) (h1 : 1 < t.size) (h2 : 2 < t.size) (ha : 224 ≤ t[0].toNat) (hb : t[0].toNat < 240) (c1 : 128 ≤ t[1].toNat) (d1 : t[1].toNat < 192) (x : t[2].toNat < 128) (hD : D = ((0 : Int), 0)) :
    Calls Tryd.prog 22 #[.string t] w (OneEnd D w) := by
  unfold maxLen at hm
  have ia : ¬ ((t[0].toNat : Int) < 128) := by omega
  have ib : (224 : Int) ≤ (t[0].toNat : Int) := by omega
  have ic : (t[0].toNat : Int) < 240 := by omega
  have id : (192 : Int) ≤ (t[0].toNat : Int) := by omega
  have ie : ¬ ((t[0].toNat : Int) < 224) := by omega
  have hn' : ¬ ((t.size : Int) < 3) := by omega
  have ci1 : ¬ ((t[1].toNat : Int) < 128) := by omega
  have di1 : ¬ ((192 : Int) ≤ (t[1].toNat : Int)) := by omega
  have xi : (t[2].toNat : Int) < 128 := by omega
  have HD := Lib.hid hD
  clear hD
  go_enter Tryd.func22, Tryd.ntmps22
  go_wp2
  refine wp_loop_rounds 2 ?_
  rw [rounds_succ]
  go_wp2
  rw [rounds_succ]
  go_wp2
  go_ret2
  exact one_end HD.out

set_option maxHeartbeats 1000000 in
set_option maxRecDepth 100000 in
theorem r3_hi2 (t : ByteArray) (w : World) (hm : t.size ≤ maxLen) (D : Int × Int) (h0 : 0 < t.size) (h1 : 1 < t.size) (h2 : 2 < t.size) (ha : 224 ≤ t[0].toNat) (hb : t[0].toNat < 240) (c1 : 128 ≤ t[1].toNat) (d1 : t[1].toNat < 192) (x : 192 ≤ t[2].toNat) (hD : D = ((0 : Int), 0)) :
    Calls Tryd.prog 22 #[.string t] w (OneEnd D w) := by
  unfold maxLen at hm
  have ia : ¬ ((t[0].toNat : Int) < 128) := by omega
  have ib : (224 : Int) ≤ (t[0].toNat : Int) := by omega
  have ic : (t[0].toNat : Int) < 240 := by omega
  have id : (192 : Int) ≤ (t[0].toNat : Int) := by omega
  have ie : ¬ ((t[0].toNat : Int) < 224) := by omega
  have hn' : ¬ ((t.size : Int) < 3) := by omega
  have ci1 : ¬ ((t[1].toNat : Int) < 128) := by omega
  have di1 : ¬ ((192 : Int) ≤ (t[1].toNat : Int)) := by omega
  have zi : (t[2].toNat : Int) ≤ 255 := by have := t[2].toNat_lt; omega
  have xi : ¬ ((t[2].toNat : Int) < 128) := by omega
  have yi : (192 : Int) ≤ (t[2].toNat : Int) := by omega
  have HD := Lib.hid hD
  clear hD
  go_enter Tryd.func22, Tryd.ntmps22
  go_wp2
  refine wp_loop_rounds 2 ?_
  rw [rounds_succ]
  go_wp2
  rw [rounds_succ]
  go_wp2
  go_ret2
  exact one_end HD.out

set_option maxHeartbeats 1000000 in
set_option maxRecDepth 100000 in
theorem r3_small (t : ByteArray) (w : World) (hm : t.size ≤ maxLen) (D : Int × Int) (h0 : 0 < t.size) (h1 : 1 < t.size) (h2 : 2 < t.size) (ha : 224 ≤ t[0].toNat) (hb : t[0].toNat < 240) (c1 : 128 ≤ t[1].toNat) (d1 : t[1].toNat < 192) (c2 : 128 ≤ t[2].toNat) (d2 : t[2].toNat < 192) (x : 64 * (64 * ((t[0].toNat : Int) - 224) + (t[1].toNat : Int) - 128) + (t[2].toNat : Int) - 128 < 2048) (hD : D = ((0 : Int), 0)) :
    Calls Tryd.prog 22 #[.string t] w (OneEnd D w) := by
  unfold maxLen at hm
  have ia : ¬ ((t[0].toNat : Int) < 128) := by omega
  have ib : (224 : Int) ≤ (t[0].toNat : Int) := by omega
  have ic : (t[0].toNat : Int) < 240 := by omega
  have id : (192 : Int) ≤ (t[0].toNat : Int) := by omega
  have ie : ¬ ((t[0].toNat : Int) < 224) := by omega
  have hn' : ¬ ((t.size : Int) < 3) := by omega
  have ci1 : ¬ ((t[1].toNat : Int) < 128) := by omega
  have ci2 : ¬ ((t[2].toNat : Int) < 128) := by omega
  have di1 : ¬ ((192 : Int) ≤ (t[1].toNat : Int)) := by omega
  have di2 : ¬ ((192 : Int) ≤ (t[2].toNat : Int)) := by omega
  have HD := Lib.hid hD
  clear hD
  go_enter Tryd.func22, Tryd.ntmps22
  go_wp2
  refine wp_loop_rounds 3 ?_
  rw [rounds_succ]
  go_wp2
  rw [rounds_succ]
  go_wp2
  rw [rounds_succ]
  go_wp2
  go_ret2
  exact one_end HD.out

set_option maxHeartbeats 1000000 in
set_option maxRecDepth 100000 in
theorem r3_sur (t : ByteArray) (w : World) (hm : t.size ≤ maxLen) (D : Int × Int) (h0 : 0 < t.size) (h1 : 1 < t.size) (h2 : 2 < t.size) (ha : 224 ≤ t[0].toNat) (hb : t[0].toNat < 240) (c1 : 128 ≤ t[1].toNat) (d1 : t[1].toNat < 192) (c2 : 128 ≤ t[2].toNat) (d2 : t[2].toNat < 192) (x : ¬ (64 * (64 * ((t[0].toNat : Int) - 224) + (t[1].toNat : Int) - 128) + (t[2].toNat : Int) - 128 < 2048)) (y : ¬ (1114111 < 64 * (64 * ((t[0].toNat : Int) - 224) + (t[1].toNat : Int) - 128) + (t[2].toNat : Int) - 128)) (z : 55296 ≤ 64 * (64 * ((t[0].toNat : Int) - 224) + (t[1].toNat : Int) - 128) + (t[2].toNat : Int) - 128) (u : 64 * (64 * ((t[0].toNat : Int) - 224) + (t[1].toNat : Int) - 128) + (t[2].toNat : Int) - 128 < 57344) (hD : D = ((0 : Int), 0)) :
    Calls Tryd.prog 22 #[.string t] w (OneEnd D w) := by
  unfold maxLen at hm
  have ia : ¬ ((t[0].toNat : Int) < 128) := by omega
  have ib : (224 : Int) ≤ (t[0].toNat : Int) := by omega
  have ic : (t[0].toNat : Int) < 240 := by omega
  have id : (192 : Int) ≤ (t[0].toNat : Int) := by omega
  have ie : ¬ ((t[0].toNat : Int) < 224) := by omega
  have hn' : ¬ ((t.size : Int) < 3) := by omega
  have ci1 : ¬ ((t[1].toNat : Int) < 128) := by omega
  have ci2 : ¬ ((t[2].toNat : Int) < 128) := by omega
  have di1 : ¬ ((192 : Int) ≤ (t[1].toNat : Int)) := by omega
  have di2 : ¬ ((192 : Int) ≤ (t[2].toNat : Int)) := by omega
  have HD := Lib.hid hD
  clear hD
  go_enter Tryd.func22, Tryd.ntmps22
  go_wp2
  refine wp_loop_rounds 3 ?_
  rw [rounds_succ]
  go_wp2
  rw [rounds_succ]
  go_wp2
  rw [rounds_succ]
  go_wp2
  go_ret2
  exact one_end HD.out

set_option maxHeartbeats 1000000 in
set_option maxRecDepth 100000 in
theorem r3_ok1 (t : ByteArray) (w : World) (hm : t.size ≤ maxLen) (D : Int × Int) (h0 : 0 < t.size) (h1 : 1 < t.size) (h2 : 2 < t.size) (ha : 224 ≤ t[0].toNat) (hb : t[0].toNat < 240) (c1 : 128 ≤ t[1].toNat) (d1 : t[1].toNat < 192) (c2 : 128 ≤ t[2].toNat) (d2 : t[2].toNat < 192) (x : ¬ (64 * (64 * ((t[0].toNat : Int) - 224) + (t[1].toNat : Int) - 128) + (t[2].toNat : Int) - 128 < 2048)) (y : ¬ (1114111 < 64 * (64 * ((t[0].toNat : Int) - 224) + (t[1].toNat : Int) - 128) + (t[2].toNat : Int) - 128)) (z : ¬ (55296 ≤ 64 * (64 * ((t[0].toNat : Int) - 224) + (t[1].toNat : Int) - 128) + (t[2].toNat : Int) - 128)) (hD : D = ((3 : Int), 64 * (64 * ((t[0].toNat : Int) - 224) + (t[1].toNat : Int) - 128) + (t[2].toNat : Int) - 128)) :
    Calls Tryd.prog 22 #[.string t] w (OneEnd D w) := by
  unfold maxLen at hm
  have ia : ¬ ((t[0].toNat : Int) < 128) := by omega
  have ib : (224 : Int) ≤ (t[0].toNat : Int) := by omega
  have ic : (t[0].toNat : Int) < 240 := by omega
  have id : (192 : Int) ≤ (t[0].toNat : Int) := by omega
  have ie : ¬ ((t[0].toNat : Int) < 224) := by omega
  have hn' : ¬ ((t.size : Int) < 3) := by omega
  have ci1 : ¬ ((t[1].toNat : Int) < 128) := by omega
  have ci2 : ¬ ((t[2].toNat : Int) < 128) := by omega
  have di1 : ¬ ((192 : Int) ≤ (t[1].toNat : Int)) := by omega
  have di2 : ¬ ((192 : Int) ≤ (t[2].toNat : Int)) := by omega
  have HD := Lib.hid hD
  clear hD
  go_enter Tryd.func22, Tryd.ntmps22
  go_wp2
  refine wp_loop_rounds 3 ?_
  rw [rounds_succ]
  go_wp2
  rw [rounds_succ]
  go_wp2
  rw [rounds_succ]
  go_wp2
  go_ret2
  exact one_end HD.out

set_option maxHeartbeats 1000000 in
set_option maxRecDepth 100000 in
theorem r3_ok2 (t : ByteArray) (w : World) (hm : t.size ≤ maxLen) (D : Int × Int) (h0 : 0 < t.size) (h1 : 1 < t.size) (h2 : 2 < t.size) (ha : 224 ≤ t[0].toNat) (hb : t[0].toNat < 240) (c1 : 128 ≤ t[1].toNat) (d1 : t[1].toNat < 192) (c2 : 128 ≤ t[2].toNat) (d2 : t[2].toNat < 192) (x : ¬ (64 * (64 * ((t[0].toNat : Int) - 224) + (t[1].toNat : Int) - 128) + (t[2].toNat : Int) - 128 < 2048)) (y : ¬ (1114111 < 64 * (64 * ((t[0].toNat : Int) - 224) + (t[1].toNat : Int) - 128) + (t[2].toNat : Int) - 128)) (z : 55296 ≤ 64 * (64 * ((t[0].toNat : Int) - 224) + (t[1].toNat : Int) - 128) + (t[2].toNat : Int) - 128) (u : ¬ (64 * (64 * ((t[0].toNat : Int) - 224) + (t[1].toNat : Int) - 128) + (t[2].toNat : Int) - 128 < 57344)) (hD : D = ((3 : Int), 64 * (64 * ((t[0].toNat : Int) - 224) + (t[1].toNat : Int) - 128) + (t[2].toNat : Int) - 128)) :
    Calls Tryd.prog 22 #[.string t] w (OneEnd D w) := by
  unfold maxLen at hm
  have ia : ¬ ((t[0].toNat : Int) < 128) := by omega
  have ib : (224 : Int) ≤ (t[0].toNat : Int) := by omega
  have ic : (t[0].toNat : Int) < 240 := by omega
  have id : (192 : Int) ≤ (t[0].toNat : Int) := by omega
  have ie : ¬ ((t[0].toNat : Int) < 224) := by omega
  have hn' : ¬ ((t.size : Int) < 3) := by omega
  have ci1 : ¬ ((t[1].toNat : Int) < 128) := by omega
  have ci2 : ¬ ((t[2].toNat : Int) < 128) := by omega
  have di1 : ¬ ((192 : Int) ≤ (t[1].toNat : Int)) := by omega
  have di2 : ¬ ((192 : Int) ≤ (t[2].toNat : Int)) := by omega
  have HD := Lib.hid hD
  clear hD
  go_enter Tryd.func22, Tryd.ntmps22
  go_wp2
  refine wp_loop_rounds 3 ?_
  rw [rounds_succ]
  go_wp2
  rw [rounds_succ]
  go_wp2
  rw [rounds_succ]
  go_wp2
  go_ret2
  exact one_end HD.out

end Go.Proofs.YtmdimngihpbcnaaDoor.lbl
