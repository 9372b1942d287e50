/-
  The reader of one rune that the document's answer uses, by its contract: what it answers at every text that is not empty. No condition.
  The reader of one rune of 2 bytes, walked, each way by itself. No condition but those that each fact names.
  The reader of one rune of 3 bytes, walked, each way by itself. No condition but those that each fact names.
  The reader of one rune of 4 bytes, walked, each way by itself. No condition but those that each fact names.
  The reader of one rune, at every text that is not empty: it answers what the decoder tells. Condition: the text is shorter than 2^63 bytes.
-/
import Derived.Test.YtbfdpibjicjagaaGreatDoorGLl
import Derived.LoopN
set_option maxHeartbeats 1000000
set_option maxRecDepth 100000
namespace Go.Proofs.YtbfdpibjicjagaaGreatDoor.lbl
open Go.RowKit Go.Lib
def oneA (d : Nat × Nat) : Int × Int := if bad d then (0, 0) else ((d.2 : Int), (d.1 : Int))
def oneB (t : ByteArray) : Int × Int := oneA (Utf8.decode t 0)
def OneEnd (d : Int × Int) (w : World) (e : Ending) (w' : World) : Prop := e = .returned (.tuple #[.int .i64 d.1, .int .i64 d.2]) ∧ w = w'
theorem one_end {d : Int × Int} {w : World} {a b : Int} (h : d = (a, b)) : OneEnd d w (.returned (.tuple #[.int .i64 a, .int .i64 b])) w := by
 subst h; exact ⟨rfl, rfl⟩
theorem get_el (t : ByteArray) (k : Nat) (h : k < t.size) : (t.get! k).toNat = (t[k]'h).toNat := by
 have e : t.get! k = t[k]'h := by
  simp [ByteArray.get!, getElem!_pos, h]
  rfl
 rw [e]
theorem r_one (t : ByteArray) (w : World) (D : Int × Int) (h0 : 0 < t.size) (ha : t[0].toNat < 128) (hD : D = ((1 : Int), (t[0].toNat : Int))) :
  Calls Tryz.prog 52 #[.string t] w (OneEnd D w) := by
 have ia : (t[0].toNat : Int) < 128 := by omega
 have HD := Lib.hid hD
 clear hD
 go_enter Tryz.func52, Tryz.ntmps52
 go_wp2
 go_ret2
 exact one_end HD.out
theorem r_low (t : ByteArray) (w : World) (D : Int × Int) (h0 : 0 < t.size) (ha : 128 ≤ t[0].toNat) (hb : t[0].toNat < 192) (hD : D = ((0 : Int), 0)) :
  Calls Tryz.prog 52 #[.string t] w (OneEnd D w) := by
 have ia : ¬ ((t[0].toNat : Int) < 128) := by omega
 have ib : ¬ ((192 : Int) ≤ (t[0].toNat : Int)) := by omega
 have ic : ¬ ((224 : Int) ≤ (t[0].toNat : Int)) := by omega
 have id : ¬ ((240 : Int) ≤ (t[0].toNat : Int)) := by omega
 have HD := Lib.hid hD
 clear hD
 go_enter Tryz.func52, Tryz.ntmps52
 go_wp2
 go_ret2
 exact one_end HD.out
theorem r_high (t : ByteArray) (w : World) (D : Int × Int) (h0 : 0 < t.size) (ha : 248 ≤ t[0].toNat) (hD : D = ((0 : Int), 0)) :
  Calls Tryz.prog 52 #[.string t] w (OneEnd D w) := by
 have l0 := t[0].toNat_lt
 have ia : ¬ ((t[0].toNat : Int) < 128) := by omega
 have ib : (192 : Int) ≤ (t[0].toNat : Int) := by omega
 have ic : ¬ ((t[0].toNat : Int) < 224) := by omega
 have id : (224 : Int) ≤ (t[0].toNat : Int) := by omega
 have ie : ¬ ((t[0].toNat : Int) < 240) := by omega
 have ig : (240 : Int) ≤ (t[0].toNat : Int) := by omega
 have ih : ¬ ((t[0].toNat : Int) < 248) := by omega
 have HD := Lib.hid hD
 clear hD
 go_enter Tryz.func52, Tryz.ntmps52
 go_wp2
 go_ret2
 exact one_end HD.out
end Go.Proofs.YtbfdpibjicjagaaGreatDoor.lbl
namespace Go.Proofs.YtbfdpibjicjagaaGreatDoor.lbl
open Go.RowKit Go.Lib
theorem r2_short (t : ByteArray) (w : World) (hm : t.size ≤ maxLen) (D : Int × Int) (h0 : 0 < t.size) (hn : t.size < 2) (ha : 192 ≤ t[0].toNat) (hb : t[0].toNat < 224) (hD : D = ((0 : Int), 0)) :
  Calls Tryz.prog 52 #[.string t] w (OneEnd D w) := by
 unfold maxLen at hm
 have ia : ¬ ((t[0].toNat : Int) < 128) := by omega
 have ib : (192 : Int) ≤ (t[0].toNat : Int) := by omega
 have ic : (t[0].toNat : Int) < 224 := by omega
 have hn' : (t.size : Int) < 2 := by omega
 have HD := Lib.hid hD
 clear hD
 go_enter Tryz.func52, Tryz.ntmps52
 go_wp2
 go_ret2
 exact one_end HD.out
theorem r2_lo1 (t : ByteArray) (w : World) (hm : t.size ≤ maxLen) (D : Int × Int) (h0 : 0 < t.size) (h1 : 1 < t.size) (ha : 192 ≤ t[0].toNat) (hb : t[0].toNat < 224)  (x : t[1].toNat < 128) (hD : D = ((0 : Int), 0)) :
  Calls Tryz.prog 52 #[.string t] w (OneEnd D w) := by
 unfold maxLen at hm
 have ia : ¬ ((t[0].toNat : Int) < 128) := by omega
 have ib : (192 : Int) ≤ (t[0].toNat : Int) := by omega
 have ic : (t[0].toNat : Int) < 224 := by omega
 have hn' : ¬ ((t.size : Int) < 2) := by omega
 have xi : (t[1].toNat : Int) < 128 := by omega
 have HD := Lib.hid hD
 clear hD
 go_enter Tryz.func52, Tryz.ntmps52
 go_wp2
 refine wp_loop_rounds 1 ?_
 rw [rounds_succ]
 go_wp2
 go_ret2
 exact one_end HD.out
theorem r2_hi1 (t : ByteArray) (w : World) (hm : t.size ≤ maxLen) (D : Int × Int) (h0 : 0 < t.size) (h1 : 1 < t.size) (ha : 192 ≤ t[0].toNat) (hb : t[0].toNat < 224)  (x : 192 ≤ t[1].toNat) (hD : D = ((0 : Int), 0)) :
  Calls Tryz.prog 52 #[.string t] w (OneEnd D w) := by
 unfold maxLen at hm
 have ia : ¬ ((t[0].toNat : Int) < 128) := by omega
 have ib : (192 : Int) ≤ (t[0].toNat : Int) := by omega
 have ic : (t[0].toNat : Int) < 224 := by omega
 have hn' : ¬ ((t.size : Int) < 2) := by omega
 have zi : (t[1].toNat : Int) ≤ 255 := by have := t[1].toNat_lt; omega
 have xi : ¬ ((t[1].toNat : Int) < 128) := by omega
 have yi : (192 : Int) ≤ (t[1].toNat : Int) := by omega
 have HD := Lib.hid hD
 clear hD
 go_enter Tryz.func52, Tryz.ntmps52
 go_wp2
 refine wp_loop_rounds 1 ?_
 rw [rounds_succ]
 go_wp2
 go_ret2
 exact one_end HD.out
theorem r2_small (t : ByteArray) (w : World) (hm : t.size ≤ maxLen) (D : Int × Int) (h0 : 0 < t.size) (h1 : 1 < t.size) (ha : 192 ≤ t[0].toNat) (hb : t[0].toNat < 224) (c1 : 128 ≤ t[1].toNat) (d1 : t[1].toNat < 192) (x : 64 * ((t[0].toNat : Int) - 192) + (t[1].toNat : Int) - 128 < 128) (hD : D = ((0 : Int), 0)) :
  Calls Tryz.prog 52 #[.string t] w (OneEnd D w) := by
 unfold maxLen at hm
 have ia : ¬ ((t[0].toNat : Int) < 128) := by omega
 have ib : (192 : Int) ≤ (t[0].toNat : Int) := by omega
 have ic : (t[0].toNat : Int) < 224 := by omega
 have hn' : ¬ ((t.size : Int) < 2) := by omega
 have ci1 : ¬ ((t[1].toNat : Int) < 128) := by omega
 have di1 : ¬ ((192 : Int) ≤ (t[1].toNat : Int)) := by omega
 have HD := Lib.hid hD
 clear hD
 go_enter Tryz.func52, Tryz.ntmps52
 go_wp2
 refine wp_loop_rounds 2 ?_
 rw [rounds_succ]
 go_wp2
 rw [rounds_succ]
 go_wp2
 go_ret2
 exact one_end HD.out
theorem r2_ok (t : ByteArray) (w : World) (hm : t.size ≤ maxLen) (D : Int × Int) (h0 : 0 < t.size) (h1 : 1 < t.size) (ha : 192 ≤ t[0].toNat) (hb : t[0].toNat < 224) (c1 : 128 ≤ t[1].toNat) (d1 : t[1].toNat < 192) (x : ¬ (64 * ((t[0].toNat : Int) - 192) + (t[1].toNat : Int) - 128 < 128)) (y : ¬ (1114111 < 64 * ((t[0].toNat : Int) - 192) + (t[1].toNat : Int) - 128)) (z : ¬ (55296 ≤ 64 * ((t[0].toNat : Int) - 192) + (t[1].toNat : Int) - 128)) (hD : D = ((2 : Int), 64 * ((t[0].toNat : Int) - 192) + (t[1].toNat : Int) - 128)) :
  Calls Tryz.prog 52 #[.string t] w (OneEnd D w) := by
 unfold maxLen at hm
 have ia : ¬ ((t[0].toNat : Int) < 128) := by omega
 have ib : (192 : Int) ≤ (t[0].toNat : Int) := by omega
 have ic : (t[0].toNat : Int) < 224 := by omega
 have hn' : ¬ ((t.size : Int) < 2) := by omega
 have ci1 : ¬ ((t[1].toNat : Int) < 128) := by omega
 have di1 : ¬ ((192 : Int) ≤ (t[1].toNat : Int)) := by omega
 have HD := Lib.hid hD
 clear hD
 go_enter Tryz.func52, Tryz.ntmps52
 go_wp2
 refine wp_loop_rounds 2 ?_
 rw [rounds_succ]
 go_wp2
 rw [rounds_succ]
 go_wp2
 go_ret2
 exact one_end HD.out
end Go.Proofs.YtbfdpibjicjagaaGreatDoor.lbl
namespace Go.Proofs.YtbfdpibjicjagaaGreatDoor.lbl
open Go.RowKit Go.Lib
theorem r3_short (t : ByteArray) (w : World) (hm : t.size ≤ maxLen) (D : Int × Int) (h0 : 0 < t.size) (hn : t.size < 3) (ha : 224 ≤ t[0].toNat) (hb : t[0].toNat < 240) (hD : D = ((0 : Int), 0)) :
  Calls Tryz.prog 52 #[.string t] w (OneEnd D w) := by
 unfold maxLen at hm
 have ia : ¬ ((t[0].toNat : Int) < 128) := by omega
 have ib : (224 : Int) ≤ (t[0].toNat : Int) := by omega
 have ic : (t[0].toNat : Int) < 240 := by omega
 have id : (192 : Int) ≤ (t[0].toNat : Int) := by omega
 have ie : ¬ ((t[0].toNat : Int) < 224) := by omega
 have hn' : (t.size : Int) < 3 := by omega
 have HD := Lib.hid hD
 clear hD
 go_enter Tryz.func52, Tryz.ntmps52
 go_wp2
 go_ret2
 exact one_end HD.out
theorem r3_lo1 (t : ByteArray) (w : World) (hm : t.size ≤ maxLen) (D : Int × Int) (h0 : 0 < t.size) (h1 : 1 < t.size) (h2 : 2 < t.size) (ha : 224 ≤ t[0].toNat) (hb : t[0].toNat < 240)  (x : t[1].toNat < 128) (hD : D = ((0 : Int), 0)) :
  Calls Tryz.prog 52 #[.string t] w (OneEnd D w) := by
 unfold maxLen at hm
 have ia : ¬ ((t[0].toNat : Int) < 128) := by omega
 have ib : (224 : Int) ≤ (t[0].toNat : Int) := by omega
 have ic : (t[0].toNat : Int) < 240 := by omega
 have id : (192 : Int) ≤ (t[0].toNat : Int) := by omega
 have ie : ¬ ((t[0].toNat : Int) < 224) := by omega
 have hn' : ¬ ((t.size : Int) < 3) := by omega
 have xi : (t[1].toNat : Int) < 128 := by omega
 have HD := Lib.hid hD
 clear hD
 go_enter Tryz.func52, Tryz.ntmps52
 go_wp2
 refine wp_loop_rounds 1 ?_
 rw [rounds_succ]
 go_wp2
 go_ret2
 exact one_end HD.out
theorem r3_hi1 (t : ByteArray) (w : World) (hm : t.size ≤ maxLen) (D : Int × Int) (h0 : 0 < t.size) (h1 : 1 < t.size) (h2 : 2 < t.size) (ha : 224 ≤ t[0].toNat) (hb : t[0].toNat < 240)  (x : 192 ≤ t[1].toNat) (hD : D = ((0 : Int), 0)) :
  Calls Tryz.prog 52 #[.string t] w (OneEnd D w) := by
 unfold maxLen at hm
 have ia : ¬ ((t[0].toNat : Int) < 128) := by omega
 have ib : (224 : Int) ≤ (t[0].toNat : Int) := by omega
 have ic : (t[0].toNat : Int) < 240 := by omega
 have id : (192 : Int) ≤ (t[0].toNat : Int) := by omega
 have ie : ¬ ((t[0].toNat : Int) < 224) := by omega
 have hn' : ¬ ((t.size : Int) < 3) := by omega
 have zi : (t[1].toNat : Int) ≤ 255 := by have := t[1].toNat_lt; omega
 have xi : ¬ ((t[1].toNat : Int) < 128) := by omega
 have yi : (192 : Int) ≤ (t[1].toNat : Int) := by omega
 have HD := Lib.hid hD
 clear hD
 go_enter Tryz.func52, Tryz.ntmps52
 go_wp2
 refine wp_loop_rounds 1 ?_
 rw [rounds_succ]
 go_wp2
 go_ret2
 exact one_end HD.out
theorem r3_lo2 (t : ByteArray) (w : World) (hm : t.size ≤ maxLen) (D : Int × Int) (h0 : 0 < t.size) (h1 : 1 < t.size) (h2 : 2 < t.size) (ha : 224 ≤ t[0].toNat) (hb : t[0].toNat < 240) (c1 : 128 ≤ t[1].toNat) (d1 : t[1].toNat < 192) (x : t[2].toNat < 128) (hD : D = ((0 : Int), 0)) :
  Calls Tryz.prog 52 #[.string t] w (OneEnd D w) := by
 unfold maxLen at hm
 have ia : ¬ ((t[0].toNat : Int) < 128) := by omega
 have ib : (224 : Int) ≤ (t[0].toNat : Int) := by omega
 have ic : (t[0].toNat : Int) < 240 := by omega
 have id : (192 : Int) ≤ (t[0].toNat : Int) := by omega
 have ie : ¬ ((t[0].toNat : Int) < 224) := by omega
 have hn' : ¬ ((t.size : Int) < 3) := by omega
 have ci1 : ¬ ((t[1].toNat : Int) < 128) := by omega
 have di1 : ¬ ((192 : Int) ≤ (t[1].toNat : Int)) := by omega
 have xi : (t[2].toNat : Int) < 128 := by omega
 have HD := Lib.hid hD
 clear hD
 go_enter Tryz.func52, Tryz.ntmps52
 go_wp2
 refine wp_loop_rounds 2 ?_
 rw [rounds_succ]
 go_wp2
 rw [rounds_succ]
 go_wp2
 go_ret2
 exact one_end HD.out
theorem r3_hi2 (t : ByteArray) (w : World) (hm : t.size ≤ maxLen) (D : Int × Int) (h0 : 0 < t.size) (h1 : 1 < t.size) (h2 : 2 < t.size) (ha : 224 ≤ t[0].toNat) (hb : t[0].toNat < 240) (c1 : 128 ≤ t[1].toNat) (d1 : t[1].toNat < 192) (x : 192 ≤ t[2].toNat) (hD : D = ((0 : Int), 0)) :
  Calls Tryz.prog 52 #[.string t] w (OneEnd D w) := by
 unfold maxLen at hm
 have ia : ¬ ((t[0].toNat : Int) < 128) := by omega
 have ib : (224 : Int) ≤ (t[0].toNat : Int) := by omega
 have ic : (t[0].toNat : Int) < 240 := by omega
 have id : (192 : Int) ≤ (t[0].toNat : Int) := by omega
 have ie : ¬ ((t[0].toNat : Int) < 224) := by omega
 have hn' : ¬ ((t.size : Int) < 3) := by omega
 have ci1 : ¬ ((t[1].toNat : Int) < 128) := by omega
 have di1 : ¬ ((192 : Int) ≤ (t[1].toNat : Int)) := by omega
 have zi : (t[2].toNat : Int) ≤ 255 := by have := t[2].toNat_lt; omega
 have xi : ¬ ((t[2].toNat : Int) < 128) := by omega
 have yi : (192 : Int) ≤ (t[2].toNat : Int) := by omega
 have HD := Lib.hid hD
 clear hD
 go_enter Tryz.func52, Tryz.ntmps52
 go_wp2
 refine wp_loop_rounds 2 ?_
 rw [rounds_succ]
 go_wp2
 rw [rounds_succ]
 go_wp2
 go_ret2
 exact one_end HD.out
theorem r3_small (t : ByteArray) (w : World) (hm : t.size ≤ maxLen) (D : Int × Int) (h0 : 0 < t.size) (h1 : 1 < t.size) (h2 : 2 < t.size) (ha : 224 ≤ t[0].toNat) (hb : t[0].toNat < 240) (c1 : 128 ≤ t[1].toNat) (d1 : t[1].toNat < 192) (c2 : 128 ≤ t[2].toNat) (d2 : t[2].toNat < 192) (x : 64 * (64 * ((t[0].toNat : Int) - 224) + (t[1].toNat : Int) - 128) + (t[2].toNat : Int) - 128 < 2048) (hD : D = ((0 : Int), 0)) :
  Calls Tryz.prog 52 #[.string t] w (OneEnd D w) := by
 unfold maxLen at hm
 have ia : ¬ ((t[0].toNat : Int) < 128) := by omega
 have ib : (224 : Int) ≤ (t[0].toNat : Int) := by omega
 have ic : (t[0].toNat : Int) < 240 := by omega
 have id : (192 : Int) ≤ (t[0].toNat : Int) := by omega
 have ie : ¬ ((t[0].toNat : Int) < 224) := by omega
 have hn' : ¬ ((t.size : Int) < 3) := by omega
 have ci1 : ¬ ((t[1].toNat : Int) < 128) := by omega
 have ci2 : ¬ ((t[2].toNat : Int) < 128) := by omega
 have di1 : ¬ ((192 : Int) ≤ (t[1].toNat : Int)) := by omega
 have di2 : ¬ ((192 : Int) ≤ (t[2].toNat : Int)) := by omega
 have HD := Lib.hid hD
 clear hD
 go_enter Tryz.func52, Tryz.ntmps52
 go_wp2
 refine wp_loop_rounds 3 ?_
 rw [rounds_succ]
 go_wp2
 rw [rounds_succ]
 go_wp2
 rw [rounds_succ]
 go_wp2
 go_ret2
 exact one_end HD.out
theorem r3_sur (t : ByteArray) (w : World) (hm : t.size ≤ maxLen) (D : Int × Int) (h0 : 0 < t.size) (h1 : 1 < t.size) (h2 : 2 < t.size) (ha : 224 ≤ t[0].toNat) (hb : t[0].toNat < 240) (c1 : 128 ≤ t[1].toNat) (d1 : t[1].toNat < 192) (c2 : 128 ≤ t[2].toNat) (d2 : t[2].toNat < 192) (x : ¬ (64 * (64 * ((t[0].toNat : Int) - 224) + (t[1].toNat : Int) - 128) + (t[2].toNat : Int) - 128 < 2048)) (y : ¬ (1114111 < 64 * (64 * ((t[0].toNat : Int) - 224) + (t[1].toNat : Int) - 128) + (t[2].toNat : Int) - 128)) (z : 55296 ≤ 64 * (64 * ((t[0].toNat : Int) - 224) + (t[1].toNat : Int) - 128) + (t[2].toNat : Int) - 128) (u : 64 * (64 * ((t[0].toNat : Int) - 224) + (t[1].toNat : Int) - 128) + (t[2].toNat : Int) - 128 < 57344) (hD : D = ((0 : Int), 0)) :
  Calls Tryz.prog 52 #[.string t] w (OneEnd D w) := by
 unfold maxLen at hm
 have ia : ¬ ((t[0].toNat : Int) < 128) := by omega
 have ib : (224 : Int) ≤ (t[0].toNat : Int) := by omega
 have ic : (t[0].toNat : Int) < 240 := by omega
 have id : (192 : Int) ≤ (t[0].toNat : Int) := by omega
 have ie : ¬ ((t[0].toNat : Int) < 224) := by omega
 have hn' : ¬ ((t.size : Int) < 3) := by omega
 have ci1 : ¬ ((t[1].toNat : Int) < 128) := by omega
 have ci2 : ¬ ((t[2].toNat : Int) < 128) := by omega
 have di1 : ¬ ((192 : Int) ≤ (t[1].toNat : Int)) := by omega
 have di2 : ¬ ((192 : Int) ≤ (t[2].toNat : Int)) := by omega
 have HD := Lib.hid hD
 clear hD
 go_enter Tryz.func52, Tryz.ntmps52
 go_wp2
 refine wp_loop_rounds 3 ?_
 rw [rounds_succ]
 go_wp2
 rw [rounds_succ]
 go_wp2
 rw [rounds_succ]
 go_wp2
 go_ret2
 exact one_end HD.out
theorem r3_ok1 (t : ByteArray) (w : World) (hm : t.size ≤ maxLen) (D : Int × Int) (h0 : 0 < t.size) (h1 : 1 < t.size) (h2 : 2 < t.size) (ha : 224 ≤ t[0].toNat) (hb : t[0].toNat < 240) (c1 : 128 ≤ t[1].toNat) (d1 : t[1].toNat < 192) (c2 : 128 ≤ t[2].toNat) (d2 : t[2].toNat < 192) (x : ¬ (64 * (64 * ((t[0].toNat : Int) - 224) + (t[1].toNat : Int) - 128) + (t[2].toNat : Int) - 128 < 2048)) (y : ¬ (1114111 < 64 * (64 * ((t[0].toNat : Int) - 224) + (t[1].toNat : Int) - 128) + (t[2].toNat : Int) - 128)) (z : ¬ (55296 ≤ 64 * (64 * ((t[0].toNat : Int) - 224) + (t[1].toNat : Int) - 128) + (t[2].toNat : Int) - 128)) (hD : D = ((3 : Int), 64 * (64 * ((t[0].toNat : Int) - 224) + (t[1].toNat : Int) - 128) + (t[2].toNat : Int) - 128)) :
  Calls Tryz.prog 52 #[.string t] w (OneEnd D w) := by
 unfold maxLen at hm
 have ia : ¬ ((t[0].toNat : Int) < 128) := by omega
 have ib : (224 : Int) ≤ (t[0].toNat : Int) := by omega
 have ic : (t[0].toNat : Int) < 240 := by omega
 have id : (192 : Int) ≤ (t[0].toNat : Int) := by omega
 have ie : ¬ ((t[0].toNat : Int) < 224) := by omega
 have hn' : ¬ ((t.size : Int) < 3) := by omega
 have ci1 : ¬ ((t[1].toNat : Int) < 128) := by omega
 have ci2 : ¬ ((t[2].toNat : Int) < 128) := by omega
 have di1 : ¬ ((192 : Int) ≤ (t[1].toNat : Int)) := by omega
 have di2 : ¬ ((192 : Int) ≤ (t[2].toNat : Int)) := by omega
 have HD := Lib.hid hD
 clear hD
 go_enter Tryz.func52, Tryz.ntmps52
 go_wp2
 refine wp_loop_rounds 3 ?_
 rw [rounds_succ]
 go_wp2
 rw [rounds_succ]
 go_wp2
 rw [rounds_succ]
 go_wp2
 go_ret2
 exact one_end HD.out
theorem r3_ok2 (t : ByteArray) (w : World) (hm : t.size ≤ maxLen) (D : Int × Int) (h0 : 0 < t.size) (h1 : 1 < t.size) (h2 : 2 < t.size) (ha : 224 ≤ t[0].toNat) (hb : t[0].toNat < 240) (c1 : 128 ≤ t[1].toNat) (d1 : t[1].toNat < 192) (c2 : 128 ≤ t[2].toNat) (d2 : t[2].toNat < 192) (x : ¬ (64 * (64 * ((t[0].toNat : Int) - 224) + (t[1].toNat : Int) - 128) + (t[2].toNat : Int) - 128 < 2048)) (y : ¬ (1114111 < 64 * (64 * ((t[0].toNat : Int) - 224) + (t[1].toNat : Int) - 128) + (t[2].toNat : Int) - 128)) (z : 55296 ≤ 64 * (64 * ((t[0].toNat : Int) - 224) + (t[1].toNat : Int) - 128) + (t[2].toNat : Int) - 128) (u : ¬ (64 * (64 * ((t[0].toNat : Int) - 224) + (t[1].toNat : Int) - 128) + (t[2].toNat : Int) - 128 < 57344)) (hD : D = ((3 : Int), 64 * (64 * ((t[0].toNat : Int) - 224) + (t[1].toNat : Int) - 128) + (t[2].toNat : Int) - 128)) :
  Calls Tryz.prog 52 #[.string t] w (OneEnd D w) := by
 unfold maxLen at hm
 have ia : ¬ ((t[0].toNat : Int) < 128) := by omega
 have ib : (224 : Int) ≤ (t[0].toNat : Int) := by omega
 have ic : (t[0].toNat : Int) < 240 := by omega
 have id : (192 : Int) ≤ (t[0].toNat : Int) := by omega
 have ie : ¬ ((t[0].toNat : Int) < 224) := by omega
 have hn' : ¬ ((t.size : Int) < 3) := by omega
 have ci1 : ¬ ((t[1].toNat : Int) < 128) := by omega
 have ci2 : ¬ ((t[2].toNat : Int) < 128) := by omega
 have di1 : ¬ ((192 : Int) ≤ (t[1].toNat : Int)) := by omega
 have di2 : ¬ ((192 : Int) ≤ (t[2].toNat : Int)) := by omega
 have HD := Lib.hid hD
 clear hD
 go_enter Tryz.func52, Tryz.ntmps52
 go_wp2
 refine wp_loop_rounds 3 ?_
 rw [rounds_succ]
 go_wp2
 rw [rounds_succ]
 go_wp2
 rw [rounds_succ]
 go_wp2
 go_ret2
 exact one_end HD.out
end Go.Proofs.YtbfdpibjicjagaaGreatDoor.lbl
namespace Go.Proofs.YtbfdpibjicjagaaGreatDoor.lbl
open Go.RowKit Go.Lib
theorem r4_short (t : ByteArray) (w : World) (hm : t.size ≤ maxLen) (D : Int × Int) (h0 : 0 < t.size) (hn : t.size < 4) (ha : 240 ≤ t[0].toNat) (hb : t[0].toNat < 248) (hD : D = ((0 : Int), 0)) :
  Calls Tryz.prog 52 #[.string t] w (OneEnd D w) := by
 unfold maxLen at hm
 have ia : ¬ ((t[0].toNat : Int) < 128) := by omega
 have ib : (240 : Int) ≤ (t[0].toNat : Int) := by omega
 have ic : (t[0].toNat : Int) < 248 := by omega
 have id : (192 : Int) ≤ (t[0].toNat : Int) := by omega
 have ie : ¬ ((t[0].toNat : Int) < 224) := by omega
 have ig : (224 : Int) ≤ (t[0].toNat : Int) := by omega
 have ih : ¬ ((t[0].toNat : Int) < 240) := by omega
 have hn' : (t.size : Int) < 4 := by omega
 have HD := Lib.hid hD
 clear hD
 go_enter Tryz.func52, Tryz.ntmps52
 go_wp2
 go_ret2
 exact one_end HD.out
theorem r4_lo1 (t : ByteArray) (w : World) (hm : t.size ≤ maxLen) (D : Int × Int) (h0 : 0 < t.size) (h1 : 1 < t.size) (h2 : 2 < t.size) (h3 : 3 < t.size) (ha : 240 ≤ t[0].toNat) (hb : t[0].toNat < 248)  (x : t[1].toNat < 128) (hD : D = ((0 : Int), 0)) :
  Calls Tryz.prog 52 #[.string t] w (OneEnd D w) := by
 unfold maxLen at hm
 have ia : ¬ ((t[0].toNat : Int) < 128) := by omega
 have ib : (240 : Int) ≤ (t[0].toNat : Int) := by omega
 have ic : (t[0].toNat : Int) < 248 := by omega
 have id : (192 : Int) ≤ (t[0].toNat : Int) := by omega
 have ie : ¬ ((t[0].toNat : Int) < 224) := by omega
 have ig : (224 : Int) ≤ (t[0].toNat : Int) := by omega
 have ih : ¬ ((t[0].toNat : Int) < 240) := by omega
 have hn' : ¬ ((t.size : Int) < 4) := by omega
 have xi : (t[1].toNat : Int) < 128 := by omega
 have HD := Lib.hid hD
 clear hD
 go_enter Tryz.func52, Tryz.ntmps52
 go_wp2
 refine wp_loop_rounds 1 ?_
 rw [rounds_succ]
 go_wp2
 go_ret2
 exact one_end HD.out
theorem r4_hi1 (t : ByteArray) (w : World) (hm : t.size ≤ maxLen) (D : Int × Int) (h0 : 0 < t.size) (h1 : 1 < t.size) (h2 : 2 < t.size) (h3 : 3 < t.size) (ha : 240 ≤ t[0].toNat) (hb : t[0].toNat < 248)  (x : 192 ≤ t[1].toNat) (hD : D = ((0 : Int), 0)) :
  Calls Tryz.prog 52 #[.string t] w (OneEnd D w) := by
 unfold maxLen at hm
 have ia : ¬ ((t[0].toNat : Int) < 128) := by omega
 have ib : (240 : Int) ≤ (t[0].toNat : Int) := by omega
 have ic : (t[0].toNat : Int) < 248 := by omega
 have id : (192 : Int) ≤ (t[0].toNat : Int) := by omega
 have ie : ¬ ((t[0].toNat : Int) < 224) := by omega
 have ig : (224 : Int) ≤ (t[0].toNat : Int) := by omega
 have ih : ¬ ((t[0].toNat : Int) < 240) := by omega
 have hn' : ¬ ((t.size : Int) < 4) := by omega
 have zi : (t[1].toNat : Int) ≤ 255 := by have := t[1].toNat_lt; omega
 have xi : ¬ ((t[1].toNat : Int) < 128) := by omega
 have yi : (192 : Int) ≤ (t[1].toNat : Int) := by omega
 have HD := Lib.hid hD
 clear hD
 go_enter Tryz.func52, Tryz.ntmps52
 go_wp2
 refine wp_loop_rounds 1 ?_
 rw [rounds_succ]
 go_wp2
 go_ret2
 exact one_end HD.out
theorem r4_lo2 (t : ByteArray) (w : World) (hm : t.size ≤ maxLen) (D : Int × Int) (h0 : 0 < t.size) (h1 : 1 < t.size) (h2 : 2 < t.size) (h3 : 3 < t.size) (ha : 240 ≤ t[0].toNat) (hb : t[0].toNat < 248) (c1 : 128 ≤ t[1].toNat) (d1 : t[1].toNat < 192) (x : t[2].toNat < 128) (hD : D = ((0 : Int), 0)) :
  Calls Tryz.prog 52 #[.string t] w (OneEnd D w) := by
 unfold maxLen at hm
 have ia : ¬ ((t[0].toNat : Int) < 128) := by omega
 have ib : (240 : Int) ≤ (t[0].toNat : Int) := by omega
 have ic : (t[0].toNat : Int) < 248 := by omega
 have id : (192 : Int) ≤ (t[0].toNat : Int) := by omega
 have ie : ¬ ((t[0].toNat : Int) < 224) := by omega
 have ig : (224 : Int) ≤ (t[0].toNat : Int) := by omega
 have ih : ¬ ((t[0].toNat : Int) < 240) := by omega
 have hn' : ¬ ((t.size : Int) < 4) := by omega
 have ci1 : ¬ ((t[1].toNat : Int) < 128) := by omega
 have di1 : ¬ ((192 : Int) ≤ (t[1].toNat : Int)) := by omega
 have xi : (t[2].toNat : Int) < 128 := by omega
 have HD := Lib.hid hD
 clear hD
 go_enter Tryz.func52, Tryz.ntmps52
 go_wp2
 refine wp_loop_rounds 2 ?_
 rw [rounds_succ]
 go_wp2
 rw [rounds_succ]
 go_wp2
 go_ret2
 exact one_end HD.out
theorem r4_hi2 (t : ByteArray) (w : World) (hm : t.size ≤ maxLen) (D : Int × Int) (h0 : 0 < t.size) (h1 : 1 < t.size) (h2 : 2 < t.size) (h3 : 3 < t.size) (ha : 240 ≤ t[0].toNat) (hb : t[0].toNat < 248) (c1 : 128 ≤ t[1].toNat) (d1 : t[1].toNat < 192) (x : 192 ≤ t[2].toNat) (hD : D = ((0 : Int), 0)) :
  Calls Tryz.prog 52 #[.string t] w (OneEnd D w) := by
 unfold maxLen at hm
 have ia : ¬ ((t[0].toNat : Int) < 128) := by omega
 have ib : (240 : Int) ≤ (t[0].toNat : Int) := by omega
 have ic : (t[0].toNat : Int) < 248 := by omega
 have id : (192 : Int) ≤ (t[0].toNat : Int) := by omega
 have ie : ¬ ((t[0].toNat : Int) < 224) := by omega
 have ig : (224 : Int) ≤ (t[0].toNat : Int) := by omega
 have ih : ¬ ((t[0].toNat : Int) < 240) := by omega
 have hn' : ¬ ((t.size : Int) < 4) := by omega
 have ci1 : ¬ ((t[1].toNat : Int) < 128) := by omega
 have di1 : ¬ ((192 : Int) ≤ (t[1].toNat : Int)) := by omega
 have zi : (t[2].toNat : Int) ≤ 255 := by have := t[2].toNat_lt; omega
 have xi : ¬ ((t[2].toNat : Int) < 128) := by omega
 have yi : (192 : Int) ≤ (t[2].toNat : Int) := by omega
 have HD := Lib.hid hD
 clear hD
 go_enter Tryz.func52, Tryz.ntmps52
 go_wp2
 refine wp_loop_rounds 2 ?_
 rw [rounds_succ]
 go_wp2
 rw [rounds_succ]
 go_wp2
 go_ret2
 exact one_end HD.out
theorem r4_lo3 (t : ByteArray) (w : World) (hm : t.size ≤ maxLen) (D : Int × Int) (h0 : 0 < t.size) (h1 : 1 < t.size) (h2 : 2 < t.size) (h3 : 3 < t.size) (ha : 240 ≤ t[0].toNat) (hb : t[0].toNat < 248) (c1 : 128 ≤ t[1].toNat) (d1 : t[1].toNat < 192) (c2 : 128 ≤ t[2].toNat) (d2 : t[2].toNat < 192) (x : t[3].toNat < 128) (hD : D = ((0 : Int), 0)) :
  Calls Tryz.prog 52 #[.string t] w (OneEnd D w) := by
 unfold maxLen at hm
 have ia : ¬ ((t[0].toNat : Int) < 128) := by omega
 have ib : (240 : Int) ≤ (t[0].toNat : Int) := by omega
 have ic : (t[0].toNat : Int) < 248 := by omega
 have id : (192 : Int) ≤ (t[0].toNat : Int) := by omega
 have ie : ¬ ((t[0].toNat : Int) < 224) := by omega
 have ig : (224 : Int) ≤ (t[0].toNat : Int) := by omega
 have ih : ¬ ((t[0].toNat : Int) < 240) := by omega
 have hn' : ¬ ((t.size : Int) < 4) := by omega
 have ci1 : ¬ ((t[1].toNat : Int) < 128) := by omega
 have ci2 : ¬ ((t[2].toNat : Int) < 128) := by omega
 have di1 : ¬ ((192 : Int) ≤ (t[1].toNat : Int)) := by omega
 have di2 : ¬ ((192 : Int) ≤ (t[2].toNat : Int)) := by omega
 have xi : (t[3].toNat : Int) < 128 := by omega
 have HD := Lib.hid hD
 clear hD
 go_enter Tryz.func52, Tryz.ntmps52
 go_wp2
 refine wp_loop_rounds 3 ?_
 rw [rounds_succ]
 go_wp2
 rw [rounds_succ]
 go_wp2
 rw [rounds_succ]
 go_wp2
 go_ret2
 exact one_end HD.out
theorem r4_hi3 (t : ByteArray) (w : World) (hm : t.size ≤ maxLen) (D : Int × Int) (h0 : 0 < t.size) (h1 : 1 < t.size) (h2 : 2 < t.size) (h3 : 3 < t.size) (ha : 240 ≤ t[0].toNat) (hb : t[0].toNat < 248) (c1 : 128 ≤ t[1].toNat) (d1 : t[1].toNat < 192) (c2 : 128 ≤ t[2].toNat) (d2 : t[2].toNat < 192) (x : 192 ≤ t[3].toNat) (hD : D = ((0 : Int), 0)) :
  Calls Tryz.prog 52 #[.string t] w (OneEnd D w) := by
 unfold maxLen at hm
 have ia : ¬ ((t[0].toNat : Int) < 128) := by omega
 have ib : (240 : Int) ≤ (t[0].toNat : Int) := by omega
 have ic : (t[0].toNat : Int) < 248 := by omega
 have id : (192 : Int) ≤ (t[0].toNat : Int) := by omega
 have ie : ¬ ((t[0].toNat : Int) < 224) := by omega
 have ig : (224 : Int) ≤ (t[0].toNat : Int) := by omega
 have ih : ¬ ((t[0].toNat : Int) < 240) := by omega
 have hn' : ¬ ((t.size : Int) < 4) := by omega
 have ci1 : ¬ ((t[1].toNat : Int) < 128) := by omega
 have ci2 : ¬ ((t[2].toNat : Int) < 128) := by omega
 have di1 : ¬ ((192 : Int) ≤ (t[1].toNat : Int)) := by omega
 have di2 : ¬ ((192 : Int) ≤ (t[2].toNat : Int)) := by omega
 have zi : (t[3].toNat : Int) ≤ 255 := by have := t[3].toNat_lt; omega
 have xi : ¬ ((t[3].toNat : Int) < 128) := by omega
 have yi : (192 : Int) ≤ (t[3].toNat : Int) := by omega
 have HD := Lib.hid hD
 clear hD
 go_enter Tryz.func52, Tryz.ntmps52
 go_wp2
 refine wp_loop_rounds 3 ?_
 rw [rounds_succ]
 go_wp2
 rw [rounds_succ]
 go_wp2
 rw [rounds_succ]
 go_wp2
 go_ret2
 exact one_end HD.out
theorem r4_small (t : ByteArray) (w : World) (hm : t.size ≤ maxLen) (D : Int × Int) (h0 : 0 < t.size) (h1 : 1 < t.size) (h2 : 2 < t.size) (h3 : 3 < t.size) (ha : 240 ≤ t[0].toNat) (hb : t[0].toNat < 248) (c1 : 128 ≤ t[1].toNat) (d1 : t[1].toNat < 192) (c2 : 128 ≤ t[2].toNat) (d2 : t[2].toNat < 192) (c3 : 128 ≤ t[3].toNat) (d3 : t[3].toNat < 192) (x : 64 * (64 * (64 * ((t[0].toNat : Int) - 240) + (t[1].toNat : Int) - 128) + (t[2].toNat : Int) - 128) + (t[3].toNat : Int) - 128 < 65536) (hD : D = ((0 : Int), 0)) :
  Calls Tryz.prog 52 #[.string t] w (OneEnd D w) := by
 unfold maxLen at hm
 have ia : ¬ ((t[0].toNat : Int) < 128) := by omega
 have ib : (240 : Int) ≤ (t[0].toNat : Int) := by omega
 have ic : (t[0].toNat : Int) < 248 := by omega
 have id : (192 : Int) ≤ (t[0].toNat : Int) := by omega
 have ie : ¬ ((t[0].toNat : Int) < 224) := by omega
 have ig : (224 : Int) ≤ (t[0].toNat : Int) := by omega
 have ih : ¬ ((t[0].toNat : Int) < 240) := by omega
 have hn' : ¬ ((t.size : Int) < 4) := by omega
 have ci1 : ¬ ((t[1].toNat : Int) < 128) := by omega
 have ci2 : ¬ ((t[2].toNat : Int) < 128) := by omega
 have ci3 : ¬ ((t[3].toNat : Int) < 128) := by omega
 have di1 : ¬ ((192 : Int) ≤ (t[1].toNat : Int)) := by omega
 have di2 : ¬ ((192 : Int) ≤ (t[2].toNat : Int)) := by omega
 have di3 : ¬ ((192 : Int) ≤ (t[3].toNat : Int)) := by omega
 have HD := Lib.hid hD
 clear hD
 go_enter Tryz.func52, Tryz.ntmps52
 go_wp2
 refine wp_loop_rounds 4 ?_
 rw [rounds_succ]
 go_wp2
 rw [rounds_succ]
 go_wp2
 rw [rounds_succ]
 go_wp2
 rw [rounds_succ]
 go_wp2
 go_ret2
 exact one_end HD.out
theorem r4_big (t : ByteArray) (w : World) (hm : t.size ≤ maxLen) (D : Int × Int) (h0 : 0 < t.size) (h1 : 1 < t.size) (h2 : 2 < t.size) (h3 : 3 < t.size) (ha : 240 ≤ t[0].toNat) (hb : t[0].toNat < 248) (c1 : 128 ≤ t[1].toNat) (d1 : t[1].toNat < 192) (c2 : 128 ≤ t[2].toNat) (d2 : t[2].toNat < 192) (c3 : 128 ≤ t[3].toNat) (d3 : t[3].toNat < 192) (x : ¬ (64 * (64 * (64 * ((t[0].toNat : Int) - 240) + (t[1].toNat : Int) - 128) + (t[2].toNat : Int) - 128) + (t[3].toNat : Int) - 128 < 65536)) (y : 1114111 < 64 * (64 * (64 * ((t[0].toNat : Int) - 240) + (t[1].toNat : Int) - 128) + (t[2].toNat : Int) - 128) + (t[3].toNat : Int) - 128) (hD : D = ((0 : Int), 0)) :
  Calls Tryz.prog 52 #[.string t] w (OneEnd D w) := by
 unfold maxLen at hm
 have ia : ¬ ((t[0].toNat : Int) < 128) := by omega
 have ib : (240 : Int) ≤ (t[0].toNat : Int) := by omega
 have ic : (t[0].toNat : Int) < 248 := by omega
 have id : (192 : Int) ≤ (t[0].toNat : Int) := by omega
 have ie : ¬ ((t[0].toNat : Int) < 224) := by omega
 have ig : (224 : Int) ≤ (t[0].toNat : Int) := by omega
 have ih : ¬ ((t[0].toNat : Int) < 240) := by omega
 have hn' : ¬ ((t.size : Int) < 4) := by omega
 have ci1 : ¬ ((t[1].toNat : Int) < 128) := by omega
 have ci2 : ¬ ((t[2].toNat : Int) < 128) := by omega
 have ci3 : ¬ ((t[3].toNat : Int) < 128) := by omega
 have di1 : ¬ ((192 : Int) ≤ (t[1].toNat : Int)) := by omega
 have di2 : ¬ ((192 : Int) ≤ (t[2].toNat : Int)) := by omega
 have di3 : ¬ ((192 : Int) ≤ (t[3].toNat : Int)) := by omega
 have HD := Lib.hid hD
 clear hD
 go_enter Tryz.func52, Tryz.ntmps52
 go_wp2
 refine wp_loop_rounds 4 ?_
 rw [rounds_succ]
 go_wp2
 rw [rounds_succ]
 go_wp2
 rw [rounds_succ]
 go_wp2
 rw [rounds_succ]
 go_wp2
 go_ret2
 exact one_end HD.out
theorem r4_ok (t : ByteArray) (w : World) (hm : t.size ≤ maxLen) (D : Int × Int) (h0 : 0 < t.size) (h1 : 1 < t.size) (h2 : 2 < t.size) (h3 : 3 < t.size) (ha : 240 ≤ t[0].toNat) (hb : t[0].toNat < 248) (c1 : 128 ≤ t[1].toNat) (d1 : t[1].toNat < 192) (c2 : 128 ≤ t[2].toNat) (d2 : t[2].toNat < 192) (c3 : 128 ≤ t[3].toNat) (d3 : t[3].toNat < 192) (x : ¬ (64 * (64 * (64 * ((t[0].toNat : Int) - 240) + (t[1].toNat : Int) - 128) + (t[2].toNat : Int) - 128) + (t[3].toNat : Int) - 128 < 65536)) (y : ¬ (1114111 < 64 * (64 * (64 * ((t[0].toNat : Int) - 240) + (t[1].toNat : Int) - 128) + (t[2].toNat : Int) - 128) + (t[3].toNat : Int) - 128)) (hD : D = ((4 : Int), 64 * (64 * (64 * ((t[0].toNat : Int) - 240) + (t[1].toNat : Int) - 128) + (t[2].toNat : Int) - 128) + (t[3].toNat : Int) - 128)) :
  Calls Tryz.prog 52 #[.string t] w (OneEnd D w) := by
 unfold maxLen at hm
 have ia : ¬ ((t[0].toNat : Int) < 128) := by omega
 have ib : (240 : Int) ≤ (t[0].toNat : Int) := by omega
 have ic : (t[0].toNat : Int) < 248 := by omega
 have id : (192 : Int) ≤ (t[0].toNat : Int) := by omega
 have ie : ¬ ((t[0].toNat : Int) < 224) := by omega
 have ig : (224 : Int) ≤ (t[0].toNat : Int) := by omega
 have ih : ¬ ((t[0].toNat : Int) < 240) := by omega
 have hn' : ¬ ((t.size : Int) < 4) := by omega
 have ci1 : ¬ ((t[1].toNat : Int) < 128) := by omega
 have ci2 : ¬ ((t[2].toNat : Int) < 128) := by omega
 have ci3 : ¬ ((t[3].toNat : Int) < 128) := by omega
 have di1 : ¬ ((192 : Int) ≤ (t[1].toNat : Int)) := by omega
 have di2 : ¬ ((192 : Int) ≤ (t[2].toNat : Int)) := by omega
 have di3 : ¬ ((192 : Int) ≤ (t[3].toNat : Int)) := by omega
 have HD := Lib.hid hD
 clear hD
 go_enter Tryz.func52, Tryz.ntmps52
 go_wp2
 refine wp_loop_rounds 4 ?_
 rw [rounds_succ]
 go_wp2
 rw [rounds_succ]
 go_wp2
 rw [rounds_succ]
 go_wp2
 rw [rounds_succ]
 go_wp2
 go_ret2
 exact one_end HD.out
end Go.Proofs.YtbfdpibjicjagaaGreatDoor.lbl
namespace Go.Proofs.YtbfdpibjicjagaaGreatDoor.lbl
open Go.RowKit Go.Lib
theorem oneA_ok (r s : Nat) (h : bad (r, s) = false) : oneA (r, s) = ((s : Int), (r : Int)) := by unfold oneA; rw [h]; rfl
theorem oneA_bad : oneA (65533, 1) = ((0 : Int), 0) := by decide
theorem rune_any (t : ByteArray) (w : World) (hm : t.size ≤ maxLen) (h0 : 0 < t.size) : Calls Tryz.prog 52 #[.string t] w (OneEnd (oneB t) w) := by
 unfold oneB
 rw [decode_at, Nat.sub_zero]
 have W := way t.size (t.get! 0).toNat (t.get! (0 + 1)).toNat (t.get! (0 + 2)).toNat (t.get! (0 + 3)).toNat
 simp only [Nat.zero_add] at W ⊢
 rw [get_el t 0 h0] at W ⊢
 have l0 := t[0].toNat_lt
 have g1 : ∀ h : 1 < t.size, (t.get! 1).toNat = (t[1]'h).toNat := fun h => get_el t 1 h
 have g2 : ∀ h : 2 < t.size, (t.get! 2).toNat = (t[2]'h).toNat := fun h => get_el t 2 h
 have g3 : ∀ h : 3 < t.size, (t.get! 3).toNat = (t[3]'h).toNat := fun h => get_el t 3 h
 generalize (t.get! 1).toNat = b1 at *
 generalize (t.get! 2).toNat = b2 at *
 generalize (t.get! 3).toNat = b3 at *
 generalize decodeN t.size t[0].toNat b1 b2 b3 = d at *
 cases W with
 | one h => exact r_one t w _ h0 h (oneA_ok _ _ (by simp [bad]; omega))
 | two hn h =>
  obtain rfl := g1 hn
  obtain ⟨x1, x2, x3⟩ := h
  have e : (r2 t[0].toNat t[1].toNat : Int) = 64 * ((t[0].toNat : Int) - 192) + (t[1].toNat : Int) - 128 := by unfold r2; omega
  have x4 : (128 : Int) ≤ (r2 t[0].toNat t[1].toNat : Int) := by omega
  have x5 : r2 t[0].toNat t[1].toNat < 2048 := by unfold r2; omega
  rw [e] at x4
  refine r2_ok t w hm _ h0 hn (by omega) (by omega) (by omega) (by omega) (by omega) (by omega) (by omega) ?_
  rw [oneA_ok _ _ (by simp [bad]), e]
  rfl
 | three hn h =>
  have hn1 : 1 < t.size := by omega
  obtain rfl := g1 hn1
  obtain rfl := g2 hn
  obtain ⟨x1, x2, x2', x3, xs⟩ := h
  have e : (r3 t[0].toNat t[1].toNat t[2].toNat : Int) = 64 * (64 * ((t[0].toNat : Int) - 224) + (t[1].toNat : Int) - 128) + (t[2].toNat : Int) - 128 := by unfold r3; omega
  have x4 : (2048 : Int) ≤ (r3 t[0].toNat t[1].toNat t[2].toNat : Int) := by omega
  have x5 : r3 t[0].toNat t[1].toNat t[2].toNat < 65536 := by unfold r3; omega
  have hk : oneA (r3 t[0].toNat t[1].toNat t[2].toNat, 3) = (((3 : Nat) : Int), (r3 t[0].toNat t[1].toNat t[2].toNat : Int)) := oneA_ok _ _ (by simp [bad])
  rw [hk, e]
  rw [e] at x4
  rcases xs with xs | xs
  ·refine r3_ok1 t w hm _ h0 hn1 hn (by omega) (by omega) (by omega) (by omega) (by omega) (by omega) (by omega) (by omega) (by omega) rfl
  ·refine r3_ok2 t w hm _ h0 hn1 hn (by omega) (by omega) (by omega) (by omega) (by omega) (by omega) (by omega) (by omega) (by omega) (by omega) rfl
 | four hn h =>
  have hn1 : 1 < t.size := by omega
  have hn2 : 2 < t.size := by omega
  obtain rfl := g1 hn1
  obtain rfl := g2 hn2
  obtain rfl := g3 hn
  obtain ⟨x1, x2, x2', x2'', x3, xs⟩ := h
  have e : (r4 t[0].toNat t[1].toNat t[2].toNat t[3].toNat : Int) = 64 * (64 * (64 * ((t[0].toNat : Int) - 240) + (t[1].toNat : Int) - 128) + (t[2].toNat : Int) - 128) + (t[3].toNat : Int) - 128 := by unfold r4; omega
  have hk : oneA (r4 t[0].toNat t[1].toNat t[2].toNat t[3].toNat, 4) = (((4 : Nat) : Int), (r4 t[0].toNat t[1].toNat t[2].toNat t[3].toNat : Int)) := oneA_ok _ _ (by simp [bad])
  rw [hk, e]
  refine r4_ok t w hm _ h0 hn1 hn2 hn (by omega) (by omega) (by omega) (by omega) (by omega) (by omega) (by omega) (by omega) (by omega) (by omega) rfl
 | none k0 k2 k3 k4 =>
  rw [oneA_bad]
  unfold C2 r2 at k2
  unfold C3 r3 at k3
  unfold C4 r4 at k4
  by_cases a1 : t[0].toNat < 192
  ·exact r_low t w _ h0 (by omega) a1 rfl
  ·by_cases a2 : t[0].toNat < 224
   ·by_cases n1 : 1 < t.size
    ·obtain rfl := g1 n1
     by_cases c1 : t[1].toNat < 128
     ·exact r2_lo1 t w hm _ h0 n1 (by omega) a2 c1 rfl
     ·by_cases d1 : t[1].toNat < 192
      ·have k := k2 n1
       exact r2_small t w hm _ h0 n1 (by omega) a2 (by omega) d1 (by omega) rfl
      ·exact r2_hi1 t w hm _ h0 n1 (by omega) a2 (by omega) rfl
    ·exact r2_short t w hm _ h0 (by omega) (by omega) a2 rfl
   ·by_cases a3 : t[0].toNat < 240
    ·by_cases n2 : 2 < t.size
     ·have n1 : 1 < t.size := by omega
      obtain rfl := g1 n1
      obtain rfl := g2 n2
      by_cases c1 : t[1].toNat < 128
      ·exact r3_lo1 t w hm _ h0 n1 n2 (by omega) a3 c1 rfl
      ·by_cases d1 : t[1].toNat < 192
       ·by_cases c2 : t[2].toNat < 128
        ·exact r3_lo2 t w hm _ h0 n1 n2 (by omega) a3 (by omega) d1 c2 rfl
        ·by_cases d2 : t[2].toNat < 192
         ·have k := k3 n2
          by_cases s1 : 64 * (64 * ((t[0].toNat : Int) - 224) + (t[1].toNat : Int) - 128) + (t[2].toNat : Int) - 128 < 2048
          ·exact r3_small t w hm _ h0 n1 n2 (by omega) a3 (by omega) d1 (by omega) d2 s1 rfl
          ·exact r3_sur t w hm _ h0 n1 n2 (by omega) a3 (by omega) d1 (by omega) d2 s1 (by omega) (by omega) (by omega) rfl
         ·exact r3_hi2 t w hm _ h0 n1 n2 (by omega) a3 (by omega) d1 (by omega) rfl
       ·exact r3_hi1 t w hm _ h0 n1 n2 (by omega) a3 (by omega) rfl
     ·exact r3_short t w hm _ h0 (by omega) (by omega) a3 rfl
    ·by_cases a4 : t[0].toNat < 248
     ·by_cases n3 : 3 < t.size
      ·have n1 : 1 < t.size := by omega
       have n2 : 2 < t.size := by omega
       obtain rfl := g1 n1
       obtain rfl := g2 n2
       obtain rfl := g3 n3
       by_cases c1 : t[1].toNat < 128
       ·exact r4_lo1 t w hm _ h0 n1 n2 n3 (by omega) a4 c1 rfl
       ·by_cases d1 : t[1].toNat < 192
        ·by_cases c2 : t[2].toNat < 128
         ·exact r4_lo2 t w hm _ h0 n1 n2 n3 (by omega) a4 (by omega) d1 c2 rfl
         ·by_cases d2 : t[2].toNat < 192
          ·by_cases c3 : t[3].toNat < 128
           ·exact r4_lo3 t w hm _ h0 n1 n2 n3 (by omega) a4 (by omega) d1 (by omega) d2 c3 rfl
           ·by_cases d3 : t[3].toNat < 192
            ·have k := k4 n3
             by_cases s1 : 64 * (64 * (64 * ((t[0].toNat : Int) - 240) + (t[1].toNat : Int) - 128) + (t[2].toNat : Int) - 128) + (t[3].toNat : Int) - 128 < 65536
             ·exact r4_small t w hm _ h0 n1 n2 n3 (by omega) a4 (by omega) d1 (by omega) d2 (by omega) d3 s1 rfl
             ·exact r4_big t w hm _ h0 n1 n2 n3 (by omega) a4 (by omega) d1 (by omega) d2 (by omega) d3 s1 (by omega) rfl
            ·exact r4_hi3 t w hm _ h0 n1 n2 n3 (by omega) a4 (by omega) d1 (by omega) d2 (by omega) rfl
          ·exact r4_hi2 t w hm _ h0 n1 n2 n3 (by omega) a4 (by omega) d1 (by omega) rfl
        ·exact r4_hi1 t w hm _ h0 n1 n2 n3 (by omega) a4 (by omega) rfl
      ·exact r4_short t w hm _ h0 (by omega) (by omega) a4 rfl
     ·exact r_high t w _ h0 (by omega) rfl
end Go.Proofs.YtbfdpibjicjagaaGreatDoor.lbl
