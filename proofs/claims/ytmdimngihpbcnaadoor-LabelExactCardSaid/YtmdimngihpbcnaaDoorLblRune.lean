/-
  The reader of one rune that the document's answer uses, by its contract: what it answers at every text that is not empty. No condition.
-/
import Derived.Test.YtmdimngihpbcnaaDoorLblCutsLaw
import Derived.LoopN
namespace Go.Proofs.YtmdimngihpbcnaaDoor.lbl
open Go.RowKit Go.Lib

/-- What the reader of one rune answers: how many bytes, and which; noughts of none. -/
def oneA (d : Nat × Nat) : Int × Int := if bad d then (0, 0) else ((d.2 : Int), (d.1 : Int))
def oneB (t : ByteArray) : Int × Int := oneA (Utf8.decode t 0)
def OneEnd (d : Int × Int) (w : World) (e : Ending) (w' : World) : Prop := e = .returned (.tuple #[.int .i64 d.1, .int .i64 d.2]) ∧ w = w'
theorem one_end {d : Int × Int} {w : World} {a b : Int} (h : d = (a, b)) : OneEnd d w (.returned (.tuple #[.int .i64 a, .int .i64 b])) w := by
  subst h; exact ⟨rfl, rfl⟩
theorem get_el (t : ByteArray) (k : Nat) (h : k < t.size) : (t.get! k).toNat = (t[k]'h).toNat := by
  have e : t.get! k = t[k]'h := by
    simp [ByteArray.get!, getElem!_pos, h]
    rfl
  rw [e]

set_option maxHeartbeats 1000000 in
set_option maxRecDepth 100000 in
theorem r_one (t : ByteArray) (w : World) (D : Int × Int) (h0 : 0 < t.size) (ha : t[0].toNat < 128) (hD : D = ((1 : Int), (t[0].toNat : Int))) :
    Calls Tryd.prog 22 #[.string t] w (OneEnd D w) := by
  have ia : (t[0].toNat : Int) < 128 := by omega
  have HD := Lib.hid hD
  clear hD
  go_enter Tryd.func22, Tryd.ntmps22
  go_wp2
  go_ret2
  exact one_end HD.out

set_option maxHeartbeats 1000000 in
set_option maxRecDepth 100000 in
theorem r_low (t : ByteArray) (w : World) (D : Int × Int) (h0 : 0 < t.size) (ha : 128 ≤ t[0].toNat) (hb : t[0].toNat < 192) (hD : D = ((0 : Int), 0)) :
    Calls Tryd.prog 22 #[.string t] w (OneEnd D w) := by
  have ia : ¬ ((t[0].toNat : Int) < 128) := by omega
  have ib : ¬ ((192 : Int) ≤ (t[0].toNat : Int)) := by omega
  have ic : ¬ ((224 : Int) ≤ (t[0].toNat : Int)) := by omega
  have id : ¬ ((240 : Int) ≤ (t[0].toNat : Int)) := by omega
  have HD := Lib.hid hD
  clear hD
  go_enter Tryd.func22, Tryd.ntmps22
  go_wp2
  go_ret2
  exact one_end HD.out

set_option maxHeartbeats 1000000 in
set_option maxRecDepth 100000 in
theorem r_high (t : ByteArray) (w : World) (D : Int × Int) (h0 : 0 < t.size) (ha : 248 ≤ t[0].toNat) (hD : D = ((0 : Int), 0)) :
    Calls Tryd.prog 22 #[.string t] w (OneEnd D w) := by
  have l0 := t[0].toNat_lt
  have ia : ¬ ((t[0].toNat : Int) < 128) := by omega
  have ib : (192 : Int) ≤ (t[0].toNat : Int) := by omega
  have ic : ¬ ((t[0].toNat : Int) < 224) := by omega
  have id : (224 : Int) ≤ (t[0].toNat : Int) := by omega
  have ie : ¬ ((t[0].toNat : Int) < 240) := by omega
  have ig : (240 : Int) ≤ (t[0].toNat : Int) := by omega
  have ih : ¬ ((t[0].toNat : Int) < 248) := by omega
  have HD := Lib.hid hD
  clear hD
  go_enter Tryd.func22, Tryd.ntmps22
  go_wp2
  go_ret2
  exact one_end HD.out

end Go.Proofs.YtmdimngihpbcnaaDoor.lbl
