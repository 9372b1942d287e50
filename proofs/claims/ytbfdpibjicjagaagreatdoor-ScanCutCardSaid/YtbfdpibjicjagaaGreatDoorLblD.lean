/-
  Bytes and Read of package label, each by its contract. Conditions: a text, a slice is shorter than 2^46 bytes; 'Tabs', 'ValidOk' as before.
-/
import Derived.Test.YtbfdpibjicjagaaGreatDoorGLb
import Derived.Test.YtbfdpibjicjagaaGreatDoorBytes
import Derived.Lib.Walk
import Derived.Laws.MakeOwn
namespace Go.Proofs.YtbfdpibjicjagaaGreatDoor.lbl
open Go.RowKit Go.Lib
theorem u8_info : (Tryz.prog.info? 5).map (fun i => (i.zero, i.size, i.bytes)) = some (some (.int .u8 0), 1, 1) := by kernel_rfl
theorem t8 : T8 Tryz.prog 49 5 := by
 refine ⟨Tryz.underlying49, Tryz.underlying5, ?_⟩
 have h := u8_info
 cases hi : Tryz.prog.info? 5 with
 | none => rw [hi] at h; cases h
 | some i =>
  rw [hi] at h
  simp only [Option.map_some, Option.some.injEq, Prod.mk.injEq] at h
  exact ⟨i, rfl, h.1, h.2.1, h.2.2⟩
def encL (l : List UInt8) : List UInt8 := UInt8.ofNat l.length :: l
theorem Sl.tail {w : World} {B b off : Nat} {n : UInt8} {r : List UInt8} (h : Sl w B (some ⟨b, off, none⟩) (n :: r)) (k : Nat) : Sl w B (some ⟨b, off + 1, none⟩) (r.take k) := fun hl => by
 obtain ⟨b', off', he, hb, hc⟩ := h (by simp)
 simp only [Option.some.injEq, Addr.mk.injEq, and_true] at he
 obtain ⟨rfl, rfl⟩ := he
 refine ⟨b, off + 1, rfl, hb, fun j hj => ?_⟩
 rw [List.length_take] at hj
 have := hc (j + 1) (by rw [List.length_cons]; omega)
 rw [show off + (j + 1) = off + 1 + j by omega] at this
 rw [this]
 simp
end Go.Proofs.YtbfdpibjicjagaaGreatDoor.lbl
