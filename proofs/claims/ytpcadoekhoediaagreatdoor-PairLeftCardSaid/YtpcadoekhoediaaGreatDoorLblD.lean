/-
  Bytes and Read of package label, each by its contract. Conditions: a text, a slice is shorter than 2^46 bytes; 'Tabs', 'ValidOk' as before.
-/
import Derived.Test.YtpcadoekhoediaaGreatDoorGLb
import Derived.Test.YtpcadoekhoediaaGreatDoorBytes
import Derived.Lib.Walk
import Derived.Laws.MakeOwn
namespace Go.Proofs.YtpcadoekhoediaaGreatDoor.lbl
open Go.RowKit Go.Lib

theorem u8_info : (Tryz.prog.info? 5).map (fun i => (i.zero, i.size, i.bytes)) = some (some (.int .u8 0), 1, 1) := by kernel_rfl
theorem t8 : T8 Tryz.prog 28 5 := by
  refine ⟨Tryz.underlying28, Tryz.underlying5, ?_⟩
  have h := u8_info
  cases hi : Tryz.prog.info? 5 with
  | none => rw [hi] at h; cases h
  | some i =>
    rw [hi] at h
    simp only [Option.map_some, Option.some.injEq, Prod.mk.injEq] at h
    exact ⟨i, rfl, h.1, h.2.1, h.2.2⟩

/-- The bytes of a label. -/
def encL (l : List UInt8) : List UInt8 := UInt8.ofNat l.length :: l
def SliceAns (base : Nat) (l : List UInt8) (e : Ending) (w' : World) : Prop := ∃ v, e = .returned (.tuple #[v, .int .i64 0]) ∧ Own w' base 5 v l

/-- What Read answers: nothing, or the text and its bytes' number. -/
def readL (l : List UInt8) : Option (List UInt8) :=
  match l with
  | [] => none
  | n :: r => if r.length < n.toNat then none else if labE (r.take n.toNat) = 0 then some (r.take n.toNat) else none

/-- The bytes behind the first one. -/
theorem Sl.tail {w : World} {B b off : Nat} {n : UInt8} {r : List UInt8} (h : Sl w B (some ⟨b, off, none⟩) (n :: r)) (k : Nat) : Sl w B (some ⟨b, off + 1, none⟩) (r.take k) := fun hl => by
  obtain ⟨b', off', he, hb, hc⟩ := h (by simp)
  simp only [Option.some.injEq, Addr.mk.injEq, and_true] at he
  obtain ⟨rfl, rfl⟩ := he
  refine ⟨b, off + 1, rfl, hb, fun j hj => ?_⟩
  rw [List.length_take] at hj
  have := hc (j + 1) (by rw [List.length_cons]; omega)
  rw [show off + (j + 1) = off + 1 + j by omega] at this
  rw [this]
  simp

def ReadAns (B : Nat) (n : Nat) (t : List UInt8) (w : World) (e : Ending) (w' : World) : Prop :=
  ∃ S : ByteArray, S.data.toList = t ∧ (e = .returned (if labE t = 0 then .tuple #[.string S, .int .i64 (1 + n), .int .i64 0] else .tuple #[.string ⟨#[]⟩, .int .i64 0, .int .i64 4])) ∧ Below B w w'

end Go.Proofs.YtpcadoekhoediaaGreatDoor.lbl
