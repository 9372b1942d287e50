/-
  Package casematekeep, as far as it is about bytes: Twin copies, Bytes tells whether they are the same; and small words for slices and worlds. Conditions: slices shorter than 2^20 bytes.
-/
import Derived.Test.YtpcadoekhoediaaDoorProg
import Derived.Test.YtpcadoekhoediaaDoorBytes
import Derived.WalkKit
import Derived.WalkLawsBesides
import Derived.WalkSpells
import Derived.Calls
import Derived.Lib.Walk
import Derived.Lib.Hide
import Derived.LoopTactic
import Derived.Outline
import Derived.Deep.QuietTactic
import Derived.BigQuiet
namespace Go.Proofs.YtpcadoekhoediaaDoor
open Go.RowKit Go.Lib

theorem bt {a b c : World} (h : Below a.heap.size a b) (k : Below b.heap.size b c) : Below a.heap.size a c := h.trans (k.mono h.size)
theorem below_dn {B : Nat} {a w : World} (h : Below B a w) (n : Nat) : Below B a (w.drewN n) := ⟨h.os, h.tape, h.output, h.size, h.block⟩
theorem below_dr {B : Nat} {a w : World} (h : Below B a w) : Below B a w.drew := ⟨h.os, h.tape, h.output, h.size, h.block⟩
theorem ret_int {k : IntKind} {a b : Int} (h : a = b) : Ending.returned (.int k a) = .returned (.int k b) := by rw [h]
theorem ret_bool {a b : Bool} (h : a = b) : Ending.returned (.bool a) = .returned (.bool b) := by rw [h]
theorem wrap_nonneg (x : Int) : 0 ≤ IntKind.u64.wrap x := by
  rw [show IntKind.u64.wrap x = x % 18446744073709551616 by simp [IntKind.wrap, IntKind.bits, IntKind.signed]]
  exact Int.emod_nonneg _ (by omega)

theorem u8_info : (Tryd.prog.info? 5).map (fun i => (i.zero, i.size, i.bytes)) = some (some (.int .u8 0), 1, 1) := by kernel_rfl
theorem t8 : T8 Tryd.prog 31 5 := by
  refine ⟨Tryd.underlying31, Tryd.underlying5, ?_⟩
  have h := u8_info
  cases hi : Tryd.prog.info? 5 with
  | none => rw [hi] at h; cases h
  | some i =>
    rw [hi] at h
    simp only [Option.map_some, Option.some.injEq, Prod.mk.injEq] at h
    exact ⟨i, rfl, h.1, h.2.1, h.2.2⟩

theorem Sl.take {w : World} {B : Nat} {A : Option Addr} {l : List UInt8} (h : Sl w B A l) (k : Nat) : Sl w B A (l.take k) := fun hl => by
  rw [List.length_take] at hl
  obtain ⟨b, off, he, hb, hc⟩ := h (by omega)
  refine ⟨b, off, he, hb, fun j hj => ?_⟩
  rw [List.length_take] at hj
  rw [hc j (by omega)]
  simp
theorem Sl.drop {w : World} {B b off : Nat} {l : List UInt8} (h : Sl w B (some ⟨b, off, none⟩) l) (k : Nat) : Sl w B (some ⟨b, off + k, none⟩) (l.drop k) := fun hl => by
  rw [List.length_drop] at hl
  obtain ⟨b', off', he, hb, hc⟩ := h (by omega)
  simp only [Option.some.injEq, Addr.mk.injEq, and_true] at he
  obtain ⟨rfl, rfl⟩ := he
  refine ⟨b, off + k, rfl, hb, fun j hj => ?_⟩
  rw [List.length_drop] at hj
  have := hc (k + j) (by omega)
  rw [show off + k + j = off + (k + j) by omega, this]
  simp

def One (base : Nat) (l : List UInt8) (e : Ending) (w' : World) : Prop := ∃ v, e = .returned v ∧ Own w' base 5 v l
set_option maxRecDepth 100000 in
theorem twin_any (A : Option Addr) (c B : Nat) (l : List UInt8) (w : World) (hA : Sl w B A l) (hl : l.length ≤ 1048576) :
    Calls Tryd.prog 62 #[.slice A l.length c] w fun e w' => One w.heap.size l e w' ∧ Below w.heap.size w w' := by
  go_enter Tryd.func62, Tryd.ntmps62
  go_wp2_with (first
    | (at_builtin
       refine wpList_app8 _ rfl (.tmp 4) (.tmp 5) _ _ rfl w.heap.size 5 t8 (.slice none 0 0) [] rfl (own_nil _ _ _) _ _ rfl (Sl.src hA Tryd.underlying31 c) ?_ ?_ ?_
       · simp; omega
       · exact Nat.le_refl _
       intro v2 w2 hown2 hg2 hat2))
  go_ret
  exact ⟨⟨v2, rfl, hown2⟩, (Below.refl _ _).grown hg2 (Nat.le_refl _) (fun k hk => by simp [Value.ownBlock] at hk)⟩

end Go.Proofs.YtpcadoekhoediaaDoor
