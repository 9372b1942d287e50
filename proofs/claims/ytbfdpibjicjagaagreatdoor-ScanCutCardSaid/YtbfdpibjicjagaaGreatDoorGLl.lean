/-
  'wakes': the two runes that each law looks at, too: it answers true. Conditions: 'Tabs', 'ValidOk', 'CloneOk' as before.
  The law LabelJoins, walked: it returns true for every two texts. Conditions: 'Tabs' (the library's two tables are as its text lays them).
  The law LabelRunes, walked: it returns true for every row of integers. Conditions: 'Tabs' (the library's two tables are as its text lays them).
  The law LabelBack, walked: it returns true for every text, bytes and cut. Conditions: 'Tabs' (the library's two tables are as its text lays them).
  The law LabelCuts, walked: it returns true for every text and two numbers. Conditions: 'Tabs' (the library's two tables are as its text lays them).
-/
import Derived.Test.YtbfdpibjicjagaaGreatDoorLblD
import Derived.Test.YtbfdpibjicjagaaGreatDoorOpen
import Derived.Deep.RegionWith
import Derived.Deep.CutRange
import Derived.Deep.DeepCutAuto
import Derived.Deep.RegionHeld3
set_option maxRecDepth 100000
namespace Go.Proofs.YtbfdpibjicjagaaGreatDoor.lbl
open Go.RowKit Go.Lib
end Go.Proofs.YtbfdpibjicjagaaGreatDoor.lbl
namespace Go.Proofs.YtbfdpibjicjagaaGreatDoor.lbl
open Go.RowKit Go.Lib
end Go.Proofs.YtbfdpibjicjagaaGreatDoor.lbl
namespace Go.Proofs.YtbfdpibjicjagaaGreatDoor.lbl
open Go.RowKit Go.Lib
def letters : List ByteArray := [⟨#[97]⟩, ⟨#[195, 169]⟩, ⟨#[195, 159]⟩, ⟨#[230, 176, 180]⟩, ⟨#[240, 159, 152, 128]⟩, ⟨#[32]⟩, ⟨#[126]⟩]
def pick (z : Int) : Nat := ((IntKind.u64.wrap z).tmod 7).toNat
def letter (z : Int) : ByteArray := letters.getD (pick z) ⟨#[]⟩
def text (l : List Int) : ByteArray := l.foldl (fun s z => s ++ letter z) ⟨#[]⟩
theorem wrap_nonneg (z : Int) : 0 ≤ IntKind.u64.wrap z := by
  unfold IntKind.wrap
  simp [IntKind.bits, IntKind.signed]
  omega
end Go.Proofs.YtbfdpibjicjagaaGreatDoor.lbl
namespace Go.Proofs.YtbfdpibjicjagaaGreatDoor.lbl
open Go.RowKit Go.Lib
def One (base : Nat) (l : List UInt8) (e : Ending) (w' : World) : Prop := ∃ v, e = .returned v ∧ Own w' base 5 v l
theorem twin_any (A : Option Addr) (c B : Nat) (l : List UInt8) (w : World) (hA : Sl w B A l) (hl : l.length ≤ 65536) :
    Calls Tryz.prog 23 #[.slice A l.length c] w fun e w' => One w.heap.size l e w' ∧ Below w.heap.size w w' := by
  go_enter Tryz.func23, Tryz.ntmps23
  go_wp2_with (first
    | (at_builtin
       refine wpList_app8 _ rfl (.tmp 4) (.tmp 5) _ _ rfl w.heap.size 5 t8 (.slice none 0 0) [] rfl (own_nil _ _ _) _ _ rfl (Sl.src hA Tryz.underlying49 c) ?_ ?_ ?_
       · simp; omega
       · exact Nat.le_refl _
       intro v2 w2 hown2 hg2 hat2))
  go_ret
  exact ⟨⟨v2, rfl, hown2⟩, (Below.refl _ _).grown hg2 (Nat.le_refl _) (fun k hk => by simp [Value.ownBlock] at hk)⟩
theorem Sl.take {w : World} {B : Nat} {A : Option Addr} {l : List UInt8} (h : Sl w B A l) (k : Nat) : Sl w B A (l.take k) := fun hl => by
  rw [List.length_take] at hl
  obtain ⟨b, off, he, hb, hc⟩ := h (by omega)
  refine ⟨b, off, he, hb, fun j hj => ?_⟩
  rw [List.length_take] at hj
  rw [hc j (by omega)]
  simp
end Go.Proofs.YtbfdpibjicjagaaGreatDoor.lbl
namespace Go.Proofs.YtbfdpibjicjagaaGreatDoor.lbl
open Go.RowKit Go.Lib
theorem ext_drop (t : ByteArray) (k : Nat) : (t.extract k t.size).data.toList = t.data.toList.drop k := by
  rw [Lib.extract_data, List.take_of_length_le (by rw [List.length_drop, size_list]; exact Nat.le_refl _)]
theorem wrap_mod (n : Int) : ∃ N : Nat, N < 500 ∧ (IntKind.u64.wrap n).tmod 500 = (N : Int) := by
  have h0 := wrap_nonneg n
  generalize IntKind.u64.wrap n = y at *
  rw [Int.tmod_eq_emod_of_nonneg h0]
  exact ⟨(y % 500).toNat, by omega, by omega⟩
end Go.Proofs.YtbfdpibjicjagaaGreatDoor.lbl
