/-
  'wakes': the two runes that each law looks at, too: it answers true. Conditions: 'Tabs', 'ValidOk', 'CloneOk' as before.
  The law LabelJoins, walked: it returns true for every two texts. Conditions: 'Tabs' (the library's two tables are as its text lays them).
  The law LabelRunes, walked: it returns true for every row of integers. Conditions: 'Tabs' (the library's two tables are as its text lays them).
  The law LabelBack, walked: it returns true for every text, bytes and cut. Conditions: 'Tabs' (the library's two tables are as its text lays them).
  The law LabelCuts, walked: it returns true for every text and two numbers. Conditions: 'Tabs' (the library's two tables are as its text lays them).
-/
import Derived.Test.YtdjleimndolonaaDoorLblD
import Derived.Test.YtdjleimndolonaaDoorOpen
import Derived.Deep.RegionWith
import Derived.Deep.CutRange
import Derived.Deep.DeepCutAuto
import Derived.Deep.RegionHeld3
namespace Go.Proofs.YtdjleimndolonaaDoor.lbl
open Go.RowKit Go.Lib

theorem read_ne (hV : ValidOk) (A : Option Addr) (c B : Nat) (W : World) (hT : Tabs W) (hA : Sl W B A [3, 110, 195, 169, 7]) (hc : 5 ≤ c) (hm : c ≤ maxLen) :
    Calls Tryd.prog 72 #[.slice A 5 c] W fun e w' => e = .returned (.tuple #[.string ⟨#[110, 195, 169]⟩, .int .i64 4, .int .i64 0]) ∧ Below W.heap.size W w' := by
  refine (read_any hV A c B 3 [110, 195, 169, 7] W hT hA hc hm (by decide)).mono ?_
  rintro e w' ⟨S, hS, he, hb⟩
  have hS' : S = ⟨#[110, 195, 169]⟩ := by
    apply ByteArray.ext
    apply Array.ext'
    rw [hS]
    decide
  rw [if_pos (by decide), hS'] at he
  exact ⟨he, hb⟩

end Go.Proofs.YtdjleimndolonaaDoor.lbl

namespace Go.Proofs.YtdjleimndolonaaDoor.lbl
open Go.RowKit Go.Lib

theorem app_list (a b : ByteArray) : (a ++ b).data.toList = a.data.toList ++ b.data.toList := by
  rw [ByteArray.data_append, Array.toList_append]
theorem app_size (a b : ByteArray) : (a ++ b).size = a.size + b.size := by rw [← size_list, app_list, List.length_append, size_list, size_list]

end Go.Proofs.YtdjleimndolonaaDoor.lbl

namespace Go.Proofs.YtdjleimndolonaaDoor.lbl
open Go.RowKit Go.Lib

def letters : List ByteArray := [⟨#[97]⟩, ⟨#[195, 169]⟩, ⟨#[195, 159]⟩, ⟨#[230, 176, 180]⟩, ⟨#[240, 159, 152, 128]⟩, ⟨#[32]⟩, ⟨#[126]⟩]
/-- Which letter a number stands for. -/
def pick (z : Int) : Nat := ((IntKind.u64.wrap z).tmod 7).toNat
def letter (z : Int) : ByteArray := letters.getD (pick z) ⟨#[]⟩
def text (l : List Int) : ByteArray := l.foldl (fun s z => s ++ letter z) ⟨#[]⟩

theorem wrap_nonneg (z : Int) : 0 ≤ IntKind.u64.wrap z := by
  unfold IntKind.wrap
  simp [IntKind.bits, IntKind.signed]
  omega
theorem pick_eq (z : Int) : (IntKind.u64.wrap z).tmod 7 = (pick z : Int) ∧ pick z < 7 := by
  have h := wrap_nonneg z
  unfold pick
  generalize IntKind.u64.wrap z = y at *
  rw [Int.tmod_eq_emod_of_nonneg h]
  omega
theorem text_snoc (l : List Int) (z : Int) : text (l ++ [z]) = text l ++ letter z := by
  unfold text; rw [List.foldl_append]; rfl
theorem letter_ok (z : Int) : okT (letter z).data.toList = true ∧ (toks (letter z).data.toList).length = 1 := by
  unfold letter
  have h := (pick_eq z).2
  generalize pick z = q at h
  rcases (by omega : q = 0 ∨ q = 1 ∨ q = 2 ∨ q = 3 ∨ q = 4 ∨ q = 5 ∨ q = 6) with rfl | rfl | rfl | rfl | rfl | rfl | rfl <;> decide
theorem text_ok (l : List Int) : okT (text l).data.toList = true ∧ (toks (text l).data.toList).length = l.length := by
  obtain ⟨r, rfl⟩ : ∃ r : List Int, l = r.reverse := ⟨l.reverse, by simp⟩
  induction r with
  | nil => exact ⟨by decide, by decide⟩
  | cons z r ih =>
    have hz := letter_ok z
    rw [List.reverse_cons, text_snoc, app_list]
    refine ⟨by rw [okT_append _ _ ih.1]; exact hz.1, ?_⟩
    rw [toks_append _ (ok_bad _ ih.1), List.length_append, ih.2, hz.2, List.length_append]
    rfl
theorem text_size (l : List Int) : (text l).size ≤ 4 * l.length := by
  rw [← size_list]
  have := len_le (text l).data.toList
  rw [(text_ok l).2] at this
  exact this
theorem text_bad (l : List Int) (x : UInt8) (hx : okT [x] = false) : labE (text l ++ ⟨#[x]⟩).data.toList = 3 := by
  unfold labE
  rw [app_list, okT_append _ _ (text_ok l).1]
  have e : ((⟨#[x]⟩ : ByteArray)).data.toList = [x] := rfl
  rw [e, hx]
  simp

end Go.Proofs.YtdjleimndolonaaDoor.lbl

namespace Go.Proofs.YtdjleimndolonaaDoor.lbl
open Go.RowKit Go.Lib

def One (base : Nat) (l : List UInt8) (e : Ending) (w' : World) : Prop := ∃ v, e = .returned v ∧ Own w' base 5 v l
set_option maxRecDepth 100000 in
theorem twin_any (A : Option Addr) (c B : Nat) (l : List UInt8) (w : World) (hA : Sl w B A l) (hl : l.length ≤ 65536) :
    Calls Tryd.prog 27 #[.slice A l.length c] w fun e w' => One w.heap.size l e w' ∧ Below w.heap.size w w' := by
  go_enter Tryd.func27, Tryd.ntmps27
  go_wp2_with (first
    | (at_builtin
       refine wpList_app8 _ rfl (.tmp 4) (.tmp 5) _ _ rfl w.heap.size 5 t8 (.slice none 0 0) [] rfl (own_nil _ _ _) _ _ rfl (Sl.src hA Tryd.underlying26 c) ?_ ?_ ?_
       · simp; omega
       · exact Nat.le_refl _
       intro v2 w2 hown2 hg2 hat2))
  go_ret
  exact ⟨⟨v2, rfl, hown2⟩, (Below.refl _ _).grown hg2 (Nat.le_refl _) (fun k hk => by simp [Value.ownBlock] at hk)⟩

theorem Sl.take {w : World} {B : Nat} {A : Option Addr} {l : List UInt8} (h : Sl w B A l) (k : Nat) : Sl w B A (l.take k) := fun hl => by
  rw [List.length_take] at hl
  obtain ⟨b, off, he, hb, hc⟩ := h (by omega)
  refine ⟨b, off, he, hb, fun j hj => ?_⟩
  rw [List.length_take] at hj
  rw [hc j (by omega)]
  simp

theorem read_cut (A : Option Addr) (c B k : Nat) (l : List UInt8) (w : World) (hA : Sl w B A (encL l)) (hl : l.length ≤ 24) (hk : k < l.length + 1) :
    Calls Tryd.prog 72 #[.slice A k c] w fun e w' => e = .returned (.tuple #[.string ⟨#[]⟩, .int .i64 0, .int .i64 4]) ∧ Below w.heap.size w w' := by
  cases k with
  | zero => exact read_empty A c w
  | succ k =>
    have h := Sl.take hA (k + 1)
    have e : (encL l).take (k + 1) = UInt8.ofNat l.length :: l.take k := rfl
    rw [e] at h
    have hk' : (l.take k).length = k := by rw [List.length_take]; omega
    have := read_short A c B (UInt8.ofNat l.length) (l.take k) w h (by rw [hk']; simp; omega)
    rwa [List.length_cons, hk'] at this

theorem read_whole (hV : ValidOk) (s : ByteArray) (hE : labE s.data.toList = 0) (m : List UInt8) (A : Option Addr) (c B : Nat) (w : World) (hT : Tabs w) (hA : Sl w B A (encL s.data.toList ++ m)) (hc : s.size + 1 + m.length ≤ c) (hm : c ≤ maxLen) :
    Calls Tryd.prog 72 #[.slice A (s.size + 1 + m.length) c] w fun e w' => e = .returned (.tuple #[.string s, .int .i64 (1 + (s.size : Int)), .int .i64 0]) ∧ Below w.heap.size w w' := by
  have hl := lab_len hE
  have hn : (UInt8.ofNat s.data.toList.length).toNat = s.size := by rw [size_list] at hl ⊢; simp; omega
  have e : encL s.data.toList ++ m = UInt8.ofNat s.data.toList.length :: (s.data.toList ++ m) := rfl
  rw [e] at hA
  have hlen : (UInt8.ofNat s.data.toList.length :: (s.data.toList ++ m)).length = s.size + 1 + m.length := by rw [List.length_cons, List.length_append, size_list]; omega
  have h := read_any hV A c B _ _ w hT hA (by rw [List.length_append, size_list]; omega) hm (by rw [hn, List.length_append, size_list]; omega)
  rw [hlen, hn, List.take_left' (by rw [size_list])] at h
  refine h.mono ?_
  rintro e w' ⟨S, hS, he, hb⟩
  have hS' : S = s := by
    apply ByteArray.ext
    apply Array.ext'
    exact hS
  rw [if_pos hE, hS'] at he
  exact ⟨he, hb⟩

end Go.Proofs.YtdjleimndolonaaDoor.lbl

namespace Go.Proofs.YtdjleimndolonaaDoor.lbl
open Go.RowKit Go.Lib

theorem ext_drop (t : ByteArray) (k : Nat) : (t.extract k t.size).data.toList = t.data.toList.drop k := by
  rw [Lib.extract_data, List.take_of_length_le (by rw [List.length_drop, size_list]; exact Nat.le_refl _)]

theorem wrap_mod (n : Int) : ∃ N : Nat, N < 500 ∧ (IntKind.u64.wrap n).tmod 500 = (N : Int) := by
  have h0 := wrap_nonneg n
  generalize IntKind.u64.wrap n = y at *
  rw [Int.tmod_eq_emod_of_nonneg h0]
  exact ⟨(y % 500).toNat, by omega, by omega⟩

end Go.Proofs.YtdjleimndolonaaDoor.lbl
