/-
  Plain facts on texts, rune by rune: no run of the program stands here. The conditions: none but those that each fact names.
  The small functions of labels, each by its contract: what a call answers, and that it changes nothing that was there. Conditions: a text is shorter than 2^48 bytes.
  What the functions of package label answer, each by its contract. Conditions: a text is shorter than 2^47 bytes; the two tables of the library's decoder are as its text lays them ('Tabs'); the library's ValidString and Clone answer as their documentation says ('ValidOk', 'CloneOk': proved apart).
  Cut and Bytes of package label, each by its contract; Clone of package strings. Conditions: a text is shorter than 2^47 bytes; 'Tabs', 'ValidOk', 'CloneOk' as before.
-/
import Derived.Lib.TrimUEq
import Derived.Lib.MapLaws
import Derived.Lib.ValidU
import Derived.Test.YtbfdpibjicjagaaGreatDoorProg
import Derived.WalkKit
import Derived.Below
import Derived.Lib.Walk
import Derived.Lib.Hide
import Derived.Laws.RangeString
import Derived.Laws.RangeAny
import Derived.LoopTactic
import Derived.Outline
import Derived.Lib.DecodeN
import Derived.WalkLawsBesides
import Derived.WalkSpells
set_option maxHeartbeats 1000000
set_option maxRecDepth 100000
namespace Go.Proofs.YtbfdpibjicjagaaGreatDoor.lbl
open Go.Lib
def toksF : Nat → List UInt8 → List (Nat × Nat)
 | 0, _ => []
 | f + 1, l => if l = [] then [] else decodeL l :: toksF f (l.drop (decodeL l).2)
def toks (l : List UInt8) : List (Nat × Nat) := toksF l.length l
def bad (d : Nat × Nat) : Bool := d.1 == 65533 && d.2 == 1
def fine (d : Nat × Nat) : Bool := decide (32 ≤ d.1) && d.1 != 127
def wid : List (Nat × Nat) → Nat
 | [] => 0
 | d :: r => d.2 + wid r
def okT (l : List UInt8) : Bool := (toks l).all fun d => !bad d && fine d
def labE (l : List UInt8) : Int := if okT l = false then 3 else if 6 < (toks l).length then 2 else 0
def cutL (n : Nat) (l : List UInt8) : List UInt8 := l.take (wid ((toks l).take n))
theorem dec_width (l : List UInt8) : 1 ≤ (decodeL l).2 := decodeL_width l
theorem toksF_any : ∀ (f g : Nat) (l : List UInt8), l.length ≤ f → l.length ≤ g → toksF f l = toksF g l
 | 0, g, l, h, _ => by
  have : l = [] := List.eq_nil_of_length_eq_zero (by omega)
  subst this
  cases g <;> simp [toksF]
 | f + 1, 0, l, _, h => by
  have : l = [] := List.eq_nil_of_length_eq_zero (by omega)
  subst this
  simp [toksF]
 | f + 1, g + 1, l, hf, hg => by
  have hw := dec_width l
  unfold toksF
  by_cases hl : l = []
  ·simp [hl]
  ·have hp : 0 < l.length := List.length_pos_iff.2 hl
   rw [if_neg hl, if_neg hl, toksF_any f g _ (by rw [List.length_drop]; omega) (by rw [List.length_drop]; omega)]
theorem toks_nil : toks [] = [] := rfl
theorem toks_step (l : List UInt8) (h : l ≠ []) : toks l = decodeL l :: toks (l.drop (decodeL l).2) := by
 have hw := dec_width l
 have hp : 0 < l.length := List.length_pos_iff.2 h
 unfold toks
 obtain ⟨k, hk⟩ : ∃ k, l.length = k + 1 := ⟨l.length - 1, by omega⟩
 rw [hk, toksF, if_neg h, toksF_any k _ _ (by rw [List.length_drop]; omega) (Nat.le_refl _)]
theorem dec_le (l : List UInt8) (h : l ≠ []) : (decodeL l).2 ≤ l.length := decodeL_le l h
theorem toks_ind {P : List UInt8 → Prop} (h0 : P []) (h1 : ∀ l, l ≠ [] → P (l.drop (decodeL l).2) → P l) : ∀ l, P l := by
 intro l
 obtain ⟨n, hn⟩ : ∃ n, l.length ≤ n := ⟨l.length, Nat.le_refl _⟩
 induction n generalizing l with
 | zero =>
  have : l = [] := List.eq_nil_of_length_eq_zero (by omega)
  subst this
  exact h0
 | succ n ih =>
  by_cases hl : l = []
  ·subst hl; exact h0
  ·have hw := dec_width l
   exact h1 l hl (ih _ (by rw [List.length_drop]; omega))
theorem wid_toks : ∀ l, wid (toks l) = l.length := by
 apply toks_ind
 ·rfl
 ·intro l hl ih
  have := dec_le l hl
  rw [toks_step l hl, wid, ih, List.length_drop]
  omega
theorem toks_len_le : ∀ l, (toks l).length ≤ l.length := by
 apply toks_ind
 ·exact Nat.le_refl _
 ·intro l hl ih
  have h1 := dec_le l hl
  have h2 := dec_width l
  rw [toks_step l hl, List.length_cons]
  rw [List.length_drop] at ih
  omega
theorem getD_append (a b : List UInt8) (k : Nat) (h : k < a.length) : (a ++ b).getD k 0 = a.getD k 0 := by
 simp [List.getD, List.getElem?_append_left h]
def r2 (b0 b1 : Nat) : Nat := b0 % 32 * 64 + b1 % 64
def r3 (b0 b1 b2 : Nat) : Nat := b0 % 16 * 4096 + b1 % 64 * 64 + b2 % 64
def r4 (b0 b1 b2 b3 : Nat) : Nat := b0 % 8 * 262144 + b1 % 64 * 4096 + b2 % 64 * 64 + b3 % 64
def C2 (b0 b1 : Nat) : Prop := b0 / 32 = 6 ∧ b1 / 64 = 2 ∧ 128 ≤ r2 b0 b1
def C3 (b0 b1 b2 : Nat) : Prop := b0 / 16 = 14 ∧ b1 / 64 = 2 ∧ b2 / 64 = 2 ∧ 2048 ≤ r3 b0 b1 b2 ∧ (r3 b0 b1 b2 < 55296 ∨ 57344 ≤ r3 b0 b1 b2)
def C4 (b0 b1 b2 b3 : Nat) : Prop := b0 / 8 = 30 ∧ b1 / 64 = 2 ∧ b2 / 64 = 2 ∧ b3 / 64 = 2 ∧ 65536 ≤ r4 b0 b1 b2 b3 ∧ r4 b0 b1 b2 b3 ≤ 1114111
inductive Way (n b0 b1 b2 b3 : Nat) : Nat × Nat → Prop
 | one (h : b0 < 128) : Way n b0 b1 b2 b3 (b0, 1)
 | two (hn : 1 < n) (h : C2 b0 b1) : Way n b0 b1 b2 b3 (r2 b0 b1, 2)
 | three (hn : 2 < n) (h : C3 b0 b1 b2) : Way n b0 b1 b2 b3 (r3 b0 b1 b2, 3)
 | four (hn : 3 < n) (h : C4 b0 b1 b2 b3) : Way n b0 b1 b2 b3 (r4 b0 b1 b2 b3, 4)
 | none (h0 : ¬ b0 < 128) (h2 : 1 < n → ¬ C2 b0 b1) (h3 : 2 < n → ¬ C3 b0 b1 b2) (h4 : 3 < n → ¬ C4 b0 b1 b2 b3) : Way n b0 b1 b2 b3 (65533, 1)
theorem way (n b0 b1 b2 b3 : Nat) : Way n b0 b1 b2 b3 (decodeN n b0 b1 b2 b3) := by
 by_cases h0 : b0 < 128
 ·have e : decodeN n b0 b1 b2 b3 = (b0, 1) := by unfold decodeN; rw [if_pos h0]
  rw [e]; exact .one h0
 ·by_cases h2 : 1 < n ∧ C2 b0 b1
  ·have e : decodeN n b0 b1 b2 b3 = (r2 b0 b1, 2) := by
    obtain ⟨hn, a, b, c⟩ := h2
    unfold decodeN
    rw [if_neg h0, if_pos ⟨a, hn, b⟩, if_pos (show b0 % 32 * 64 + b1 % 64 ≥ 128 from c)]
    rfl
   rw [e]; exact .two h2.1 h2.2
  ·by_cases h3 : 2 < n ∧ C3 b0 b1 b2
   ·have e : decodeN n b0 b1 b2 b3 = (r3 b0 b1 b2, 3) := by
     obtain ⟨hn, a, b, c, d, v⟩ := h3
     unfold decodeN
     rw [if_neg h0, if_neg (by omega), if_pos ⟨a, ⟨by omega, b⟩, hn, c⟩, if_pos ⟨d, by unfold r3 at v; omega⟩]
     rfl
    rw [e]; exact .three h3.1 h3.2
   ·by_cases h4 : 3 < n ∧ C4 b0 b1 b2 b3
    ·have e : decodeN n b0 b1 b2 b3 = (r4 b0 b1 b2 b3, 4) := by
      obtain ⟨hn, a, b, c, d, v, u⟩ := h4
      unfold decodeN
      rw [if_neg h0, if_neg (by omega), if_neg (by omega), if_pos ⟨a, ⟨by omega, b⟩, ⟨by omega, c⟩, hn, d⟩, if_pos ⟨v, by unfold r4 at v u; omega⟩]
      rfl
     rw [e]; exact .four h4.1 h4.2
    ·have e : decodeN n b0 b1 b2 b3 = (65533, 1) := by
      unfold C2 r2 at h2
      unfold C3 r3 at h3
      unfold C4 r4 at h4
      unfold decodeN
      rw [if_neg h0]
      split
      ·rw [if_neg (by omega)]
      ·split
       ·rw [if_neg (by omega)]
       ·split
        ·rw [if_neg (by omega)]
        ·rfl
     rw [e]; exact .none h0 (fun a b => h2 ⟨a, b⟩) (fun a b => h3 ⟨a, b⟩) (fun a b => h4 ⟨a, b⟩)
theorem way_one {d : Nat × Nat} {n b0 b1 b2 b3 : Nat} (h : Way n b0 b1 b2 b3 d) (h0 : b0 < 128) : d = (b0, 1) := by
 cases h with
 | one _ => rfl
 | two hn h => obtain ⟨a, _⟩ := h; omega
 | three hn h => obtain ⟨a, _⟩ := h; omega
 | four hn h => obtain ⟨a, _⟩ := h; omega
 | none a _ _ _ => exact absurd h0 a
theorem way_two {d : Nat × Nat} {n b0 b1 b2 b3 : Nat} (h : Way n b0 b1 b2 b3 d) (hn : 1 < n) (h2 : C2 b0 b1) : d = (r2 b0 b1, 2) := by
 cases h with
 | one h0 => obtain ⟨a, _⟩ := h2; omega
 | two _ _ => rfl
 | three _ h => obtain ⟨a, _⟩ := h; obtain ⟨b, _⟩ := h2; omega
 | four _ h => obtain ⟨a, _⟩ := h; obtain ⟨b, _⟩ := h2; omega
 | none _ a _ _ => exact absurd h2 (a hn)
theorem way_three {d : Nat × Nat} {n b0 b1 b2 b3 : Nat} (h : Way n b0 b1 b2 b3 d) (hn : 2 < n) (h3 : C3 b0 b1 b2) : d = (r3 b0 b1 b2, 3) := by
 cases h with
 | one h0 => obtain ⟨a, _⟩ := h3; omega
 | two _ h => obtain ⟨a, _⟩ := h; obtain ⟨b, _⟩ := h3; omega
 | three _ _ => rfl
 | four _ h => obtain ⟨a, _⟩ := h; obtain ⟨b, _⟩ := h3; omega
 | none _ _ a _ => exact absurd h3 (a hn)
theorem way_four {d : Nat × Nat} {n b0 b1 b2 b3 : Nat} (h : Way n b0 b1 b2 b3 d) (hn : 3 < n) (h4 : C4 b0 b1 b2 b3) : d = (r4 b0 b1 b2 b3, 4) := by
 cases h with
 | one h0 => obtain ⟨a, _⟩ := h4; omega
 | two _ h => obtain ⟨a, _⟩ := h; obtain ⟨b, _⟩ := h4; omega
 | three _ h => obtain ⟨a, _⟩ := h; obtain ⟨b, _⟩ := h4; omega
 | four _ _ => rfl
 | none _ _ _ a => exact absurd h4 (a hn)
theorem decN_same (n m b0 b1 b2 b3 c1 c2 c3 : Nat) (hw : (decodeN n b0 b1 b2 b3).2 ≤ m) (h1 : 1 < n → 1 < m → c1 = b1) (h2 : 2 < n → 2 < m → c2 = b2) (h3 : 3 < n → 3 < m → c3 = b3)
  (hv : bad (decodeN n b0 b1 b2 b3) = false) : decodeN m b0 c1 c2 c3 = decodeN n b0 b1 b2 b3 := by
 have W := way n b0 b1 b2 b3
 have V := way m b0 c1 c2 c3
 generalize decodeN n b0 b1 b2 b3 = d at *
 cases W with
 | one h => exact way_one V h
 | two hn h =>
  have hm : 1 < m := by simp only at hw; omega
  have := h1 hn hm
  subst this
  exact way_two V hm h
 | three hn h =>
  have hm : 2 < m := by simp only at hw; omega
  have e1 := h1 (by omega) (by omega)
  have e2 := h2 hn hm
  subst e1 e2
  exact way_three V hm h
 | four hn h =>
  have hm : 3 < m := by simp only at hw; omega
  have e1 := h1 (by omega) (by omega)
  have e2 := h2 (by omega) (by omega)
  have e3 := h3 hn hm
  subst e1 e2 e3
  exact way_four V hm h
 | none _ _ _ _ => simp [bad] at hv
theorem dec_append (a b : List UInt8) (ha : a ≠ []) (h : bad (decodeL a) = false) : decodeL (a ++ b) = decodeL a := by
 have hp : 0 < a.length := List.length_pos_iff.2 ha
 have hle := dec_le a ha
 rw [decodeL_N] at h hle
 rw [decodeL_N, decodeL_N, getD_append a b 0 hp]
 exact decN_same _ _ _ _ _ _ _ _ _ (by rw [List.length_append]; omega) (fun k _ => by rw [getD_append a b 1 k]) (fun k _ => by rw [getD_append a b 2 k]) (fun k _ => by rw [getD_append a b 3 k]) h
theorem toks_append : ∀ a : List UInt8, (toks a).all (fun d => !bad d) = true → ∀ b, toks (a ++ b) = toks a ++ toks b := by
 apply toks_ind
 ·intro _ b; rfl
 ·intro l hl ih h b
  rw [toks_step l hl, List.all_cons, Bool.and_eq_true] at h
  have hb : bad (decodeL l) = false := by simpa using h.1
  have hle := dec_le l hl
  rw [toks_step (l ++ b) (by simp [hl]), dec_append l b hl hb, List.drop_append_of_le_length hle, ih h.2 b, toks_step l hl, List.cons_append]
theorem ok_bad (l : List UInt8) (h : okT l = true) : (toks l).all (fun d => !bad d) = true := by
 unfold okT at h
 rw [List.all_eq_true] at h ⊢
 intro d hd
 have := h d hd
 rw [Bool.and_eq_true] at this
 exact this.1
theorem cut_append (a b : List UInt8) (h : okT a = true) : cutL (toks a).length (a ++ b) = a := by
 unfold cutL
 rw [toks_append a (ok_bad a h) b, List.take_left' rfl, wid_toks, List.take_left' rfl]
theorem lab_of {l : List UInt8} (h : okT l = true) : labE l = if 6 < (toks l).length then 2 else 0 := by
 unfold labE; rw [h]; simp
end Go.Proofs.YtbfdpibjicjagaaGreatDoor.lbl
namespace Go.Proofs.YtbfdpibjicjagaaGreatDoor.lbl
open Go.RowKit Go.Lib
theorem drop_step (s : ByteArray) (pos : Nat) (hp : pos < s.size) : toks (s.data.toList.drop pos) = Utf8.decode s pos :: toks (s.data.toList.drop (pos + (Utf8.decode s pos).2)) := by
 have hs : s.data.toList.length = s.size := by rw [Array.length_toList]; rfl
 have hne : s.data.toList.drop pos ≠ [] := by
  intro h
  have := congrArg List.length h
  rw [List.length_drop] at this
  simp at this
  omega
 rw [toks_step _ hne, decodeL_drop, List.drop_drop]
theorem drop_end (s : ByteArray) (pos : Nat) (hp : ¬ pos < s.size) : toks (s.data.toList.drop pos) = [] := by
 have hs : s.data.toList.length = s.size := by rw [Array.length_toList]; rfl
 rw [List.drop_eq_nil_of_le (by omega)]
 rfl
theorem width_pos (s : ByteArray) (pos : Nat) : 1 ≤ (Utf8.decode s pos).2 := by
 rw [← decodeL_drop]; exact dec_width _
theorem ret_int {k : IntKind} {a b : Int} (h : a = b) : Ending.returned (.int k a) = .returned (.int k b) := by rw [h]
theorem below_iter (w : World) (s : ByteArray) (p : Nat) : Below w.heap.size w (w.iter s p) := (Below.refl _ _).alloc (Nat.le_refl _) _
theorem permitted_any (r : Int) (w : World) : Calls Tryz.prog 76 #[.int .i32 r] w fun e w' => e = .returned (.bool (decide (32 ≤ r) && r != 127)) ∧ w = w' := by
 by_cases h : 32 ≤ r
 ·by_cases h2 : r = 127
  ·subst h2
   go_enter Tryz.func76, Tryz.ntmps76
   go_wp2
   go_ret
   exact ⟨rfl, rfl⟩
  ·have hd : decide (32 ≤ r) = true := decide_eq_true h
   have hn : (r != 127) = true := by simpa using h2
   rw [hd, hn]
   go_enter Tryz.func76, Tryz.ntmps76
   go_wp2
   go_ret
   exact ⟨rfl, rfl⟩
 ·have hd : decide (32 ≤ r) = false := decide_eq_false h
  rw [hd]
  go_enter Tryz.func76, Tryz.ntmps76
  go_wp2
  go_ret
  exact ⟨rfl, rfl⟩
theorem runes_any (s : ByteArray) (w : World) (hs : s.size < 9223372036854775807) :
  Calls Tryz.prog 63 #[.string s] w fun e w' => e = .returned (.int .i64 (toks s.data.toList).length) ∧ Below w.heap.size w w' := by
 have hT : (toks s.data.toList).length ≤ s.size := by
  have := toks_len_le s.data.toList
  rwa [Array.length_toList] at this
 go_enter Tryz.func63, Tryz.ntmps63
 go_wp2
 go_loopw [3] (fun n w' => ∃ (pos acc : Nat), w' = w.iter s pos ∧ n = .int .i64 acc ∧ acc + (toks (s.data.toList.drop pos)).length = (toks s.data.toList).length ∧ acc ≤ pos) (fun _ w' => s.size - w'.iterPos w.heap.size)
 case atStart => exact ⟨0, 0, rfl, rfl, by simp, Nat.le_refl _⟩
 case round =>
  obtain ⟨pos, acc, rfl, rfl, hc, ha⟩ := hrel
  by_cases hp : pos < s.size
  ·have hnx : ∀ ty, (Instr.next (.pointer (some ⟨w.heap.size, 0, none⟩)) true ty).run Tryz.prog (w.iter s pos) = _ := fun ty => run_next_any w s pos ty hp
   have hwd := width_pos s pos
   have hst := drop_step s pos hp
   rw [hst, List.length_cons] at hc
   clear hst
   have H := Lib.hid hc
   have hb : acc + 1 ≤ s.size := by omega
   clear hc
   go_wp2
   go_roundw
   case rel => exact ⟨pos + (Utf8.decode s pos).2, acc + 1, rfl, by go_num, by have := H.out; omega, by omega⟩
   case measure =>
    simp
    omega
  ·have hnx : ∀ ty, (Instr.next (.pointer (some ⟨w.heap.size, 0, none⟩)) true ty).run Tryz.prog (w.iter s pos) = _ := fun ty => run_next_end w s pos ty hp
   rw [drop_end s pos hp, List.length_nil, Nat.add_zero] at hc
   go_wp2
   go_ret
   exact ⟨ret_int (by rw [hc]), below_iter _ _ _⟩
def one (l : List UInt8) : Int × Int := if bad (decodeL l) then (0, 0) else ((decodeL l).2, (decodeL l).1)
end Go.Proofs.YtbfdpibjicjagaaGreatDoor.lbl
namespace Go.Proofs.YtbfdpibjicjagaaGreatDoor.lbl
open Go.RowKit Go.Lib
theorem validGo_eq : ∀ (f : Nat) (l : List UInt8), validGoD f l = (toksF f l).all fun d => !bad d
 | 0, _ => rfl
 | f + 1, l => by
  unfold validGoD toksF
  by_cases h : l = []
  ·simp [h]
  ·rw [if_neg h, if_neg h, List.all_cons]
   by_cases hb : (decodeL l).1 = 65533 ∧ (decodeL l).2 = 1
   ·rw [if_pos hb]; simp [bad, hb.1, hb.2]
   ·rw [if_neg hb, validGo_eq f]
    have : bad (decodeL l) = false := by
     simp only [bad, Bool.and_eq_false_iff, beq_eq_false_iff_ne]
     omega
    simp [this]
theorem valid_eq (l : List UInt8) : validD l = (toks l).all fun d => !bad d := validGo_eq _ _
theorem okT_eq (l : List UInt8) : okT l = (validD l && (toks l).all fine) := by
 rw [valid_eq]; unfold okT
 generalize toks l = t
 induction t with
 | nil => rfl
 | cons d r ih => simp only [List.all_cons, ih]; cases bad d <;> cases fine d <;> simp
def Tabs (w : World) : Prop := 2 ≤ w.heap.size ∧
 (∀ c, c < 256 → w.cell? ⟨0, c, none⟩ = some (.int .u8 (firstT c))) ∧
 (∀ i, i < 16 → w.cell? ⟨1, 2 * i, none⟩ = some (.int .u8 (accLo i)) ∧ w.cell? ⟨1, 2 * i + 1, none⟩ = some (.int .u8 (accHi i)))
theorem Tabs.below {w w' : World} {B : Nat} (h : Tabs w) (hb : Below B w w') (hB : 2 ≤ B) : Tabs w' := by
 have hc : ∀ b o, b < 2 → w'.cell? ⟨b, o, none⟩ = w.cell? ⟨b, o, none⟩ := fun b o hlt => hb.cell (p := ⟨b, o, none⟩) (show b < B by omega)
 exact ⟨Nat.le_trans h.1 hb.size, fun c k => by rw [hc _ _ (by omega)]; exact h.2.1 c k, fun i k => by rw [hc _ _ (by omega), hc _ _ (by omega)]; exact h.2.2 i k⟩
theorem Tabs.next {w w' : World} (h : Tabs w) (hb : Below w.heap.size w w') : Tabs w' := h.below hb h.1
def ValidOk : Prop := ∀ (s : ByteArray) (w : World), s.size ≤ 9223372036854775807 → Tabs w →
 Calls Tryz.prog 75 #[.string s] w fun e w' => e = .returned (.bool (validD s.data.toList)) ∧ Below w.heap.size w w'
theorem text_any (hV : ValidOk) (s : ByteArray) (w : World) (hs : s.size < 9223372036854775807) (hT : Tabs w) :
  Calls Tryz.prog 62 #[.string s] w fun e w' => e = .returned (.bool (okT s.data.toList)) ∧ Below w.heap.size w w' := by
 have cV := hV s w (by omega) hT
 rw [okT_eq]
 generalize validD s.data.toList = V at cV ⊢
 cases V
 ·rw [Bool.false_and]
  go_enter Tryz.func62, Tryz.ntmps62
  go_wp2_with (go_at_call 75; refine cV.mono ?_; rintro e w' ⟨rfl, hb⟩)
  go_ret
  exact ⟨rfl, hb⟩
 ·rw [Bool.true_and]
  obtain ⟨ANS, hANS⟩ : ∃ ANS, (toks s.data.toList).all fine = ANS := ⟨_, rfl⟩
  rw [hANS]
  have HA := Lib.hid hANS
  clear hANS
  go_enter Tryz.func62, Tryz.ntmps62
  go_wp2_with (go_at_call 75; refine cV.mono ?_; rintro e w1 ⟨rfl, hb⟩)
  go_loopw [4] (fun _ w' => ∃ (pos : Nat), w' = w1.iter s pos ∧ (toks (s.data.toList.drop pos)).all fine = ANS) (fun _ w' => s.size - w'.iterPos w1.heap.size)
  case atStart => exact ⟨0, rfl, by simpa using HA.out⟩
  case round =>
   obtain ⟨pos, rfl, hc⟩ := hrel
   by_cases hp : pos < s.size
   ·have hnx : ∀ ty, (Instr.next (.pointer (some ⟨w1.heap.size, 0, none⟩)) true ty).run Tryz.prog (w1.iter s pos) = _ := fun ty => run_next_any w1 s pos ty hp
    have hwd := width_pos s pos
    have hst := drop_step s pos hp
    rw [hst, List.all_cons] at hc
    clear hst
    have hf : (decide (32 ≤ ((Utf8.decode s pos).1 : Int)) && ((Utf8.decode s pos).1 : Int) != 127) = fine (Utf8.decode s pos) := by
     unfold fine
     have e1 : decide (32 ≤ ((Utf8.decode s pos).1 : Int)) = decide (32 ≤ (Utf8.decode s pos).1) := decide_eq_decide.2 (by omega)
     have e2 : (((Utf8.decode s pos).1 : Int) != 127) = ((Utf8.decode s pos).1 != 127) := by
      by_cases h : (Utf8.decode s pos).1 = 127
      ·rw [h]; rfl
      ·rw [bne_iff_ne.2 h]; exact bne_iff_ne.2 (by omega)
     rw [e1, e2]
    have cP : ∀ W : World, Calls Tryz.prog 76 #[.int .i32 ((Utf8.decode s pos).1 : Int)] W fun e w' => e = .returned (.bool (fine (Utf8.decode s pos))) ∧ W = w' := by
     intro W; rw [← hf]; exact permitted_any _ W
    clear hf
    generalize hF : fine (Utf8.decode s pos) = F at cP hc
    clear hF
    cases F
    ·rw [Bool.false_and] at hc
     subst hc
     go_wp2_with (go_at_call 76; refine (cP _).mono ?_; rintro e w' ⟨rfl, rfl⟩)
     go_ret
     exact ⟨rfl, hb.trans ((below_iter _ _ _).mono hb.size)⟩
    ·rw [Bool.true_and] at hc
     have H := Lib.hid hc
     clear hc
     go_wp2_with (go_at_call 76; refine (cP _).mono ?_; rintro e w' ⟨rfl, rfl⟩)
     go_roundw
     case rel => exact ⟨pos + (Utf8.decode s pos).2, rfl, H.out⟩
     case measure =>
      simp
      omega
   ·have hnx : ∀ ty, (Instr.next (.pointer (some ⟨w1.heap.size, 0, none⟩)) true ty).run Tryz.prog (w1.iter s pos) = _ := fun ty => run_next_end w1 s pos ty hp
    rw [drop_end s pos hp, List.all_nil] at hc
    subst hc
    go_wp2
    go_ret
    exact ⟨rfl, hb.trans ((below_iter _ _ _).mono hb.size)⟩
theorem check_any (hV : ValidOk) (s : ByteArray) (w : World) (hs : s.size < 9223372036854775807) (hT : Tabs w) :
  Calls Tryz.prog 48 #[.string s] w fun e w' => e = .returned (.int .i64 (labE s.data.toList)) ∧ Below w.heap.size w w' := by
 have cT := text_any hV s w hs hT
 have hle : ((toks s.data.toList).length : Int) ≤ s.size := by
  have := toks_len_le s.data.toList
  rw [Array.length_toList] at this
  exact Int.ofNat_le.2 this
 unfold labE
 generalize okT s.data.toList = V at cT ⊢
 cases V
 ·rw [if_pos rfl]
  go_enter Tryz.func48, Tryz.ntmps48
  go_wp2_with (go_at_call 62; refine cT.mono ?_; rintro e w' ⟨rfl, hb⟩)
  go_ret
  exact ⟨rfl, hb⟩
 ·rw [if_neg (by simp)]
  have cR := fun w1 => runes_any s w1 hs
  generalize (toks s.data.toList).length = n at cR ⊢
  by_cases h : 6 < n
  ·rw [if_pos h]
   have hi : (6 : Int) < (n : Int) := by omega
   go_enter Tryz.func48, Tryz.ntmps48
   go_wp2_with (first | (go_at_call 62; refine cT.mono ?_; rintro e w1 ⟨rfl, hb⟩) | (go_at_call 63; refine (cR _).mono ?_; rintro e w2 ⟨rfl, hb2⟩))
   go_ret
   exact ⟨rfl, hb.trans (hb2.mono hb.size)⟩
  ·rw [if_neg h]
   have hi : ¬ (6 : Int) < (n : Int) := by omega
   go_enter Tryz.func48, Tryz.ntmps48
   go_wp2_with (first | (go_at_call 62; refine cT.mono ?_; rintro e w1 ⟨rfl, hb⟩) | (go_at_call 63; refine (cR _).mono ?_; rintro e w2 ⟨rfl, hb2⟩))
   go_ret
   exact ⟨rfl, hb.trans (hb2.mono hb.size)⟩
end Go.Proofs.YtbfdpibjicjagaaGreatDoor.lbl
namespace Go.Proofs.YtbfdpibjicjagaaGreatDoor.lbl
open Go.RowKit Go.Lib
theorem bt {a b c : World} (h : Below a.heap.size a b) (k : Below b.heap.size b c) : Below a.heap.size a c := h.trans (k.mono h.size)
end Go.Proofs.YtbfdpibjicjagaaGreatDoor.lbl
