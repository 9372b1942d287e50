/-
  What the statements' own 'wakes' comes to: true. No condition.
-/
import Derived.Test.YtajgkfcflbmkdaaSlG
namespace Go.Proofs.Ytajgkfcflbmkdaa.sel
open Go.RowKit Go.Lib

/-- What Make answers, its bytes' place told. -/
def MadeAt (base : Nat) (r : Mk) (e : Ending) (w' : World) : Prop := ∃ X q x, e = .returned (.tuple #[.slice X q x, .int .i64 r.err]) ∧ q = r.bytes.length ∧ Own w' base 5 (.slice X q x) r.bytes
theorem Made.at {base : Nat} {r : Mk} {e : Ending} {w : World} (h : Made base r e w) : MadeAt base r e w := by
  obtain ⟨v, rfl, ho⟩ := h
  obtain ⟨X, x, rfl, -, -, -, -⟩ := ho.form
  exact ⟨X, _, x, rfl, rfl, ho⟩
theorem own_lies {W : World} {base q x : Nat} {e : TypeId} {X : Option Addr} {l : List UInt8} (h : Own W base e (.slice X q x) l) : q = l.length ∧ Lies W X x l := by
  obtain ⟨Y, y, hv, hy, hm, hs, -⟩ := h.form
  simp only [Value.slice.injEq] at hv
  obtain ⟨rfl, rfl, rfl⟩ := hv
  exact ⟨rfl, hy, hm, hs⟩

def wkE : List UInt8 := enc 3 7 [1, 2]
theorem wkE_length : wkE.length = 13 := by unfold wkE; rw [enc_length]; rfl
theorem wk_make (t : TypeId) (w : World) : Calls Try.prog 11 #[.agg #[.int .i64 3, .int .i64 7, .slice (some ⟨w.heap.size, 0, none⟩) 2 2]] (w.alloc (.cells #[.int .u8 1, .int .u8 2] t)) fun e w' => (∃ X x, e = .returned (.tuple #[.slice X 13 x, .int .i64 0]) ∧ Lies w' X x wkE) ∧ Below w.heap.size w w' := by
  have hb := bl w (.cells #[.int .u8 1, .int .u8 2] t)
  have h := make_any 3 7 (some ⟨w.heap.size, 0, none⟩) 2 2 [1, 2] _ rfl (Sl.of_block (heap_alloc_new w (.cells #[.int .u8 1, .int .u8 2] t)) rfl (by simp))
  have e : made 3 7 [1, 2] = ⟨0, wkE⟩ := made_ok (a := 3) (s := 7) (by omega) (by omega) (by simp)
  rw [e] at h
  refine h.mono ?_
  rintro e w' ⟨hm, hb'⟩
  obtain ⟨X, q, x, rfl, rfl, ho⟩ := hm.at
  have := (own_lies ho).2
  rw [wkE_length]
  exact ⟨⟨X, x, rfl, this⟩, bt hb hb'⟩
theorem wk_open (X : Option Addr) (x : Nat) (W : World) (h : Lies W X x wkE) : Calls Try.prog 12 #[.slice X 13 x] W fun e w' => (∃ Y y, e = .returned (.tuple #[.agg #[.int .i64 3, .int .i64 7, .slice Y 2 y], .int .i64 0])) ∧ Below W.heap.size W w' := by
  have hk := open_any 13 X x wkE W wkE_length (by have := h.1; rw [wkE_length] at this; exact this) h.2.1 h.2.2
  have e : opened wkE = ⟨0, 3, 7, [1, 2]⟩ := opened_enc (by omega) (by omega) (by simp)
  rw [e] at hk
  refine hk.mono ?_
  rintro e w' ⟨hm, hb⟩
  obtain ⟨Y, q, y, rfl, ho⟩ := hm.at
  have := (own_lies ho).1
  subst this
  exact ⟨⟨Y, y, rfl⟩, hb⟩
/-- Bytes that Open refuses for their sum. -/
def Spoilt (W : World) (X : Option Addr) (x n : Nat) : Prop := ∃ out, out.length = n ∧ Lies W X x out ∧ opened out = no 5
theorem wk_flip (X : Option Addr) (x : Nat) (W : World) (h : Lies W X x wkE) : Calls Try.prog 15 #[.slice X 13 x, .int .i64 0, .int .i64 1] W fun e w' => (∃ Y y, e = .returned (.slice Y 13 y) ∧ Spoilt w' Y y 13) ∧ Below W.heap.size W w' := by
  refine (flip_all X x _ 13 wkE 0 1 W wkE_length h.2.2 (by omega)).mono ?_
  rintro e w' ⟨⟨out, ht, v, rfl, ho⟩, hb⟩
  obtain ⟨Y, y, rfl, -, -, -, -⟩ := ho.form
  have hl := ht.1
  rw [wkE_length] at hl
  rw [hl] at ho ⊢
  refine ⟨⟨Y, y, rfl, out, hl, (own_lies ho).2, ?_⟩, hb⟩
  exact opened_flipped (l := wkE) (enc_whole 3 7 [1, 2]) (by rw [wkE_length]; omega) (by rw [wkE_length]; omega) ht (by rw [wkE_length]; exact place_lt 0 (by omega)) (mask_lt 1) (mask_odd 1)
/-- What Open answers where it refuses, its payload somewhere, of no bytes. -/
def Nothing (err : Int) (e : Ending) : Prop := ∃ Y y, e = .returned (.tuple #[.agg #[.int .i64 0, .int .i64 0, .slice Y 0 y], .int .i64 err])
theorem wk_refuse (X : Option Addr) (x n : Nat) (W : World) (h : Spoilt W X x n) : Calls Try.prog 12 #[.slice X n x] W fun e w' => Nothing 5 e ∧ Below W.heap.size W w' := by
  obtain ⟨out, hl, ⟨h1, h2, h3⟩, he⟩ := h
  have hk := open_any n X x out W hl (by omega) h2 h3
  rw [he] at hk
  refine hk.mono ?_
  rintro e w' ⟨hm, hb⟩
  obtain ⟨Y, q, y, rfl, ho⟩ := hm.at
  have := (own_lies ho).1
  subst this
  exact ⟨⟨Y, y, rfl⟩, hb⟩
theorem Lies.next {W W' : World} {X : Option Addr} {x : Nat} {l : List UInt8} (h : Lies W X x l) (hb : Below W.heap.size W W') : Lies W' X x l := ⟨h.1, h.2.1, (h.2.2.below hb).more hb.size⟩
set_option maxHeartbeats 1000000 in
theorem wk_any (w : World) : Calls Try.prog 19 #[] w fun e w' => e = .returned (.bool true) ∧ Below w.heap.size w w' := by
  go_enter Try.func19, Try.ntmps19
  go_wp2_with (first
    | (go_at_call 11; (with_reducible refine (wk_make _ _).mono ?_); rintro e w1 ⟨⟨X, x, rfl, hX⟩, hb1⟩)
    | (go_at_call 12; (with_reducible refine (wk_open _ _ _ hX).mono ?_); rintro e w2 ⟨⟨Y, y, rfl⟩, hb2⟩
       have hb2' := kal hb2 (.cells #[.int .i64 3, .int .i64 7, .slice Y 2 y] 24)
       have h3 := three_new w2 (.int .i64 3) (.int .i64 7) (.slice Y 2 y) 24
       have hl3 : w2.heap.size < (w2.alloc (.cells #[.int .i64 3, .int .i64 7, .slice Y 2 y] 24)).heap.size := by simp)
    | (go_at_call 15; (with_reducible refine (wk_flip _ _ _ (hX.next hb2')).mono ?_); rintro e w3 ⟨⟨Z, z, rfl, hZ⟩, hb3⟩)
    | (go_at_call 12; (with_reducible refine (wk_refuse _ _ _ _ hZ).mono ?_); rintro e w4 ⟨⟨V, y4, rfl⟩, hb4⟩
       have hb4' := bt hb3 (kal hb4 (.cells #[.int .i64 0, .int .i64 0, .slice V 0 y4] 24))
       obtain ⟨k0, k1, k2, -, -, -⟩ := h3.keep hb4' hl3))
  go_ret
  exact ⟨rfl, bt hb1 (bt hb2' hb4')⟩
end Go.Proofs.Ytajgkfcflbmkdaa.sel
