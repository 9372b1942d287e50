/-
  The law SealFlipped, walked: it returns true for every sector and bits. No condition.
-/
import Derived.Test.YtajgkfcflbmkdaaSlH
namespace Go.Proofs.Ytajgkfcflbmkdaa.sel
open Go.RowKit Go.Lib
open Go.Proofs.Ytajgkfcflbmkdaa.crc (TurnedAll)

theorem make_at (a s : Int) (A : Option Addr) (n c : Nat) (l : List UInt8) (w : World) (hln : l.length = n) (hA : Sl w w.heap.size A l) :
    Calls Try.prog 11 #[.agg #[.int .i64 a, .int .i64 s, .slice A n c]] w fun e w' => (∃ X x, e = .returned (.tuple #[.slice X (made a s l).bytes.length x, .int .i64 (made a s l).err]) ∧ Lies w' X x (made a s l).bytes) ∧ Below w.heap.size w w' := by
  refine (make_any a s A n c l w hln hA).mono ?_
  rintro e w' ⟨hm, hb⟩
  obtain ⟨X, q, x, rfl, rfl, ho⟩ := hm.at
  exact ⟨⟨X, x, rfl, (own_lies ho).2⟩, hb⟩
theorem open_at (n x : Nat) (X : Option Addr) (b : List UInt8) (W : World) (hlen : b.length = n) (h : Lies W X x b) :
    Calls Try.prog 12 #[.slice X n x] W fun e w' => (∃ Y y, e = .returned (.tuple #[.agg #[.int .i64 (opened b).addr, .int .i64 (opened b).stamp, .slice Y (opened b).load.length y], .int .i64 (opened b).err]) ∧ Lies w' Y y (opened b).load) ∧ Below W.heap.size W w' := by
  refine (open_any n X x b W hlen (by have := h.1; omega) h.2.1 h.2.2).mono ?_
  rintro e w' ⟨hm, hb⟩
  obtain ⟨Y, q, y, rfl, ho⟩ := hm.at
  obtain ⟨rfl, hl⟩ := own_lies ho
  exact ⟨⟨Y, y, rfl, hl⟩, hb⟩
theorem bytes_lies (n m : Nat) (X Y : Option Addr) (x y : Nat) (a b : List UInt8) (W : World) (ha : a.length = n) (hb : b.length = m) (hn : n ≤ 1048576) (h1 : Lies W X x a) (h2 : Lies W Y y b) :
    Calls Try.prog 14 #[.slice X n x, .slice Y m y] W fun e w' => e = .returned (.bool (decide (a = b))) ∧ Below W.heap.size W w' := by
  subst ha hb
  exact keep_any X Y x y _ _ a b W h1.2.2 h2.2.2 (Nat.le_refl _) (Nat.le_refl _) hn
theorem sector_none (Y : Option Addr) (y : Nat) (W : World) :
    Calls Try.prog 17 #[.agg #[.int .i64 0, .int .i64 0, .slice Y 0 y], .agg #[.int .i64 0, .int .i64 0, .slice none 0 0]] W fun e w' => e = .returned (.bool true) ∧ Below W.heap.size W w' := by
  have := sector_any 0 0 0 0 Y none y 0 0 0 [] [] W rfl rfl (Sl.nil _ _ _) (Sl.nil _ _ _) (by omega)
  simpa using this

/-- What comes of a sector whose bits are turned. -/
def Flp (E : List UInt8) (N p X : Nat) (e : Ending) (w' : World) : Prop := ∃ Y y out, e = .returned (.slice Y N y) ∧ out.length = N ∧ Lies w' Y y out ∧ TurnedAll E out p X
theorem flip_at (N : Nat) (bit msk : Int) (X : Option Addr) (x : Nat) (E : List UInt8) (W : World) (hN : E.length = N) (hl : N ≤ 1048576) (h : Lies W X x E) :
    Calls Try.prog 15 #[.slice X N x, .int .i64 bit, .int .i64 msk] W fun e w' => Flp E N (place bit N) (maskOf msk) e w' ∧ Below W.heap.size W w' := by
  refine (flip_all X x _ N E bit msk W hN h.2.2 hl).mono ?_
  rintro e w' ⟨⟨out, ht, v, rfl, ho⟩, hb⟩
  obtain ⟨Y, y, rfl, -, -, -, -⟩ := ho.form
  have hl := ht.1
  rw [hN] at hl
  rw [hl] at ho ⊢
  exact ⟨⟨Y, y, out, rfl, hl, (own_lies ho).2, ht⟩, hb⟩

theorem flipped_long (a s bit msk : Int) (A : Option Addr) (n c : Nat) (w : World) (h : 300 < n) :
    Calls Try.prog 5 #[.agg #[.int .i64 a, .int .i64 s, .slice A n c], .int .i64 bit, .int .i64 msk] w fun e w' => e = .returned (.bool true) ∧ Below w.heap.size w w' := by
  have i1 : (300 : Int) < (n : Int) := by omega
  clear h
  go_enter Try.func5, Try.ntmps5
  go_wp2
  go_ret
  exact ⟨rfl, bl w _⟩
set_option maxHeartbeats 1000000 in
theorem flipped_no (a s bit msk : Int) (A : Option Addr) (n c : Nat) (l : List UInt8) (w : World) (hln : l.length = n) (h : n ≤ 300) (hA : Sl w w.heap.size A l) (he : (made a s l).err ≠ 0) :
    Calls Try.prog 5 #[.agg #[.int .i64 a, .int .i64 s, .slice A n c], .int .i64 bit, .int .i64 msk] w fun e w' => e = .returned (.bool true) ∧ Below w.heap.size w w' := by
  have i1 : ¬ (300 : Int) < (n : Int) := by omega
  have hb0 := bl w (.cells #[.int .i64 a, .int .i64 s, .slice A n c] 24)
  have cM := make_at a s A n c l _ hln ((hA.below hb0).more hb0.size)
  rw [made_err he] at cM
  generalize (made a s l).err = z at *
  have n1 : ((z : Int) != 0) = true := bne_iff_ne.2 (by omega)
  have n2 : ((z : Int) == 0) = false := beq_eq_false_iff_ne.2 (by omega)
  have n3 : (z == 0) = false := beq_eq_false_iff_ne.2 he
  have n4 : (z != 0) = true := bne_iff_ne.2 he
  clear h hA hln he
  go_enter Try.func5, Try.ntmps5
  go_wp2_with (first
    | (go_at_call 11; (with_reducible refine cM.mono ?_); rintro e w1 ⟨⟨X, x, rfl, hX⟩, hb1⟩)
    | (go_at_call 19; (with_reducible refine (wk_any _).mono ?_); rintro e w2 ⟨rfl, hb2⟩))
  go_ret
  exact ⟨rfl, bt hb0 (bt hb1 hb2)⟩
set_option maxHeartbeats 1000000 in
theorem flipped_ok (a s bit msk : Int) (A : Option Addr) (n c N : Nat) (l E : List UInt8) (w : World) (hln : l.length = n) (h : n ≤ 300) (hA : Sl w w.heap.size A l) (hM : made a s l = ⟨0, E⟩) (hN : E.length = N) (hN1 : 11 ≤ N) (hN2 : N ≤ 107) (hW : Whole E) :
    Calls Try.prog 5 #[.agg #[.int .i64 a, .int .i64 s, .slice A n c], .int .i64 bit, .int .i64 msk] w fun e w' => e = .returned (.bool true) ∧ Below w.heap.size w w' := by
  have i1 : ¬ (300 : Int) < (n : Int) := by omega
  have hb0 := bl w (.cells #[.int .i64 a, .int .i64 s, .slice A n c] 24)
  have cM := make_at a s A n c l _ hln ((hA.below hb0).more hb0.size)
  rw [hM] at cM
  simp only [hN] at cM
  have cF := fun (W : World) (X : Option Addr) (x : Nat) (h : Lies W X x E) => flip_at N bit msk X x E W hN (by omega) h
  have hS : ∀ out, TurnedAll E out (place bit N) (maskOf msk) → out.length = N ∧ opened out = no 5 ∧ (decide (E = out)) = false := fun out ht => by
    have h1 := ht.1
    refine ⟨by omega, opened_flipped hW (by omega) (by omega) ht (by rw [hN]; exact place_lt bit (by omega)) (mask_lt msk) (mask_odd msk), decide_eq_false (turned_other ht (by rw [hN]; exact place_lt bit (by omega)) (mask_odd msk))⟩
  have cG : ∀ (W : World) (X : Option Addr) (x : Nat) (out : List UInt8), TurnedAll E out (place bit N) (maskOf msk) → Lies W X x out → Calls Try.prog 15 #[.slice X N x, .int .i64 bit, .int .i64 msk] W fun e w' => (∃ Z z, e = .returned (.slice Z N z) ∧ Lies w' Z z E) ∧ Below W.heap.size W w' := fun W X x out ht h => by
    refine (flip_at N bit msk X x out W (by rw [ht.1, hN]) (by omega) h).mono ?_
    rintro e w' ⟨⟨Z, z, o2, rfl, -, h2, ht2⟩, hb⟩
    rw [turned_twice ht ht2] at h2
    exact ⟨⟨Z, z, rfl, h2⟩, hb⟩
  generalize place bit N = p at *
  generalize maskOf msk = Y at *
  have cO : ∀ (W : World) (X : Option Addr) (x : Nat) (out : List UInt8), TurnedAll E out p Y → Lies W X x out → Calls Try.prog 12 #[.slice X N x] W fun e w' => Nothing 5 e ∧ Below W.heap.size W w' := fun W X x out ht h => wk_refuse X x N W ⟨out, (hS out ht).1, h, (hS out ht).2.1⟩
  have cB : ∀ (W : World) (X Z : Option Addr) (x z : Nat) (out : List UInt8), TurnedAll E out p Y → Lies W X x E → Lies W Z z out → Calls Try.prog 14 #[.slice X N x, .slice Z N z] W fun e w' => e = .returned (.bool false) ∧ Below W.heap.size W w' := fun W X Z x z out ht h1 h2 => by
    have := bytes_lies N N X Z x z E out W hN (hS out ht).1 (by omega) h1 h2
    rwa [(hS out ht).2.2] at this
  have cK : ∀ (W : World) (X Z : Option Addr) (x z : Nat), Lies W X x E → Lies W Z z E → Calls Try.prog 14 #[.slice X N x, .slice Z N z] W fun e w' => e = .returned (.bool true) ∧ Below W.heap.size W w' := fun W X Z x z h1 h2 => by
    have := bytes_lies N N X Z x z E E W hN hN (by omega) h1 h2
    rwa [decide_eq_true rfl] at this
  have HF := Lib.hid cF
  have HO := Lib.hid cO
  have HB := Lib.hid cB
  have HG := Lib.hid cG
  have HK := Lib.hid cK
  clear cF cO cB cG cK hS hN hW hM h hA hln
  go_enter Try.func5, Try.ntmps5
  go_wp2_with (first
    | (go_at_call 11; (with_reducible refine cM.mono ?_); rintro e w1 ⟨⟨X, x, rfl, hX⟩, hb1⟩)
    | (go_at_call 15; (with_reducible refine (HF.out _ _ _ hX).mono ?_); rintro e w2 ⟨⟨Z, z, out, rfl, hol, hZ, ht⟩, hb2⟩; have HL := Lib.hid hol; clear hol)
    | (go_at_call 12; (with_reducible refine (HO.out _ _ _ _ ht hZ).mono ?_); rintro e w3 ⟨⟨V, y3, rfl⟩, hb3⟩
       have hb3' := kal hb3 (.cells #[.int .i64 0, .int .i64 0, .slice V 0 y3] 24)
       have h3 := three_new w3 (.int .i64 0) (.int .i64 0) (.slice V 0 y3) 24
       have hl3 : w3.heap.size < (w3.alloc (.cells #[.int .i64 0, .int .i64 0, .slice V 0 y3] 24)).heap.size := by simp)
    | (go_at_call 14; (with_reducible refine (HB.out _ _ _ _ _ _ ht (hX.next (bt hb2 hb3')) (hZ.next hb3')).mono ?_); rintro e w4 ⟨rfl, hb4⟩; obtain ⟨k0, k1, k2, -, -, -⟩ := h3.keep hb4 hl3)
    | (go_at_call 17; (with_reducible refine (sector_none _ _ _).mono ?_); rintro e w5 ⟨rfl, hb5⟩; have hb35 := bt hb3' (bt hb4 hb5))
    | (go_at_call 15; (with_reducible refine (HG.out _ _ _ _ ht (hZ.next hb35)).mono ?_); rintro e w6 ⟨⟨U, u, rfl, hU⟩, hb6⟩)
    | (go_at_call 14; (with_reducible refine (HK.out _ _ _ _ _ hU (hX.next (bt hb2 (bt hb35 hb6)))).mono ?_); rintro e w7 ⟨rfl, hb7⟩)
    | (go_at_call 19; (with_reducible refine (wk_any _).mono ?_); rintro e w8 ⟨rfl, hb8⟩))
  go_ret
  exact ⟨rfl, bt hb0 (bt hb1 (bt hb2 (bt hb35 (bt hb6 (bt hb7 hb8)))))⟩
theorem flipped_law (a s : Int) (A : Option Addr) (c : Nat) (l : List UInt8) (bit msk : Int) (w : World) (hA : Sl w w.heap.size A l) :
    Calls Try.prog 5 #[.agg #[.int .i64 a, .int .i64 s, .slice A l.length c], .int .i64 bit, .int .i64 msk] w fun e w' => e = .returned (.bool true) ∧ Below w.heap.size w w' := by
  by_cases h : 300 < l.length
  · exact flipped_long a s bit msk A _ c w h
  · by_cases he : (made a s l).err = 0
    · obtain ⟨x, y, rfl, rfl, hx, hy, hl, -⟩ := made_zero he
      exact flipped_ok x y bit msk A _ c _ l (enc x y l) w rfl (by omega) hA (made_ok hx hy hl) rfl (by rw [enc_length]; omega) (by rw [enc_length]; omega) (enc_whole x y l)
    · exact flipped_no a s bit msk A _ c l w rfl (by omega) hA he
end Go.Proofs.Ytajgkfcflbmkdaa.sel
