/-
  Package entry: contracts as the laws call them (a sealed cell's block, a sector made, bytes compared); the laws' own example (wakes). Conditions: none.
-/
import Derived.Test.YtejfehkcjcohdaaEnC
namespace Go.Proofs.Ytejfehkcjcohdaa.ent
open Go.RowKit Go.Lib
open Go.Proofs.Ytejfehkcjcohdaa.gmt (Ok)
open Go.Proofs.Ytejfehkcjcohdaa.anc (bl kal kst ks bm ka)
open Go.Proofs.Ytejfehkcjcohdaa.sel (Three three_new Lies opened Opn no opened_err enc enc_opened open_any)
open Go.Proofs.Ytejfehkcjcohdaa.tbl (Ent EntOk entsN TV C1 c1_new G5 g5_new TbE)
open Go.Proofs.Ytejfehkcjcohdaa.sel (made made_ok made_err OkS make_any opened_enc enc_length)
open Go.Proofs.Ytejfehkcjcohdaa.tbl (RdT noTV noTV_own)

/-- Bytes and an error. -/
def BytN (base : Nat) (q : Nat) (l : List UInt8) (n : Int) (e : Ending) (w' : World) : Prop := ∃ (X : Option Addr) (x : Nat), e = .returned (.tuple #[.slice X q x, .int .i64 n]) ∧ Own w' base 5 (.slice X q x) l
theorem own_at {w : World} {base q x : Nat} {e : TypeId} {X : Option Addr} {l : List UInt8} (h : Own w base e (.slice X q x) l) : l.length = q ∧ q ≤ x ∧ x ≤ maxLen ∧ Sl w w.heap.size X l := by
  obtain ⟨Y, y, hv, h1, h2, h3, -⟩ := h.form
  simp only [Value.slice.injEq] at hv
  obtain ⟨rfl, rfl, rfl⟩ := hv
  exact ⟨rfl, h1, h2, h3⟩
/-- A sector made, where it can be. -/
theorem seal_c (a s : Int) (A : Option Addr) (n k N : Nat) (l : List UInt8) (w : World) (ha : 0 ≤ a ∧ a < 65536) (hs : 0 ≤ s ∧ s < 4294967296) (hl : l.length = n) (hn : n ≤ 96) (hN : n + 11 = N) (hA : Sl w w.heap.size A l) :
    Calls Try.prog 19 #[.agg #[.int .i64 a, .int .i64 s, .slice A n k]] w fun e w' => BytN w.heap.size N (enc a.toNat s.toNat l) 0 e w' ∧ Below w.heap.size w w' := by
  refine (make_any a s A n k l w hl hA).mono ?_
  rintro e w' ⟨⟨v, rfl, ho⟩, hb⟩
  have h9 : made a s l = ⟨0, enc a.toNat s.toNat l⟩ := by
    obtain ⟨x, rfl⟩ : ∃ x : Nat, a = x := ⟨a.toNat, by omega⟩
    obtain ⟨y, rfl⟩ : ∃ y : Nat, s = y := ⟨s.toNat, by omega⟩
    rw [Int.toNat_natCast, Int.toNat_natCast]
    exact made_ok (by omega) (by omega) (by omega)
  rw [h9] at ho
  obtain ⟨X, x, hv, -, -, -, -⟩ := id ho.form
  subst hv
  have h8 : (enc a.toNat s.toNat l).length = N := by rw [enc_length]; omega
  rw [h8] at ho
  refine ⟨⟨X, x, ?_, ho⟩, hb⟩
  rw [h9]
  show Ending.returned (.tuple #[.slice X (enc a.toNat s.toNat l).length x, .int .i64 0]) = _
  rw [h8]
/-- What a sealed cell says. -/
theorem say_enc {a s addr st : Int} {l : List UInt8} (ha : 0 ≤ a ∧ a < 65536) (hs : 0 ≤ s ∧ s < 4294967296) (hl : l.length ≤ 96) : (opened (enc a.toNat s.toNat l)).load = l ∧ (SayB 0 (enc a.toNat s.toNat l) addr st ↔ a = addr ∧ s = st) := by
  have h := opened_enc (a := a.toNat) (s := s.toNat) (l := l) (by omega) (by omega) hl
  unfold SayB
  rw [h]
  refine ⟨rfl, ?_⟩
  simp only [true_and]
  omega
/-- What block a sealed cell says. -/
theorem cell_c (c : Bool) (a s addr st sm : Int) (ls : Bool) (X : Option Addr) (N x : Nat) (l : List UInt8) (w : World) (ha : 0 ≤ a ∧ a < 65536) (hs : 0 ≤ s ∧ s < 4294967296) (hl : l.length ≤ 96) (hX : Own w (0 : Nat) 5 (.slice X N x) (enc a.toNat s.toNat l)) (hc : c = true ↔ a = addr ∧ s = st ∧ l.length = 8 ∧ ((crc.sum l : Nat) : Int) = sm) :
    Calls Try.prog 9 #[.agg #[.int .i64 0, .slice X N x], .int .i64 addr, .agg #[.int .i64 st, .int .i64 sm, .bool ls]] w fun e w' => BytB w.heap.size (part c l) c e w' ∧ Below w.heap.size w w' := by
  obtain ⟨h1, h2, h3, h4⟩ := own_at hX
  obtain ⟨k1, k2⟩ := say_enc (addr := addr) (st := st) ha hs hl
  have h9 := block_c c 0 addr st sm ls X N x _ w h1 h2 h3 h4 (by unfold BlkB; rw [k1, k2, hc, and_assoc])
  rw [k1] at h9
  exact h9
/-- Bytes compared. -/
theorem keep_c (b : Bool) (A B : Option Addr) (n m c d : Nat) (x y : List UInt8) (w : World) (hx : x.length = n) (hy : y.length = m) (hn : n ≤ 1048576) (hA : Sl w w.heap.size A x) (hB : Sl w w.heap.size B y) (hb : b = true ↔ x = y) :
    Calls Try.prog 13 #[.slice A n c, .slice B m d] w fun e w' => e = .returned (.bool b) ∧ Below w.heap.size w w' := by
  subst hx hy
  have h := keep_any A B c d _ _ x y w hA hB (Nat.le_refl _) (Nat.le_refl _) hn
  obtain rfl : b = decide (x = y) := by
    by_cases h : x = y
    · rw [decide_eq_true h]; exact hb.2 h
    · rw [decide_eq_false h]; cases b; rfl; exact absurd (hb.1 rfl) h
  exact h
def b8 : List UInt8 := [1, 2, 3, 4, 5, 6, 7, 8]
set_option maxRecDepth 100000 in
set_option maxHeartbeats 8000000 in
theorem wk_ent (w : World) : Calls Try.prog 17 #[] w fun e w' => e = .returned (.bool true) ∧ Below w.heap.size w w' := by
  have hB0 : Sl (w.alloc (.cells #[.int .u8 1, .int .u8 2, .int .u8 3, .int .u8 4, .int .u8 5, .int .u8 6, .int .u8 7, .int .u8 8] 5)) (w.alloc (.cells #[.int .u8 1, .int .u8 2, .int .u8 3, .int .u8 4, .int .u8 5, .int .u8 6, .int .u8 7, .int .u8 8] 5)).heap.size (some ⟨w.heap.size, 0, none⟩) b8 := Sl.of_block (heap_alloc_new w _) rfl (by simp)
  have hx := bl w (.cells #[.int .u8 1, .int .u8 2, .int .u8 3, .int .u8 4, .int .u8 5, .int .u8 6, .int .u8 7, .int .u8 8] 5)
  go_enter Try.func17, Try.ntmps17
  go_upto_region 2 with fail
  generalize w.alloc (.cells #[.int .u8 1, .int .u8 2, .int .u8 3, .int .u8 4, .int .u8 5, .int .u8 6, .int .u8 7, .int .u8 8] 5) = w0 at *
  have HMK := Lib.hid (mak_ok 5 (some ⟨w.heap.size, 0, none⟩) 8 b8 w0 (by decide) rfl hB0)
  obtain ⟨S, hS⟩ : ∃ S : Nat, S = crc.sum b8 := ⟨_, rfl⟩
  rw [← hS] at HMK
  have HSM := Lib.hid hS
  clear hS
  go_upto_region 3 with (go_at_call 12; (with_reducible refine (HMK.out).mono ?_); rintro e w1 ⟨rfl, hb1⟩)
  have hxE := bl w1 (.cells #[.int .i64 5, .int .i64 S, .bool false] 29)
  have TT := three_new w1 (.int .i64 5) (.int .i64 S) (.bool false) 29
  have l1 : w1.heap.size < (w1.alloc (.cells #[.int .i64 5, .int .i64 S, .bool false] 29)).heap.size := by simp
  have b2 := bt hb1 hxE
  have HB2 := Lib.hid (hB0.next b2)
  replace hx := bt hx b2
  clear hB0 hb1 hxE b2 HMK
  generalize w1.alloc (.cells #[.int .i64 5, .int .i64 S, .bool false] 29) = w2 at *
  have HSL := Lib.hid (seal_c 9 5 (some ⟨w.heap.size, 0, none⟩) 8 8 19 b8 w2 (by decide) (by decide) rfl (by decide) rfl HB2.out)
  go_upto_region 4 with (go_at_call 19; (with_reducible refine (HSL.out).mono ?_); rintro e w3 ⟨⟨X, x, rfl, ho⟩, hb3⟩)
  replace TT := TT.keep hb3 l1
  replace l1 := Nat.lt_of_lt_of_le l1 hb3.size
  have HB3 := Lib.hid (HB2.out.next hb3)
  replace hx := bt hx hb3
  have HO := Lib.hid (ho.less (Nat.zero_le _))
  clear ho hb3 HSL HB2
  have HY := Lib.hid (show ∀ W, Below w3.heap.size w3 W → Calls Try.prog 9 #[.agg #[.int .i64 0, .slice X 19 x], .int .i64 9, .agg #[.int .i64 5, .int .i64 S, .bool false]] W fun e w' => BytB W.heap.size b8 true e w' ∧ Below W.heap.size W w' from fun W hW => by
    have h9 := cell_c true 9 5 9 5 S false X 19 x b8 W (by decide) (by decide) (by decide) (HO.out.below hW) (iff_of_true rfl ⟨rfl, rfl, rfl, by rw [HSM.out]⟩)
    exact h9)
  have HN := Lib.hid (show ∀ W, Below w3.heap.size w3 W → Calls Try.prog 9 #[.agg #[.int .i64 0, .slice X 19 x], .int .i64 8, .agg #[.int .i64 5, .int .i64 S, .bool false]] W fun e w' => BytB W.heap.size [] false e w' ∧ Below W.heap.size W w' from fun W hW => by
    have h9 := cell_c false 9 5 8 5 S false X 19 x b8 W (by decide) (by decide) (by decide) (HO.out.below hW) (iff_of_false Bool.false_ne_true fun h => absurd h.1 (by decide))
    exact h9)
  obtain ⟨t0, t1, t2, -, -, -⟩ := id TT
  go_upto_region 5 with (go_at_call 9; (with_reducible refine (HY.out _ (Below.refl _ _)).mono ?_); rintro e w4 ⟨⟨Y, y, rfl, ho⟩, hb4⟩)
  replace TT := TT.keep hb4 l1
  replace l1 := Nat.lt_of_lt_of_le l1 hb4.size
  clear t0 t1 t2
  obtain ⟨t0, t1, t2, -, -, -⟩ := id TT
  go_upto_region 6 with (go_at_call 9; (with_reducible refine (HN.out _ hb4).mono ?_); rintro e w5 ⟨⟨Z, z, rfl, -⟩, hb5⟩)
  have HK := Lib.hid (keep_c true Y (some ⟨w.heap.size, 0, none⟩) b8.length 8 y 8 b8 b8 w5 rfl rfl (by decide) ((own_at ho).2.2.2.next hb5) (HB3.out.next (bt hb4 hb5)) (iff_of_true rfl rfl))
  replace hx := bt hx (bt hb4 hb5)
  clear hb4 hb5 ho HY HN TT t0 t1 t2 l1
  go_wp2_with (go_at_call 13; (with_reducible refine (HK.out).mono ?_); rintro e w6 ⟨rfl, hb6⟩)
  go_ret
  exact ⟨rfl, bt hx hb6⟩
end Go.Proofs.Ytejfehkcjcohdaa.ent
