/-
  The law SealEdges, walked: it returns true for every byte and number. No condition.
-/
import Derived.Test.YtajgkfcflbmkdaaSlLawC
namespace Go.Proofs.Ytajgkfcflbmkdaa.sel
open Go.RowKit Go.Lib
open Go.Proofs.Ytajgkfcflbmkdaa.pck (src_new own_far)

/-- A slice of the call's own of n bytes, whatever they are. -/
def Some8 (w : World) (base : Nat) (v : Value) (n : Nat) : Prop := ∃ out : List UInt8, out.length = n ∧ Own w base 5 v out
theorem make_some (base n : Nat) (W : World) (hn : n ≤ 16777216) (hb : base ≤ W.heap.size) :
    ∃ w', (Instr.makeSlice 22 (.int .i64 (n : Int)) (.int .i64 (n : Int))).run Try.prog W = .ok (.slice (some ⟨W.heap.size, 0, none⟩) n n) w' ∧
      Some8 w' base (.slice (some ⟨W.heap.size, 0, none⟩) n n) n ∧ W.grownBy w' none := by
  obtain ⟨ht, _, i, hi, hz, h1, hb8⟩ := t8
  obtain ⟨w', hr, ho, hg⟩ := run_makeSlice_full (P := Try.prog) (w := W) base 22 5 i (.int .u8 0) 1 ht hi hz h1 .i64 .i64 n (by omega) (by rw [hb8]; omega) (by unfold maxLen; omega) hb
  refine ⟨w', hr, ⟨List.replicate n 0, List.length_replicate, ?_⟩, hg⟩
  unfold Own
  have e : (madeCells (Value.int .u8 0).cells n).toList = cells8 (List.replicate n 0) := by
    unfold madeCells cells8
    have h1 : (Value.int .u8 0).cells = #[.int .u8 0] := rfl
    rw [h1]
    apply List.ext_getElem
    · simp
    · intro i h2 h3
      simp [by8, Nat.mod_one]
  rw [List.length_replicate, ← e]
  rwa [Nat.mul_one] at ho
theorem three_far {W W' : World} {g : Nat} {a b c : Value} {row : Option Nat} (h : Three W g a b c) (hg : W.grownBy W' row) (hl : g < W.heap.size) (hne : some g ≠ row) : Three W' g a b c := by
  have hk := hg.block g hl hne
  exact ⟨(World.cell?_of_block (a := ⟨g, 0, none⟩) hk).trans h.c0, (World.cell?_of_block (a := ⟨g, 1, none⟩) hk).trans h.c1, (World.cell?_of_block (a := ⟨g, 2, none⟩) hk).trans h.c2,
    (World.frozen?_of_block (a := ⟨g, 0, none⟩) hk).trans h.f0, (World.frozen?_of_block (a := ⟨g, 1, none⟩) hk).trans h.f1, (World.frozen?_of_block (a := ⟨g, 2, none⟩) hk).trans h.f2⟩
theorem three_other {W : World} {g g' o : Nat} {a b c : Value} (h : Three W g a b c) (hne : g' ≠ g) (v : Value) : Three (W.setCell ⟨g', o, none⟩ v) g a b c := by
  have h0 : ∀ i, (⟨g', o, none⟩ : Addr) ≠ ⟨g, i, none⟩ := fun i e => hne (congrArg Addr.block e)
  exact ⟨(World.cell?_setCell_other _ _ _ _ (h0 0)).trans h.c0, (World.cell?_setCell_other _ _ _ _ (h0 1)).trans h.c1, (World.cell?_setCell_other _ _ _ _ (h0 2)).trans h.c2,
    (World.frozen?_setCell _ _ _ _).trans h.f0, (World.frozen?_setCell _ _ _ _).trans h.f1, (World.frozen?_setCell _ _ _ _).trans h.f2⟩
theorem make_none (a s : Int) (z n c : Nat) (A : Option Addr) (l : List UInt8) (W : World) (hln : l.length = n) (h : Lies W A c l) (hz : made a s l = ⟨z, []⟩) :
    Calls Try.prog 11 #[.agg #[.int .i64 a, .int .i64 s, .slice A n c]] W fun e w' => (∃ X x, e = .returned (.tuple #[.slice X 0 x, .int .i64 z])) ∧ Below W.heap.size W w' := by
  have := make_at a s A n c l W hln h.2.2
  rw [hz] at this
  refine this.mono ?_
  rintro e w' ⟨⟨X, x, rfl, -⟩, hb⟩
  exact ⟨⟨X, x, rfl⟩, hb⟩
theorem made_arg {a s : Int} (l : List UInt8) (h : ¬ OkS a s) : made a s l = ⟨1, []⟩ := by unfold made; rw [if_neg h]
set_option maxHeartbeats 4000000 in
set_option maxRecDepth 100000 in
theorem edges_go (f : UInt8) (how : Int) (j : Nat) (w : World) (hj : j < 4) (hk : (IntKind.u64.wrap how).tmod 4 = (j : Int)) :
    Calls Try.prog 8 #[.int .u8 f.toNat, .int .i64 how] w fun e w' => e = .returned (.bool true) ∧ Below w.heap.size w w' := by
  obtain ⟨w1, hmk, hs1, hg1⟩ := make_some w.heap.size 96 w (by omega) (Nat.le_refl _)
  have hb1 : Below w.heap.size w w1 := (Below.refl _ _).grown hg1 (Nat.le_refl _) (fun k hk => by cases hk)
  have hsz : w.heap.size < w1.heap.size := by
    obtain ⟨out, hl, ho⟩ := hs1
    have := (World.ownsRow.lt ho w.heap.size rfl).2
    exact this
  have hmk' : (Instr.makeSlice 22 (.int .i64 96) (.int .i64 96)).run Try.prog w = .ok (.slice (some ⟨w.heap.size, 0, none⟩) 96 96) w1 := hmk
  clear hmk hg1
  go_enter Try.func8, Try.ntmps8
  go_wp2
  go_loopw [6] (fun i W => ∃ k : Nat, k ≤ 96 ∧ i = .int .i64 k ∧ Some8 W w.heap.size (.slice (some ⟨w.heap.size, 0, none⟩) 96 96) 96 ∧ Below w.heap.size w W ∧ w.heap.size < W.heap.size) (fun i _ => 96 - (RowKit.intOf i).toNat)
  case atStart => exact ⟨0, by omega, rfl, hs1, hb1, hsz⟩
  case round =>
    clear hmk' hs1 hb1 hsz
    rename_i wr
    obtain ⟨k, hk96, rfl, ⟨out, hol, hown⟩, hbr, hsr⟩ := hrel
    by_cases hlt : k < 96
    · have i1 : (k : Int) < 96 := by omega
      have hc := hown.cell k (by omega)
      have hf := hown.frozen hol k
      have hst := hown.store hol k f
      have HS : Hid (Some8 (wr.setCell ⟨w.heap.size, k, none⟩ (by8 f)) w.heap.size (.slice (some ⟨w.heap.size, 0, none⟩) 96 96) 96) := ⟨_, by rw [List.length_set, hol], hst.1⟩
      have hbs := hbr.grown hst.2 hbr.size (fun q hq => by cases hq; exact Nat.le_refl _)
      have hsz : w.heap.size < (wr.setCell ⟨w.heap.size, k, none⟩ (by8 f)).heap.size := by simpa using hsr
      unfold by8 at hc HS hbs hsz
      have HB := Lib.hid hbs
      have HZ := Lib.hid hsz
      clear hst hbs hsz
      generalize out[k] = oc at hc
      go_wp2
      go_roundw
      case rel => exact ⟨k + 1, by omega, by go_num, HS.out, HB.out, HZ.out⟩
      case measure => simp [RowKit.intOf]; omega
    · have i1 : ¬ (k : Int) < 96 := by omega
      have hL := (own_lies hown).2
      have eE : made 65535 4294967295 out = ⟨0, enc 65535 4294967295 out⟩ := made_ok (a := 65535) (s := 4294967295) (by omega) (by omega) (by omega)
      have eO : opened (enc 65535 4294967295 out) = ⟨0, 65535, 4294967295, out⟩ := opened_enc (by omega) (by omega) (by omega)
      have eL : (enc 65535 4294967295 out).length = 107 := by rw [enc_length, hol]
      have cM : Calls Try.prog 11 #[.agg #[.int .i64 65535, .int .i64 4294967295, .slice (some ⟨w.heap.size, 0, none⟩) 96 96]] wr fun e w' => (∃ X x, e = .returned (.tuple #[.slice X 107 x, .int .i64 0]) ∧ Lies w' X x (enc 65535 4294967295 out)) ∧ Below wr.heap.size wr w' := by
        have := make_at 65535 4294967295 (some ⟨w.heap.size, 0, none⟩) 96 96 out wr hol hL.2.2
        rw [eE] at this
        simp only [eL] at this
        exact this
      have cO : ∀ (W : World) (X : Option Addr) (x : Nat), Lies W X x (enc 65535 4294967295 out) → Calls Try.prog 12 #[.slice X 107 x] W fun e w' => (∃ Y y, e = .returned (.tuple #[.agg #[.int .i64 65535, .int .i64 4294967295, .slice Y 96 y], .int .i64 0])) ∧ Below W.heap.size W w' := fun W X x h => by
        have := open_at 107 x X _ W eL h
        rw [eO] at this
        simp only [hol] at this
        refine this.mono ?_
        rintro e w' ⟨⟨Y, y, rfl, -⟩, hb⟩
        exact ⟨⟨Y, y, rfl⟩, hb⟩
      have HM := Lib.hid cM
      have HO := Lib.hid cO
      have hbad : ∀ (a s : Int), ¬ OkS a s → ∀ (W : World), Lies W (some ⟨w.heap.size, 0, none⟩) 96 out → Calls Try.prog 11 #[.agg #[.int .i64 a, .int .i64 s, .slice (some ⟨w.heap.size, 0, none⟩) 96 96]] W fun e w' => (∃ X x, e = .returned (.tuple #[.slice X 0 x, .int .i64 1])) ∧ Below W.heap.size W w' := fun a s h W hW => make_none a s 1 96 96 _ out W hol hW (made_arg out h)
      have cB0 := hbad 65536 0 (by unfold OkS; omega)
      have cB1 := hbad 0 4294967296 (by unfold OkS; omega)
      have cB2 := hbad (-1) 0 (by unfold OkS; omega)
      generalize enc 65535 4294967295 out = E at *
      clear cM cO eE eO eL hbad
      rcases (show j = 0 ∨ j = 1 ∨ j = 2 ∨ j = 3 by omega) with rfl | rfl | rfl | rfl
      · have HB := Lib.hid cB0
        have hk' : (IntKind.u64.wrap how).tmod 4 = 0 := hk
        clear cB0 cB1 cB2 hk hj
        go_wp2_with (first
          | (go_at_call 11; (with_reducible refine HM.out.mono ?_); rintro e w2 ⟨⟨X, x, rfl, hX⟩, hb2⟩)
          | (go_at_call 12; (with_reducible refine (HO.out _ _ _ hX).mono ?_); rintro e w3 ⟨⟨Y, y, rfl⟩, hb3⟩
             have hb3' := kal hb3 (.cells #[.int .i64 65535, .int .i64 4294967295, .slice Y 96 y] 24)
             have t3 := three_new w3 (.int .i64 65535) (.int .i64 4294967295) (.slice Y 96 y) 24
             have l3 : w3.heap.size < (w3.alloc (.cells #[.int .i64 65535, .int .i64 4294967295, .slice Y 96 y] 24)).heap.size := by simp
             have hb23 := bt hb2 hb3')
          | (go_at_call 11
             have hal := bl (w3.alloc (.cells #[.int .i64 65535, .int .i64 4294967295, .slice Y 96 y] 24)) (.cells #[.int .i64 65536, .int .i64 0, .slice (some ⟨w.heap.size, 0, none⟩) 96 96] 24)
             (with_reducible refine (HB.out _ (hL.next (bt hb23 hal))).mono ?_); rintro e w5 ⟨⟨Z, z, rfl⟩, hb5⟩
             have hb5' := bt hal hb5
             obtain ⟨k0, k1, k2, -, -, -⟩ := t3.keep hb5' l3)
          | (go_at_call 19; (with_reducible refine (wk_any _).mono ?_); rintro e w9 ⟨rfl, hb9⟩))
        go_ret
        exact ⟨rfl, bt hbr (bt hb23 (bt hb5' hb9))⟩
      · have HB := Lib.hid cB1
        have hk' : (IntKind.u64.wrap how).tmod 4 = 1 := hk
        clear cB0 cB1 cB2 hk hj
        go_wp2_with (first
          | (go_at_call 11; (with_reducible refine HM.out.mono ?_); rintro e w2 ⟨⟨X, x, rfl, hX⟩, hb2⟩)
          | (go_at_call 12; (with_reducible refine (HO.out _ _ _ hX).mono ?_); rintro e w3 ⟨⟨Y, y, rfl⟩, hb3⟩
             have hb3' := kal hb3 (.cells #[.int .i64 65535, .int .i64 4294967295, .slice Y 96 y] 24)
             have t3 := three_new w3 (.int .i64 65535) (.int .i64 4294967295) (.slice Y 96 y) 24
             have l3 : w3.heap.size < (w3.alloc (.cells #[.int .i64 65535, .int .i64 4294967295, .slice Y 96 y] 24)).heap.size := by simp
             have hb23 := bt hb2 hb3')
          | (go_at_call 11
             have hal := bl (w3.alloc (.cells #[.int .i64 65535, .int .i64 4294967295, .slice Y 96 y] 24)) (.cells #[.int .i64 0, .int .i64 4294967296, .slice (some ⟨w.heap.size, 0, none⟩) 96 96] 24)
             (with_reducible refine (HB.out _ (hL.next (bt hb23 hal))).mono ?_); rintro e w5 ⟨⟨Z, z, rfl⟩, hb5⟩
             have hb5' := bt hal hb5
             obtain ⟨k0, k1, k2, -, -, -⟩ := t3.keep hb5' l3)
          | (go_at_call 19; (with_reducible refine (wk_any _).mono ?_); rintro e w9 ⟨rfl, hb9⟩))
        go_ret
        exact ⟨rfl, bt hbr (bt hb23 (bt hb5' hb9))⟩
      · have HB := Lib.hid cB2
        have hk' : (IntKind.u64.wrap how).tmod 4 = 2 := hk
        clear cB0 cB1 cB2 hk hj
        go_wp2_with (first
          | (go_at_call 11; (with_reducible refine HM.out.mono ?_); rintro e w2 ⟨⟨X, x, rfl, hX⟩, hb2⟩)
          | (go_at_call 12; (with_reducible refine (HO.out _ _ _ hX).mono ?_); rintro e w3 ⟨⟨Y, y, rfl⟩, hb3⟩
             have hb3' := kal hb3 (.cells #[.int .i64 65535, .int .i64 4294967295, .slice Y 96 y] 24)
             have t3 := three_new w3 (.int .i64 65535) (.int .i64 4294967295) (.slice Y 96 y) 24
             have l3 : w3.heap.size < (w3.alloc (.cells #[.int .i64 65535, .int .i64 4294967295, .slice Y 96 y] 24)).heap.size := by simp
             have hb23 := bt hb2 hb3')
          | (go_at_call 11
             have hal := bl (w3.alloc (.cells #[.int .i64 65535, .int .i64 4294967295, .slice Y 96 y] 24)) (.cells #[.int .i64 (-1), .int .i64 0, .slice (some ⟨w.heap.size, 0, none⟩) 96 96] 24)
             (with_reducible refine (HB.out _ (hL.next (bt hb23 hal))).mono ?_); rintro e w5 ⟨⟨Z, z, rfl⟩, hb5⟩
             have hb5' := bt hal hb5
             obtain ⟨k0, k1, k2, -, -, -⟩ := t3.keep hb5' l3)
          | (go_at_call 19; (with_reducible refine (wk_any _).mono ?_); rintro e w9 ⟨rfl, hb9⟩))
        go_ret
        exact ⟨rfl, bt hbr (bt hb23 (bt hb5' hb9))⟩
      · have cP : ∀ (W : World) (V : Option Addr) (v : Nat), Lies W V v (out ++ [1]) → Calls Try.prog 11 #[.agg #[.int .i64 0, .int .i64 0, .slice V 97 v]] W fun e w' => (∃ X x, e = .returned (.tuple #[.slice X 0 x, .int .i64 2])) ∧ Below W.heap.size W w' := fun W V v hV => by
          have h97 : (out ++ [(1 : UInt8)]).length = 97 := by rw [List.length_append, hol]; rfl
          refine make_none 0 0 2 97 v V (out ++ [1]) W h97 hV ?_
          unfold made
          rw [if_pos (by unfold OkS; omega), if_pos (by rw [h97]; omega)]
        have HP := Lib.hid cP
        have h97 : Hid ((out ++ [(1 : UInt8)]).length = 97) := by show _ = 97; rw [List.length_append, hol]; rfl
        have hll : out.length + [(1 : UInt8)].length ≤ 140737488355328 := by rw [hol]; decide
        have hk' : (IntKind.u64.wrap how).tmod 4 = 3 := hk
        clear cB0 cB1 cB2 hk hj cP
        go_wp2_with (first
          | (go_at_call 11; (with_reducible refine HM.out.mono ?_); rintro e w2 ⟨⟨X, x, rfl, hX⟩, hb2⟩)
          | (go_at_call 12; (with_reducible refine (HO.out _ _ _ hX).mono ?_); rintro e w3 ⟨⟨Y, y, rfl⟩, hb3⟩
             have hb3' := kal hb3 (.cells #[.int .i64 65535, .int .i64 4294967295, .slice Y 96 y] 24)
             have t3 := three_new w3 (.int .i64 65535) (.int .i64 4294967295) (.slice Y 96 y) 24
             have l3 : w3.heap.size < (w3.alloc (.cells #[.int .i64 65535, .int .i64 4294967295, .slice Y 96 y] 24)).heap.size := by simp
             have hb23 := bt hb2 hb3'
             have hal := bl (w3.alloc (.cells #[.int .i64 65535, .int .i64 4294967295, .slice Y 96 y] 24)) (.cells #[.int .i64 0, .int .i64 0, .slice (some ⟨w.heap.size, 0, none⟩) 96 96] 24)
             have hcl := bl ((w3.alloc (.cells #[.int .i64 65535, .int .i64 4294967295, .slice Y 96 y] 24)).alloc (.cells #[.int .i64 0, .int .i64 0, .slice (some ⟨w.heap.size, 0, none⟩) 96 96] 24)) (.cells #[.int .u8 1] 5)
             have t4 := three_new (w3.alloc (.cells #[.int .i64 65535, .int .i64 4294967295, .slice Y 96 y] 24)) (.int .i64 0) (.int .i64 0) (.slice (some ⟨w.heap.size, 0, none⟩) 96 96) 24
             rw [show (w3.alloc (.cells #[.int .i64 65535, .int .i64 4294967295, .slice Y 96 y] 24)).heap.size = w3.heap.size + 1 by simp] at t4
             have t4C := t4.keep hcl (by simp)
             have t3C := t3.keep (bt hal hcl) l3
             have hwo := (hown.below (bt hb23 hal)).alloc (.cells #[.int .u8 1] 5)
             have hone := heap_alloc_new ((w3.alloc (.cells #[.int .i64 65535, .int .i64 4294967295, .slice Y 96 y] 24)).alloc (.cells #[.int .i64 0, .int .i64 0, .slice (some ⟨w.heap.size, 0, none⟩) 96 96] 24)) (.cells #[.int .u8 1] 5)
             rw [show ((w3.alloc (.cells #[.int .i64 65535, .int .i64 4294967295, .slice Y 96 y] 24)).alloc (.cells #[.int .i64 0, .int .i64 0, .slice (some ⟨w.heap.size, 0, none⟩) 96 96] 24)).heap.size = w3.heap.size + 1 + 1 by simp] at hone
             have hsrc : Src Try.prog 1 22 (.slice (some ⟨w3.heap.size + 1 + 1, 0, none⟩) 1 1) [(1 : UInt8)].length (cells8 [1]) (((w3.alloc (.cells #[.int .i64 65535, .int .i64 4294967295, .slice Y 96 y] 24)).alloc (.cells #[.int .i64 0, .int .i64 0, .slice (some ⟨w.heap.size, 0, none⟩) 96 96] 24)).alloc (.cells #[.int .u8 1] 5)) := src_new (l := [1]) 1 hone rfl
             have hbC := bt hbr (bt hb23 (bt hal hcl))
             have hbig : w.heap.size < w3.heap.size := Nat.lt_of_lt_of_le hsr (bt hb2 hb3).size
             have hsC : (((w3.alloc (.cells #[.int .i64 65535, .int .i64 4294967295, .slice Y 96 y] 24)).alloc (.cells #[.int .i64 0, .int .i64 0, .slice (some ⟨w.heap.size, 0, none⟩) 96 96] 24)).alloc (.cells #[.int .u8 1] 5)).heap.size = w3.heap.size + 3 := by simp
             have m1 : w3.heap.size + 1 < (((w3.alloc (.cells #[.int .i64 65535, .int .i64 4294967295, .slice Y 96 y] 24)).alloc (.cells #[.int .i64 0, .int .i64 0, .slice (some ⟨w.heap.size, 0, none⟩) 96 96] 24)).alloc (.cells #[.int .u8 1] 5)).heap.size := by rw [hsC]; omega
             have m2 : w3.heap.size < (((w3.alloc (.cells #[.int .i64 65535, .int .i64 4294967295, .slice Y 96 y] 24)).alloc (.cells #[.int .i64 0, .int .i64 0, .slice (some ⟨w.heap.size, 0, none⟩) 96 96] 24)).alloc (.cells #[.int .u8 1] 5)).heap.size := by rw [hsC]; omega
             have m3 : some (w3.heap.size + 1) ≠ some w.heap.size := fun h => by have := Option.some.inj h; omega
             have m4 : some w3.heap.size ≠ some w.heap.size := fun h => by have := Option.some.inj h; omega
             have m5 : w.heap.size ≤ w3.heap.size + 1 := by omega
             have m6 : some (((w3.alloc (.cells #[.int .i64 65535, .int .i64 4294967295, .slice Y 96 y] 24)).alloc (.cells #[.int .i64 0, .int .i64 0, .slice (some ⟨w.heap.size, 0, none⟩) 96 96] 24)).alloc (.cells #[.int .u8 1] 5)).heap.size ≠ some (w3.heap.size + 1) := fun h => by have := Option.some.inj h; omega
             have m7 : w3.heap.size + 1 ≠ w3.heap.size := by omega)
          | (at_builtin
             refine wpList_app8 _ rfl (.tmp 42) (.tmp 43) _ _ rfl w.heap.size 5 t8 _ out rfl hwo _ [1] rfl hsrc hll hbC.size ?_
             intro v6 w6 hown6 hg6 hat6
             obtain ⟨V, v, hv, -, -, -, -⟩ := hown6.form
             rw [h97.out] at hv
             subst hv
             have t4D := three_far t4C hg6 m1 m3
             have t3D := three_far t3C hg6 m2 m4
             have hbD := hbC.grown hg6 hbC.size (fun q hq => by cases hq; exact Nat.le_refl _)
             have hbE := hbD.setCell (p := ⟨w3.heap.size + 1, 2, none⟩) m5 (.slice V 97 v)
             have t3E := three_other (g' := w3.heap.size + 1) (o := 2) t3D m7 (.slice V 97 v)
             have hVE := (own_lies (ownsRow_setCell_other (a := ⟨w3.heap.size + 1, 2, none⟩) hown6 (by
               rcases hat6 with h | h
               · rw [h]; exact m3.symm
               · rw [h]; exact m6) (.slice V 97 v))).2
             obtain ⟨k0, k1, k2, z0, z1, z2⟩ := id t4D)
          | (go_at_call 11; (with_reducible refine (HP.out _ _ _ hVE).mono ?_); rintro e w8 ⟨⟨Z, z, rfl⟩, hb8⟩
             obtain ⟨q0, q1, q2, -, -, -⟩ := t3E.keep hb8 (by simpa using Nat.lt_of_lt_of_le m2 hg6.size))
          | (go_at_call 19; (with_reducible refine (wk_any _).mono ?_); rintro e w9 ⟨rfl, hb9⟩))
        go_ret
        exact ⟨rfl, bt hbE (bt hb8 hb9)⟩
theorem edges_law (f : UInt8) (how : Int) (w : World) :
    Calls Try.prog 8 #[.int .u8 f.toNat, .int .i64 how] w fun e w' => e = .returned (.bool true) ∧ Below w.heap.size w w' := by
  obtain ⟨j, hj, hk⟩ := wrap_mod how 4 (by omega)
  exact edges_go f how j w hj hk
end Go.Proofs.Ytajgkfcflbmkdaa.sel
