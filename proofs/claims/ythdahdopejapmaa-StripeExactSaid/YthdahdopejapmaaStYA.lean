/-
  The developers' own areIndices, areBlocks, makeEntry, slices.Clone of entries. Conditions: lists shorter than 2^20.
-/
import Derived.Test.YthdahdopejapmaaGSt
import Derived.Deep.RegionHeld3
import Derived.Test.YthdahdopejapmaaGSum
import Derived.Test.YthdahdopejapmaaGTa
namespace Go.Proofs.Ythdahdopejapmaa.stp
open Go.RowKit Go.Lib
open Go.Proofs.Ythdahdopejapmaa.gmt (Ok)
open Go.Proofs.Ythdahdopejapmaa.anc (bl kal kst ks bm ka row_form wpList_row)
open Go.Proofs.Ythdahdopejapmaa.tbl (Ent EntOk C1 c1_new G5 g5_new OwnE evs)
open Go.Proofs.Ythdahdopejapmaa.par (zx zeros zeros_length zx_length)
open Go.Proofs.Ythdahdopejapmaa.zon

set_option maxRecDepth 100000 in
set_option maxHeartbeats 4000000 in
theorem ix_c (b : Bool) (z s l a : Int) (D : Nat) (A : Option Addr) (n c : Nat) (ats : List Int) (w : World) (hl : ats.length = n) (hn1 : n ≤ 1048576) (hA : SlV w w.heap.size A (ints ats)) (hD : D ≤ 1048576) (hb : b = true ↔ AtsOk D ats) :
    Calls Try.prog 31 #[.agg #[.int .i64 z, .int .i64 D, .int .i64 s, .int .i64 l, .int .i64 a], .slice A n c] w fun e w' => e = .returned (.bool b) ∧ Below w.heap.size w w' := by
  have HC := Lib.hid hb
  have HL := Lib.hid hl
  have GG := g5_new w z D s l a
  have hw := bl w (.cells #[.int .i64 z, .int .i64 D, .int .i64 s, .int .i64 l, .int .i64 a] 23)
  have HA := Lib.hid (hA.next hw)
  clear hb hl hA
  go_enter Try.func31, Try.ntmps31
  go_upto_region 1 with fail
  generalize w.alloc (.cells #[.int .i64 z, .int .i64 D, .int .i64 s, .int .i64 l, .int .i64 a] 23) = w0 at *
  obtain ⟨g0, g1, g2, g3, g4⟩ := id GG
  go_upto_region 3 with fail
  go_loop [5, 10] (fun u i => ∃ (k : Nat) (y : Int), i = .int .i64 k ∧ u = .int .i64 y ∧ k ≤ n ∧ 0 ≤ y ∧ y ≤ D ∧ (∀ x ∈ ats.take k, 0 ≤ x ∧ x ≤ (D : Int) - 1) ∧ (∀ (j : Nat) (x y : Int), j + 1 < k → ats[j]? = some x → ats[j + 1]? = some y → x < y) ∧ (k = 0 → y = 0) ∧ (∀ j, j + 1 = k → ats[j]? = some (y - 1))) (fun _ i => n - (RowKit.intOf i).toNat)
  case atStart => exact ⟨0, 0, rfl, rfl, by omega, by omega, by omega, fun h hh => by simp at hh, fun j x y hj => by omega, fun _ => rfl, fun j hj => by omega⟩
  case round =>
    obtain ⟨k, y, rfl, rfl, hk, hy0, hyD, hs2, hs3, hz, hp⟩ := hrel
    by_cases hlt : k < n
    · have j1 : (k : Int) < (n : Int) := by omega
      have hkl : k < ats.length := by rw [HL.out]; exact hlt
      obtain ⟨b1, off, rfl, hb1, hcs⟩ := HA.out (by rw [ints_length]; omega)
      have g := hcs k (by rw [ints_length]; exact hkl)
      rw [ints_get] at g
      have e1 : ats[k]? = some ats[k] := List.getElem?_eq_getElem hkl
      have hmem : ats[k] ∈ ats := List.getElem_mem hkl
      have htk := List.take_succ_eq_append_getElem hkl
      obtain ⟨x, hx⟩ : ∃ x, x = ats[k] := ⟨_, rfl⟩
      rw [← hx] at g e1 hmem htk
      clear hx hcs
      by_cases q1 : x < y
      · have H : Hid (b = false) := Lib.hid (by
          cases b
          · rfl
          · have h9 := HC.out.1 rfl
            rcases Nat.eq_zero_or_pos k with h0 | h0
            · have := hz h0
              have := (h9.2.1 x hmem).1
              omega
            · obtain ⟨j, rfl⟩ : ∃ j, k = j + 1 := ⟨k - 1, by omega⟩
              have := h9.2.2 j _ x (hp j rfl) e1
              omega)
        clear hs2 hs3 hz hp e1 hmem htk hkl
        go_wp2_with fail
        go_ret
        exact ⟨ret_bool H.out.symm, hw⟩
      · by_cases q2 : (D : Int) ≤ x
        · have H : Hid (b = false) := Lib.hid (by
            cases b
            · rfl
            · have h9 := ((HC.out.1 rfl).2.1 x hmem).2
              omega)
          clear hs2 hs3 hz hp e1 hmem htk hkl
          go_wp2_with fail
          go_ret
          exact ⟨ret_bool H.out.symm, hw⟩
        · have HS2 : Hid (∀ h ∈ ats.take (k + 1), 0 ≤ h ∧ h ≤ (D : Int) - 1) := Lib.hid fun h hm2 => by
            rw [htk] at hm2
            rcases List.mem_append.1 hm2 with hm2 | hm2
            · exact hs2 h hm2
            · obtain rfl := List.mem_singleton.1 hm2
              omega
          have HS3 := Lib.hid (rising_next hs3 e1 (fun j u hj hu => by
            have h1 := hp j hj
            rw [hu] at h1
            have := Option.some.inj h1
            omega))
          have HE : Hid (∀ j, j + 1 = k + 1 → ats[j]? = some (x + 1 - 1)) := Lib.hid fun j hj => by
            obtain rfl : j = k := by omega
            rw [e1]
            congr 1
            omega
          have n1 : IntKind.i64.wrap (x + 1) = x + 1 := gmt.w6 _ (by omega) (by omega)
          clear hs2 hs3 hz hp e1 hmem htk hkl
          go_wp2_with fail
          go_round
          case rel => exact ⟨k + 1, x + 1, by go_num, by go_num, by omega, by omega, by omega, HS2.out, HS3.out, by omega, HE.out⟩
          case measure => simp [RowKit.intOf]; omega
    · have j1 : ¬ (k : Int) < (n : Int) := by omega
      obtain rfl : k = n := by omega
      have hall : (∀ x ∈ ats, 0 ≤ x ∧ x ≤ (D : Int) - 1) ∧ Rising ats := ⟨fun x hx => hs2 x (by rw [List.take_of_length_le (by rw [HL.out]; omega)]; exact hx), fun j x y hx hy => hs3 j x y (by
        have := (List.getElem?_eq_some_iff.1 hy).1
        rw [HL.out] at this
        exact this) hx hy⟩
      by_cases h0 : k = 0
      · have H : Hid (b = false) := Lib.hid (by
          cases b
          · rfl
          · exact absurd (List.eq_nil_of_length_eq_zero (by rw [HL.out]; exact h0)) (HC.out.1 rfl).1)
        subst h0
        clear hs2 hs3 hall hz hp
        go_wp2_with fail
        go_ret
        exact ⟨ret_bool H.out.symm, hw⟩
      · have H : Hid (b = true) := Lib.hid (HC.out.2 ⟨fun h => h0 (by rw [← HL.out, h]; rfl), hall.1, hall.2⟩)
        have q : (0 : Int) < (k : Int) := by omega
        clear hs2 hs3 hall h0 hz hp
        go_wp2_with fail
        go_ret
        exact ⟨ret_bool (by rw [H.out]; exact decide_eq_true (by omega)), hw⟩
theorem wrong8_c (A : Option Addr) (n c : Nat) (w : World) :
    Calls Try.prog 51 #[.slice A n c] w fun e w' => e = .returned (.bool ((n : Int) != 8)) ∧ Below w.heap.size w w' := by
  go_enter Try.func51, Try.ntmps51
  go_wp2
  go_ret
  exact ⟨rfl, Below.refl _ _⟩
set_option maxRecDepth 100000 in
set_option maxHeartbeats 4000000 in
theorem ix_wrong (A : Option Addr) (n c : Nat) (rs : List Row) (w : World) (hn : rs.length = n) (hn1 : n ≤ 1048576) (hA : SlV w w.heap.size A (vals rs)) (hR : Rws w w.heap.size rs) :
    Calls Try.prog 70 #[.slice A n c, .func (.func 51) #[] #[]] w fun e w' => (∃ i : Int, e = .returned (.int .i64 i) ∧ (0 ≤ i ↔ ∃ x ∈ lists rs, x.length ≠ 8)) ∧ Below w.heap.size w w' := by
  have hlen : (lists rs).length = n := by rw [lists_length, hn]
  go_enter Try.func70, Try.ntmps70
  go_wp2
  go_loopw [8] (fun i w' => ∃ k : Nat, k ≤ n ∧ i = .int .i64 k ∧ (∀ x ∈ (lists rs).take k, x.length = 8) ∧ Below w.heap.size w w') (fun i _ => n - (RowKit.intOf i).toNat)
  case atStart => exact ⟨0, by omega, rfl, by simp, Below.refl _ _⟩
  case round =>
    obtain ⟨w5, rfl⟩ : ∃ x, x = wr := ⟨wr, rfl⟩
    obtain ⟨k, hk, rfl, hs, hbr⟩ := hrel
    by_cases hlt : k < n
    · obtain ⟨b1, off, r, rfl, hb1, g, -, -, -, e1⟩ := row_at (hA.below hbr) (hR.below hbr) (show k < rs.length by omega)
      have i1 : (k : Int) < (n : Int) := by omega
      have cW := wrong8_c r.A r.l.length r.c w5
      have H1 : Hid (r.l.length = 8 → ∀ y ∈ (lists rs).take (k + 1), y.length = 8) := Lib.hid fun h y hy => by
        rw [take_next e1] at hy
        rcases List.mem_append.1 hy with q | q
        · exact hs y q
        · obtain rfl := List.mem_singleton.1 q
          exact h
      have H2 : Hid (r.l.length ≠ 8 → ∃ x ∈ lists rs, x.length ≠ 8) := Lib.hid fun h => ⟨r.l, List.mem_of_getElem? e1, h⟩
      clear hs e1 hA hR hlen
      by_cases ho : r.l.length = 8
      · rw [show ((r.l.length : Int) != 8) = false by rw [ho]; rfl] at cW
        have H3 := Lib.hid (H1.out ho)
        clear H1 H2 ho
        go_wp2_with (go_at_call 51; (with_reducible refine cW.mono ?_); rintro e wx ⟨rfl, hbx⟩)
        go_roundw
        case rel => exact ⟨k + 1, by omega, by go_num, H3.out, bt hbr hbx⟩
        case measure => simp [RowKit.intOf]; omega
      · rw [show ((r.l.length : Int) != 8) = true from bne_iff_ne.2 (by omega)] at cW
        have H3 := Lib.hid (H2.out ho)
        clear H1 H2 ho
        go_wp2_with (go_at_call 51; (with_reducible refine cW.mono ?_); rintro e wx ⟨rfl, hbx⟩)
        go_ret
        exact ⟨⟨k, rfl, ⟨fun _ => H3.out, fun _ => by omega⟩⟩, bt hbr hbx⟩
    · have H : Hid (∀ x ∈ lists rs, x.length = 8) := Lib.hid (by
        intro x hx
        rw [List.take_of_length_le (by omega)] at hs
        exact hs x hx)
      clear hs
      go_wp2
      go_ret
      exact ⟨⟨-1, rfl, ⟨fun h => by omega, fun ⟨x, hx, hn⟩ => absurd (H.out x hx) hn⟩⟩, hbr⟩
theorem has_wrong (A : Option Addr) (n c : Nat) (rs : List Row) (w : World) (hn : rs.length = n) (hn1 : n ≤ 1048576) (hA : SlV w w.heap.size A (vals rs)) (hR : Rws w w.heap.size rs) :
    Calls Try.prog 52 #[.slice A n c, .func (.func 51) #[] #[]] w fun e w' => e = .returned (.bool (decide (∃ x ∈ lists rs, x.length ≠ 8))) ∧ Below w.heap.size w w' := by
  have cI := ix_wrong A n c rs w hn hn1 hA hR
  go_enter Try.func52, Try.ntmps52
  clear hA hR hn
  go_wp2_with (go_at_call 70; (with_reducible refine cI.mono ?_); rintro e wx ⟨⟨i, rfl, hi⟩, hbx⟩)
  go_ret
  exact ⟨ret_bool (decide_eq_decide.2 (by simp)), hbx⟩
set_option maxRecDepth 100000 in
set_option maxHeartbeats 4000000 in
theorem bk_c (b : Bool) (A : Option Addr) (n c m : Nat) (rs : List Row) (w : World) (hn : rs.length = n) (hn1 : n ≤ 1048576) (hm : m ≤ 1048576) (hA : SlV w w.heap.size A (vals rs)) (hR : Rws w w.heap.size rs) (hb : b = true ↔ BlkOk m (lists rs)) :
    Calls Try.prog 32 #[.slice A n c, .int .i64 m] w fun e w' => e = .returned (.bool b) ∧ Below w.heap.size w w' := by
  by_cases hnm : n = m
  · subst hnm
    have hd : decide (∃ x ∈ lists rs, x.length ≠ 8) = !b := by
      cases b
      · refine decide_eq_true ?_
        by_cases h : ∃ x ∈ lists rs, x.length ≠ 8
        · exact h
        · refine absurd (hb.2 ⟨by rw [lists_length, hn], fun y hy => ?_⟩) Bool.false_ne_true
          by_cases h8 : y.length = 8
          · exact h8
          · exact absurd ⟨y, hy, h8⟩ h
      · exact decide_eq_false fun ⟨x, hx, h8⟩ => h8 ((hb.1 rfl).2 x hx)
    have cH := has_wrong A n c rs w hn hn1 hA hR
    rw [hd] at cH
    have q : ((n : Int) == (n : Int)) = true := beq_self_eq_true _
    clear hb hA hR hn hd
    go_enter Try.func32, Try.ntmps32
    go_wp2_with (go_at_call 52; (with_reducible refine cH.mono ?_); rintro e wx ⟨rfl, hbx⟩)
    go_ret
    exact ⟨rfl, hbx⟩
  · obtain rfl : b = false := by
      cases b
      · rfl
      · exact absurd (by rw [← hn, ← lists_length]; exact (hb.1 rfl).1) hnm
    have q : ((n : Int) == (m : Int)) = false := beq_eq_false_iff_ne.2 (by omega)
    clear hb hA hR hn
    go_enter Try.func32, Try.ntmps32
    go_wp2_with fail
    go_ret
    exact ⟨rfl, Below.refl _ _⟩
set_option maxRecDepth 100000 in
set_option maxHeartbeats 8000000 in
theorem make_c (st : Int) (A : Option Addr) (k : Nat) (l : List UInt8) (w : World) (hs : 0 ≤ st ∧ st ≤ 4294967295) (hn : l.length = 8) (hA : Sl w w.heap.size A l) :
    Calls Try.prog 53 #[.int .i64 st, .slice A 8 k] w fun e w' => e = .returned (.tuple #[.agg #[.int .i64 st, .int .i64 (crc.sum l : Nat), .bool false], .int .i64 0]) ∧ Below w.heap.size w w' := by
  obtain ⟨q1, q2⟩ := hs
  have i1 : ((8 : Int) != 8) = false := rfl
  have HF := Lib.hid (show ∀ W, Below w.heap.size w W → Calls Try.prog 61 #[.slice A (8 : Nat) k] W fun e w' => e = .returned (.int .i64 (crc.sum l : Nat)) ∧ W = w' from fun W hW => by
    have h9 := crc.of_any A k _ l W (hA.next hW) (by rw [hn]; decide)
    rw [hn] at h9
    exact h9)
  clear hn hA
  obtain ⟨S, hS⟩ : ∃ S : Nat, S = crc.sum l := ⟨_, rfl⟩
  rw [← hS] at HF ⊢
  clear hS
  have PP := anc.tri_new w (.int .i64 0) (.int .i64 0) (.bool false) 61
  have hx := bl w (.cells #[.int .i64 0, .int .i64 0, .bool false] 61)
  have lx : w.heap.size < (w.alloc (.cells #[.int .i64 0, .int .i64 0, .bool false] 61)).heap.size := by simp
  go_enter Try.func53, Try.ntmps53
  go_upto_region 1 with fail
  generalize w.alloc (.cells #[.int .i64 0, .int .i64 0, .bool false] 61) = w0 at *
  obtain ⟨p0, p1, p2, f0, f1, f2⟩ := id PP
  go_wp2_with (go_at_call 61; (with_reducible refine (HF.out _ hx).mono ?_); rintro e w1 ⟨rfl, rfl⟩)
  have k7 := ((PP.set0 (.int .i64 st)).set1 (.int .i64 S)).set2 (.bool false)
  exact bodyPost_ret (v := .tuple #[.agg #[.int .i64 st, .int .i64 (S : Nat), .bool false], .int .i64 0]) (by simp [results, Try.results53, go_sem, k7.c0, k7.c1, k7.c2]) rfl ⟨rfl, below_set3 hx (Nat.le_refl _) _ _ _⟩
set_option maxRecDepth 100000 in
set_option maxHeartbeats 8000000 in
theorem mkent_c (st : Int) (A : Option Addr) (k : Nat) (l : List UInt8) (w : World) (hs : 0 ≤ st ∧ st ≤ 4294967295) (hn : l.length = 8) (hA : Sl w w.heap.size A l) :
    Calls Try.prog 34 #[.int .i64 st, .slice A 8 k] w fun e w' => e = .returned (.agg #[.int .i64 st, .int .i64 (entS st l).sm, .bool false]) ∧ Below w.heap.size w w' := by
  have HM := Lib.hid (show ∀ W, Below w.heap.size w W → Calls Try.prog 53 #[.int .i64 st, .slice A 8 k] W fun e w' => e = .returned (.tuple #[.agg #[.int .i64 st, .int .i64 (entS st l).sm, .bool false], .int .i64 0]) ∧ Below W.heap.size W w' from fun W hW => make_c st A k l W hs hn (hA.next hW))
  clear hs hn hA
  generalize (entS st l).sm = S at *
  have PP := anc.tri_new w (.int .i64 0) (.int .i64 0) (.bool false) 61
  have hx := bl w (.cells #[.int .i64 0, .int .i64 0, .bool false] 61)
  have lx : w.heap.size < (w.alloc (.cells #[.int .i64 0, .int .i64 0, .bool false] 61)).heap.size := by simp
  go_enter Try.func34, Try.ntmps34
  go_upto_region 1 with fail
  generalize w.alloc (.cells #[.int .i64 0, .int .i64 0, .bool false] 61) = w0 at *
  go_upto_region 2 with (go_at_call 53; (with_reducible refine (HM.out _ hx).mono ?_); rintro e w1 ⟨rfl, hb1⟩)
  have TT := anc.tri_new w1 (.int .i64 st) (.int .i64 S) (.bool false) 61
  have hx1 := bl w1 (.cells #[.int .i64 st, .int .i64 S, .bool false] 61)
  have l1 := hb1.size
  have PP1 := (PP.keep hb1 lx).keep hx1 (show w.heap.size < w1.heap.size by omega)
  have HB := bt (bt hx hb1) hx1
  clear hb1 hx1 hx PP HM
  generalize (w1.alloc (.cells #[.int .i64 st, .int .i64 S, .bool false] 61)) = w2 at *
  obtain ⟨p0, p1, p2, f0, f1, f2⟩ := id PP1
  obtain ⟨t0, t1, t2, -, -, -⟩ := id TT
  go_wp2_with fail
  have k7 := ((PP1.set0 (.int .i64 st)).set1 (.int .i64 S)).set2 (.bool false)
  exact bodyPost_ret (v := .agg #[.int .i64 st, .int .i64 S, .bool false]) (by simp [results, Try.results34, go_sem, k7.c0, k7.c1, k7.c2]) rfl ⟨rfl, below_set3 HB (Nat.le_refl _) _ _ _⟩
/-- slices.Clone of entries, where there are some. -/
theorem some_ent (a : Addr) (n c : Nat) (W : World) : (binOp .eql 24 (.slice (some a) n c) (.slice none 0 0)).run Try.prog W = .ok (.bool false) W := by kernel_rfl
set_option maxRecDepth 100000 in
set_option maxHeartbeats 8000000 in
theorem clone_ent (x : tbl.TV) (N : Nat) (w : World) (hx : x.In w w.heap.size) (hN : x.es.length = N) (h0 : 0 < N) (hN1 : N ≤ 1048576) :
    Calls Try.prog 33 #[.slice x.A N x.c] w fun e w' => (∃ q qc, e = .returned (.slice (some ⟨q, 0, none⟩) N qc) ∧ OwnE w' w.heap.size (.slice (some ⟨q, 0, none⟩) N qc) x.es ∧ w.heap.size ≤ q ∧ q < w'.heap.size) ∧ Below w.heap.size w w' := by
  obtain ⟨xA, xc, es⟩ := x
  obtain ⟨b1, off, rfl, -, -⟩ := id (hx.h (by rw [tbl.evs_length]; omega))
  have hw := bl w (.cells #[] 61)
  have HX := Lib.hid (hx.h.next hw)
  have HN := Lib.hid hN
  have q1 := some_ent ⟨b1, off, none⟩
  have HE := Lib.hid (show World.ownsRow (w.alloc (.cells #[] 61)) w.heap.size 61 3 (.slice (some ⟨w.heap.size, 0, none⟩) 0 0) 0 [] from World.ownsRow_made w #[] 0 (Nat.le_refl _) (by simp) (by simp))
  clear hx hN
  go_enter Try.func33, Try.ntmps33
  go_wp2_with (first
    | (at_builtin
       refine wpList_row _ rfl (.tmp 5) (.tmp 6) _ _ rfl w.heap.size 3 24 61 (.agg #[.int .i64 0, .int .i64 0, .bool false]) Try.underlying24 tbl.e_info rfl (.slice (some ⟨w.heap.size, 0, none⟩) 0 0) 0 [] rfl HE.out _ N _ rfl (tbl.src_ents (P := Try.prog) Try.underlying24 HX.out HN.out) (by unfold maxLen; omega) (by omega) (by simp) ?_
       intro v3 w3 h3 hg3))
  rw [Nat.zero_add, List.nil_append] at h3
  have b3 : Below w.heap.size w w3 := hw.grown hg3 (by simp) (fun x hx => by cases hx; exact Nat.le_refl _)
  have h4 : OwnE w3 w.heap.size v3 es := by
    unfold OwnE
    rw [HN.out]
    exact h3
  obtain ⟨t, hv, hte, hto⟩ := tbl.ownE_tv h4
  obtain ⟨q, hq, g1, g2⟩ := hto.row (by rw [hte, HN.out]; exact h0)
  rw [hte, HN.out, hq] at hv
  subst hv
  go_ret
  exact ⟨⟨q, t.c, rfl, h4, g2, g1⟩, b3⟩
end Go.Proofs.Ythdahdopejapmaa.stp
