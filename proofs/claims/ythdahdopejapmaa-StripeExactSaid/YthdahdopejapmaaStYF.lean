/-
  The developers' own Images, where all is right. Conditions: a right table, right indices, as many blocks of eight bytes, a parity of eight.
-/
import Derived.Test.YthdahdopejapmaaStYA
import Derived.Test.YthdahdopejapmaaTbW
namespace Go.Proofs.Ythdahdopejapmaa.stp
open Go.RowKit Go.Lib
open Go.Proofs.Ythdahdopejapmaa.gmt (Ok)
open Go.Proofs.Ythdahdopejapmaa.anc (bl kal kst ks bm ka wpList_row row_form)
open Go.Proofs.Ythdahdopejapmaa.tbl (Ent EntOk C1 c1_new G5 g5_new OwnE)
open Go.Proofs.Ythdahdopejapmaa.zon
open Go.Proofs.Ythdahdopejapmaa.img

set_option maxRecDepth 100000 in
set_option maxHeartbeats 8000000 in
theorem images_ok (z s l a zn : Int) (D : Nat) (x : tbl.TV) (N : Nat) (pA : Option Addr) (pc : Nat) (p : List UInt8) (aA : Option Addr) (ac : Nat) (ats : List Int) (m : Nat) (bA : Option Addr) (bc : Nat) (br : List Row) (w : World) (ho : Ok z D s l a) (hx : x.In w w.heap.size) (hN : x.es.length = N) (hg : tbl.Good (D : Int) x.es) (hz : 0 ≤ zn ∧ zn ≤ z - 1) (hp : Sl w w.heap.size pA p) (hp8 : p.length = 8) (hm : ats.length = m) (ha : SlV w w.heap.size aA (ints ats)) (hm1 : m ≤ 1048576) (hat : AtsOk D ats) (hbl : br.length = m) (hbb : LV.In w w.heap.size ⟨bA, bc, br⟩) (hb8 : ∀ y ∈ lists br, y.length = 8) :
    Calls Try.prog 12 #[.agg #[.int .i64 z, .int .i64 D, .int .i64 s, .int .i64 l, .int .i64 a], .int .i64 zn, .agg #[.slice x.A N x.c], .slice pA 8 pc, .slice aA m ac, .slice bA m bc] w fun e w' => ImZ (imgL zn x.es p ats (lists br)) e w' ∧ Below w.heap.size w w' := by
  have hD : 1 ≤ D ∧ D ≤ 4 := by have := ho.2.1; omega
  have hND : N = D + 1 := by have := hg.1; rw [hN] at this; omega
  have s1 : (w.alloc (.cells #[.int .i64 z, .int .i64 D, .int .i64 s, .int .i64 l, .int .i64 a] 23)).heap.size = w.heap.size + 1 := by simp
  have s3 : ((w.alloc (.cells #[.int .i64 z, .int .i64 D, .int .i64 s, .int .i64 l, .int .i64 a] 23)).alloc (.cells #[.slice x.A N x.c] 26)).heap.size = w.heap.size + 2 := by simp
  have x2 := bl (w.alloc (.cells #[.int .i64 z, .int .i64 D, .int .i64 s, .int .i64 l, .int .i64 a] 23)) (.cells #[.slice x.A N x.c] 26)
  have GG := (g5_new w z D s l a).keep x2 (by omega)
  have TT := c1_new (w.alloc (.cells #[.int .i64 z, .int .i64 D, .int .i64 s, .int .i64 l, .int .i64 a] 23)) (.slice x.A N x.c) 26
  rw [s1] at TT
  have hw := kal (bl w (.cells #[.int .i64 z, .int .i64 D, .int .i64 s, .int .i64 l, .int .i64 a] 23)) (.cells #[.slice x.A N x.c] 26)
  clear s1 x2
  have HAI := Lib.hid ha
  have HBI := Lib.hid hbb
  have HPI := Lib.hid hp
  have HP8 := Lib.hid hp8
  have HM := Lib.hid hm
  have HAT := Lib.hid hat
  have HBL := Lib.hid hbl
  have HB8 := Lib.hid hb8
  have HBY := Lib.hid (show Calls Try.prog 36 #[.agg #[.int .i64 z, .int .i64 D, .int .i64 s, .int .i64 l, .int .i64 a], .agg #[.slice x.A N x.c]] ((w.alloc (.cells #[.int .i64 z, .int .i64 D, .int .i64 s, .int .i64 l, .int .i64 a] 23)).alloc (.cells #[.slice x.A N x.c] 26)) fun e w' => (∃ (X : Option Addr) (c : Nat), e = .returned (.tuple #[.slice X (tbl.encT x.es).length c, .int .i64 0]) ∧ Own w' ((w.alloc (.cells #[.int .i64 z, .int .i64 D, .int .i64 s, .int .i64 l, .int .i64 a] 23)).alloc (.cells #[.slice x.A N x.c] 26)).heap.size 5 (.slice X (tbl.encT x.es).length c) (tbl.encT x.es)) ∧ Below ((w.alloc (.cells #[.int .i64 z, .int .i64 D, .int .i64 s, .int .i64 l, .int .i64 a] 23)).alloc (.cells #[.slice x.A N x.c] 26)).heap.size ((w.alloc (.cells #[.int .i64 z, .int .i64 D, .int .i64 s, .int .i64 l, .int .i64 a] 23)).alloc (.cells #[.slice x.A N x.c] 26)) w' from by
    have h9 := tbl.tbytes_ok z s l a D x ((w.alloc (.cells #[.int .i64 z, .int .i64 D, .int .i64 s, .int .i64 l, .int .i64 a] 23)).alloc (.cells #[.slice x.A N x.c] 26)) ho (hx.next hw) hg
    rw [tbl.TV.v, hN] at h9
    refine h9.mono ?_
    rintro e w' ⟨⟨X, c, rfl, hl, ho⟩, hb⟩
    rw [← hl] at ho ⊢
    exact ⟨⟨X, c, rfl, ho⟩, hb⟩)
  obtain ⟨q1, q2⟩ := hz
  have q3 : ¬ zn < 0 := by omega
  have q4 : ¬ z ≤ zn := by omega
  clear ha hbb hp hp8 hm hat hbl hb8 hx hN hg ho hND q1 q2
  go_enter Try.func12, Try.ntmps12
  go_upto_region 1 with fail
  generalize ((w.alloc (.cells #[.int .i64 z, .int .i64 D, .int .i64 s, .int .i64 l, .int .i64 a] 23)).alloc (.cells #[.slice x.A N x.c] 26)) = w0 at *
  obtain ⟨g0, g1, g2, g3, g4⟩ := id GG
  have t0 := TT.c0
  go_upto_region 4 with (go_at_call 36; (with_reducible refine HBY.out.mono ?_); rintro e w1 ⟨⟨X, xc, rfl, hox⟩, hb1⟩)
  have lw1 := hb1.size
  have GG1 := GG.keep hb1 (by omega)
  have hw1 := bt hw hb1
  have HOX := Lib.hid hox
  clear g0 g1 g2 g3 g4 t0 hb1 TT GG hw HBY hox
  obtain ⟨g0, g1, g2, g3, g4⟩ := id GG1
  have IX := Lib.hid (show Calls Try.prog 31 #[.agg #[.int .i64 z, .int .i64 D, .int .i64 s, .int .i64 l, .int .i64 a], .slice aA m ac] w1 fun e w' => e = .returned (.bool true) ∧ Below w1.heap.size w1 w' from ix_c true z s l a D aA m ac ats w1 HM.out hm1 (HAI.out.next hw1) (by omega) (iff_of_true rfl HAT.out))
  go_upto_region 6 with (go_at_call 31; (with_reducible refine IX.out.mono ?_); rintro e w2 ⟨rfl, hb2⟩)
  have lw2 := hb2.size
  have hw2 := bt hw1 hb2
  have HOX2 := Lib.hid (HOX.out.below hb2)
  clear hb2 g0 g1 g2 g3 g4 IX GG1 hw1 HOX
  have BK := Lib.hid (show Calls Try.prog 32 #[.slice bA m bc, .int .i64 m] w2 fun e w' => e = .returned (.bool true) ∧ Below w2.heap.size w2 w' from bk_c true bA m bc m br w2 HBL.out hm1 hm1 (HBI.out.next hw2).h (HBI.out.next hw2).r (iff_of_true rfl ⟨by rw [lists_length]; exact HBL.out, HB8.out⟩))
  go_upto_region 8 with (go_at_call 32; (with_reducible refine BK.out.mono ?_); rintro e w3 ⟨rfl, hb3⟩)
  have lw3 := hb3.size
  have hw3 := bt hw2 hb3
  have HOX3 := Lib.hid (HOX2.out.below hb3)
  clear hb3 BK hw2 HOX2
  go_upto_region 10 with fail
  go_loopw [16, 17, 18, 54] (fun v _ _ i w' => ∃ (k : Nat) (qs : List ImR), k ≤ m ∧ i = .int .i64 k ∧ ids qs = imgF zn ats (lists br) k ∧ OwnI w' w3.heap.size v qs ∧ Below w3.heap.size w3 w') (fun _ _ _ i _ => m - (RowKit.intOf i).toNat)
  case atStart => exact ⟨0, [], by omega, rfl, rfl, ownI_nil _ _, Below.refl _ _⟩
  case round =>
    obtain ⟨w5, rfl⟩ : ∃ x, x = wr := ⟨wr, rfl⟩
    obtain ⟨k, qs, hk, rfl, hqs, hown, hbr⟩ := hrel
    have lw := hbr.size
    have hlk : qs.length = k := by
      have := congrArg List.length hqs
      rw [ids_length, imgF_length] at this
      exact this
    by_cases hlt : k < m
    · have j1 : (k : Int) < (m : Int) := by omega
      have hkl : k < ats.length := by rw [HM.out]; exact hlt
      obtain ⟨b1, off, rfl, hb1, hcs⟩ := HAI.out (by rw [ints_length]; omega)
      have ga := hcs k (by rw [ints_length]; exact hkl)
      rw [ints_get] at ga
      have hei : ats[k]? = some ats[k] := List.getElem?_eq_getElem hkl
      obtain ⟨y, hy⟩ : ∃ y, y = ats[k] := ⟨_, rfl⟩
      rw [← hy] at ga hei
      clear hy hcs
      obtain ⟨b2, o2, r, hbA, hb2, gr, hrs, hrm, -, r1⟩ := row_at HBI.out.h HBI.out.r (show k < br.length by rw [HBL.out]; exact hlt)
      have hbA2 : bA = some ⟨b2, o2, none⟩ := hbA
      subst hbA2
      clear hbA
      have hr8 := HB8.out r.l (List.mem_of_getElem? r1)
      have HHK := Lib.hid (show ids qs ++ [(zn, y, r.l)] = imgF zn ats (lists br) (k + 1) by rw [imgF_next hei (hadK_get r1), hqs])
      have hwr := hw3.trans (hbr.mono hw3.size)
      have ga5 := ks hwr hb1 ga
      have gr5 := ks hwr hb2 gr
      have HCL := Lib.hid (show Calls Try.prog 37 #[.slice r.A r.l.length r.c] w5 fun e w' => One w5.heap.size r.l e w' ∧ Below w5.heap.size w5 w' from pck.clone_any r.A r.c _ _ r.l w5 rfl (hrs.below hwr) (by omega))
      have HLK := Lib.hid hlk
      have HOW := Lib.hid hown
      clear hei r1 hrs hrm hqs hlk hown ga gr hr8
      go_upto_region 12 with fail
      go_wp2_with (first
        | (go_at_call 37; (with_reducible refine HCL.out.mono ?_); rintro e w6 ⟨⟨v6, rfl, ho6⟩, hb6⟩; obtain ⟨X6, c6, hv6, -, -, -, -⟩ := id ho6.form; subst hv6; have lw6 := hb6.size; have HOI := Lib.hid ((HOW.out.below hb6).below (bl w6 (.cells #[.int .i64 zn, .int .i64 y, .slice X6 r.l.length c6] 67))).1)
        | (at_builtin; refine wpList_row _ rfl (.tmp 59) (.tmp 68) _ _ rfl w3.heap.size 3 40 67 (.agg #[.int .i64 0, .int .i64 0, .slice none 0 0]) Try.underlying36 im_info rfl u16 qs.length (ivs qs) rfl HOI.out _ 1 _ rfl (src_img (P := Try.prog) (heap_alloc_new w6 (.cells #[.int .i64 zn, .int .i64 y, .slice X6 r.l.length c6] 67)) Try.underlying36 (by simp [Value.oneCell'])) (by rw [HLK.out]; unfold maxLen; omega) (by rw [HLK.out]; omega) (by simp; omega) ?_; intro v8 w8 h8 hg8))
      have hb8 : Below w3.heap.size w3 w8 := (hbr.trans (ka (hb6.mono lw) lw (.cells #[.int .i64 zn, .int .i64 y, .slice X6 r.l.length c6] 67))).grown hg8 (by simp; omega) (fun q hq => (World.ownsRow.lt HOI.out q hq).1)
      have hgm : OwnI w8 w3.heap.size v8 (qs ++ [⟨zn, y, X6, c6, r.l⟩]) := ((HOW.out.below hb6).below (bl w6 (.cells #[.int .i64 zn, .int .i64 y, .slice X6 r.l.length c6] 67))).more (r := ⟨zn, y, X6, c6, r.l⟩) hg8 ((ho6.below (bl w6 _)).less lw) h8
      go_roundw
      case rel => exact ⟨k + 1, qs ++ [⟨zn, y, X6, c6, r.l⟩], by omega, by go_num, by rw [ids_append]; exact HHK.out, hgm, hb8⟩
      case measure => simp [RowKit.intOf]; omega
    · have j1 : ¬ (k : Int) < (m : Int) := by omega
      obtain rfl : m = k := by omega
      have hwr := hw3.trans (hbr.mono hw3.size)
      have HCL := Lib.hid (show Calls Try.prog 37 #[.slice pA 8 pc] w5 fun e w' => One w5.heap.size p e w' ∧ Below w5.heap.size w5 w' from pck.clone_any pA pc _ 8 p w5 HP8.out (HPI.out.below hwr) (by decide))
      have HLK := Lib.hid hlk
      have HQS := Lib.hid hqs
      have HOW := Lib.hid hown
      have HOX5 := Lib.hid (HOX3.out.below hbr)
      clear hqs hlk hown
      go_upto_region 15 with (first
        | (go_at_call 37; (with_reducible refine HCL.out.mono ?_); rintro e w6 ⟨⟨v6, rfl, ho6⟩, hb6⟩; obtain ⟨X6, c6, hv6, -, -, -, -⟩ := id ho6.form; subst hv6; have lw6 := hb6.size; have HOI := Lib.hid ((HOW.out.below hb6).below (bl w6 (.cells #[.int .i64 zn, .int .i64 (-1), .slice X6 p.length c6] 67))).1)
        | (at_builtin; refine wpList_row _ rfl (.tmp 71) (.tmp 76) _ _ rfl w3.heap.size 3 40 67 (.agg #[.int .i64 0, .int .i64 0, .slice none 0 0]) Try.underlying36 im_info rfl u16 qs.length (ivs qs) rfl HOI.out _ 1 _ rfl (src_img (P := Try.prog) (heap_alloc_new w6 (.cells #[.int .i64 zn, .int .i64 (-1), .slice X6 p.length c6] 67)) Try.underlying36 (by simp [Value.oneCell'])) (by rw [HLK.out]; unfold maxLen; omega) (by rw [HLK.out]; omega) (by simp; omega) ?_; intro v8 w8 h8 hg8))
      have hb8 : Below w3.heap.size w3 w8 := (hbr.trans (ka (hb6.mono lw) lw (.cells #[.int .i64 zn, .int .i64 (-1), .slice X6 p.length c6] 67))).grown hg8 (by simp; omega) (fun q hq => (World.ownsRow.lt HOI.out q hq).1)
      have hgm : OwnI w8 w3.heap.size v8 (qs ++ [⟨zn, -1, X6, c6, p⟩]) := ((HOW.out.below hb6).below (bl w6 (.cells #[.int .i64 zn, .int .i64 (-1), .slice X6 p.length c6] 67))).more (r := ⟨zn, -1, X6, c6, p⟩) hg8 ((ho6.below (bl w6 _)).less lw) h8
      have HOX8 := Lib.hid (show Own w8 w0.heap.size 5 (.slice X (tbl.encT x.es).length xc) (tbl.encT x.es) from ((HOX5.out.below hb6).below (bl w6 (.cells #[.int .i64 zn, .int .i64 (-1), .slice X6 p.length c6] 67))).kept hg8 (anc.row_apart ((HOX5.out.below hb6).below (bl w6 (.cells #[.int .i64 zn, .int .i64 (-1), .slice X6 p.length c6] 67))) HOI.out u8_img))
      have hlq : (qs ++ [(⟨zn, -1, X6, c6, p⟩ : ImR)]).length = m + 1 := by rw [List.length_append, HLK.out]; rfl
      have HIQ := Lib.hid (show ids (qs ++ [(⟨zn, -1, X6, c6, p⟩ : ImR)]) = imgF zn ats (lists br) m ++ [(zn, -1, p)] by rw [ids_append, HQS.out]; rfl)
      generalize (qs ++ [(⟨zn, -1, X6, c6, p⟩ : ImR)]) = q2 at *
      have lw8 := hb8.size
      clear h8 hg8 HOI HOW HCL hb6 ho6 HOX5 hbr HQS HLK
      have HGM := Lib.hid hgm
      have HGA := Lib.hid (hgm.below (bl w8 (.cells #[.int .i64 zn, .int .i64 255, .slice X (tbl.encT x.es).length xc] 67))).1
      have HOA := Lib.hid (HOX8.out.below (bl w8 (.cells #[.int .i64 zn, .int .i64 255, .slice X (tbl.encT x.es).length xc] 67)))
      clear hgm
      go_wp2_with (first
        | (at_builtin; refine wpList_row _ rfl (.tmp 78) (.tmp 82) _ _ rfl w3.heap.size 3 40 67 (.agg #[.int .i64 0, .int .i64 0, .slice none 0 0]) Try.underlying36 im_info rfl v8 q2.length (ivs q2) rfl HGA.out _ 1 _ rfl (src_img (P := Try.prog) (heap_alloc_new w8 (.cells #[.int .i64 zn, .int .i64 255, .slice X (tbl.encT x.es).length xc] 67)) Try.underlying36 (by simp [Value.oneCell'])) (by rw [hlq]; unfold maxLen; omega) (by rw [hlq]; omega) (by simp; omega) ?_; intro v9 w9 h9 hg9))
      have hb9 : Below w3.heap.size w3 w9 := (ka hb8 (Nat.le_refl _) (.cells #[.int .i64 zn, .int .i64 255, .slice X (tbl.encT x.es).length xc] 67)).grown hg9 (by simp; omega) (fun q hq => (World.ownsRow.lt HGA.out q hq).1)
      have hgm9 : OwnI w9 w0.heap.size v9 (q2 ++ [⟨zn, 255, X, xc, tbl.encT x.es⟩]) := OwnI.more (r := ⟨zn, 255, X, xc, tbl.encT x.es⟩) (OwnI.less (HGM.out.below (bl w8 (.cells #[.int .i64 zn, .int .i64 255, .slice X (tbl.encT x.es).length xc] 67))) (by omega)) hg9 HOA.out (by
        have h10 := h9
        exact ⟨h10.1, h10.2.imp id (fun ⟨g, cap, cur, a, b, c⟩ => ⟨g, cap, cur, a, by omega, c⟩)⟩)
      obtain ⟨A9, c9, hv9, -, -, -⟩ := row_form h9
      subst hv9
      have hl9 : (q2 ++ [(⟨zn, 255, X, xc, tbl.encT x.es⟩ : ImR)]).length = q2.length + 1 := by rw [List.length_append]; rfl
      have HIV := Lib.hid (ownI_in (c := c9) (A := A9) (by rw [hl9]; exact hgm9))
      have hll : (imgL zn x.es p ats (lists br)).length = q2.length + 1 := by rw [imgL_length, hlq, HM.out]
      clear hgm9 h9 hg9
      go_ret2
      refine ⟨⟨A9, c9, q2 ++ [⟨zn, 255, X, xc, tbl.encT x.es⟩], by rw [hll]; rfl, ?_, HIV.out.1, HIV.out.2.1, HIV.out.2.2⟩, hw3.trans (hb9.mono hw3.size)⟩
      rw [ids_append, HIQ.out]
      unfold imgL imgF
      rw [HM.out, List.append_assoc]
      rfl
end Go.Proofs.Ythdahdopejapmaa.stp
