/-
  The developers' own search for a wrong image. Conditions: fewer than 2^20 images.
-/
import Derived.Test.YtplhdnhigboeaaaRcYA
namespace Go.Proofs.Ytplhdnhigboeaaa.lrc
open Go.RowKit Go.Lib
open Go.Proofs.Ytplhdnhigboeaaa.gmt (Ok)
open Go.Proofs.Ytplhdnhigboeaaa.anc (bl kal kst ks bm ka)
open Go.Proofs.Ytplhdnhigboeaaa.tbl (C1 c1_new G5 g5_new)
open Go.Proofs.Ytplhdnhigboeaaa.img

set_option maxRecDepth 100000 in
set_option maxHeartbeats 8000000 in
theorem wrong_c (b : Bool) (g : Nat) (z d s l a : Int) (x : ImR) (n : Nat) (w : World) (ho : Ok z d s l a) (hG : G5 w g z d s l a) (hg : g < w.heap.size) (hx : BIn w w.heap.size x) (hn : x.l.length = n) (hn1 : n ≤ 1048576) (hb : b = true ↔ ImOk z d x.z x.wh x.l) :
    Calls Try.prog 36 #[.agg #[.int .i64 x.z, .int .i64 x.wh, .slice x.A n x.c], .pointer (some ⟨g, 0, none⟩)] w fun e w' => e = .returned (.bool !b) ∧ Below w.heap.size w w' := by
  have hw := bl w (.cells #[.int .i64 x.z, .int .i64 x.wh, .slice x.A n x.c] 26)
  have XX := c3_new w (.int .i64 x.z) (.int .i64 x.wh) (.slice x.A n x.c) 26
  have GG := hG.keep hw hg
  have HI := Lib.hid (isimg_c b z d s l a x.z x.wh x.A n x.c x.l (w.alloc (.cells #[.int .i64 x.z, .int .i64 x.wh, .slice x.A n x.c] 26)) ho (hx.next hw) hn hn1 hb)
  clear hG hx hn hb ho
  go_enter Try.func36, Try.ntmps36
  go_upto_region 1 with fail
  generalize w.alloc (.cells #[.int .i64 x.z, .int .i64 x.wh, .slice x.A n x.c] 26) = w0 at *
  obtain ⟨g0, g1, g2, g3, g4⟩ := id GG
  obtain ⟨x0, x1, x2⟩ := id XX
  cases b
  · go_wp2_with (go_at_call 37; (with_reducible refine HI.out.mono ?_); rintro e w1 ⟨rfl, hb1⟩)
    go_ret
    exact ⟨rfl, bt hw hb1⟩
  · go_wp2_with (go_at_call 37; (with_reducible refine HI.out.mono ?_); rintro e w1 ⟨rfl, hb1⟩)
    go_ret
    exact ⟨rfl, bt hw hb1⟩
set_option maxRecDepth 100000 in
set_option maxHeartbeats 8000000 in
theorem ixwrong_c (g : Nat) (z d s l a : Int) (v : IV) (n : Nat) (w : World) (ho : Ok z d s l a) (hG : G5 w g z d s l a) (hg : g < w.heap.size) (hv : v.In w w.heap.size) (hn : v.rs.length = n) (hn1 : n ≤ 1048576) (hs : ∀ x ∈ v.rs, x.l.length ≤ 1048576) :
    Calls Try.prog 67 #[.slice v.A n v.c, .func (.func 36) #[] #[.pointer (some ⟨g, 0, none⟩)]] w fun e w' => (∃ i : Int, e = .returned (.int .i64 i) ∧ (0 ≤ i ↔ ¬ ImsOk z d (ids v.rs))) ∧ Below w.heap.size w w' := by
  have HV := Lib.hid hv
  have HN := Lib.hid hn
  have HS := Lib.hid hs
  have HO := Lib.hid ho
  have HG := Lib.hid hG
  clear hv hn hs ho hG
  go_enter Try.func67, Try.ntmps67
  go_wp2
  go_loopw [8] (fun i w' => ∃ k : Nat, k ≤ n ∧ i = .int .i64 k ∧ (∀ x ∈ (ids v.rs).take k, ImOk z d x.1 x.2.1 x.2.2) ∧ Below w.heap.size w w') (fun i _ => n - (RowKit.intOf i).toNat)
  case atStart => exact ⟨0, by omega, rfl, by simp, Below.refl _ _⟩
  case round =>
    obtain ⟨w5, rfl⟩ : ∃ x, x = wr := ⟨wr, rfl⟩
    obtain ⟨k, hk, rfl, hsk, hbr⟩ := hrel
    have lw := hbr.size
    by_cases hlt : k < n
    · have j1 : (k : Int) < (n : Int) := by omega
      obtain ⟨b1, off, r, hbA, hb1, c0, c1, c2, m1, hr, -, e1⟩ := img_at (HV.out.h.below hbr) (HV.out.i.below hbr) (show k < v.rs.length by rw [HN.out]; exact hlt)
      have h8 := HS.out r hr
      obtain ⟨b, hbb⟩ := bool_is (ImOk z d r.z r.wh r.l)
      have HW := Lib.hid (wrong_c b g z d s l a r r.l.length w5 HO.out (HG.out.keep hbr hg) (by omega) (m1.more lw) rfl h8 hbb)
      have hlk : k < (ids v.rs).length := by rw [ids_length, HN.out]; exact hlt
      have htk := List.take_succ_eq_append_getElem hlk
      have hge : (ids v.rs)[k] = r.d := by
        rw [List.getElem?_eq_getElem hlk] at e1
        exact Option.some.inj e1
      rw [hge] at htk
      have hmem : r.d ∈ ids v.rs := by rw [← hge]; exact List.getElem_mem hlk
      rw [hbA]
      clear hbA
      cases b
      · have H3 := Lib.hid (show ¬ ImsOk z d (ids v.rs) from fun h => absurd (hbb.2 (h r.d hmem)) Bool.false_ne_true)
        clear hsk htk hge hmem e1 hr hbb hlk h8 m1
        go_wp2_with (go_at_call 36; (with_reducible refine HW.out.mono ?_); rintro e wx ⟨rfl, hbx⟩)
        go_ret
        exact ⟨⟨k, rfl, ⟨fun _ => H3.out, fun _ => by omega⟩⟩, hbr.trans (hbx.mono lw)⟩
      · have H3 := Lib.hid (show ∀ x ∈ (ids v.rs).take (k + 1), ImOk z d x.1 x.2.1 x.2.2 from fun x hx => by
          rw [htk] at hx
          rcases List.mem_append.1 hx with q | q
          · exact hsk x q
          · obtain rfl := List.mem_singleton.1 q
            exact hbb.1 rfl)
        clear hsk htk hge hmem e1 hr hbb hlk h8 m1
        go_wp2_with (go_at_call 36; (with_reducible refine HW.out.mono ?_); rintro e wx ⟨rfl, hbx⟩)
        go_roundw
        case rel => exact ⟨k + 1, by omega, by go_num, H3.out, hbr.trans (hbx.mono lw)⟩
        case measure => simp [RowKit.intOf]; omega
    · have j1 : ¬ (k : Int) < (n : Int) := by omega
      have H : Hid (ImsOk z d (ids v.rs)) := Lib.hid (by
        intro x hx
        rw [List.take_of_length_le (by rw [ids_length, HN.out]; omega)] at hsk
        exact hsk x hx)
      clear hsk
      go_wp2
      go_ret
      exact ⟨⟨-1, rfl, ⟨fun h => by omega, fun h => absurd H.out h⟩⟩, hbr⟩
theorem haswrong_c (b : Bool) (g : Nat) (z d s l a : Int) (v : IV) (n : Nat) (w : World) (ho : Ok z d s l a) (hG : G5 w g z d s l a) (hg : g < w.heap.size) (hv : v.In w w.heap.size) (hn : v.rs.length = n) (hn1 : n ≤ 1048576) (hs : ∀ x ∈ v.rs, x.l.length ≤ 1048576) (hb : b = true ↔ ImsOk z d (ids v.rs)) :
    Calls Try.prog 39 #[.slice v.A n v.c, .func (.func 36) #[] #[.pointer (some ⟨g, 0, none⟩)]] w fun e w' => e = .returned (.bool !b) ∧ Below w.heap.size w w' := by
  have cI := ixwrong_c g z d s l a v n w ho hG hg hv hn hn1 hs
  clear hv hn hs ho hG
  have HB := Lib.hid hb
  clear hb
  go_enter Try.func39, Try.ntmps39
  go_wp2_with (go_at_call 67; (with_reducible refine cI.mono ?_); rintro e wx ⟨⟨i, rfl, hi⟩, hbx⟩)
  go_ret
  refine ⟨ret_bool ?_, hbx⟩
  cases b
  · exact decide_eq_true (hi.2 fun h => absurd (HB.out.2 h) Bool.false_ne_true)
  · exact decide_eq_false fun h => hi.1 h (HB.out.1 rfl)
end Go.Proofs.Ytplhdnhigboeaaa.lrc
