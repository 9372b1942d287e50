/-
  casematekeep.TwinImages: a row of images of one's own. Conditions: fewer than 2^20 images and bytes.
-/
import Derived.Test.YtalmimmcfjolkaaDoorRcP
import Derived.Test.YtalmimmcfjolkaaDoorGImg
import Derived.Test.YtalmimmcfjolkaaDoorAnF
import Derived.Test.YtalmimmcfjolkaaDoorTail
namespace Go.Proofs.YtalmimmcfjolkaaDoor.lrc
open Go.RowKit Go.Lib
open Go.Proofs.YtalmimmcfjolkaaDoor.gmt (Ok)
open Go.Proofs.YtalmimmcfjolkaaDoor.anc (bl kal kst ks bm ka)
open Go.Proofs.YtalmimmcfjolkaaDoor.tbl (C1 c1_new G5 g5_new)
open Go.Proofs.YtalmimmcfjolkaaDoor.img
open Go.Proofs.YtalmimmcfjolkaaDoor.anc (row_apart row_form row_below step_row wpList_row)

theorem take_nextD {l : List (Int × Int × List UInt8)} {k : Nat} {x : Int × Int × List UInt8} (h : l[k]? = some x) : l.take (k + 1) = l.take k ++ [x] := by
  rw [List.take_add_one, h]
  rfl
set_option maxRecDepth 100000 in
set_option maxHeartbeats 8000000 in
theorem timgs_c (g : IV) (n : Nat) (w : World) (hg : g.In w w.heap.size) (hn : g.rs.length = n) (hn1 : n ≤ 1048576) (hs : ∀ x ∈ g.rs, x.l.length ≤ 1048576) :
    Calls Tryd.prog 31 #[.slice g.A n g.c] w fun e w' => (∃ (v : Value) (rs : List ImR), e = .returned v ∧ ids rs = ids g.rs ∧ OwnI w' w.heap.size v rs) ∧ Below w.heap.size w w' := by
  have HG := Lib.hid hg
  have HN := Lib.hid hn
  have HS := Lib.hid hs
  clear hg hn hs
  go_enter Tryd.func31, Tryd.ntmps31
  go_upto_region 3 with fail
  go_loopw [3, 4] (fun v i w' => ∃ (k : Nat) (qs : List ImR), k ≤ n ∧ i = .int .i64 k ∧ ids qs = (ids g.rs).take k ∧ OwnI w' w.heap.size v qs ∧ Below w.heap.size w w') (fun _ i _ => n - (RowKit.intOf i).toNat)
  case atStart => exact ⟨0, [], by omega, rfl, rfl, ownI_nil _ _, Below.refl _ _⟩
  case round =>
    obtain ⟨w5, rfl⟩ : ∃ x, x = wr := ⟨wr, rfl⟩
    obtain ⟨k, qs, hk, rfl, hqs, hown, hbr⟩ := hrel
    have lw := hbr.size
    have hlk : qs.length = k := by
      have := congrArg List.length hqs
      rw [ids_length, List.length_take, ids_length, HN.out] at this
      omega
    by_cases hlt : k < n
    · have j1 : (k : Int) < (n : Int) := by omega
      obtain ⟨b1, off, r, hbA, hb1, c0, c1, c2, m1, hr, -, e1⟩ := img_at (HG.out.h.below hbr) (HG.out.i.below hbr) (show k < g.rs.length by rw [HN.out]; exact hlt)
      have h8 := HS.out r hr
      have HL := Lib.hid (show ids qs ++ [r.d] = (ids g.rs).take (k + 1) by rw [take_nextD e1, hqs])
      have HT := Lib.hid (show ∀ W, Below w5.heap.size w5 W → Calls Tryd.prog 39 #[.slice r.A r.l.length r.c] W fun e w' => One W.heap.size r.l e w' ∧ Below W.heap.size W w' from fun W hW => twin_any r.A r.c _ r.l W ((m1.more lw).next hW).1 (by omega))
      have HLK := Lib.hid hlk
      clear e1 hr hqs hlk h8 m1
      rw [hbA]
      clear hbA
      go_upto_region 5 with fail
      have hfar : ∀ q, u3.ownBlock = some q → w.heap.size ≤ q := fun q hq => (World.ownsRow.lt hown.1 q hq).1
      have HF := Lib.hid (show ∀ W, Below w.heap.size w5 W → W.cell? ⟨b1, off + k * 3, none⟩ = some (.int .i64 r.z) ∧ W.cell? ⟨b1, off + k * 3 + 1, none⟩ = some (.int .i64 r.wh) ∧ W.cell? ⟨b1, off + k * 3 + 2, none⟩ = some (.slice r.A r.l.length r.c) ∧ Below w.heap.size w5 W from fun W h => ⟨ks h hb1 c0, ks h hb1 c1, ks h hb1 c2, h⟩)
      clear c0 c1 c2
      go_region_held3 (fun W => W.cell? ⟨b1, off + k * 3, none⟩ = some (.int .i64 r.z) ∧ W.cell? ⟨b1, off + k * 3 + 1, none⟩ = some (.int .i64 r.wh) ∧ W.cell? ⟨b1, off + k * 3 + 2, none⟩ = some (.slice r.A r.l.length r.c) ∧ Below w.heap.size w5 W)
        ((refine HF.out _ ?_; first
          | with_reducible exact b3
          | with_reducible exact ka tb lw _
          | with_reducible exact tb
          | with_reducible exact below_dr (Below.refl _ _)
          | fail))
        (first
          | (go_at_call 39; (with_reducible refine (HT.out _ (below_dr (Below.refl _ _))).mono ?_); rintro e wt ⟨⟨vt, rfl, ot⟩, hbt⟩; obtain ⟨At, ct, hvt, -, -, -, -⟩ := id ot.form; subst hvt; have tt : Below w5.heap.size w5 wt := bt (below_dr (Below.refl w5.heap.size w5)) hbt; have tb : Below w.heap.size w5 wt := tt.mono lw)
          | (refine step_row _ (by rfl) _ _ _ _ (by rfl) w.heap.size 3 40 56 (.agg #[.int .i64 0, .int .i64 0, .slice none 0 0]) Tryd.underlying38 im_info (by rfl) u3 qs.length (ivs qs) (by rfl) ((hown.below tt).below (bl wt (.cells #[.int .i64 r.z, .int .i64 r.wh, .slice At r.l.length ct] 56))).1 _ 1 _ (by rfl) (src_img (P := Tryd.prog) (heap_alloc_new wt (.cells #[.int .i64 r.z, .int .i64 r.wh, .slice At r.l.length ct] 56)) Tryd.underlying38 (by simp [Value.oneCell'])) (by rw [HLK.out]; unfold maxLen; omega) (by rw [HLK.out]; omega) (Nat.le_trans lw (kal tt _).size) ?_; intro v3 w3 h3 hg3; have b3 : Below w.heap.size w5 w3 := (ka tb lw _).grown hg3 (Nat.le_trans lw (kal tt _).size) hfar)
          | fail)
      go_wp2_with fail
      have hgm : OwnI w3 w.heap.size v3 (qs ++ [⟨r.z, r.wh, At, ct, r.l⟩]) := ((hown.below tt).below (bl wt _)).more (r := ⟨r.z, r.wh, At, ct, r.l⟩) hg3 ((ot.below (bl wt _)).less lw) h3
      go_roundw
      case rel => exact ⟨k + 1, qs ++ [⟨r.z, r.wh, At, ct, r.l⟩], by omega, by go_num, by rw [ids_append]; exact HL.out, hgm, hbr.trans b3⟩
      case measure => simp [RowKit.intOf]; omega
    · have j1 : ¬ (k : Int) < (n : Int) := by omega
      obtain rfl : k = n := by omega
      have HQ := Lib.hid (show ids qs = ids g.rs by rw [hqs, List.take_of_length_le (by rw [ids_length, HN.out]; exact Nat.le_refl _)])
      clear hqs
      go_wp2
      go_ret
      exact ⟨⟨_, rfl, _, HQ.out, hown⟩, hbr⟩
end Go.Proofs.YtalmimmcfjolkaaDoor.lrc
