/-
  The developers' own Txn. Conditions: fewer than 2^20 images.
-/
import Derived.Test.YtplhdnhigboeaaaRcYJ
import Derived.Test.YtplhdnhigboeaaaRcYG
import Derived.Test.YtplhdnhigboeaaaRcI
namespace Go.Proofs.Ytplhdnhigboeaaa.lrc
open Go.RowKit Go.Lib
open Go.Proofs.Ytplhdnhigboeaaa.gmt (Ok)
open Go.Proofs.Ytplhdnhigboeaaa.anc (bl kal kst ks bm ka)
open Go.Proofs.Ytplhdnhigboeaaa.tbl (C1 c1_new G5 g5_new)
open Go.Proofs.Ytplhdnhigboeaaa.img
open Go.Proofs.Ytplhdnhigboeaaa.anc (row_apart row_form row_below wpList_row)
set_option maxRecDepth 100000 in
set_option maxHeartbeats 8000000 in
theorem txn_c (z d s l a : Int) (sq ep : Int) (g : IV) (n : Nat) (w : World) (ho : Ok z d s l a) (hsq : NumOk sq) (hep : NumOk ep) (hg : g.In w w.heap.size) (hn : g.rs.length = n) (him : ImsOk z d (ids g.rs)) (hn1 : 1 ≤ n ∧ n ≤ 29) :
    Calls Try.prog 13 #[.agg #[.int .i64 z, .int .i64 d, .int .i64 s, .int .i64 l, .int .i64 a], .int .i64 sq, .int .i64 ep, .slice g.A n g.c] w fun e w' => TxR sq ep (ids g.rs) e w' ∧ Below w.heap.size w w' := by
  have hs : ∀ x ∈ g.rs, x.l.length ≤ 1048576 := fun x hx => by
    have := (imOk_len (him x.d (List.mem_map_of_mem hx)) ho.2.1).1
    exact Nat.le_trans this (by decide)
  have GG := g5_new w z d s l a
  have hw := bl w (.cells #[.int .i64 z, .int .i64 d, .int .i64 s, .int .i64 l, .int .i64 a] 23)
  have lw0 : w.heap.size < (w.alloc (.cells #[.int .i64 z, .int .i64 d, .int .i64 s, .int .i64 l, .int .i64 a] 23)).heap.size := by simp
  have HG := Lib.hid fun W => gmt.check_ok z d s l a W ho
  have H1 := Lib.hid fun W => num_c true sq W (iff_of_true rfl hsq)
  have H2 := Lib.hid fun W => num_c true ep W (iff_of_true rfl hep)
  have H3 := Lib.hid fun W => from_c true ((n : Int) + 1) 2 30 W (iff_of_true rfl ⟨by omega, by omega⟩)
  have HC := Lib.hid (show ∀ W, Below (w.alloc (.cells #[.int .i64 z, .int .i64 d, .int .i64 s, .int .i64 l, .int .i64 a] 23)).heap.size (w.alloc (.cells #[.int .i64 z, .int .i64 d, .int .i64 s, .int .i64 l, .int .i64 a] 23)) W → Calls Try.prog 39 #[.slice g.A n g.c, .func (.func 36) #[] #[.pointer (some ⟨w.heap.size, 0, none⟩)]] W fun e w' => e = .returned (.bool false) ∧ Below W.heap.size W w' from fun W hW => haswrong_c true w.heap.size z d s l a g n W ho (GG.keep hW lw0) (Nat.lt_of_lt_of_le lw0 hW.size) (hg.next (hw.trans (hW.mono hw.size))) hn (by omega) hs (iff_of_true rfl him))
  have HIN := Lib.hid (hg.next hw)
  have HN := Lib.hid hn
  have HS := Lib.hid hs
  have un1 : IntKind.i64.wrap ((n : Int) + 1) = (n : Int) + 1 := IntWalk.i64_in _ (by omega)
  clear hg hn hs hsq hep him ho
  go_enter Try.func13, Try.ntmps13
  go_upto_region 1 with fail
  generalize w.alloc (.cells #[.int .i64 z, .int .i64 d, .int .i64 s, .int .i64 l, .int .i64 a] 23) = w0 at *
  obtain ⟨g0, g1, g2, g3, g4⟩ := id GG
  go_upto_region 4 with (go_at_call 34; (with_reducible refine (HG.out _).mono ?_); rintro e w2 ⟨rfl, hb2⟩)
  have B2 := hb2
  go_upto_region 10 with (first
    | (go_at_call 38; (with_reducible refine (H1.out _).mono ?_); rintro e w8 ⟨rfl, rfl⟩)
    | (go_at_call 38; (with_reducible refine (H2.out _).mono ?_); rintro e w8 ⟨rfl, rfl⟩)
    | (go_at_call 39; (with_reducible refine (HC.out _ B2).mono ?_); rintro e w3 ⟨rfl, hb3⟩)
    | (go_at_call 40; (with_reducible refine (H3.out _).mono ?_); rintro e w8 ⟨rfl, rfl⟩))
  have B3 := bt B2 hb3
  clear g0 g1 g2 g3 g4 H1 H2 H3 HC HG
  go_upto_region 12 with fail
  have HI3 := Lib.hid (HIN.out.next B3)
  clear HIN
  go_loopw [13, 43] (fun v i w' => ∃ (k : Nat) (qs : List RcR), k ≤ n ∧ i = .int .i64 k ∧ rds qs = recF sq ep n (ids g.rs) k ∧ OwnR w' w3.heap.size v qs ∧ Below w3.heap.size w3 w') (fun _ i _ => n - (RowKit.intOf i).toNat)
  case atStart => exact ⟨0, [], by omega, rfl, rfl, ownR_nil _ _, Below.refl _ _⟩
  case round =>
    obtain ⟨w5, rfl⟩ : ∃ x, x = wr := ⟨wr, rfl⟩
    obtain ⟨k, qs, hk, rfl, hqs, hown, hbr⟩ := hrel
    have lw := hbr.size
    have hlk : qs.length = k := by
      have := congrArg List.length hqs
      rw [rds_length, recF_length] at this
      exact this
    by_cases hlt : k < n
    · have j1 : (k : Int) < (n : Int) := by omega
      obtain ⟨b1, off, r, hbA, hb1, c0, c1, c2, m1, hr, -, e1⟩ := img_at (HI3.out.h.below hbr) (HI3.out.i.below hbr) (show k < g.rs.length by rw [HN.out]; exact hlt)
      have h8 := HS.out r hr
      have HL := Lib.hid (show rds qs ++ [⟨1, sq, ep, k, (n : Int) + 1, r.z, r.wh, r.l⟩] = recF sq ep n (ids g.rs) (k + 1) by rw [recF_next e1, hqs])
      have HT := Lib.hid (show ∀ W, Below w5.heap.size w5 W → Calls Try.prog 41 #[.slice r.A r.l.length r.c] W fun e w' => One W.heap.size r.l e w' ∧ Below W.heap.size W w' from fun W hW => pck.clone_any r.A r.c _ r.l.length r.l W rfl ((m1.more lw).next hW).1 (by omega))
      have HLK := Lib.hid hlk
      clear e1 hr hqs hlk h8 m1
      rw [hbA]
      clear hbA
      go_upto_region 14 with fail
      have TT := anc.tri_new w5 (.int .i64 r.z) (.int .i64 r.wh) (.slice r.A r.l.length r.c) 26
      have hb6 := bl w5 (.cells #[.int .i64 r.z, .int .i64 r.wh, .slice r.A r.l.length r.c] 26)
      have l6 : w5.heap.size < (w5.alloc (.cells #[.int .i64 r.z, .int .i64 r.wh, .slice r.A r.l.length r.c] 26)).heap.size := by simp
      clear c0 c1 c2
      generalize w5.alloc (.cells #[.int .i64 r.z, .int .i64 r.wh, .slice r.A r.l.length r.c] 26) = w6 at *
      obtain ⟨t0, t1, t2, f0, f1, f2⟩ := id TT
      go_upto_region 15 with (go_at_call 41; (with_reducible refine (HT.out _ hb6).mono ?_); rintro e wt ⟨⟨vt, rfl, ot⟩, hbt⟩; (obtain ⟨At, ct, hvt, -, -, -, -⟩ := id ot.form); subst hvt; (have T7 := TT.keep hbt l6); obtain ⟨u0, u1, u2, h0, h1, h2⟩ := id T7)
      have T8 := T7.set2 (.slice At r.l.length ct)
      have o8 := own_st (o := 2) ot l6 (.slice At r.l.length ct)
      have hb8 := (bt hb6 hbt).setCell (p := ⟨w5.heap.size, 2, none⟩) (Nat.le_refl w5.heap.size) (.slice At r.l.length ct)
      have l8 := hbt.size
      clear u0 u1 u2 h0 h1 h2 t0 t1 t2 f0 f1 f2 T7 TT ot hbt HT
      generalize wt.setCell ⟨w5.heap.size, 2, none⟩ (.slice At r.l.length ct) = w8 at *
      obtain ⟨t0, t1, t2, -, -, -⟩ := id T8
      have hfar : ∀ q, u13.ownBlock = some q → w3.heap.size ≤ q := fun q hq => (World.ownsRow.lt hown.1 q hq).1
      have l9 := hb8.size
      go_wp2_with (first
        | (at_builtin; refine wpList_row _ rfl (.tmp 52) (.tmp 59) _ _ rfl w3.heap.size 8 80 28 (.agg #[.int .i64 0, .int .i64 0, .int .i64 0, .int .i64 0, .int .i64 0, .int .i64 0, .int .i64 0, .slice none 0 0]) Try.underlying37 rc_info rfl u13 qs.length (rvs qs) rfl ((hown.below hb8).below (bl w8 (.cells #[.int .i64 1, .int .i64 sq, .int .i64 ep, .int .i64 (k : Int), .int .i64 ((n : Int) + 1), .int .i64 r.z, .int .i64 r.wh, .slice At r.l.length ct] 28))).1 _ 1 _ rfl (src_rec (P := Try.prog) (heap_alloc_new w8 (.cells #[.int .i64 1, .int .i64 sq, .int .i64 ep, .int .i64 (k : Int), .int .i64 ((n : Int) + 1), .int .i64 r.z, .int .i64 r.wh, .slice At r.l.length ct] 28)) Try.underlying37 (by simp [Value.oneCell'])) (by rw [HLK.out]; unfold maxLen; omega) (by rw [HLK.out]; omega) (Nat.le_trans (Nat.le_trans lw l9) (bl w8 _).size) ?_; intro v9 w9 h9 hg9)
        | fail)
      have hgm : OwnR w9 w3.heap.size v9 (qs ++ [⟨1, sq, ep, k, (n : Int) + 1, ⟨r.z, r.wh, At, ct, r.l⟩⟩]) := ((hown.below hb8).below (bl w8 _)).more (r := ⟨1, sq, ep, k, (n : Int) + 1, ⟨r.z, r.wh, At, ct, r.l⟩⟩) hg9 ((o8.below (bl w8 _)).less (by omega)) h9
      have b9 := (kal hb8 (.cells #[.int .i64 1, .int .i64 sq, .int .i64 ep, .int .i64 (k : Int), .int .i64 ((n : Int) + 1), .int .i64 r.z, .int .i64 r.wh, .slice At r.l.length ct] 28)).mono lw
      go_roundw
      case rel => exact ⟨k + 1, qs ++ [⟨1, sq, ep, k, (n : Int) + 1, ⟨r.z, r.wh, At, ct, r.l⟩⟩], by omega, by go_num, by rw [rds_append]; exact HL.out, hgm, hbr.trans (b9.grown hg9 (Nat.le_trans (Nat.le_trans lw l9) (bl w8 _).size) hfar)⟩
      case measure => simp [RowKit.intOf]; omega
    · have j1 : ¬ (k : Int) < (n : Int) := by omega
      obtain rfl : k = n := by omega
      have hl : (ids g.rs).length = k := by rw [ids_length, HN.out]
      have HHX := Lib.hid (show rds qs ++ [⟨2, sq, ep, k, (k : Int) + 1, 0, 0, []⟩] = txnR sq ep (ids g.rs) by
        unfold txnR
        rw [hl, hqs]
        rfl)
      have HLI := Lib.hid hl
      have HLK := Lib.hid hlk
      have uk1 : IntKind.i64.wrap ((k : Int) + 1 - 1) = (k : Int) := by rw [show (k : Int) + 1 - 1 = k by omega]; exact IntWalk.i64_in _ (by omega)
      clear hqs hlk hl
      go_wp2_with (first
        | (at_builtin; refine wpList_row _ rfl (.tmp 62) (.tmp 69) _ _ rfl w3.heap.size 8 80 28 (.agg #[.int .i64 0, .int .i64 0, .int .i64 0, .int .i64 0, .int .i64 0, .int .i64 0, .int .i64 0, .slice none 0 0]) Try.underlying37 rc_info rfl u13 qs.length (rvs qs) rfl (hown.below (bl w5 (.cells #[.int .i64 2, .int .i64 sq, .int .i64 ep, .int .i64 (k : Int), .int .i64 ((k : Int) + 1), .int .i64 0, .int .i64 0, .slice none 0 0] 28))).1 _ 1 _ rfl (src_rec (P := Try.prog) (heap_alloc_new w5 (.cells #[.int .i64 2, .int .i64 sq, .int .i64 ep, .int .i64 (k : Int), .int .i64 ((k : Int) + 1), .int .i64 0, .int .i64 0, .slice none 0 0] 28)) Try.underlying37 (by simp [Value.oneCell'])) (by rw [HLK.out]; unfold maxLen; omega) (by rw [HLK.out]; omega) (Nat.le_trans lw (bl w5 _).size) ?_; intro v9 w9 h9 hg9)
        | fail)
      go_ret2
      have hgm : OwnR w9 w3.heap.size v9 (qs ++ [⟨2, sq, ep, k, (k : Int) + 1, ⟨0, 0, none, 0, []⟩⟩]) := (hown.below (bl w5 _)).more (r := ⟨2, sq, ep, k, (k : Int) + 1, ⟨0, 0, none, 0, []⟩⟩) hg9 (own_nil _ _ _) h9
      have hfar : ∀ q, u13.ownBlock = some q → w3.heap.size ≤ q := fun q hq => (World.ownsRow.lt hown.1 q hq).1
      obtain ⟨A9, c9, hv9, hr9⟩ := ownR_in hgm
      rw [List.length_append, HLK.out] at hv9
      subst hv9
      refine ⟨⟨A9, c9, _, by rw [HLI.out]; rfl, by rw [rds_append]; exact HHX.out, hr9⟩, ?_⟩
      exact (bt hw B3).trans ((hbr.trans ((ka (Below.refl _ _) lw _).grown hg9 (Nat.le_trans lw (bl w5 _).size) hfar)).mono (bt hw B3).size)
set_option maxRecDepth 100000 in
set_option maxHeartbeats 8000000 in
theorem txn_no_c (v : Int) (z d s l a : Int) (sq ep : Int) (g : IV) (n : Nat) (w : World) (hv : TxWhy z d s l a sq ep (ids g.rs) v) (hg : g.In w w.heap.size) (hn : g.rs.length = n) (hn1 : n ≤ 1048576) (hs9 : ∀ x ∈ ids g.rs, x.2.2.length ≤ 1048576) :
    Calls Try.prog 13 #[.agg #[.int .i64 z, .int .i64 d, .int .i64 s, .int .i64 l, .int .i64 a], .int .i64 sq, .int .i64 ep, .slice g.A n g.c] w fun e w' => tbl.NonE v e ∧ Below w.heap.size w w' := by
  by_cases ho : Ok z d s l a
  case neg =>
    have hv1 : v = 1 := by
      rcases hv with ⟨-, h⟩ | ⟨-, -, h⟩ | ⟨h, -⟩
      · exact h
      · exact h
      · exact absurd h ho
    subst hv1
    have GG := g5_new w z d s l a
    have hw := bl w (.cells #[.int .i64 z, .int .i64 d, .int .i64 s, .int .i64 l, .int .i64 a] 23)
    have HG := Lib.hid fun W => gmt.check_no z d s l a W ho
    clear hv ho hs9 hg hn
    go_enter Try.func13, Try.ntmps13
    go_upto_region 1 with fail
    generalize w.alloc (.cells #[.int .i64 z, .int .i64 d, .int .i64 s, .int .i64 l, .int .i64 a] 23) = w0 at *
    obtain ⟨g0, g1, g2, g3, g4⟩ := id GG
    go_wp2_with (go_at_call 34; (with_reducible refine (HG.out _).mono ?_); rintro e w2 ⟨rfl, hb2⟩)
    go_ret2
    exact ⟨⟨none, 0, rfl⟩, bt hw hb2⟩
  have hs : ∀ x ∈ g.rs, x.l.length ≤ 1048576 := fun x hx => hs9 x.d (List.mem_map_of_mem hx)
  obtain ⟨b1, hb1⟩ := bool_is (NumOk sq)
  obtain ⟨b2, hb2⟩ := bool_is (NumOk ep)
  obtain ⟨b3, hb3⟩ := bool_is (ImsOk z d (ids g.rs))
  obtain ⟨b4, hb4⟩ := bool_is (2 ≤ (n : Int) + 1 ∧ (n : Int) + 1 ≤ 30)
  have GG := g5_new w z d s l a
  have hw := bl w (.cells #[.int .i64 z, .int .i64 d, .int .i64 s, .int .i64 l, .int .i64 a] 23)
  have lw0 : w.heap.size < (w.alloc (.cells #[.int .i64 z, .int .i64 d, .int .i64 s, .int .i64 l, .int .i64 a] 23)).heap.size := by simp
  have HG := Lib.hid fun W => gmt.check_ok z d s l a W ho
  have H1 := Lib.hid fun W => num_c b1 sq W hb1
  have H2 := Lib.hid fun W => num_c b2 ep W hb2
  have H3 := Lib.hid fun W => from_c b4 ((n : Int) + 1) 2 30 W hb4
  have HC := Lib.hid (show ∀ W, Below (w.alloc (.cells #[.int .i64 z, .int .i64 d, .int .i64 s, .int .i64 l, .int .i64 a] 23)).heap.size (w.alloc (.cells #[.int .i64 z, .int .i64 d, .int .i64 s, .int .i64 l, .int .i64 a] 23)) W → Calls Try.prog 39 #[.slice g.A n g.c, .func (.func 36) #[] #[.pointer (some ⟨w.heap.size, 0, none⟩)]] W fun e w' => e = .returned (.bool !b3) ∧ Below W.heap.size W w' from fun W hW => haswrong_c b3 w.heap.size z d s l a g n W ho (GG.keep hW lw0) (Nat.lt_of_lt_of_le lw0 hW.size) (hg.next (hw.trans (hW.mono hw.size))) hn hn1 hs hb3)
  have HV := Lib.hid (show ((b1 && (b2 && b3)) = false ∧ v = 1) ∨ ((b1 && (b2 && b3)) = true ∧ b4 = false ∧ v = 2) by
    have hq : (b1 && (b2 && b3)) = true ↔ NumOk sq ∧ NumOk ep ∧ ImsOk z d (ids g.rs) := by rw [Bool.and_eq_true, Bool.and_eq_true, hb1, hb2, hb3]
    rcases hv with ⟨h, -⟩ | ⟨-, h, h2⟩ | ⟨-, h, h3, h2⟩
    · exact absurd ho h
    · exact .inl ⟨bool_no hq h, h2⟩
    · refine .inr ⟨hq.2 h, bool_no hb4 fun h5 => h3 ?_, h2⟩
      rw [ids_length, hn]
      omega)
  have un1 : IntKind.i64.wrap ((n : Int) + 1) = (n : Int) + 1 := IntWalk.i64_in _ (by omega)
  clear hg hn hs hs9 hv hb1 hb2 hb3 hb4 ho
  go_enter Try.func13, Try.ntmps13
  go_upto_region 1 with fail
  generalize w.alloc (.cells #[.int .i64 z, .int .i64 d, .int .i64 s, .int .i64 l, .int .i64 a] 23) = w0 at *
  obtain ⟨g0, g1, g2, g3, g4⟩ := id GG
  go_upto_region 4 with (go_at_call 34; (with_reducible refine (HG.out _).mono ?_); rintro e w2 ⟨rfl, hb2⟩)
  have B2 := hb2
  cases b1
  · have hv1 : v = 1 := (HV.out.resolve_right fun h => absurd h.1 Bool.false_ne_true).2
    subst hv1
    go_wp2_with (first
    | (go_at_call 38; (with_reducible refine (H1.out _).mono ?_); rintro e w8 ⟨rfl, rfl⟩)
    | (go_at_call 38; (with_reducible refine (H2.out _).mono ?_); rintro e w8 ⟨rfl, rfl⟩)
    | (go_at_call 39; (with_reducible refine (HC.out _ B2).mono ?_); rintro e w3 ⟨rfl, hb3⟩)
    | (go_at_call 40; (with_reducible refine (H3.out _).mono ?_); rintro e w8 ⟨rfl, rfl⟩))
    go_ret2
    exact ⟨⟨none, 0, rfl⟩, bt hw B2⟩
  cases b2
  · have hv1 : v = 1 := (HV.out.resolve_right fun h => absurd h.1 Bool.false_ne_true).2
    subst hv1
    go_wp2_with (first
    | (go_at_call 38; (with_reducible refine (H1.out _).mono ?_); rintro e w8 ⟨rfl, rfl⟩)
    | (go_at_call 38; (with_reducible refine (H2.out _).mono ?_); rintro e w8 ⟨rfl, rfl⟩)
    | (go_at_call 39; (with_reducible refine (HC.out _ B2).mono ?_); rintro e w3 ⟨rfl, hb3⟩)
    | (go_at_call 40; (with_reducible refine (H3.out _).mono ?_); rintro e w8 ⟨rfl, rfl⟩))
    go_ret2
    exact ⟨⟨none, 0, rfl⟩, bt hw B2⟩
  cases b3
  · have hv1 : v = 1 := (HV.out.resolve_right fun h => absurd h.1 Bool.false_ne_true).2
    subst hv1
    go_wp2_with (first
    | (go_at_call 38; (with_reducible refine (H1.out _).mono ?_); rintro e w8 ⟨rfl, rfl⟩)
    | (go_at_call 38; (with_reducible refine (H2.out _).mono ?_); rintro e w8 ⟨rfl, rfl⟩)
    | (go_at_call 39; (with_reducible refine (HC.out _ B2).mono ?_); rintro e w3 ⟨rfl, hb3⟩)
    | (go_at_call 40; (with_reducible refine (H3.out _).mono ?_); rintro e w8 ⟨rfl, rfl⟩))
    go_ret2
    exact ⟨⟨none, 0, rfl⟩, bt hw (bt B2 hb3)⟩
  have hv2 := (HV.out.resolve_left fun h => absurd h.1.symm Bool.false_ne_true).2
  obtain ⟨rfl, rfl⟩ := hv2
  go_wp2_with (first
    | (go_at_call 38; (with_reducible refine (H1.out _).mono ?_); rintro e w8 ⟨rfl, rfl⟩)
    | (go_at_call 38; (with_reducible refine (H2.out _).mono ?_); rintro e w8 ⟨rfl, rfl⟩)
    | (go_at_call 39; (with_reducible refine (HC.out _ B2).mono ?_); rintro e w3 ⟨rfl, hb3⟩)
    | (go_at_call 40; (with_reducible refine (H3.out _).mono ?_); rintro e w8 ⟨rfl, rfl⟩))
  go_ret2
  exact ⟨⟨none, 0, rfl⟩, bt hw (bt B2 hb3)⟩
end Go.Proofs.Ytplhdnhigboeaaa.lrc
