/-
  casematekeep.TwinImages: a row of images of one's own. Conditions: fewer than 2^20 images and bytes.
  Records of one's own; the document's own records of a transaction (Records). Conditions: each theorem's own.
-/
import Derived.Test.YtbfdpibjicjagaaGreatDoorGRc
import Derived.Test.YtbfdpibjicjagaaGreatDoorGImg
import Derived.Test.YtbfdpibjicjagaaGreatDoorAnF
import Derived.Test.YtbfdpibjicjagaaGreatDoorTail
set_option maxHeartbeats 8000000
set_option maxRecDepth 100000
namespace Go.Proofs.YtbfdpibjicjagaaGreatDoor.lrc
open Go.RowKit Go.Lib
open Go.Proofs.YtbfdpibjicjagaaGreatDoor.gmt (Ok)
open Go.Proofs.YtbfdpibjicjagaaGreatDoor.anc (bl kal kst ks bm ka)
open Go.Proofs.YtbfdpibjicjagaaGreatDoor.tbl (C1 c1_new G5 g5_new)
open Go.Proofs.YtbfdpibjicjagaaGreatDoor.img
open Go.Proofs.YtbfdpibjicjagaaGreatDoor.anc (row_apart row_form row_below step_row wpList_row)
end Go.Proofs.YtbfdpibjicjagaaGreatDoor.lrc
namespace Go.Proofs.YtbfdpibjicjagaaGreatDoor.lrc
open Go.RowKit Go.Lib
open Go.Proofs.YtbfdpibjicjagaaGreatDoor.gmt (Ok)
open Go.Proofs.YtbfdpibjicjagaaGreatDoor.anc (bl kal kst ks bm ka)
open Go.Proofs.YtbfdpibjicjagaaGreatDoor.tbl (C1 c1_new G5 g5_new)
open Go.Proofs.YtbfdpibjicjagaaGreatDoor.img
open Go.Proofs.YtbfdpibjicjagaaGreatDoor.anc (row_apart row_form row_below step_row wpList_row)
def OwnR (w : World) (base : Nat) (v : Value) (rs : List RcR) : Prop :=
 w.ownsRow base 83 8 v rs.length (rvs rs) ∧ ∀ r ∈ rs, Own w base 5 (.slice r.i.A r.i.l.length r.i.c) r.i.l
theorem u8_rec : 5 ≠ 83 := by decide
theorem rc_info : (Tryz.prog.info? 83).map (fun i => (i.zero, i.size, i.bytes)) = some (some (.agg #[.int .i64 0, .int .i64 0, .int .i64 0, .int .i64 0, .int .i64 0, .int .i64 0, .int .i64 0, .slice none 0 0]), 8, 80) := by kernel_rfl
theorem src_rec {P : Program} {w : World} {g : Nat} {t tx e' : TypeId} {a0 a1 a2 a3 a4 a5 a6 a7 : Value} (hg : w.heap[g]? = some (.cells #[a0, a1, a2, a3, a4, a5, a6, a7] t)) (hk : P.underlying tx = some (.slice e')) (h1 : ∀ u ∈ [a0, a1, a2, a3, a4, a5, a6, a7], u.oneCell' = true) : Src P 8 tx (.slice (some ⟨g, 0, none⟩) 1 1) 1 [a0, a1, a2, a3, a4, a5, a6, a7] w := by
 refine Src.ofSlice w hk ⟨g, 0, none⟩ 1 1 [a0, a1, a2, a3, a4, a5, a6, a7] rfl (fun j u hu => ?_) h1
 rw [Addr.add_lit, cell_of_row w g (0 + j) _ t _ hg, Nat.zero_add, ← Array.getElem?_toList]
 exact hu
section
variable {w w' : World} {base : Nat} {v v' : Value} {rs : List RcR}
theorem ownR_nil (w : World) (base : Nat) : OwnR w base (.slice none 0 0) [] := ⟨World.ownsRow_nil w base _ 8, fun r hr => by cases hr⟩
theorem OwnR.below (h : OwnR w base v rs) (hb : Below w.heap.size w w') : OwnR w' base v rs := ⟨row_below h.1 hb, fun r hr => (h.2 r hr).below hb⟩
theorem OwnR.more {r : RcR} (h : OwnR w base v rs) (hg : w.grownBy w' v.ownBlock) (hp : Own w base 5 (.slice r.i.A r.i.l.length r.i.c) r.i.l) (h' : w'.ownsRow base 83 8 v' (rs.length + 1) (rvs rs ++ r.vs)) : OwnR w' base v' (rs ++ [r]) := by
 have hk : ∀ {q : RcR}, Own w base 5 (.slice q.i.A q.i.l.length q.i.c) q.i.l → Own w' base 5 (.slice q.i.A q.i.l.length q.i.c) q.i.l := fun hq => hq.kept hg (row_apart hq h.1 u8_rec)
 refine ⟨?_, fun x hx => ?_⟩
 ·rw [List.length_append, rvs_append, show rvs [r] = r.vs by simp [rvs]]
  exact h'
 ·rcases List.mem_append.1 hx with k | k
  ·exact hk (h.2 x k)
  ·obtain rfl : x = r := List.mem_singleton.1 k
   exact hk hp
theorem ownR_in (h : OwnR w base v rs) : ∃ (A : Option Addr) (c : Nat), v = .slice A rs.length c ∧ RV.In w w.heap.size ⟨A, c, rs⟩ := by
 obtain ⟨A, c, hv, h1, h2, hs⟩ := row_form h.1
 exact ⟨A, c, hv, hs, fun r hr => img.own_bin (h.2 r hr), h1, h2⟩
end
def recF (sq ep : Int) (n : Nat) (ds : List (Int × Int × List UInt8)) (k : Nat) : List Rcd := (List.range k).map (imgR sq ep n ds)
theorem recF_length (sq ep : Int) (n : Nat) (ds : List (Int × Int × List UInt8)) (k : Nat) : (recF sq ep n ds k).length = k := by simp [recF]
theorem recF_next {sq ep : Int} {n k : Nat} {ds : List (Int × Int × List UInt8)} {r : ImR} (h : ds[k]? = some r.d) : recF sq ep n ds (k + 1) = recF sq ep n ds k ++ [⟨1, sq, ep, k, (n : Int) + 1, r.z, r.wh, r.l⟩] := by
 unfold recF
 rw [List.range_succ, List.map_append, List.map_singleton]
 congr 1
 unfold imgR
 rw [h]
 rfl
theorem rrecords_c (sq ep : Int) (g : IV) (n : Nat) (w : World) (hg : g.In w w.heap.size) (hn : g.rs.length = n) (hn1 : n ≤ 1048576) (hs : ∀ x ∈ g.rs, x.l.length ≤ 1048576) :
  Calls Tryz.prog 42 #[.int .i64 sq, .int .i64 ep, .slice g.A n g.c] w fun e w' => (∃ (v : Value) (rs : List RcR), e = .returned v ∧ rds rs = txnR sq ep (ids g.rs) ∧ OwnR w' w.heap.size v rs) ∧ Below w.heap.size w w' := by
 have HG := Lib.hid hg
 have HN := Lib.hid hn
 have HS := Lib.hid hs
 clear hg hn hs
 have un1 : IntKind.i64.wrap ((n : Int) + 1) = (n : Int) + 1 := IntWalk.i64_in _ (by omega)
 go_enter Tryz.func42, Tryz.ntmps42
 go_upto_region 3 with fail
 go_loopw [7, 8] (fun v i w' => ∃ (k : Nat) (qs : List RcR), k ≤ n ∧ i = .int .i64 k ∧ rds qs = recF sq ep n (ids g.rs) k ∧ OwnR w' w.heap.size v qs ∧ Below w.heap.size w w') (fun _ i _ => n - (RowKit.intOf i).toNat)
 case atStart => exact ⟨0, [], by omega, rfl, rfl, ownR_nil _ _, Below.refl _ _⟩
 case round =>
  obtain ⟨w5, rfl⟩ : ∃ x, x = wr := ⟨wr, rfl⟩
  obtain ⟨k, qs, hk, rfl, hqs, hown, hbr⟩ := hrel
  have lw := hbr.size
  have hlk : qs.length = k := by
   have := congrArg List.length hqs
   rw [rds_length, recF_length] at this
   exact this
  by_cases hlt : k < n
  ·have j1 : (k : Int) < (n : Int) := by omega
   obtain ⟨b1, off, r, hbA, hb1, c0, c1, c2, m1, hr, -, e1⟩ := img_at (HG.out.h.below hbr) (HG.out.i.below hbr) (show k < g.rs.length by rw [HN.out]; exact hlt)
   have h8 := HS.out r hr
   have HL := Lib.hid (show rds qs ++ [⟨1, sq, ep, k, (n : Int) + 1, r.z, r.wh, r.l⟩] = recF sq ep n (ids g.rs) (k + 1) by rw [recF_next e1, hqs])
   have HT := Lib.hid (show ∀ W, Below w5.heap.size w5 W → Calls Tryz.prog 23 #[.slice r.A r.l.length r.c] W fun e w' => One W.heap.size r.l e w' ∧ Below W.heap.size W w' from fun W hW => twin_any r.A r.c _ r.l W ((m1.more lw).next hW).1 (by omega))
   have HLK := Lib.hid hlk
   clear e1 hr hqs hlk h8 m1
   rw [hbA]
   clear hbA
   go_upto_region 5 with fail
   have hfar : ∀ q, u7.ownBlock = some q → w.heap.size ≤ q := fun q hq => (World.ownsRow.lt hown.1 q hq).1
   have HF := Lib.hid (show ∀ W, Below w.heap.size w5 W → W.cell? ⟨b1, off + k * 3, none⟩ = some (.int .i64 r.z) ∧ W.cell? ⟨b1, off + k * 3 + 1, none⟩ = some (.int .i64 r.wh) ∧ W.cell? ⟨b1, off + k * 3 + 2, none⟩ = some (.slice r.A r.l.length r.c) ∧ Below w.heap.size w5 W from fun W h => ⟨ks h hb1 c0, ks h hb1 c1, ks h hb1 c2, h⟩)
   clear c0 c1 c2
   go_region_held3 (fun W => W.cell? ⟨b1, off + k * 3, none⟩ = some (.int .i64 r.z) ∧ W.cell? ⟨b1, off + k * 3 + 1, none⟩ = some (.int .i64 r.wh) ∧ W.cell? ⟨b1, off + k * 3 + 2, none⟩ = some (.slice r.A r.l.length r.c) ∧ Below w.heap.size w5 W)
    ((refine HF.out _ ?_; first
     | with_reducible exact b3
     | with_reducible exact ka tb lw _
     | with_reducible exact tb
     | with_reducible exact below_dr (Below.refl _ _)
     | fail))
    (first
     | (go_at_call 23; (with_reducible refine (HT.out _ (below_dr (Below.refl _ _))).mono ?_); rintro e wt ⟨⟨vt, rfl, ot⟩, hbt⟩; obtain ⟨At, ct, hvt, -, -, -, -⟩ := id ot.form; subst hvt; have tt : Below w5.heap.size w5 wt := bt (below_dr (Below.refl w5.heap.size w5)) hbt; have tb : Below w.heap.size w5 wt := tt.mono lw)
     | (refine step_row _ (by rfl) _ _ _ _ (by rfl) w.heap.size 8 80 83 (.agg #[.int .i64 0, .int .i64 0, .int .i64 0, .int .i64 0, .int .i64 0, .int .i64 0, .int .i64 0, .slice none 0 0]) Tryz.underlying93 rc_info (by rfl) u7 qs.length (rvs qs) (by rfl) ((hown.below tt).below (bl wt (.cells #[.int .i64 1, .int .i64 sq, .int .i64 ep, .int .i64 (k : Int), .int .i64 ((n : Int) + 1), .int .i64 r.z, .int .i64 r.wh, .slice At r.l.length ct] 83))).1 _ 1 _ (by rfl) (src_rec (P := Tryz.prog) (heap_alloc_new wt (.cells #[.int .i64 1, .int .i64 sq, .int .i64 ep, .int .i64 (k : Int), .int .i64 ((n : Int) + 1), .int .i64 r.z, .int .i64 r.wh, .slice At r.l.length ct] 83)) Tryz.underlying93 (by simp [Value.oneCell'])) (by rw [HLK.out]; unfold maxLen; omega) (by rw [HLK.out]; omega) (Nat.le_trans lw (kal tt _).size) ?_; intro v3 w3 h3 hg3; have b3 : Below w.heap.size w5 w3 := (ka tb lw _).grown hg3 (Nat.le_trans lw (kal tt _).size) hfar)
     | fail)
   go_wp2_with fail
   have hgm : OwnR w3 w.heap.size v3 (qs ++ [⟨1, sq, ep, k, (n : Int) + 1, ⟨r.z, r.wh, At, ct, r.l⟩⟩]) := ((hown.below tt).below (bl wt _)).more (r := ⟨1, sq, ep, k, (n : Int) + 1, ⟨r.z, r.wh, At, ct, r.l⟩⟩) hg3 ((ot.below (bl wt _)).less lw) h3
   go_roundw
   case rel => exact ⟨k + 1, qs ++ [⟨1, sq, ep, k, (n : Int) + 1, ⟨r.z, r.wh, At, ct, r.l⟩⟩], by omega, by go_num, by rw [rds_append]; exact HL.out, hgm, hbr.trans b3⟩
   case measure => simp [RowKit.intOf]; omega
  ·have j1 : ¬ (k : Int) < (n : Int) := by omega
   obtain rfl : k = n := by omega
   have HHX := Lib.hid (show rds qs ++ [⟨2, sq, ep, k, (k : Int) + 1, 0, 0, []⟩] = txnR sq ep (ids g.rs) by
    have hl : (ids g.rs).length = k := by rw [ids_length, HN.out]
    unfold txnR
    rw [hl, hqs]
    rfl)
   have HLK := Lib.hid hlk
   clear hqs hlk
   go_wp2_with (first
    | (at_builtin; refine wpList_row _ rfl (.tmp 42) (.tmp 51) _ _ rfl w.heap.size 8 80 83 (.agg #[.int .i64 0, .int .i64 0, .int .i64 0, .int .i64 0, .int .i64 0, .int .i64 0, .int .i64 0, .slice none 0 0]) Tryz.underlying93 rc_info rfl u7 qs.length (rvs qs) rfl (hown.below (bl w5 (.cells #[.int .i64 2, .int .i64 sq, .int .i64 ep, .int .i64 (k : Int), .int .i64 ((k : Int) + 1), .int .i64 0, .int .i64 0, .slice none 0 0] 83))).1 _ 1 _ rfl (src_rec (P := Tryz.prog) (heap_alloc_new w5 (.cells #[.int .i64 2, .int .i64 sq, .int .i64 ep, .int .i64 (k : Int), .int .i64 ((k : Int) + 1), .int .i64 0, .int .i64 0, .slice none 0 0] 83)) Tryz.underlying93 (by simp [Value.oneCell'])) (by rw [HLK.out]; unfold maxLen; omega) (by rw [HLK.out]; omega) (Nat.le_trans lw (bl w5 _).size) ?_; intro v3 w3 h3 hg3)
    | fail)
   go_ret
   have hgm : OwnR w3 w.heap.size v3 (qs ++ [⟨2, sq, ep, k, (k : Int) + 1, ⟨0, 0, none, 0, []⟩⟩]) := (hown.below (bl w5 _)).more (r := ⟨2, sq, ep, k, (k : Int) + 1, ⟨0, 0, none, 0, []⟩⟩) hg3 (own_nil _ _ _) h3
   have hfar : ∀ q, u7.ownBlock = some q → w.heap.size ≤ q := fun q hq => (World.ownsRow.lt hown.1 q hq).1
   exact ⟨⟨v3, rfl, _, by rw [rds_append]; exact HHX.out, hgm⟩, hbr.trans ((ka (Below.refl _ _) lw _).grown hg3 (Nat.le_trans lw (bl w5 _).size) hfar)⟩
end Go.Proofs.YtbfdpibjicjagaaGreatDoor.lrc
