/-
  place.Move: a block moved to the next spare. Conditions: as AnU's; 'CloneOk'.
-/
import Derived.Test.YthbjfpgcinmjiaaDoorPlE
namespace Go.Proofs.YthbjfpgcinmjiaaDoor.plc
open Go.RowKit Go.Lib
open Go.Proofs.YthbjfpgcinmjiaaDoor.gmt (Ok five_new slot_at rslot_at w6)
open Go.Proofs.YthbjfpgcinmjiaaDoor.anc
open Go.Proofs.YthbjfpgcinmjiaaDoor.lbl (ValidOk CloneOk Tabs)

/-- An anchor of one's own, whose homes lie apart, an address, and an error. -/
def AnsM (base : Nat) (X : Anc) (addr n : Int) (e : Ending) (w' : World) : Prop := ∃ y : AV, e = .returned (.tuple #[y.v, .int .i64 addr, .int .i64 n]) ∧ y.d = X ∧ y.Own w' base ∧ Parted y.hs
theorem move_d {x y : AV} {J i : Nat} {r r' : HomR} (hd : y.d = skipA x.d J r.d) (hps : r'.ps = r.ps) (hnx : r'.nx = r.nx + 1) (hrt : r'.rt = r.rt) : AV.d { y with hs := y.hs.set J { r' with ps := r'.ps.set i r.nx } } = moveA x.d J i r.d := by
  have h1 : hds y.hs = (hds x.hs).set J { r.d with nx := r.nx + 1 } := congrArg Anc.hs hd
  show (⟨y.d.gen, y.d.ep, y.d.pos, y.d.seq, y.d.last, y.d.lab, hds (y.hs.set J _)⟩ : Anc) = _
  rw [hds_set, h1, List.set_set, hd]
  show (⟨x.gen, x.ep, x.pos, x.seq, x.last, x.lab, (hds x.hs).set J ⟨r'.ps.set i r.nx, r'.nx, r'.rt⟩⟩ : Anc) = ⟨x.gen, x.ep, x.pos, x.seq, x.last, x.lab, (hds x.hs).set J ⟨r.ps.set i r.nx, r.nx + 1, r.rt⟩⟩
  rw [hps, hnx, hrt]

set_option maxRecDepth 100000 in
set_option maxHeartbeats 8000000 in
theorem move_no (hV : ValidOk) (z d s l a : Int) (x : AV) (j v : Int) (w : World) (hT : Tabs w) (hx : x.In w w.heap.size) (hlab : x.lab.size ≤ 4294967296) (hno : ¬ ((Ok z d s l a ∧ anc.Good z d s l x.d ∧ 0 ≤ j ∧ j < z) ∧ IsWhat d v)) :
    Calls Tryd.prog 10 #[.agg #[.int .i64 z, .int .i64 d, .int .i64 s, .int .i64 l, .int .i64 a], x.v, .int .i64 j, .int .i64 v] w fun e w' => AnsM w.heap.size noAnc 0 1 e w' ∧ Below w.heap.size w w' := by
  have HK := Lib.hid (show ∀ W, Below w.heap.size w W → Calls Tryd.prog 24 #[.agg #[.int .i64 z, .int .i64 d, .int .i64 s, .int .i64 l, .int .i64 a], x.v, .int .i64 j, .int .i64 v] W fun e w' => e = .returned (.int .i64 1) ∧ Below W.heap.size W w' from fun W hW => block_any hV false z d s l a x j v W (tn hT hW) (hx.next hW) hlab (iff_of_false Bool.false_ne_true hno))
  unfold AV.v
  have GG := ((g5_new w z d s l a).keep (bl (w.alloc (.cells #[.int .i64 z, .int .i64 d, .int .i64 s, .int .i64 l, .int .i64 a] 23)) (.cells #[.int .i64 x.gen, .int .i64 x.ep, .int .i64 x.pos, .int .i64 x.seq, .int .i64 x.last, .string x.lab, .slice x.HA x.hs.length x.hc] 26)) (by simp)).keep (bl ((w.alloc (.cells #[.int .i64 z, .int .i64 d, .int .i64 s, .int .i64 l, .int .i64 a] 23)).alloc (.cells #[.int .i64 x.gen, .int .i64 x.ep, .int .i64 x.pos, .int .i64 x.seq, .int .i64 x.last, .string x.lab, .slice x.HA x.hs.length x.hc] 26)) (.cells #[.int .i64 0, .int .i64 0, .int .i64 0, .int .i64 0, .int .i64 0, .string ⟨#[]⟩, .slice none 0 0] 26)) (by simp; omega)
  have FF := ac_new (w.alloc (.cells #[.int .i64 z, .int .i64 d, .int .i64 s, .int .i64 l, .int .i64 a] 23)) x
  rw [show (w.alloc (.cells #[.int .i64 z, .int .i64 d, .int .i64 s, .int .i64 l, .int .i64 a] 23)).heap.size = w.heap.size + 1 by simp] at FF
  replace FF := FF.keep (bl ((w.alloc (.cells #[.int .i64 z, .int .i64 d, .int .i64 s, .int .i64 l, .int .i64 a] 23)).alloc (.cells #[.int .i64 x.gen, .int .i64 x.ep, .int .i64 x.pos, .int .i64 x.seq, .int .i64 x.last, .string x.lab, .slice x.HA x.hs.length x.hc] 26)) (.cells #[.int .i64 0, .int .i64 0, .int .i64 0, .int .i64 0, .int .i64 0, .string ⟨#[]⟩, .slice none 0 0] 26)) (by simp)
  have hb0 := kal (kal (bl w (.cells #[.int .i64 z, .int .i64 d, .int .i64 s, .int .i64 l, .int .i64 a] 23)) (.cells #[.int .i64 x.gen, .int .i64 x.ep, .int .i64 x.pos, .int .i64 x.seq, .int .i64 x.last, .string x.lab, .slice x.HA x.hs.length x.hc] 26)) (.cells #[.int .i64 0, .int .i64 0, .int .i64 0, .int .i64 0, .int .i64 0, .string ⟨#[]⟩, .slice none 0 0] 26)
  have P := sev_new ((w.alloc (.cells #[.int .i64 z, .int .i64 d, .int .i64 s, .int .i64 l, .int .i64 a] 23)).alloc (.cells #[.int .i64 x.gen, .int .i64 x.ep, .int .i64 x.pos, .int .i64 x.seq, .int .i64 x.last, .string x.lab, .slice x.HA x.hs.length x.hc] 26)) (.int .i64 0) (.int .i64 0) (.int .i64 0) (.int .i64 0) (.int .i64 0) (.string ⟨#[]⟩) (.slice none 0 0) 26
  rw [show ((w.alloc (.cells #[.int .i64 z, .int .i64 d, .int .i64 s, .int .i64 l, .int .i64 a] 23)).alloc (.cells #[.int .i64 x.gen, .int .i64 x.ep, .int .i64 x.pos, .int .i64 x.seq, .int .i64 x.last, .string x.lab, .slice x.HA x.hs.length x.hc] 26)).heap.size = w.heap.size + 2 by simp] at P
  have l1 : w.heap.size + 2 < (((w.alloc (.cells #[.int .i64 z, .int .i64 d, .int .i64 s, .int .i64 l, .int .i64 a] 23)).alloc (.cells #[.int .i64 x.gen, .int .i64 x.ep, .int .i64 x.pos, .int .i64 x.seq, .int .i64 x.last, .string x.lab, .slice x.HA x.hs.length x.hc] 26)).alloc (.cells #[.int .i64 0, .int .i64 0, .int .i64 0, .int .i64 0, .int .i64 0, .string ⟨#[]⟩, .slice none 0 0] 26)).heap.size := by simp
  clear hno hx hT
  unfold AV.v at HK
  go_enter Tryd.func10, Tryd.ntmps10
  go_upto_region 1 with fail
  generalize ((w.alloc (.cells #[.int .i64 z, .int .i64 d, .int .i64 s, .int .i64 l, .int .i64 a] 23)).alloc (.cells #[.int .i64 x.gen, .int .i64 x.ep, .int .i64 x.pos, .int .i64 x.seq, .int .i64 x.last, .string x.lab, .slice x.HA x.hs.length x.hc] 26)).alloc (.cells #[.int .i64 0, .int .i64 0, .int .i64 0, .int .i64 0, .int .i64 0, .string ⟨#[]⟩, .slice none 0 0] 26) = w0 at *
  obtain ⟨c0, c1, c2, c3, c4, c5, c6⟩ := id FF
  obtain ⟨g0, g1, g2, g3, g4⟩ := id GG
  go_upto_region 2 with (go_at_call 24; (with_reducible refine (HK.out _ hb0).mono ?_); rintro e wq ⟨rfl, hbq⟩; replace FF := FF.keep hbq (by omega); replace GG := GG.keep hbq (by omega); replace P := P.keep hbq (by omega); replace l1 := Nat.lt_of_lt_of_le l1 hbq.size; clear c0 c1 c2 c3 c4 c5 c6 g0 g1 g2 g3 g4; obtain ⟨c0, c1, c2, c3, c4, c5, c6⟩ := id FF; obtain ⟨g0, g1, g2, g3, g4⟩ := id GG; replace hb0 := bt hb0 hbq; clear hbq)
  obtain ⟨z0, z1, z2, z3, z4, z5, z6, f0, f1, f2, f3, f4, f5, f6⟩ := id P
  clear HK GG FF c0 c1 c2 c3 c4 c5 c6 g0 g1 g2 g3 g4
  go_wp2_with fail
  have k7 := (((((((P.set0 (.int .i64 0)).set1 (.int .i64 0)).set2 (.int .i64 0)).set3 (.int .i64 0)).set4 (.int .i64 0)).set5 (.string ⟨#[]⟩)).set6 (.slice none 0 0))
  exact bodyPost_ret (v := .tuple #[.agg #[.int .i64 0, .int .i64 0, .int .i64 0, .int .i64 0, .int .i64 0, .string ⟨#[]⟩, .slice none 0 0], .int .i64 0, .int .i64 1]) (by simp [results, Tryd.results10, go_sem, k7.c0, k7.c1, k7.c2, k7.c3, k7.c4, k7.c5, k7.c6]) rfl ⟨⟨noAV, rfl, rfl, noAV_own _ _, parted_nil⟩, below_7 hb0 (by omega)⟩
set_option maxRecDepth 100000 in
set_option maxHeartbeats 8000000 in
theorem move_none (hV : ValidOk) (hC : CloneOk) (z d s l a : Int) (x : AV) (J : Nat) (v : Int) (r : HomR) (w : World) (hT : Tabs w) (hlab : x.lab.size ≤ 4294967296) (hn : x.hs.length ≤ 1048576) (ht : HShort 1048576 x.hs) (ho : Ok z d s l a) (hx : x.In w w.heap.size) (hg : anc.Good z d s l x.d) (hr : x.hs[J]? = some r) (hw : IsWhat d v) (hnx : r.nx = d + 1 + s) :
    Calls Tryd.prog 10 #[.agg #[.int .i64 z, .int .i64 d, .int .i64 s, .int .i64 l, .int .i64 a], x.v, .int .i64 J, .int .i64 v] w fun e w' => AnsM w.heap.size noAnc 0 10 e w' ∧ Below w.heap.size w w' := by
  obtain ⟨⟨q1, q2⟩, q30⟩ := home_in hg (hds_get hr)
  have q3 : d + 1 ≤ r.nx ∧ r.nx ≤ d + 1 + s := q30
  clear q30
  have HK := Lib.hid (show ∀ W, Below w.heap.size w W → Calls Tryd.prog 24 #[.agg #[.int .i64 z, .int .i64 d, .int .i64 s, .int .i64 l, .int .i64 a], x.v, .int .i64 J, .int .i64 v] W fun e w' => e = .returned (.int .i64 0) ∧ Below W.heap.size W w' from fun W hW => block_any hV true z d s l a x J v W (tn hT hW) (hx.next hW) hlab (iff_of_true rfl ⟨⟨ho, hg, q1, q2⟩, hw⟩))
  have HS := Lib.hid (show ∀ W, Below w.heap.size w W → Calls Tryd.prog 11 #[.agg #[.int .i64 z, .int .i64 d, .int .i64 s, .int .i64 l, .int .i64 a], x.v, .int .i64 J] W fun e w' => AnsP W.heap.size noAnc 10 e w' ∧ Below W.heap.size W w' from fun W hW => skip_none hV hC z d s l a x J r W (tn hT hW) hlab hn ht ho (hx.next hW) hg hr hnx)
  unfold AV.v
  have GG := ((g5_new w z d s l a).keep (bl (w.alloc (.cells #[.int .i64 z, .int .i64 d, .int .i64 s, .int .i64 l, .int .i64 a] 23)) (.cells #[.int .i64 x.gen, .int .i64 x.ep, .int .i64 x.pos, .int .i64 x.seq, .int .i64 x.last, .string x.lab, .slice x.HA x.hs.length x.hc] 26)) (by simp)).keep (bl ((w.alloc (.cells #[.int .i64 z, .int .i64 d, .int .i64 s, .int .i64 l, .int .i64 a] 23)).alloc (.cells #[.int .i64 x.gen, .int .i64 x.ep, .int .i64 x.pos, .int .i64 x.seq, .int .i64 x.last, .string x.lab, .slice x.HA x.hs.length x.hc] 26)) (.cells #[.int .i64 0, .int .i64 0, .int .i64 0, .int .i64 0, .int .i64 0, .string ⟨#[]⟩, .slice none 0 0] 26)) (by simp; omega)
  have FF := ac_new (w.alloc (.cells #[.int .i64 z, .int .i64 d, .int .i64 s, .int .i64 l, .int .i64 a] 23)) x
  rw [show (w.alloc (.cells #[.int .i64 z, .int .i64 d, .int .i64 s, .int .i64 l, .int .i64 a] 23)).heap.size = w.heap.size + 1 by simp] at FF
  replace FF := FF.keep (bl ((w.alloc (.cells #[.int .i64 z, .int .i64 d, .int .i64 s, .int .i64 l, .int .i64 a] 23)).alloc (.cells #[.int .i64 x.gen, .int .i64 x.ep, .int .i64 x.pos, .int .i64 x.seq, .int .i64 x.last, .string x.lab, .slice x.HA x.hs.length x.hc] 26)) (.cells #[.int .i64 0, .int .i64 0, .int .i64 0, .int .i64 0, .int .i64 0, .string ⟨#[]⟩, .slice none 0 0] 26)) (by simp)
  have hb0 := kal (kal (bl w (.cells #[.int .i64 z, .int .i64 d, .int .i64 s, .int .i64 l, .int .i64 a] 23)) (.cells #[.int .i64 x.gen, .int .i64 x.ep, .int .i64 x.pos, .int .i64 x.seq, .int .i64 x.last, .string x.lab, .slice x.HA x.hs.length x.hc] 26)) (.cells #[.int .i64 0, .int .i64 0, .int .i64 0, .int .i64 0, .int .i64 0, .string ⟨#[]⟩, .slice none 0 0] 26)
  have P := sev_new ((w.alloc (.cells #[.int .i64 z, .int .i64 d, .int .i64 s, .int .i64 l, .int .i64 a] 23)).alloc (.cells #[.int .i64 x.gen, .int .i64 x.ep, .int .i64 x.pos, .int .i64 x.seq, .int .i64 x.last, .string x.lab, .slice x.HA x.hs.length x.hc] 26)) (.int .i64 0) (.int .i64 0) (.int .i64 0) (.int .i64 0) (.int .i64 0) (.string ⟨#[]⟩) (.slice none 0 0) 26
  rw [show ((w.alloc (.cells #[.int .i64 z, .int .i64 d, .int .i64 s, .int .i64 l, .int .i64 a] 23)).alloc (.cells #[.int .i64 x.gen, .int .i64 x.ep, .int .i64 x.pos, .int .i64 x.seq, .int .i64 x.last, .string x.lab, .slice x.HA x.hs.length x.hc] 26)).heap.size = w.heap.size + 2 by simp] at P
  have l1 : w.heap.size + 2 < (((w.alloc (.cells #[.int .i64 z, .int .i64 d, .int .i64 s, .int .i64 l, .int .i64 a] 23)).alloc (.cells #[.int .i64 x.gen, .int .i64 x.ep, .int .i64 x.pos, .int .i64 x.seq, .int .i64 x.last, .string x.lab, .slice x.HA x.hs.length x.hc] 26)).alloc (.cells #[.int .i64 0, .int .i64 0, .int .i64 0, .int .i64 0, .int .i64 0, .string ⟨#[]⟩, .slice none 0 0] 26)).heap.size := by simp
  clear hx hg hr ho hT hlab hn ht hw hnx
  unfold AV.v at HK HS
  go_enter Tryd.func10, Tryd.ntmps10
  go_upto_region 1 with fail
  generalize ((w.alloc (.cells #[.int .i64 z, .int .i64 d, .int .i64 s, .int .i64 l, .int .i64 a] 23)).alloc (.cells #[.int .i64 x.gen, .int .i64 x.ep, .int .i64 x.pos, .int .i64 x.seq, .int .i64 x.last, .string x.lab, .slice x.HA x.hs.length x.hc] 26)).alloc (.cells #[.int .i64 0, .int .i64 0, .int .i64 0, .int .i64 0, .int .i64 0, .string ⟨#[]⟩, .slice none 0 0] 26) = w0 at *
  obtain ⟨c0, c1, c2, c3, c4, c5, c6⟩ := id FF
  obtain ⟨g0, g1, g2, g3, g4⟩ := id GG
  go_upto_region 4 with (go_at_call 24; (with_reducible refine (HK.out _ hb0).mono ?_); rintro e wq ⟨rfl, hbq⟩; replace FF := FF.keep hbq (by omega); replace GG := GG.keep hbq (by omega); replace P := P.keep hbq (by omega); replace l1 := Nat.lt_of_lt_of_le l1 hbq.size; clear c0 c1 c2 c3 c4 c5 c6 g0 g1 g2 g3 g4; obtain ⟨c0, c1, c2, c3, c4, c5, c6⟩ := id FF; obtain ⟨g0, g1, g2, g3, g4⟩ := id GG; replace hb0 := bt hb0 hbq; clear hbq)
  obtain ⟨w1, rfl⟩ : ∃ u, u = wq := ⟨wq, rfl⟩
  obtain ⟨z0, z1, z2, z3, z4, z5, z6, f0, f1, f2, f3, f4, f5, f6⟩ := id P
  clear HK
  go_upto_region 6 with (go_at_call 11; (with_reducible refine (HS.out _ hb0).mono ?_); rintro e w3 ⟨⟨y, hey, hyd, hyo, hyp⟩, hb3⟩; rw [AV.v] at hey; subst hey; replace P := P.keep hb3 (by omega); clear z0 z1 z2 z3 z4 z5 z6 f0 f1 f2 f3 f4 f5 f6; obtain ⟨z0, z1, z2, z3, z4, z5, z6, f0, f1, f2, f3, f4, f5, f6⟩ := id P)
  have P7 := ((((((P.set0 (.int .i64 y.gen)).set1 (.int .i64 y.ep)).set2 (.int .i64 y.pos)).set3 (.int .i64 y.seq)).set4 (.int .i64 y.last)).set5 (.string y.lab)).set6 (.slice y.HA y.hs.length y.hc)
  have hb7 := below_7 (v0 := .int .i64 y.gen) (v1 := .int .i64 y.ep) (v2 := .int .i64 y.pos) (v3 := .int .i64 y.seq) (v4 := .int .i64 y.last) (v5 := .string y.lab) (v6 := .slice y.HA y.hs.length y.hc) (g := w.heap.size + 2) (bt hb0 hb3) (by omega)
  clear z0 z1 z2 z3 z4 z5 z6 f0 f1 f2 f3 f4 f5 f6 P GG FF g0 g1 g2 g3 g4 c0 c1 c2 c3 c4 c5 c6 hyo hyp hyd
  generalize (((((((w3.setCell ⟨w.heap.size + 2, 0, none⟩ (.int .i64 y.gen)).setCell ⟨w.heap.size + 2, 1, none⟩ (.int .i64 y.ep)).setCell ⟨w.heap.size + 2, 2, none⟩ (.int .i64 y.pos)).setCell ⟨w.heap.size + 2, 3, none⟩ (.int .i64 y.seq)).setCell ⟨w.heap.size + 2, 4, none⟩ (.int .i64 y.last)).setCell ⟨w.heap.size + 2, 5, none⟩ (.string y.lab)).setCell ⟨w.heap.size + 2, 6, none⟩ (.slice y.HA y.hs.length y.hc)) = w4 at *
  obtain ⟨z0, z1, z2, z3, z4, z5, z6, f0, f1, f2, f3, f4, f5, f6⟩ := id P7
  go_wp2_with fail
  have k7 := (((((((P7.set0 (.int .i64 0)).set1 (.int .i64 0)).set2 (.int .i64 0)).set3 (.int .i64 0)).set4 (.int .i64 0)).set5 (.string ⟨#[]⟩)).set6 (.slice none 0 0))
  exact bodyPost_ret (v := .tuple #[.agg #[.int .i64 0, .int .i64 0, .int .i64 0, .int .i64 0, .int .i64 0, .string ⟨#[]⟩, .slice none 0 0], .int .i64 0, .int .i64 10]) (by simp [results, Tryd.results10, go_sem, k7.c0, k7.c1, k7.c2, k7.c3, k7.c4, k7.c5, k7.c6]) rfl ⟨⟨noAV, rfl, rfl, noAV_own _ _, parted_nil⟩, below_7 hb7 (by omega)⟩
set_option maxRecDepth 100000 in
set_option maxHeartbeats 8000000 in
theorem move_yes (hV : ValidOk) (hC : CloneOk) (z d s l a : Int) (x : AV) (J : Nat) (v : Int) (r : HomR) (w : World) (hT : Tabs w) (hlab : x.lab.size ≤ 4294967296) (hn : x.hs.length ≤ 1048576) (ht : HShort 1048576 x.hs) (ho : Ok z d s l a) (hx : x.In w w.heap.size) (hg : anc.Good z d s l x.d) (hr : x.hs[J]? = some r) (hw : IsWhat d v) (hnx : r.nx < d + 1 + s) (i : Nat) (hi : atP d v = (i : Int)) (hil : i < r.ps.length) :
    Calls Tryd.prog 10 #[.agg #[.int .i64 z, .int .i64 d, .int .i64 s, .int .i64 l, .int .i64 a], x.v, .int .i64 J, .int .i64 v] w fun e w' => AnsM w.heap.size (moveA x.d J i r.d) (slotA z d s l a J r.nx) 0 e w' ∧ Below w.heap.size w w' := by
  obtain ⟨⟨q1, q2⟩, q30⟩ := home_in hg (hds_get hr)
  have q3 : d + 1 ≤ r.nx ∧ r.nx ≤ d + 1 + s := q30
  clear q30
  have HK := Lib.hid (show ∀ W, Below w.heap.size w W → Calls Tryd.prog 24 #[.agg #[.int .i64 z, .int .i64 d, .int .i64 s, .int .i64 l, .int .i64 a], x.v, .int .i64 J, .int .i64 v] W fun e w' => e = .returned (.int .i64 0) ∧ Below W.heap.size W w' from fun W hW => block_any hV true z d s l a x J v W (tn hT hW) (hx.next hW) hlab (iff_of_true rfl ⟨⟨ho, hg, q1, q2⟩, hw⟩))
  have HS := Lib.hid (show ∀ W, Below w.heap.size w W → Calls Tryd.prog 11 #[.agg #[.int .i64 z, .int .i64 d, .int .i64 s, .int .i64 l, .int .i64 a], x.v, .int .i64 J] W fun e w' => AnsP W.heap.size (skipA x.d J r.d) 0 e w' ∧ Below W.heap.size W w' from fun W hW => skip_yes hV hC z d s l a x J r W (tn hT hW) hlab hn ht ho (hx.next hW) hg hr hnx)
  have HI := Lib.hid (show ∀ W, Calls Tryd.prog 25 #[.agg #[.int .i64 z, .int .i64 d, .int .i64 s, .int .i64 l, .int .i64 a], .int .i64 v] W fun e w' => e = .returned (.int .i64 i) ∧ Below W.heap.size W w' from fun W => by rw [← hi]; exact index_any z d s l a v W)
  have HL := Lib.hid (show ∀ W, Calls Tryd.prog 22 #[.agg #[.int .i64 z, .int .i64 d, .int .i64 s, .int .i64 l, .int .i64 a], .int .i64 J, .int .i64 r.nx] W fun e w' => e = .returned (.tuple #[.int .i64 (slotA z d s l a J r.nx), .int .i64 0]) ∧ Below W.heap.size W w' from fun W => slot_at z d s l a J r.nx _ 0 W ho (told1 ⟨⟨q1, q2⟩, by obtain ⟨-, o2, -⟩ := id ho; omega, hnx⟩))
  have HX := Lib.hid hx
  have HR := Lib.hid hr
  have HIL := Lib.hid hil
  clear hi hil
  unfold AV.v
  have GG := ((g5_new w z d s l a).keep (bl (w.alloc (.cells #[.int .i64 z, .int .i64 d, .int .i64 s, .int .i64 l, .int .i64 a] 23)) (.cells #[.int .i64 x.gen, .int .i64 x.ep, .int .i64 x.pos, .int .i64 x.seq, .int .i64 x.last, .string x.lab, .slice x.HA x.hs.length x.hc] 26)) (by simp)).keep (bl ((w.alloc (.cells #[.int .i64 z, .int .i64 d, .int .i64 s, .int .i64 l, .int .i64 a] 23)).alloc (.cells #[.int .i64 x.gen, .int .i64 x.ep, .int .i64 x.pos, .int .i64 x.seq, .int .i64 x.last, .string x.lab, .slice x.HA x.hs.length x.hc] 26)) (.cells #[.int .i64 0, .int .i64 0, .int .i64 0, .int .i64 0, .int .i64 0, .string ⟨#[]⟩, .slice none 0 0] 26)) (by simp; omega)
  have FF := ac_new (w.alloc (.cells #[.int .i64 z, .int .i64 d, .int .i64 s, .int .i64 l, .int .i64 a] 23)) x
  rw [show (w.alloc (.cells #[.int .i64 z, .int .i64 d, .int .i64 s, .int .i64 l, .int .i64 a] 23)).heap.size = w.heap.size + 1 by simp] at FF
  replace FF := FF.keep (bl ((w.alloc (.cells #[.int .i64 z, .int .i64 d, .int .i64 s, .int .i64 l, .int .i64 a] 23)).alloc (.cells #[.int .i64 x.gen, .int .i64 x.ep, .int .i64 x.pos, .int .i64 x.seq, .int .i64 x.last, .string x.lab, .slice x.HA x.hs.length x.hc] 26)) (.cells #[.int .i64 0, .int .i64 0, .int .i64 0, .int .i64 0, .int .i64 0, .string ⟨#[]⟩, .slice none 0 0] 26)) (by simp)
  have hb0 := kal (kal (bl w (.cells #[.int .i64 z, .int .i64 d, .int .i64 s, .int .i64 l, .int .i64 a] 23)) (.cells #[.int .i64 x.gen, .int .i64 x.ep, .int .i64 x.pos, .int .i64 x.seq, .int .i64 x.last, .string x.lab, .slice x.HA x.hs.length x.hc] 26)) (.cells #[.int .i64 0, .int .i64 0, .int .i64 0, .int .i64 0, .int .i64 0, .string ⟨#[]⟩, .slice none 0 0] 26)
  have P := sev_new ((w.alloc (.cells #[.int .i64 z, .int .i64 d, .int .i64 s, .int .i64 l, .int .i64 a] 23)).alloc (.cells #[.int .i64 x.gen, .int .i64 x.ep, .int .i64 x.pos, .int .i64 x.seq, .int .i64 x.last, .string x.lab, .slice x.HA x.hs.length x.hc] 26)) (.int .i64 0) (.int .i64 0) (.int .i64 0) (.int .i64 0) (.int .i64 0) (.string ⟨#[]⟩) (.slice none 0 0) 26
  rw [show ((w.alloc (.cells #[.int .i64 z, .int .i64 d, .int .i64 s, .int .i64 l, .int .i64 a] 23)).alloc (.cells #[.int .i64 x.gen, .int .i64 x.ep, .int .i64 x.pos, .int .i64 x.seq, .int .i64 x.last, .string x.lab, .slice x.HA x.hs.length x.hc] 26)).heap.size = w.heap.size + 2 by simp] at P
  have l1 : w.heap.size + 2 < (((w.alloc (.cells #[.int .i64 z, .int .i64 d, .int .i64 s, .int .i64 l, .int .i64 a] 23)).alloc (.cells #[.int .i64 x.gen, .int .i64 x.ep, .int .i64 x.pos, .int .i64 x.seq, .int .i64 x.last, .string x.lab, .slice x.HA x.hs.length x.hc] 26)).alloc (.cells #[.int .i64 0, .int .i64 0, .int .i64 0, .int .i64 0, .int .i64 0, .string ⟨#[]⟩, .slice none 0 0] 26)).heap.size := by simp
  clear hx hg hr ho hT hlab hn ht hw hnx
  unfold AV.v at HK HS
  go_enter Tryd.func10, Tryd.ntmps10
  go_upto_region 1 with fail
  generalize ((w.alloc (.cells #[.int .i64 z, .int .i64 d, .int .i64 s, .int .i64 l, .int .i64 a] 23)).alloc (.cells #[.int .i64 x.gen, .int .i64 x.ep, .int .i64 x.pos, .int .i64 x.seq, .int .i64 x.last, .string x.lab, .slice x.HA x.hs.length x.hc] 26)).alloc (.cells #[.int .i64 0, .int .i64 0, .int .i64 0, .int .i64 0, .int .i64 0, .string ⟨#[]⟩, .slice none 0 0] 26) = w0 at *
  obtain ⟨c0, c1, c2, c3, c4, c5, c6⟩ := id FF
  obtain ⟨g0, g1, g2, g3, g4⟩ := id GG
  go_upto_region 4 with (go_at_call 24; (with_reducible refine (HK.out _ hb0).mono ?_); rintro e wq ⟨rfl, hbq⟩; replace FF := FF.keep hbq (by omega); replace GG := GG.keep hbq (by omega); replace P := P.keep hbq (by omega); replace l1 := Nat.lt_of_lt_of_le l1 hbq.size; clear c0 c1 c2 c3 c4 c5 c6 g0 g1 g2 g3 g4; obtain ⟨c0, c1, c2, c3, c4, c5, c6⟩ := id FF; obtain ⟨g0, g1, g2, g3, g4⟩ := id GG; replace hb0 := bt hb0 hbq; clear hbq)
  obtain ⟨w1, rfl⟩ : ∃ u, u = wq := ⟨wq, rfl⟩
  obtain ⟨z0, z1, z2, z3, z4, z5, z6, f0, f1, f2, f3, f4, f5, f6⟩ := id P
  clear HK
  go_upto_region 7 with (go_at_call 11; (with_reducible refine (HS.out _ hb0).mono ?_); rintro e w3 ⟨⟨y, hey, hyd, hyo, hyp⟩, hb3⟩; rw [AV.v] at hey; subst hey; replace P := P.keep hb3 (by omega); clear z0 z1 z2 z3 z4 z5 z6 f0 f1 f2 f3 f4 f5 f6; obtain ⟨z0, z1, z2, z3, z4, z5, z6, f0, f1, f2, f3, f4, f5, f6⟩ := id P)
  have hz1 : w.heap.size + 2 < w1.heap.size := l1
  have hz3 := hb3.size
  have hbE := below_7 (v0 := .int .i64 y.gen) (v1 := .int .i64 y.ep) (v2 := .int .i64 y.pos) (v3 := .int .i64 y.seq) (v4 := .int .i64 y.last) (v5 := .string y.lab) (v6 := .slice y.HA y.hs.length y.hc) (g := w.heap.size + 2) (hb3.mono (show w.heap.size + 2 ≤ w1.heap.size by omega)) (Nat.le_refl _)
  have hb4 := below_7 (v0 := .int .i64 y.gen) (v1 := .int .i64 y.ep) (v2 := .int .i64 y.pos) (v3 := .int .i64 y.seq) (v4 := .int .i64 y.last) (v5 := .string y.lab) (v6 := .slice y.HA y.hs.length y.hc) (g := w.heap.size + 2) (bt hb0 hb3) (by omega)
  have P4 := ((((((P.set0 (.int .i64 y.gen)).set1 (.int .i64 y.ep)).set2 (.int .i64 y.pos)).set3 (.int .i64 y.seq)).set4 (.int .i64 y.last)).set5 (.string y.lab)).set6 (.slice y.HA y.hs.length y.hc)
  have yo4 := Lib.hid (((((((OwnH.cell_set hyo (o := 0) hz1 (.int .i64 y.gen)).cell_set (o := 1) hz1 (.int .i64 y.ep)).cell_set (o := 2) hz1 (.int .i64 y.pos)).cell_set (o := 3) hz1 (.int .i64 y.seq)).cell_set (o := 4) hz1 (.int .i64 y.last)).cell_set (o := 5) hz1 (.string y.lab)).cell_set (o := 6) hz1 (.slice y.HA y.hs.length y.hc))
  have G4 := GG.keep hbE (by omega)
  have F4 := (FF.keep hbE (by omega)).c6
  have hz4 : w1.heap.size ≤ ((((((((w3.setCell ⟨w.heap.size + 2, 0, none⟩ (.int .i64 y.gen)).setCell ⟨w.heap.size + 2, 1, none⟩ (.int .i64 y.ep)).setCell ⟨w.heap.size + 2, 2, none⟩ (.int .i64 y.pos)).setCell ⟨w.heap.size + 2, 3, none⟩ (.int .i64 y.seq)).setCell ⟨w.heap.size + 2, 4, none⟩ (.int .i64 y.last)).setCell ⟨w.heap.size + 2, 5, none⟩ (.string y.lab)).setCell ⟨w.heap.size + 2, 6, none⟩ (.slice y.HA y.hs.length y.hc))).heap.size := by simp; omega
  clear z0 z1 z2 z3 z4 z5 z6 f0 f1 f2 f3 f4 f5 f6 P GG FF g0 g1 g2 g3 g4 c0 c1 c2 c3 c4 c5 c6 hyo hbE hz3 hb0 hb3 l1
  generalize (((((((w3.setCell ⟨w.heap.size + 2, 0, none⟩ (.int .i64 y.gen)).setCell ⟨w.heap.size + 2, 1, none⟩ (.int .i64 y.ep)).setCell ⟨w.heap.size + 2, 2, none⟩ (.int .i64 y.pos)).setCell ⟨w.heap.size + 2, 3, none⟩ (.int .i64 y.seq)).setCell ⟨w.heap.size + 2, 4, none⟩ (.int .i64 y.last)).setCell ⟨w.heap.size + 2, 5, none⟩ (.string y.lab)).setCell ⟨w.heap.size + 2, 6, none⟩ (.slice y.HA y.hs.length y.hc)) = w4 at *
  obtain ⟨hJ, hJe⟩ := List.getElem?_eq_some_iff.1 HR.out
  have HXW := HX.out.below hb4
  obtain ⟨b1, off, r0', hA, hb1, -, r1, -, -, -, e1, -⟩ := home_at HXW.hh HXW.hi hJ
  rw [HR.out] at e1
  obtain rfl := Option.some.inj e1
  have hcap := HXW.hl
  rw [hA] at F4
  have i1 : (J : Int) < (x.hs.length : Int) := by omega
  have i2 : (0 : Int) ≤ (J : Int) := by omega
  have i3 : (x.hs.length : Int) ≤ (x.hc : Int) := by omega
  clear HXW hA hcap e1
  go_wp2_with fail
  obtain ⟨r', hr', hrd⟩ : ∃ r', y.hs[J]? = some r' ∧ r'.d = { r.d with nx := r.nx + 1 } := hds_at (by
    have h9 : hds y.hs = (skipA x.d J r.d).hs := congrArg Anc.hs hyd
    rw [h9]; exact skip_at (hds_get HR.out))
  have hps : r'.ps = r.ps := congrArg Hom.ps hrd
  have hnx' : r'.nx = r.nx + 1 := congrArg Hom.nx hrd
  have hrt : r'.rt = r.rt := congrArg Hom.rt hrd
  have HD := Lib.hid (move_d (i := i) hyd hps hnx' hrt)
  have hil := HIL.out
  rw [← hps] at hil
  obtain ⟨g, hgA, hgb, hgl, hgc, p0, -, -⟩ := own_next yo4.out hr'
  obtain ⟨g2, hgA2, ho2, hg2l, hg2b⟩ := AV.Own.row yo4.out hr' (by omega)
  have hc2 : r'.ps.length ≤ r'.c := by
    obtain ⟨A', c', hv, h1, -⟩ := ho2.form
    simp only [Value.slice.injEq] at hv
    rw [ints_length] at h1
    omega
  have cI2 := OwnV.cell ho2 i (by rw [ints_length]; exact hil)
  have fI2 := OwnV.frozen (ints_length _) ho2 i
  have P4c := P4.c6
  rw [hgA] at P4c
  rw [hgA2] at p0
  obtain ⟨yJ, -⟩ := List.getElem?_eq_some_iff.1 hr'
  have i4 : (J : Int) < (y.hs.length : Int) := by omega
  have i5 : (y.hs.length : Int) ≤ (y.hc : Int) := by omega
  have i6 : (i : Int) < (r'.ps.length : Int) := by omega
  have i7 : (0 : Int) ≤ (i : Int) := by omega
  have i8 : (r'.ps.length : Int) ≤ (r'.c : Int) := by omega
  have HGA := Lib.hid hgA
  have HGA2 := Lib.hid hgA2
  have HRJ := Lib.hid hr'
  have HP4 := Lib.hid P4
  have HCI := Lib.hid cI2
  obtain ⟨g0, g1, g2', g3, g4⟩ := id G4
  clear hps hnx' hrt hrd hyd hgA hgA2 hr' ho2 cI2 P4 F4 r1 i1 i3 HR HX hJe
  refine wp_region_tailT (S := fun W => W.cell? ⟨w.heap.size, 0, none⟩ = some (.int .i64 z) ∧ W.cell? ⟨w.heap.size, 1, none⟩ = some (.int .i64 d) ∧ W.cell? ⟨w.heap.size, 2, none⟩ = some (.int .i64 s) ∧ W.cell? ⟨w.heap.size, 3, none⟩ = some (.int .i64 l) ∧ W.cell? ⟨w.heap.size, 4, none⟩ = some (.int .i64 a) ∧ W.cell? ⟨w.heap.size + 2, 6, none⟩ = some (.slice (some ⟨g, 0, none⟩) y.hs.length y.hc) ∧ W.cell? ⟨g, J * 3, none⟩ = some (.slice (some ⟨g2, 0, none⟩) r'.ps.length r'.c) ∧ Below w4.heap.size w4 W) 11 rfl (by kernel_rfl) (by kernel_rfl) ⟨g0, g1, g2', g3, g4, P4c, p0, below_dr (Below.refl _ _)⟩ (fun hS => ?_)
  simp only [List.take_succ_cons, List.take_zero]
  (refine wpAnyH_take (i := 0) (v := ?_) rfl (by kernel_rfl) (by kernel_rfl) (by kernel_rfl) (fun _ _ _ h => h) (Or.inl ⟨by rfl, ?_⟩) (by assumption) ?_; rotate_left; (focus (intro w hSw; (try dsimp only at hSw); go_split_ands; go_simp <;> with_reducible rfl)); simp only [List.getElem_toArray, List.getElem_cons_zero, Act.put, List.setIfInBounds_toArray, List.set_cons_zero, List.set_cons_succ])
  (refine wpAnyH_take (i := 1) (v := ?_) rfl (by kernel_rfl) (by kernel_rfl) (by kernel_rfl) (fun _ _ _ h => h) (Or.inl ⟨by rfl, ?_⟩) (by assumption) ?_; rotate_left; (focus (intro w hSw; (try dsimp only at hSw); go_split_ands; go_simp <;> with_reducible rfl)); simp only [List.getElem_toArray, List.getElem_cons_zero, List.getElem_cons_succ, Act.put, List.setIfInBounds_toArray, List.set_cons_zero, List.set_cons_succ])
  (refine wpAnyH_take (i := 2) (v := ?_) rfl (by kernel_rfl) (by kernel_rfl) (by kernel_rfl) (fun _ _ _ h => h) (Or.inl ⟨by rfl, ?_⟩) (by assumption) ?_; rotate_left; (focus (intro w hSw; (try dsimp only at hSw); go_split_ands; go_simp <;> with_reducible rfl)); simp only [List.getElem_toArray, List.getElem_cons_zero, List.getElem_cons_succ, Act.put, List.setIfInBounds_toArray, List.set_cons_zero, List.set_cons_succ])
  (refine wpAnyH_take (i := 3) (v := ?_) rfl (by kernel_rfl) (by kernel_rfl) (by kernel_rfl) (fun _ _ _ h => h) (Or.inl ⟨by rfl, ?_⟩) (by assumption) ?_; rotate_left; (focus (intro w hSw; (try dsimp only at hSw); go_split_ands; go_simp <;> with_reducible rfl)); simp only [List.getElem_toArray, List.getElem_cons_zero, List.getElem_cons_succ, Act.put, List.setIfInBounds_toArray, List.set_cons_zero, List.set_cons_succ])
  (refine wpAnyH_take (i := 4) (v := ?_) rfl (by kernel_rfl) (by kernel_rfl) (by kernel_rfl) (fun _ _ _ h => h) (Or.inl ⟨by rfl, ?_⟩) (by assumption) ?_; rotate_left; (focus (intro w hSw; (try dsimp only at hSw); go_split_ands; go_simp <;> with_reducible rfl)); simp only [List.getElem_toArray, List.getElem_cons_zero, List.getElem_cons_succ, Act.put, List.setIfInBounds_toArray, List.set_cons_zero, List.set_cons_succ])
  (refine wpAnyH_take (i := 5) (v := ?_) rfl (by kernel_rfl) (by kernel_rfl) (by kernel_rfl) (fun _ _ _ h => h) (Or.inl ⟨by rfl, ?_⟩) (by assumption) ?_; rotate_left; (focus (intro w hSw; (try dsimp only at hSw); go_split_ands; go_simp <;> with_reducible rfl)); simp only [List.getElem_toArray, List.getElem_cons_zero, List.getElem_cons_succ, Act.put, List.setIfInBounds_toArray, List.set_cons_zero, List.set_cons_succ])
  (refine wpAnyH_take (i := 6) (v := ?_) rfl (by kernel_rfl) (by kernel_rfl) (by kernel_rfl) (fun _ _ _ h => h) (Or.inl ⟨by rfl, ?_⟩) (by assumption) ?_; rotate_left; (focus (intro w hSw; (try dsimp only at hSw); go_split_ands; go_simp <;> with_reducible rfl)); simp only [List.getElem_toArray, List.getElem_cons_zero, List.getElem_cons_succ, Act.put, List.setIfInBounds_toArray, List.set_cons_zero, List.set_cons_succ])
  (refine wpAnyH_take (i := 7) (v := ?_) rfl (by kernel_rfl) (by kernel_rfl) (by kernel_rfl) (fun _ _ _ h => h) (Or.inl ⟨by rfl, ?_⟩) (by assumption) ?_; rotate_left; (focus (intro w hSw; (try dsimp only at hSw); go_split_ands; go_simp <;> with_reducible rfl)); simp only [List.getElem_toArray, List.getElem_cons_zero, List.getElem_cons_succ, Act.put, List.setIfInBounds_toArray, List.set_cons_zero, List.set_cons_succ])
  (refine wpAnyH_take (i := 9) (v := ?_) rfl (by kernel_rfl) (by kernel_rfl) (by kernel_rfl) (fun _ _ _ h => h) (Or.inl ⟨by rfl, ?_⟩) (by assumption) ?_; rotate_left; (focus (intro w hSw; (try dsimp only at hSw); go_split_ands; go_simp <;> with_reducible rfl)); simp only [List.getElem_toArray, List.getElem_cons_zero, List.getElem_cons_succ, Act.put, List.setIfInBounds_toArray, List.set_cons_zero, List.set_cons_succ])
  refine wpAnyH_ready (rs := [8]) (by kernel_rfl) (by simp) ?_
  refine AllReadyH.cons rfl (fun K hK => ?_) AllReadyH.nil
  go_simp
  (with_reducible refine (HI.out _).mono ?_)
  rintro e w5 ⟨rfl, hbq⟩
  have so : Below w4.heap.size w4 w5 := bt (below_dr (Below.refl _ _)) hbq
  obtain ⟨k0, k1, k2, k3, k4⟩ := G4.keep so (by omega)
  refine hK.out _ _ ⟨k0, k1, k2, k3, k4, kst so (by omega) P4c, kst so hgl p0, so⟩ (fun hS => ?_)
  clear hK K hbq g0 g1 g2' g3 g4
  (refine wpAnyH_take (i := 10) (v := ?_) rfl (by kernel_rfl) (by kernel_rfl) (by kernel_rfl) (fun _ _ _ h => h) (Or.inl ⟨by rfl, ?_⟩) (by assumption) ?_; rotate_left; (focus (intro w hSw; (try dsimp only at hSw); go_split_ands; go_simp <;> with_reducible rfl)); simp only [List.getElem_toArray, List.getElem_cons_zero, List.getElem_cons_succ, Act.put, List.setIfInBounds_toArray, List.set_cons_zero, List.set_cons_succ])
  refine wpAnyH_done (by kernel_rfl) ?_ _
  have ci5 := kst so hg2l HCI.out
  have fi5 := (so.frozen (p := ⟨g2, i, none⟩) hg2l).trans fI2
  have hb6 := (bt hb4 (so.mono (Nat.le_refl _))).setCell (p := ⟨g2, i, none⟩) (by show w.heap.size ≤ g2; omega) (.int .i64 r.nx)
  have yo5 := Lib.hid (AV.Own.set_place (OwnH.below yo4.out so) hyp HRJ.out HGA2.out i r.nx)
  have hso := so.size
  have P6 := (HP4.out.keep so (by omega)).apart (show w.heap.size + 2 ≠ g2 by omega) (o := i) (.int .i64 r.nx)
  have G6 := (G4.keep so (by omega)).set (show w.heap.size ≠ g2 by omega) (o := i) (.int .i64 r.nx)
  have hyp6 := Lib.hid (hyp.set (r' := { r' with ps := r'.ps.set i r.nx }) HRJ.out rfl)
  clear HP4 HCI G4 hb4 yo4 so hyp P4c p0 hgl hg2l fI2
  simp only [tailQ]
  go_simp
  clear ci5 fi5 k0 k1 k2 k3 k4
  generalize w5.setCell ⟨g2, i, none⟩ (.int .i64 r.nx) = w6 at *
  obtain ⟨g0, g1, g2', g3, g4⟩ := id G6
  go_upto_region 12 with (go_at_call 22; (with_reducible refine (HL.out _).mono ?_); rintro e w7 ⟨rfl, hb7⟩)
  have hz6 : w.heap.size + 2 < w6.heap.size := World.block_lt_of_cell? _ _ P6.c0
  have P7 := P6.keep hb7 hz6
  have yo7 := OwnH.below yo5.out hb7
  have hbf := bt hb6 hb7
  rw [HGA.out] at P7
  obtain ⟨z0, z1, z2, z3, z4, z5, z6, f0, f1, f2, f3, f4, f5, f6⟩ := id P7
  clear g0 g1 g2' g3 g4 G6 P6 hb6 hb7 HL HI
  go_wp2_with fail
  have k7 := ((((((P7.set0 (.int .i64 y.gen)).set1 (.int .i64 y.ep)).set2 (.int .i64 y.pos)).set3 (.int .i64 y.seq)).set4 (.int .i64 y.last)).set5 (.string y.lab)).set6 (.slice (some ⟨g, 0, none⟩) y.hs.length y.hc)
  have hO7 := (((((((OwnH.cell_set yo7 (o := 0) hz1 (.int .i64 y.gen)).cell_set (o := 1) hz1 (.int .i64 y.ep)).cell_set (o := 2) hz1 (.int .i64 y.pos)).cell_set (o := 3) hz1 (.int .i64 y.seq)).cell_set (o := 4) hz1 (.int .i64 y.last)).cell_set (o := 5) hz1 (.string y.lab)).cell_set (o := 6) hz1 (.slice (some ⟨g, 0, none⟩) y.hs.length y.hc))
  have HO7 := Lib.hid (hO7.less (show w.heap.size ≤ w1.heap.size by omega))
  clear hO7
  exact bodyPost_ret (v := .tuple #[.agg #[.int .i64 y.gen, .int .i64 y.ep, .int .i64 y.pos, .int .i64 y.seq, .int .i64 y.last, .string y.lab, .slice (some ⟨g, 0, none⟩) y.hs.length y.hc], .int .i64 (slotA z d s l a J r.nx), .int .i64 0]) (by simp [results, Tryd.results10, go_sem, k7.c0, k7.c1, k7.c2, k7.c3, k7.c4, k7.c5, k7.c6]) rfl ⟨⟨{ y with hs := y.hs.set J { r' with ps := r'.ps.set i r.nx } }, by unfold AV.v; rw [List.length_set, HGA.out], HD.out, HO7.out, hyp6.out⟩, below_7 hbf (by omega)⟩
end Go.Proofs.YthbjfpgcinmjiaaDoor.plc
