/-
  The document's Move: a block moved to the next spare. Conditions: a right anchor with a spare left, rows shorter than 2^20.
-/
import Derived.Test.YthbjfpgcinmjiaaDoorPlF
namespace Go.Proofs.YthbjfpgcinmjiaaDoor.plc
open Go.RowKit Go.Lib
open Go.Proofs.YthbjfpgcinmjiaaDoor.gmt (Ok five_new slot_at rslot_at w6)
open Go.Proofs.YthbjfpgcinmjiaaDoor.anc
open Go.Proofs.YthbjfpgcinmjiaaDoor.lbl (ValidOk CloneOk Tabs)

theorem rmove_d {x y : AV} {J i : Nat} {r r' : HomR} (hd : y.d = x.d) (hrd : r'.d = r.d) : AV.d { y with hs := y.hs.set J { r' with ps := r'.ps.set i r.nx, nx := r'.nx + 1 } } = moveA x.d J i r.d := by
  have h1 : hds y.hs = hds x.hs := congrArg Anc.hs hd
  have hps : r'.ps = r.ps := congrArg Hom.ps hrd
  have hnx : r'.nx = r.nx := congrArg Hom.nx hrd
  have hrt : r'.rt = r.rt := congrArg Hom.rt hrd
  show (⟨y.d.gen, y.d.ep, y.d.pos, y.d.seq, y.d.last, y.d.lab, hds (y.hs.set J _)⟩ : Anc) = _
  rw [hds_set, h1, hd]
  show (⟨x.gen, x.ep, x.pos, x.seq, x.last, x.lab, (hds x.hs).set J ⟨r'.ps.set i r.nx, r'.nx + 1, r'.rt⟩⟩ : Anc) = ⟨x.gen, x.ep, x.pos, x.seq, x.last, x.lab, (hds x.hs).set J ⟨r.ps.set i r.nx, r.nx + 1, r.rt⟩⟩
  rw [hps, hnx, hrt]
theorem sev_set {W : World} {g : Nat} {a0 a1 a2 a3 a4 a5 a6 : Value} (h : Sev W g a0 a1 a2 a3 a4 a5 a6) (v0 v1 v2 v3 v4 v5 v6 : Value) : Sev (((((((W.setCell ⟨g, 0, none⟩ v0).setCell ⟨g, 1, none⟩ v1).setCell ⟨g, 2, none⟩ v2).setCell ⟨g, 3, none⟩ v3).setCell ⟨g, 4, none⟩ v4).setCell ⟨g, 5, none⟩ v5).setCell ⟨g, 6, none⟩ v6) g v0 v1 v2 v3 v4 v5 v6 :=
  ((((((h.set0 v0).set1 v1).set2 v2).set3 v3).set4 v4).set5 v5).set6 v6
theorem sev_off {W : World} {g k : Nat} {a0 a1 a2 a3 a4 a5 a6 : Value} (h : Sev W g a0 a1 a2 a3 a4 a5 a6) (hne : g ≠ k) (v0 v1 v2 v3 v4 v5 v6 : Value) : Sev (((((((W.setCell ⟨k, 0, none⟩ v0).setCell ⟨k, 1, none⟩ v1).setCell ⟨k, 2, none⟩ v2).setCell ⟨k, 3, none⟩ v3).setCell ⟨k, 4, none⟩ v4).setCell ⟨k, 5, none⟩ v5).setCell ⟨k, 6, none⟩ v6) g a0 a1 a2 a3 a4 a5 a6 :=
  ((((((h.apart hne v0).apart hne v1).apart hne v2).apart hne v3).apart hne v4).apart hne v5).apart hne v6
theorem own_off {W : World} {base k : Nat} {v : Value} {cs : List HomR} (h : OwnH W base v cs) (hk : k < base) (v0 v1 v2 v3 v4 v5 v6 : Value) : OwnH (((((((W.setCell ⟨k, 0, none⟩ v0).setCell ⟨k, 1, none⟩ v1).setCell ⟨k, 2, none⟩ v2).setCell ⟨k, 3, none⟩ v3).setCell ⟨k, 4, none⟩ v4).setCell ⟨k, 5, none⟩ v5).setCell ⟨k, 6, none⟩ v6) base v cs :=
  ((((((h.cell_set hk v0).cell_set hk v1).cell_set hk v2).cell_set hk v3).cell_set hk v4).cell_set hk v5).cell_set hk v6
theorem size_7 {W : World} {k : Nat} {v0 v1 v2 v3 v4 v5 v6 : Value} : (((((((W.setCell ⟨k, 0, none⟩ v0).setCell ⟨k, 1, none⟩ v1).setCell ⟨k, 2, none⟩ v2).setCell ⟨k, 3, none⟩ v3).setCell ⟨k, 4, none⟩ v4).setCell ⟨k, 5, none⟩ v5).setCell ⟨k, 6, none⟩ v6).heap.size = W.heap.size := by simp

set_option maxRecDepth 100000 in
set_option maxHeartbeats 8000000 in
theorem rmove_yes (z d s l a : Int) (x : AV) (J : Nat) (v : Int) (r : HomR) (w : World) (hn : x.hs.length ≤ 1048576) (ht : HShort 1048576 x.hs) (ho : Ok z d s l a) (hx : x.In w w.heap.size) (hg : anc.Good z d s l x.d) (hr : x.hs[J]? = some r) (hnx : r.nx < d + 1 + s) (i : Nat) (hi : atP d v = (i : Int)) (hil : i < r.ps.length) :
    Calls Tryd.prog 19 #[.agg #[.int .i64 z, .int .i64 d, .int .i64 s, .int .i64 l, .int .i64 a], x.v, .int .i64 J, .int .i64 v] w fun e w' => (∃ y : AV, e = .returned (.tuple #[y.v, .int .i64 (slotA z d s l a J r.nx)]) ∧ y.d = moveA x.d J i r.d ∧ y.Own w' w.heap.size) ∧ Below w.heap.size w w' := by
  obtain ⟨⟨q1, q2⟩, q30⟩ := home_in hg (hds_get hr)
  have q3 : d + 1 ≤ r.nx ∧ r.nx ≤ d + 1 + s := q30
  clear q30
  have hb7 : 0 ≤ r.nx ∧ r.nx ≤ 7 := by obtain ⟨-, o2, o3, -⟩ := id ho; omega
  have HT := Lib.hid (show ∀ W, Below w.heap.size w W → Calls Tryd.prog 7 #[x.v] W fun e w' => (∃ y : AV, e = .returned y.v ∧ y.d = x.d ∧ y.Own w' W.heap.size ∧ Parted y.hs) ∧ Below W.heap.size W w' from fun W hW => twin_parted x W (hx.next hW) hn ht)
  have HI := Lib.hid (show ∀ W, Calls Tryd.prog 34 #[.agg #[.int .i64 z, .int .i64 d, .int .i64 s, .int .i64 l, .int .i64 a], .int .i64 v] W fun e w' => e = .returned (.int .i64 i) ∧ Below W.heap.size W w' from fun W => by rw [← hi]; exact rat_any z d s l a v W)
  have HAD := Lib.hid (show ∀ (u : AV) (W : World), u.d = moveA x.d J i r.d → u.In W W.heap.size → Calls Tryd.prog 18 #[.agg #[.int .i64 z, .int .i64 d, .int .i64 s, .int .i64 l, .int .i64 a], u.v, .int .i64 J, .int .i64 v] W fun e w' => e = .returned (.int .i64 (slotA z d s l a J r.nx)) ∧ Below W.heap.size W w' from fun u W hu hin => by
    obtain ⟨r2, hr2, hd2⟩ : ∃ r2, u.hs[J]? = some r2 ∧ r2.d = ({ r.d with ps := r.d.ps.set i r.d.nx, nx := r.d.nx + 1 } : Hom) := hds_at (by
      have h9 : hds u.hs = (moveA x.d J i r.d).hs := congrArg Anc.hs hu
      rw [h9]; exact move_at (hds_get hr))
    have hp2 : r2.ps = r.ps.set i r.nx := congrArg Hom.ps hd2
    exact raddr_yes z d s l a u J i v r.nx r2 W ho hin (by rw [hu]; exact good_move hg (hds_get hr) hnx) hr2 hi (by rw [hp2]; exact List.getElem?_set_self hil))
  have HX := Lib.hid hx
  have HR := Lib.hid hr
  have HIL := Lib.hid hil
  have HNX := Lib.hid hb7
  unfold AV.v
  have GG := ((g5_new w z d s l a).keep (bl (w.alloc (.cells #[.int .i64 z, .int .i64 d, .int .i64 s, .int .i64 l, .int .i64 a] 23)) (.cells #[.int .i64 x.gen, .int .i64 x.ep, .int .i64 x.pos, .int .i64 x.seq, .int .i64 x.last, .string x.lab, .slice x.HA x.hs.length x.hc] 26)) (by simp)).keep (bl ((w.alloc (.cells #[.int .i64 z, .int .i64 d, .int .i64 s, .int .i64 l, .int .i64 a] 23)).alloc (.cells #[.int .i64 x.gen, .int .i64 x.ep, .int .i64 x.pos, .int .i64 x.seq, .int .i64 x.last, .string x.lab, .slice x.HA x.hs.length x.hc] 26)) (.cells #[.int .i64 0, .int .i64 0, .int .i64 0, .int .i64 0, .int .i64 0, .string ⟨#[]⟩, .slice none 0 0] 26)) (by simp; omega)
  have FF := ac_new (w.alloc (.cells #[.int .i64 z, .int .i64 d, .int .i64 s, .int .i64 l, .int .i64 a] 23)) x
  rw [show (w.alloc (.cells #[.int .i64 z, .int .i64 d, .int .i64 s, .int .i64 l, .int .i64 a] 23)).heap.size = w.heap.size + 1 by simp] at FF
  replace FF := FF.keep (bl ((w.alloc (.cells #[.int .i64 z, .int .i64 d, .int .i64 s, .int .i64 l, .int .i64 a] 23)).alloc (.cells #[.int .i64 x.gen, .int .i64 x.ep, .int .i64 x.pos, .int .i64 x.seq, .int .i64 x.last, .string x.lab, .slice x.HA x.hs.length x.hc] 26)) (.cells #[.int .i64 0, .int .i64 0, .int .i64 0, .int .i64 0, .int .i64 0, .string ⟨#[]⟩, .slice none 0 0] 26)) (by simp)
  have hb0 := kal (kal (bl w (.cells #[.int .i64 z, .int .i64 d, .int .i64 s, .int .i64 l, .int .i64 a] 23)) (.cells #[.int .i64 x.gen, .int .i64 x.ep, .int .i64 x.pos, .int .i64 x.seq, .int .i64 x.last, .string x.lab, .slice x.HA x.hs.length x.hc] 26)) (.cells #[.int .i64 0, .int .i64 0, .int .i64 0, .int .i64 0, .int .i64 0, .string ⟨#[]⟩, .slice none 0 0] 26)
  have P := sev_new ((w.alloc (.cells #[.int .i64 z, .int .i64 d, .int .i64 s, .int .i64 l, .int .i64 a] 23)).alloc (.cells #[.int .i64 x.gen, .int .i64 x.ep, .int .i64 x.pos, .int .i64 x.seq, .int .i64 x.last, .string x.lab, .slice x.HA x.hs.length x.hc] 26)) (.int .i64 0) (.int .i64 0) (.int .i64 0) (.int .i64 0) (.int .i64 0) (.string ⟨#[]⟩) (.slice none 0 0) 26
  rw [show ((w.alloc (.cells #[.int .i64 z, .int .i64 d, .int .i64 s, .int .i64 l, .int .i64 a] 23)).alloc (.cells #[.int .i64 x.gen, .int .i64 x.ep, .int .i64 x.pos, .int .i64 x.seq, .int .i64 x.last, .string x.lab, .slice x.HA x.hs.length x.hc] 26)).heap.size = w.heap.size + 2 by simp] at P
  have l1 : w.heap.size + 2 < (((w.alloc (.cells #[.int .i64 z, .int .i64 d, .int .i64 s, .int .i64 l, .int .i64 a] 23)).alloc (.cells #[.int .i64 x.gen, .int .i64 x.ep, .int .i64 x.pos, .int .i64 x.seq, .int .i64 x.last, .string x.lab, .slice x.HA x.hs.length x.hc] 26)).alloc (.cells #[.int .i64 0, .int .i64 0, .int .i64 0, .int .i64 0, .int .i64 0, .string ⟨#[]⟩, .slice none 0 0] 26)).heap.size := by simp
  clear hx hg hr ho hn ht hnx hi hil q3 hb7
  unfold AV.v at HT
  go_enter Tryd.func19, Tryd.ntmps19
  go_upto_region 1 with fail
  generalize ((w.alloc (.cells #[.int .i64 z, .int .i64 d, .int .i64 s, .int .i64 l, .int .i64 a] 23)).alloc (.cells #[.int .i64 x.gen, .int .i64 x.ep, .int .i64 x.pos, .int .i64 x.seq, .int .i64 x.last, .string x.lab, .slice x.HA x.hs.length x.hc] 26)).alloc (.cells #[.int .i64 0, .int .i64 0, .int .i64 0, .int .i64 0, .int .i64 0, .string ⟨#[]⟩, .slice none 0 0] 26) = w0 at *
  obtain ⟨c0, c1, c2, c3, c4, c5, c6⟩ := id FF
  obtain ⟨g0, g1, g2, g3, g4⟩ := id GG
  obtain ⟨w1, rfl⟩ : ∃ u, u = w0 := ⟨w0, rfl⟩
  go_upto_region 2 with (go_at_call 7; (with_reducible refine (HT.out _ hb0).mono ?_); rintro e w3 ⟨⟨y, hey, hyd, hyo, hyp⟩, hb3⟩; subst hey)
  have hx3 := bl w3 (.cells #[.int .i64 y.gen, .int .i64 y.ep, .int .i64 y.pos, .int .i64 y.seq, .int .i64 y.last, .string y.lab, .slice y.HA y.hs.length y.hc] 26)
  have hz3 := hb3.size
  have PY := sev_new w3 (.int .i64 y.gen) (.int .i64 y.ep) (.int .i64 y.pos) (.int .i64 y.seq) (.int .i64 y.last) (.string y.lab) (.slice y.HA y.hs.length y.hc) 26
  have yo4 := Lib.hid (OwnH.below hyo hx3)
  have G4 := (GG.keep hb3 (by omega)).keep hx3 (by omega)
  have P4 := (P.keep hb3 (by omega)).keep hx3 (by omega)
  have hb4 := bt (bt hb0 hb3) hx3
  have l4 : w3.heap.size < (w3.alloc (.cells #[.int .i64 y.gen, .int .i64 y.ep, .int .i64 y.pos, .int .i64 y.seq, .int .i64 y.last, .string y.lab, .slice y.HA y.hs.length y.hc] 26)).heap.size := by simp
  obtain ⟨r', hr', hrd⟩ : ∃ r', y.hs[J]? = some r' ∧ r'.d = r.d := hds_at (by
    have h9 : hds y.hs = hds x.hs := congrArg Anc.hs hyd
    rw [h9]; exact hds_get HR.out)
  have hnr : r'.nx = r.nx := congrArg Hom.nx hrd
  have hpr : r'.ps = r.ps := congrArg Hom.ps hrd
  have hil := HIL.out
  rw [← hpr] at hil
  have HD := Lib.hid (rmove_d (J := J) (i := i) hyd hrd)
  obtain ⟨gY, hgY⟩ : ∃ q, q = w3.heap.size := ⟨_, rfl⟩
  obtain ⟨g, hgA, hgb, hgl, hgc, p0, n1, fz⟩ := own_next hyo hr'
  obtain ⟨gp, hgA2, ho2, hg2l, hg2b⟩ := AV.Own.row hyo hr' (by omega)
  have hg12 : g ≠ gp := by
    rcases row_apart ho2 hyo.1 int_home with k | k
    · exact absurd k (by simp [Value.ownBlock])
    · intro e; apply k; rw [hgA, e]; rfl
  have hc2 : r'.ps.length ≤ r'.c := by
    obtain ⟨A', c', hv, h1, -⟩ := ho2.form
    simp only [Value.slice.injEq] at hv
    rw [ints_length] at h1
    omega
  have cI2 := kst hx3 hg2l (OwnV.cell ho2 i (by rw [ints_length]; exact hil))
  have fI2 := (hx3.frozen (p := ⟨gp, i, none⟩) hg2l).trans (OwnV.frozen (ints_length _) ho2 i)
  have fN2 := (hx3.frozen (p := ⟨g, J * 3 + 1, none⟩) hgl).trans (fz (J * 3 + 1))
  replace p0 := kst hx3 hgl p0
  replace n1 := kst hx3 hgl n1
  rw [← hgY] at PY hgl hg2l l4 ⊢
  rw [hgA2] at p0
  obtain ⟨yJ, -⟩ := List.getElem?_eq_some_iff.1 hr'
  have i2 : (0 : Int) ≤ (J : Int) := by omega
  have i4 : (J : Int) < (y.hs.length : Int) := by omega
  have i5 : (y.hs.length : Int) ≤ (y.hc : Int) := by omega
  have i6 : (i : Int) < (r'.ps.length : Int) := by omega
  have i7 : (0 : Int) ≤ (i : Int) := by omega
  have i8 : (r'.ps.length : Int) ≤ (r'.c : Int) := by omega
  have hlt2 : w.heap.size + 2 < gY := by omega
  have hzz : w.heap.size + 2 < w1.heap.size := l1
  have v1 : IntKind.i64.wrap (r.nx + 1) = r.nx + 1 := w6 _ (by have := HNX.out; omega) (by have := HNX.out; omega)
  rw [hnr] at n1
  have HGA := Lib.hid hgA
  have HGA2 := Lib.hid hgA2
  have HRJ := Lib.hid hr'
  have HNR := Lib.hid hnr
  clear hyo hyd hrd hgA hgA2 hr' ho2 HT HX HR hx3 hz3 hb3 hgY fz P GG FF g0 g1 g2 g3 g4 c0 c1 c2 c3 c4 c5 c6 hnr hpr hb0
  generalize w3.alloc (.cells #[.int .i64 y.gen, .int .i64 y.ep, .int .i64 y.pos, .int .i64 y.seq, .int .i64 y.last, .string y.lab, .slice y.HA y.hs.length y.hc] 26) = w4 at *
  rw [HGA.out] at PY
  obtain ⟨y0, y1, y2, y3, y4, y5, y6, -, -, -, -, -, -, -⟩ := id PY
  go_wp2_with fail
  obtain ⟨g0, g1, g2, g3, g4⟩ := id G4
  refine wp_region_tailT (S := fun W => W.cell? ⟨g, J * 3, none⟩ = some (.slice (some ⟨gp, 0, none⟩) r'.ps.length r'.c) ∧ W.cell? ⟨g, J * 3 + 1, none⟩ = some (.int .i64 r.nx) ∧ W.cell? ⟨w.heap.size, 0, none⟩ = some (.int .i64 z) ∧ W.cell? ⟨w.heap.size, 1, none⟩ = some (.int .i64 d) ∧ W.cell? ⟨w.heap.size, 2, none⟩ = some (.int .i64 s) ∧ W.cell? ⟨w.heap.size, 3, none⟩ = some (.int .i64 l) ∧ W.cell? ⟨w.heap.size, 4, none⟩ = some (.int .i64 a) ∧ Below w4.heap.size w4 W) 12 rfl (by kernel_rfl) (by kernel_rfl) ⟨p0, n1, g0, g1, g2, g3, g4, below_dr (Below.refl _ _)⟩ (fun hS => ?_)
  simp only [List.take_succ_cons, List.take_zero]
  (refine wpAnyH_take (i := 0) (v := ?_) rfl (by kernel_rfl) (by kernel_rfl) (by kernel_rfl) (fun _ _ _ h => h) (Or.inl ⟨by rfl, ?_⟩) (by assumption) ?_; rotate_left; (focus (intro w hSw; (try dsimp only at hSw); go_split_ands; go_simp <;> with_reducible rfl)); simp only [List.getElem_toArray, List.getElem_cons_zero, Act.put, List.setIfInBounds_toArray, List.set_cons_zero, List.set_cons_succ])
  (refine wpAnyH_take (i := 1) (v := ?_) rfl (by kernel_rfl) (by kernel_rfl) (by kernel_rfl) (fun _ _ _ h => h) (Or.inl ⟨by rfl, ?_⟩) (by assumption) ?_; rotate_left; (focus (intro w hSw; (try dsimp only at hSw); go_split_ands; go_simp <;> with_reducible rfl)); simp only [List.getElem_toArray, List.getElem_cons_zero, List.getElem_cons_succ, Act.put, List.setIfInBounds_toArray, List.set_cons_zero, List.set_cons_succ])
  (refine wpAnyH_take (i := 2) (v := ?_) rfl (by kernel_rfl) (by kernel_rfl) (by kernel_rfl) (fun _ _ _ h => h) (Or.inl ⟨by rfl, ?_⟩) (by assumption) ?_; rotate_left; (focus (intro w hSw; (try dsimp only at hSw); go_split_ands; go_simp <;> with_reducible rfl)); simp only [List.getElem_toArray, List.getElem_cons_zero, List.getElem_cons_succ, Act.put, List.setIfInBounds_toArray, List.set_cons_zero, List.set_cons_succ])
  (refine wpAnyH_take (i := 3) (v := ?_) rfl (by kernel_rfl) (by kernel_rfl) (by kernel_rfl) (fun _ _ _ h => h) (Or.inl ⟨by rfl, ?_⟩) (by assumption) ?_; rotate_left; (focus (intro w hSw; (try dsimp only at hSw); go_split_ands; go_simp <;> with_reducible rfl)); simp only [List.getElem_toArray, List.getElem_cons_zero, List.getElem_cons_succ, Act.put, List.setIfInBounds_toArray, List.set_cons_zero, List.set_cons_succ])
  (refine wpAnyH_take (i := 4) (v := ?_) rfl (by kernel_rfl) (by kernel_rfl) (by kernel_rfl) (fun _ _ _ h => h) (Or.inl ⟨by rfl, ?_⟩) (by assumption) ?_; rotate_left; (focus (intro w hSw; (try dsimp only at hSw); go_split_ands; go_simp <;> with_reducible rfl)); simp only [List.getElem_toArray, List.getElem_cons_zero, List.getElem_cons_succ, Act.put, List.setIfInBounds_toArray, List.set_cons_zero, List.set_cons_succ])
  (refine wpAnyH_take (i := 5) (v := ?_) rfl (by kernel_rfl) (by kernel_rfl) (by kernel_rfl) (fun _ _ _ h => h) (Or.inl ⟨by rfl, ?_⟩) (by assumption) ?_; rotate_left; (focus (intro w hSw; (try dsimp only at hSw); go_split_ands; go_simp <;> with_reducible rfl)); simp only [List.getElem_toArray, List.getElem_cons_zero, List.getElem_cons_succ, Act.put, List.setIfInBounds_toArray, List.set_cons_zero, List.set_cons_succ])
  (refine wpAnyH_take (i := 7) (v := ?_) rfl (by kernel_rfl) (by kernel_rfl) (by kernel_rfl) (fun _ _ _ h => h) (Or.inl ⟨by rfl, ?_⟩) (by assumption) ?_; rotate_left; (focus (intro w hSw; (try dsimp only at hSw); go_split_ands; go_simp <;> with_reducible rfl)); simp only [List.getElem_toArray, List.getElem_cons_zero, List.getElem_cons_succ, Act.put, List.setIfInBounds_toArray, List.set_cons_zero, List.set_cons_succ])
  (refine wpAnyH_take (i := 8) (v := ?_) rfl (by kernel_rfl) (by kernel_rfl) (by kernel_rfl) (fun _ _ _ h => h) (Or.inl ⟨by rfl, ?_⟩) (by assumption) ?_; rotate_left; (focus (intro w hSw; (try dsimp only at hSw); go_split_ands; go_simp <;> with_reducible rfl)); simp only [List.getElem_toArray, List.getElem_cons_zero, List.getElem_cons_succ, Act.put, List.setIfInBounds_toArray, List.set_cons_zero, List.set_cons_succ])
  (refine wpAnyH_take (i := 9) (v := ?_) rfl (by kernel_rfl) (by kernel_rfl) (by kernel_rfl) (fun _ _ _ h => h) (Or.inl ⟨by rfl, ?_⟩) (by assumption) ?_; rotate_left; (focus (intro w hSw; (try dsimp only at hSw); go_split_ands; go_simp <;> with_reducible rfl)); simp only [List.getElem_toArray, List.getElem_cons_zero, List.getElem_cons_succ, Act.put, List.setIfInBounds_toArray, List.set_cons_zero, List.set_cons_succ])
  (refine wpAnyH_take (i := 10) (v := ?_) rfl (by kernel_rfl) (by kernel_rfl) (by kernel_rfl) (fun _ _ _ h => h) (Or.inl ⟨by rfl, ?_⟩) (by assumption) ?_; rotate_left; (focus (intro w hSw; (try dsimp only at hSw); go_split_ands; go_simp <;> with_reducible rfl)); simp only [List.getElem_toArray, List.getElem_cons_zero, List.getElem_cons_succ, Act.put, List.setIfInBounds_toArray, List.set_cons_zero, List.set_cons_succ])
  refine wpAnyH_ready (rs := [6]) (by kernel_rfl) (by simp) ?_
  refine AllReadyH.cons rfl (fun K hK => ?_) AllReadyH.nil
  go_simp
  (with_reducible refine (HI.out _).mono ?_)
  rintro e w5 ⟨rfl, hbq⟩
  have so : Below w4.heap.size w4 w5 := bt (below_dr (Below.refl _ _)) hbq
  have G5 := G4.keep so (by omega)
  obtain ⟨k0, k1, k2, k3, k4⟩ := id G5
  refine hK.out _ _ ⟨kst so (by omega) p0, kst so (by omega) n1, k0, k1, k2, k3, k4, so⟩ (fun hS => ?_)
  clear hK K hbq g0 g1 g2 g3 g4
  (refine wpAnyH_take (i := 11) (v := ?_) rfl (by kernel_rfl) (by kernel_rfl) (by kernel_rfl) (fun _ _ _ h => h) (Or.inl ⟨by rfl, ?_⟩) (by assumption) ?_; rotate_left; (focus (intro w hSw; (try dsimp only at hSw); go_split_ands; go_simp <;> with_reducible rfl)); simp only [List.getElem_toArray, List.getElem_cons_zero, List.getElem_cons_succ, Act.put, List.setIfInBounds_toArray, List.set_cons_zero, List.set_cons_succ])
  refine wpAnyH_done (by kernel_rfl) ?_ _
  have ci5 := kst so (by omega) cI2
  have fi5 := (so.frozen (p := ⟨gp, i, none⟩) (by show gp < w4.heap.size; omega)).trans fI2
  have n5 := kst so (by omega) n1
  have fn5 := (so.frozen (p := ⟨g, J * 3 + 1, none⟩) (by show g < w4.heap.size; omega)).trans fN2
  have hb6 := (bt hb4 so).setCell (p := ⟨gp, i, none⟩) (by show w.heap.size ≤ gp; omega) (.int .i64 r.nx)
  have yo5 := Lib.hid (AV.Own.set_place (OwnH.below yo4.out so) hyp HRJ.out HGA2.out i r.nx)
  have P6 := (P4.keep so (by omega)).apart (show w.heap.size + 2 ≠ gp by omega) (o := i) (.int .i64 r.nx)
  have PY6 := (PY.keep so (by omega)).apart (show gY ≠ gp by omega) (o := i) (.int .i64 r.nx)
  have G6 := G5.set (show w.heap.size ≠ gp by omega) (o := i) (.int .i64 r.nx)
  have n6 : (w5.setCell ⟨gp, i, none⟩ (.int .i64 r.nx)).cell? ⟨g, J * 3 + 1, none⟩ = some (.int .i64 r.nx) := by
    rw [World.cell?_setCell_other _ _ _ _ (by intro h; exact hg12 (congrArg Addr.block h).symm)]; exact n5
  have fn6 : (w5.setCell ⟨gp, i, none⟩ (.int .i64 r.nx)).frozen? ⟨g, J * 3 + 1, none⟩ = false := by rw [World.frozen?_setCell]; exact fn5
  have hs5 := so.size
  have hz6 : gY < (w5.setCell ⟨gp, i, none⟩ (.int .i64 r.nx)).heap.size := by simp; omega
  clear P4 PY G4 G5 hb4 yo4 so p0 n1 fI2 cI2 fN2 n5 fn5 y0 y1 y2 y3 y4 y5 y6 l4
  simp only [tailQ]
  go_simp
  clear ci5 fi5 k0 k1 k2 k3 k4 hs5
  generalize w5.setCell ⟨gp, i, none⟩ (.int .i64 r.nx) = w6 at *
  go_wp2_with fail
  have yo6 := Lib.hid (AV.Own.set_next yo5.out (List.getElem?_set_self yJ) HGA.out (r.nx + 1))
  have P7 := P6.apart (show w.heap.size + 2 ≠ g by omega) (o := J * 3 + 1) (.int .i64 (r.nx + 1))
  have PY7 := PY6.apart (show gY ≠ g by omega) (o := J * 3 + 1) (.int .i64 (r.nx + 1))
  have G7 := G6.set (show w.heap.size ≠ g by omega) (o := J * 3 + 1) (.int .i64 (r.nx + 1))
  have hb7 := hb6.setCell (p := ⟨g, J * 3 + 1, none⟩) (by show w.heap.size ≤ g; omega) (.int .i64 (r.nx + 1))
  have hz7 : gY < (w6.setCell ⟨g, J * 3 + 1, none⟩ (.int .i64 (r.nx + 1))).heap.size := by simp; omega
  clear P6 PY6 G6 n6 fn6 hb6 yo5 hz6 v1
  generalize w6.setCell ⟨g, J * 3 + 1, none⟩ (.int .i64 (r.nx + 1)) = w7 at *
  obtain ⟨u, hu⟩ : ∃ u : AV, u = { y with hs := y.hs.set J { r' with ps := r'.ps.set i r.nx, nx := r'.nx + 1 } } := ⟨_, rfl⟩
  have hud : u.d = moveA x.d J i r.d := by rw [hu]; exact HD.out
  have huv : u.v = .agg #[.int .i64 y.gen, .int .i64 y.ep, .int .i64 y.pos, .int .i64 y.seq, .int .i64 y.last, .string y.lab, .slice (some ⟨g, 0, none⟩) y.hs.length y.hc] := by
    rw [hu]
    unfold AV.v
    rw [List.length_set, HGA.out]
  have huo : AV.Own w7 w1.heap.size u := by
    have h9 := yo6.out
    rw [← show r'.nx + 1 = r.nx + 1 by rw [HNR.out]] at h9
    rw [hu]
    rw [List.set_set] at h9
    exact h9
  have HR1 := Lib.hid (show ∀ W, AV.Own W w1.heap.size u → Calls Tryd.prog 18 #[.agg #[.int .i64 z, .int .i64 d, .int .i64 s, .int .i64 l, .int .i64 a], .agg #[.int .i64 y.gen, .int .i64 y.ep, .int .i64 y.pos, .int .i64 y.seq, .int .i64 y.last, .string y.lab, .slice (some ⟨g, 0, none⟩) y.hs.length y.hc], .int .i64 J, .int .i64 v] W fun e w' => e = .returned (.int .i64 (slotA z d s l a J r.nx)) ∧ Below W.heap.size W w' from fun W h => by rw [← huv]; exact HAD.out u W hud (AV.Own.inn h))
  have HO1 := Lib.hid (show ∀ W, Below w7.heap.size w7 W → AV.Own W w1.heap.size u from fun W h => OwnH.below huo h)
  have HFA := Lib.hid (show ∀ W, Below w7.heap.size w7 W → W.cell? ⟨w.heap.size, 0, none⟩ = some (.int .i64 z) ∧ W.cell? ⟨w.heap.size, 1, none⟩ = some (.int .i64 d) ∧ W.cell? ⟨w.heap.size, 2, none⟩ = some (.int .i64 s) ∧ W.cell? ⟨w.heap.size, 3, none⟩ = some (.int .i64 l) ∧ W.cell? ⟨w.heap.size, 4, none⟩ = some (.int .i64 a) ∧ W.cell? ⟨gY, 0, none⟩ = some (.int .i64 y.gen) ∧ W.cell? ⟨gY, 1, none⟩ = some (.int .i64 y.ep) ∧ W.cell? ⟨gY, 2, none⟩ = some (.int .i64 y.pos) ∧ W.cell? ⟨gY, 3, none⟩ = some (.int .i64 y.seq) ∧ W.cell? ⟨gY, 4, none⟩ = some (.int .i64 y.last) ∧ W.cell? ⟨gY, 5, none⟩ = some (.string y.lab) ∧ W.cell? ⟨gY, 6, none⟩ = some (.slice (some ⟨g, 0, none⟩) y.hs.length y.hc) ∧ Below (w.heap.size + 2) w7 W from fun W h => by
    obtain ⟨g0, g1, g2, g3, g4⟩ := G7.keep h (by omega)
    obtain ⟨y0, y1, y2, y3, y4, y5, y6, -, -, -, -, -, -, -⟩ := PY7.keep h (by omega)
    exact ⟨g0, g1, g2, g3, g4, y0, y1, y2, y3, y4, y5, y6, h.mono (by omega)⟩)
  have HFB := Lib.hid (show ∀ W, Below w7.heap.size w7 W → ((((((((W.setCell ⟨w.heap.size + 2, 0, none⟩ (.int .i64 y.gen)).setCell ⟨w.heap.size + 2, 1, none⟩ (.int .i64 y.ep)).setCell ⟨w.heap.size + 2, 2, none⟩ (.int .i64 y.pos)).setCell ⟨w.heap.size + 2, 3, none⟩ (.int .i64 y.seq)).setCell ⟨w.heap.size + 2, 4, none⟩ (.int .i64 y.last)).setCell ⟨w.heap.size + 2, 5, none⟩ (.string y.lab)).setCell ⟨w.heap.size + 2, 6, none⟩ (.slice (some ⟨g, 0, none⟩) y.hs.length y.hc))).cell? ⟨w.heap.size, 0, none⟩ = some (.int .i64 z) ∧ ((((((((W.setCell ⟨w.heap.size + 2, 0, none⟩ (.int .i64 y.gen)).setCell ⟨w.heap.size + 2, 1, none⟩ (.int .i64 y.ep)).setCell ⟨w.heap.size + 2, 2, none⟩ (.int .i64 y.pos)).setCell ⟨w.heap.size + 2, 3, none⟩ (.int .i64 y.seq)).setCell ⟨w.heap.size + 2, 4, none⟩ (.int .i64 y.last)).setCell ⟨w.heap.size + 2, 5, none⟩ (.string y.lab)).setCell ⟨w.heap.size + 2, 6, none⟩ (.slice (some ⟨g, 0, none⟩) y.hs.length y.hc))).cell? ⟨w.heap.size, 1, none⟩ = some (.int .i64 d) ∧ ((((((((W.setCell ⟨w.heap.size + 2, 0, none⟩ (.int .i64 y.gen)).setCell ⟨w.heap.size + 2, 1, none⟩ (.int .i64 y.ep)).setCell ⟨w.heap.size + 2, 2, none⟩ (.int .i64 y.pos)).setCell ⟨w.heap.size + 2, 3, none⟩ (.int .i64 y.seq)).setCell ⟨w.heap.size + 2, 4, none⟩ (.int .i64 y.last)).setCell ⟨w.heap.size + 2, 5, none⟩ (.string y.lab)).setCell ⟨w.heap.size + 2, 6, none⟩ (.slice (some ⟨g, 0, none⟩) y.hs.length y.hc))).cell? ⟨w.heap.size, 2, none⟩ = some (.int .i64 s) ∧ ((((((((W.setCell ⟨w.heap.size + 2, 0, none⟩ (.int .i64 y.gen)).setCell ⟨w.heap.size + 2, 1, none⟩ (.int .i64 y.ep)).setCell ⟨w.heap.size + 2, 2, none⟩ (.int .i64 y.pos)).setCell ⟨w.heap.size + 2, 3, none⟩ (.int .i64 y.seq)).setCell ⟨w.heap.size + 2, 4, none⟩ (.int .i64 y.last)).setCell ⟨w.heap.size + 2, 5, none⟩ (.string y.lab)).setCell ⟨w.heap.size + 2, 6, none⟩ (.slice (some ⟨g, 0, none⟩) y.hs.length y.hc))).cell? ⟨w.heap.size, 3, none⟩ = some (.int .i64 l) ∧ ((((((((W.setCell ⟨w.heap.size + 2, 0, none⟩ (.int .i64 y.gen)).setCell ⟨w.heap.size + 2, 1, none⟩ (.int .i64 y.ep)).setCell ⟨w.heap.size + 2, 2, none⟩ (.int .i64 y.pos)).setCell ⟨w.heap.size + 2, 3, none⟩ (.int .i64 y.seq)).setCell ⟨w.heap.size + 2, 4, none⟩ (.int .i64 y.last)).setCell ⟨w.heap.size + 2, 5, none⟩ (.string y.lab)).setCell ⟨w.heap.size + 2, 6, none⟩ (.slice (some ⟨g, 0, none⟩) y.hs.length y.hc))).cell? ⟨w.heap.size, 4, none⟩ = some (.int .i64 a) ∧ ((((((((W.setCell ⟨w.heap.size + 2, 0, none⟩ (.int .i64 y.gen)).setCell ⟨w.heap.size + 2, 1, none⟩ (.int .i64 y.ep)).setCell ⟨w.heap.size + 2, 2, none⟩ (.int .i64 y.pos)).setCell ⟨w.heap.size + 2, 3, none⟩ (.int .i64 y.seq)).setCell ⟨w.heap.size + 2, 4, none⟩ (.int .i64 y.last)).setCell ⟨w.heap.size + 2, 5, none⟩ (.string y.lab)).setCell ⟨w.heap.size + 2, 6, none⟩ (.slice (some ⟨g, 0, none⟩) y.hs.length y.hc))).cell? ⟨gY, 0, none⟩ = some (.int .i64 y.gen) ∧ ((((((((W.setCell ⟨w.heap.size + 2, 0, none⟩ (.int .i64 y.gen)).setCell ⟨w.heap.size + 2, 1, none⟩ (.int .i64 y.ep)).setCell ⟨w.heap.size + 2, 2, none⟩ (.int .i64 y.pos)).setCell ⟨w.heap.size + 2, 3, none⟩ (.int .i64 y.seq)).setCell ⟨w.heap.size + 2, 4, none⟩ (.int .i64 y.last)).setCell ⟨w.heap.size + 2, 5, none⟩ (.string y.lab)).setCell ⟨w.heap.size + 2, 6, none⟩ (.slice (some ⟨g, 0, none⟩) y.hs.length y.hc))).cell? ⟨gY, 1, none⟩ = some (.int .i64 y.ep) ∧ ((((((((W.setCell ⟨w.heap.size + 2, 0, none⟩ (.int .i64 y.gen)).setCell ⟨w.heap.size + 2, 1, none⟩ (.int .i64 y.ep)).setCell ⟨w.heap.size + 2, 2, none⟩ (.int .i64 y.pos)).setCell ⟨w.heap.size + 2, 3, none⟩ (.int .i64 y.seq)).setCell ⟨w.heap.size + 2, 4, none⟩ (.int .i64 y.last)).setCell ⟨w.heap.size + 2, 5, none⟩ (.string y.lab)).setCell ⟨w.heap.size + 2, 6, none⟩ (.slice (some ⟨g, 0, none⟩) y.hs.length y.hc))).cell? ⟨gY, 2, none⟩ = some (.int .i64 y.pos) ∧ ((((((((W.setCell ⟨w.heap.size + 2, 0, none⟩ (.int .i64 y.gen)).setCell ⟨w.heap.size + 2, 1, none⟩ (.int .i64 y.ep)).setCell ⟨w.heap.size + 2, 2, none⟩ (.int .i64 y.pos)).setCell ⟨w.heap.size + 2, 3, none⟩ (.int .i64 y.seq)).setCell ⟨w.heap.size + 2, 4, none⟩ (.int .i64 y.last)).setCell ⟨w.heap.size + 2, 5, none⟩ (.string y.lab)).setCell ⟨w.heap.size + 2, 6, none⟩ (.slice (some ⟨g, 0, none⟩) y.hs.length y.hc))).cell? ⟨gY, 3, none⟩ = some (.int .i64 y.seq) ∧ ((((((((W.setCell ⟨w.heap.size + 2, 0, none⟩ (.int .i64 y.gen)).setCell ⟨w.heap.size + 2, 1, none⟩ (.int .i64 y.ep)).setCell ⟨w.heap.size + 2, 2, none⟩ (.int .i64 y.pos)).setCell ⟨w.heap.size + 2, 3, none⟩ (.int .i64 y.seq)).setCell ⟨w.heap.size + 2, 4, none⟩ (.int .i64 y.last)).setCell ⟨w.heap.size + 2, 5, none⟩ (.string y.lab)).setCell ⟨w.heap.size + 2, 6, none⟩ (.slice (some ⟨g, 0, none⟩) y.hs.length y.hc))).cell? ⟨gY, 4, none⟩ = some (.int .i64 y.last) ∧ ((((((((W.setCell ⟨w.heap.size + 2, 0, none⟩ (.int .i64 y.gen)).setCell ⟨w.heap.size + 2, 1, none⟩ (.int .i64 y.ep)).setCell ⟨w.heap.size + 2, 2, none⟩ (.int .i64 y.pos)).setCell ⟨w.heap.size + 2, 3, none⟩ (.int .i64 y.seq)).setCell ⟨w.heap.size + 2, 4, none⟩ (.int .i64 y.last)).setCell ⟨w.heap.size + 2, 5, none⟩ (.string y.lab)).setCell ⟨w.heap.size + 2, 6, none⟩ (.slice (some ⟨g, 0, none⟩) y.hs.length y.hc))).cell? ⟨gY, 5, none⟩ = some (.string y.lab) ∧ ((((((((W.setCell ⟨w.heap.size + 2, 0, none⟩ (.int .i64 y.gen)).setCell ⟨w.heap.size + 2, 1, none⟩ (.int .i64 y.ep)).setCell ⟨w.heap.size + 2, 2, none⟩ (.int .i64 y.pos)).setCell ⟨w.heap.size + 2, 3, none⟩ (.int .i64 y.seq)).setCell ⟨w.heap.size + 2, 4, none⟩ (.int .i64 y.last)).setCell ⟨w.heap.size + 2, 5, none⟩ (.string y.lab)).setCell ⟨w.heap.size + 2, 6, none⟩ (.slice (some ⟨g, 0, none⟩) y.hs.length y.hc))).cell? ⟨gY, 6, none⟩ = some (.slice (some ⟨g, 0, none⟩) y.hs.length y.hc) ∧ Below (w.heap.size + 2) w7 ((((((((W.setCell ⟨w.heap.size + 2, 0, none⟩ (.int .i64 y.gen)).setCell ⟨w.heap.size + 2, 1, none⟩ (.int .i64 y.ep)).setCell ⟨w.heap.size + 2, 2, none⟩ (.int .i64 y.pos)).setCell ⟨w.heap.size + 2, 3, none⟩ (.int .i64 y.seq)).setCell ⟨w.heap.size + 2, 4, none⟩ (.int .i64 y.last)).setCell ⟨w.heap.size + 2, 5, none⟩ (.string y.lab)).setCell ⟨w.heap.size + 2, 6, none⟩ (.slice (some ⟨g, 0, none⟩) y.hs.length y.hc))) from fun W h => by
    obtain ⟨g0, g1, g2, g3, g4⟩ := (((((((G7.keep h (by omega)).set (show w.heap.size ≠ w.heap.size + 2 by omega) (o := 0) (.int .i64 y.gen)).set (show w.heap.size ≠ w.heap.size + 2 by omega) (o := 1) (.int .i64 y.ep)).set (show w.heap.size ≠ w.heap.size + 2 by omega) (o := 2) (.int .i64 y.pos)).set (show w.heap.size ≠ w.heap.size + 2 by omega) (o := 3) (.int .i64 y.seq)).set (show w.heap.size ≠ w.heap.size + 2 by omega) (o := 4) (.int .i64 y.last)).set (show w.heap.size ≠ w.heap.size + 2 by omega) (o := 5) (.string y.lab)).set (show w.heap.size ≠ w.heap.size + 2 by omega) (o := 6) (.slice (some ⟨g, 0, none⟩) y.hs.length y.hc)
    obtain ⟨y0, y1, y2, y3, y4, y5, y6, -, -, -, -, -, -, -⟩ := sev_off (PY7.keep h (by omega)) (show gY ≠ w.heap.size + 2 by omega) (.int .i64 y.gen) (.int .i64 y.ep) (.int .i64 y.pos) (.int .i64 y.seq) (.int .i64 y.last) (.string y.lab) (.slice (some ⟨g, 0, none⟩) y.hs.length y.hc)
    exact ⟨g0, g1, g2, g3, g4, y0, y1, y2, y3, y4, y5, y6, below_7 (h.mono (by omega)) (Nat.le_refl _)⟩)
  obtain ⟨z0, z1, z2, z3, z4, z5, z6, f0, f1, f2, f3, f4, f5, f6⟩ := id P7
  have HUV := Lib.hid huv
  have HUD := Lib.hid hud
  clear hu hud huv huo HD yo6 HGA HGA2 HRJ HNR HAD HI HIL HNX
  refine wp_region_held_drew (S := fun W => W.cell? ⟨w.heap.size, 0, none⟩ = some (.int .i64 z) ∧ W.cell? ⟨w.heap.size, 1, none⟩ = some (.int .i64 d) ∧ W.cell? ⟨w.heap.size, 2, none⟩ = some (.int .i64 s) ∧ W.cell? ⟨w.heap.size, 3, none⟩ = some (.int .i64 l) ∧ W.cell? ⟨w.heap.size, 4, none⟩ = some (.int .i64 a) ∧ W.cell? ⟨gY, 0, none⟩ = some (.int .i64 y.gen) ∧ W.cell? ⟨gY, 1, none⟩ = some (.int .i64 y.ep) ∧ W.cell? ⟨gY, 2, none⟩ = some (.int .i64 y.pos) ∧ W.cell? ⟨gY, 3, none⟩ = some (.int .i64 y.seq) ∧ W.cell? ⟨gY, 4, none⟩ = some (.int .i64 y.last) ∧ W.cell? ⟨gY, 5, none⟩ = some (.string y.lab) ∧ W.cell? ⟨gY, 6, none⟩ = some (.slice (some ⟨g, 0, none⟩) y.hs.length y.hc) ∧ Below (w.heap.size + 2) w7 W) (by kernel_rfl) (HFA.out _ (below_dr (Below.refl _ _))) (fun hS => ?_)
  (refine wpAnyH_take (i := 0) (v := ?_) rfl (by kernel_rfl) (by kernel_rfl) (by kernel_rfl) (fun _ _ _ h => h) (Or.inl ⟨by rfl, ?_⟩) (by assumption) ?_; rotate_left; (focus (intro w hSw; (try dsimp only at hSw); go_split_ands; go_simp <;> with_reducible rfl)); simp only [List.getElem_toArray, List.getElem_cons_zero, Act.put, List.setIfInBounds_toArray, List.set_cons_zero, List.set_cons_succ])
  (refine wpAnyH_take (i := 1) (v := ?_) rfl (by kernel_rfl) (by kernel_rfl) (by kernel_rfl) (fun _ _ _ h => h) (Or.inl ⟨by rfl, ?_⟩) (by assumption) ?_; rotate_left; (focus (intro w hSw; (try dsimp only at hSw); go_split_ands; go_simp <;> with_reducible rfl)); simp only [List.getElem_toArray, List.getElem_cons_zero, List.getElem_cons_succ, Act.put, List.setIfInBounds_toArray, List.set_cons_zero, List.set_cons_succ])
  (refine wpAnyH_take (i := 2) (v := ?_) rfl (by kernel_rfl) (by kernel_rfl) (by kernel_rfl) (fun _ _ _ h => h) (Or.inl ⟨by rfl, ?_⟩) (by assumption) ?_; rotate_left; (focus (intro w hSw; (try dsimp only at hSw); go_split_ands; go_simp <;> with_reducible rfl)); simp only [List.getElem_toArray, List.getElem_cons_zero, List.getElem_cons_succ, Act.put, List.setIfInBounds_toArray, List.set_cons_zero, List.set_cons_succ])
  (refine wpAnyH_take (i := 3) (v := ?_) rfl (by kernel_rfl) (by kernel_rfl) (by kernel_rfl) (fun _ _ _ h => h) (Or.inl ⟨by rfl, ?_⟩) (by assumption) ?_; rotate_left; (focus (intro w hSw; (try dsimp only at hSw); go_split_ands; go_simp <;> with_reducible rfl)); simp only [List.getElem_toArray, List.getElem_cons_zero, List.getElem_cons_succ, Act.put, List.setIfInBounds_toArray, List.set_cons_zero, List.set_cons_succ])
  (refine wpAnyH_take (i := 4) (v := ?_) rfl (by kernel_rfl) (by kernel_rfl) (by kernel_rfl) (fun _ _ _ h => h) (Or.inl ⟨by rfl, ?_⟩) (by assumption) ?_; rotate_left; (focus (intro w hSw; (try dsimp only at hSw); go_split_ands; go_simp <;> with_reducible rfl)); simp only [List.getElem_toArray, List.getElem_cons_zero, List.getElem_cons_succ, Act.put, List.setIfInBounds_toArray, List.set_cons_zero, List.set_cons_succ])
  refine wpAnyH_ready (rs := [5]) (by kernel_rfl) (by simp) ?_
  refine AllReadyH.cons rfl (fun K hK => ?_) AllReadyH.nil
  clear z0 z1 z2 z3 z4 z5 z6 f0 f1 f2 f3 f4 f5 f6
  go_simp
  (with_reducible refine (HR1.out _ (HO1.out _ (below_dr (Below.refl _ _)))).mono ?_)
  rintro e w8 ⟨rfl, hbq⟩
  have hc := bt (below_dr (Below.refl w7.heap.size w7)) hbq
  have P8 := P7.keep hc (by omega)
  refine hK.out _ _ (HFA.out _ hc) (fun hS => ?_)
  clear hK K hbq
  obtain ⟨z0, z1, z2, z3, z4, z5, z6, f0, f1, f2, f3, f4, f5, f6⟩ := id P8
  refine wpAnyH_ready (rs := [6]) (by kernel_rfl) (by simp) ?_
  refine AllReadyH.cons rfl (fun K hK => ?_) AllReadyH.nil
  go_simp
  refine hK.out _ _ (HFB.out _ hc) (fun hS => ?_)
  clear hK K z0 z1 z2 z3 z4 z5 z6 f0 f1 f2 f3 f4 f5 f6
  (refine wpAnyH_take (i := 7) (v := ?_) rfl (by kernel_rfl) (by kernel_rfl) (by kernel_rfl) (fun _ _ _ h => h) (Or.inl ⟨by rfl, ?_⟩) (by assumption) ?_; rotate_left; (focus (intro w hSw; (try dsimp only at hSw); go_split_ands; go_simp <;> with_reducible rfl)); simp only [List.getElem_toArray, List.getElem_cons_zero, List.getElem_cons_succ, Act.put, List.setIfInBounds_toArray, List.set_cons_zero, List.set_cons_succ])
  refine wpAnyH_done (by kernel_rfl) ?_ _
  have k7 := sev_set P8 (.int .i64 y.gen) (.int .i64 y.ep) (.int .i64 y.pos) (.int .i64 y.seq) (.int .i64 y.last) (.string y.lab) (.slice (some ⟨g, 0, none⟩) y.hs.length y.hc)
  have hfo := Lib.hid (OwnH.less (own_off (HO1.out _ hc) hzz (.int .i64 y.gen) (.int .i64 y.ep) (.int .i64 y.pos) (.int .i64 y.seq) (.int .i64 y.last) (.string y.lab) (.slice (some ⟨g, 0, none⟩) y.hs.length y.hc)) (show w.heap.size ≤ w1.heap.size by omega))
  have hfb := below_7 (v0 := .int .i64 y.gen) (v1 := .int .i64 y.ep) (v2 := .int .i64 y.pos) (v3 := .int .i64 y.seq) (v4 := .int .i64 y.last) (v5 := .string y.lab) (v6 := .slice (some ⟨g, 0, none⟩) y.hs.length y.hc) (g := w.heap.size + 2) (bt hb7 hc) (by omega)
  generalize (((((((w8.setCell ⟨w.heap.size + 2, 0, none⟩ (.int .i64 y.gen)).setCell ⟨w.heap.size + 2, 1, none⟩ (.int .i64 y.ep)).setCell ⟨w.heap.size + 2, 2, none⟩ (.int .i64 y.pos)).setCell ⟨w.heap.size + 2, 3, none⟩ (.int .i64 y.seq)).setCell ⟨w.heap.size + 2, 4, none⟩ (.int .i64 y.last)).setCell ⟨w.heap.size + 2, 5, none⟩ (.string y.lab)).setCell ⟨w.heap.size + 2, 6, none⟩ (.slice (some ⟨g, 0, none⟩) y.hs.length y.hc)) = w9 at *
  go_wp2_with fail
  exact bodyPost_ret (v := .tuple #[.agg #[.int .i64 y.gen, .int .i64 y.ep, .int .i64 y.pos, .int .i64 y.seq, .int .i64 y.last, .string y.lab, .slice (some ⟨g, 0, none⟩) y.hs.length y.hc], .int .i64 (slotA z d s l a J r.nx)]) (by simp [results, Tryd.results19, go_sem, k7.c0, k7.c1, k7.c2, k7.c3, k7.c4, k7.c5, k7.c6]) rfl ⟨⟨u, by have h9 := HUV.out; unfold AV.v at h9; rw [h9], HUD.out, hfo.out⟩, hfb⟩
end Go.Proofs.YthbjfpgcinmjiaaDoor.plc
