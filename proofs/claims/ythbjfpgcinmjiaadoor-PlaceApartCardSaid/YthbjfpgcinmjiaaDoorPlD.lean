/-
  place.copyOf: an anchor like it, all of it one's own, walked. Conditions: rows shorter than 2^20; 'CloneOk'.
-/
import Derived.Test.YthbjfpgcinmjiaaDoorPlB
import Derived.Test.YthbjfpgcinmjiaaDoorTailT
import Derived.Test.YthbjfpgcinmjiaaDoorGLb
namespace Go.Proofs.YthbjfpgcinmjiaaDoor.plc
open Go.RowKit Go.Lib
open Go.Proofs.YthbjfpgcinmjiaaDoor.gmt (Ok five_new)
open Go.Proofs.YthbjfpgcinmjiaaDoor.anc
open Go.Proofs.YthbjfpgcinmjiaaDoor.lbl (ValidOk CloneOk Tabs)

theorem below_7 {B g : Nat} {a W : World} {v0 v1 v2 v3 v4 v5 v6 : Value} (h : Below B a W) (hg : B ≤ g) : Below B a (((((((W.setCell ⟨g, 0, none⟩ v0).setCell ⟨g, 1, none⟩ v1).setCell ⟨g, 2, none⟩ v2).setCell ⟨g, 3, none⟩ v3).setCell ⟨g, 4, none⟩ v4).setCell ⟨g, 5, none⟩ v5).setCell ⟨g, 6, none⟩ v6) := ((((((h.setCell hg _).setCell hg _).setCell hg _).setCell hg _).setCell hg _).setCell hg _).setCell hg _
theorem sclone_any (hC : CloneOk) (s : ByteArray) (w : World) (hs : s.size ≤ 281474976710656) :
    Calls Tryd.prog 40 #[.string s] w fun e w' => e = .returned (.string s) ∧ Below w.heap.size w w' := by
  go_enter Tryd.func40, Tryd.ntmps40
  go_wp2_with (go_at_call 50; refine (hC s _ hs).mono ?_; rintro e w' ⟨rfl, hb⟩)
  go_ret
  exact ⟨rfl, hb⟩
set_option maxRecDepth 100000 in
set_option maxHeartbeats 8000000 in
theorem copy_any (hC : CloneOk) (x : AV) (w : World) (hx : x.In w w.heap.size) (hlab : x.lab.size ≤ 4294967296) (hn : x.hs.length ≤ 1048576) (ht : HShort 1048576 x.hs) :
    Calls Tryd.prog 28 #[x.v] w fun e w' => (∃ y : AV, e = .returned y.v ∧ y.d = x.d ∧ y.Own w' w.heap.size ∧ Parted y.hs) ∧ Below w.heap.size w w' := by
  obtain ⟨n, hln⟩ : ∃ n, x.hs.length = n := ⟨_, rfl⟩
  have HX := Lib.hid hx
  have HL := Lib.hid hln
  unfold AV.v
  rw [hln]
  have cL : ∀ W, Calls Tryd.prog 40 #[.string x.lab] W fun e w' => e = .returned (.string x.lab) ∧ Below W.heap.size W w' := fun W => sclone_any hC x.lab W (by omega)
  have P := (sev_new w (.int .i64 x.gen) (.int .i64 x.ep) (.int .i64 x.pos) (.int .i64 x.seq) (.int .i64 x.last) (.string x.lab) (.slice x.HA n x.hc) 26).keep (bl (w.alloc (.cells #[.int .i64 x.gen, .int .i64 x.ep, .int .i64 x.pos, .int .i64 x.seq, .int .i64 x.last, .string x.lab, .slice x.HA n x.hc] 26)) (.cells #[.int .i64 0, .int .i64 0, .int .i64 0, .int .i64 0, .int .i64 0, .string ⟨#[]⟩, .slice none 0 0] 26)) (by simp)
  have Q := sev_new (w.alloc (.cells #[.int .i64 x.gen, .int .i64 x.ep, .int .i64 x.pos, .int .i64 x.seq, .int .i64 x.last, .string x.lab, .slice x.HA n x.hc] 26)) (.int .i64 0) (.int .i64 0) (.int .i64 0) (.int .i64 0) (.int .i64 0) (.string ⟨#[]⟩) (.slice none 0 0) 26
  have B0 := kal (bl w (.cells #[.int .i64 x.gen, .int .i64 x.ep, .int .i64 x.pos, .int .i64 x.seq, .int .i64 x.last, .string x.lab, .slice x.HA n x.hc] 26)) (.cells #[.int .i64 0, .int .i64 0, .int .i64 0, .int .i64 0, .int .i64 0, .string ⟨#[]⟩, .slice none 0 0] 26)
  rw [show (w.alloc (.cells #[.int .i64 x.gen, .int .i64 x.ep, .int .i64 x.pos, .int .i64 x.seq, .int .i64 x.last, .string x.lab, .slice x.HA n x.hc] 26)).heap.size = w.heap.size + 1 by simp] at Q
  have l2 : w.heap.size + 2 ≤ ((w.alloc (.cells #[.int .i64 x.gen, .int .i64 x.ep, .int .i64 x.pos, .int .i64 x.seq, .int .i64 x.last, .string x.lab, .slice x.HA n x.hc] 26)).alloc (.cells #[.int .i64 0, .int .i64 0, .int .i64 0, .int .i64 0, .int .i64 0, .string ⟨#[]⟩, .slice none 0 0] 26)).heap.size := by simp
  clear hx hlab
  go_enter Tryd.func28, Tryd.ntmps28
  go_upto_region 1 with fail
  generalize (w.alloc (.cells #[.int .i64 x.gen, .int .i64 x.ep, .int .i64 x.pos, .int .i64 x.seq, .int .i64 x.last, .string x.lab, .slice x.HA n x.hc] 26)).alloc (.cells #[.int .i64 0, .int .i64 0, .int .i64 0, .int .i64 0, .int .i64 0, .string ⟨#[]⟩, .slice none 0 0] 26) = w2 at *
  obtain ⟨c0, c1, c2, c3, c4, c5, c6, f0, f1, f2, f3, f4, f5, f6⟩ := id P
  go_upto_region 2 with (go_at_call 40; (with_reducible refine (cL _).mono ?_); rintro e w3 ⟨rfl, hb3⟩; replace P := P.keep hb3 (by omega); clear c0 c1 c2 c3 c4 c5 c6 f0 f1 f2 f3 f4 f5 f6; obtain ⟨c0, c1, c2, c3, c4, c5, c6, f0, f1, f2, f3, f4, f5, f6⟩ := id P)
  have hz3 := hb3.size
  have P4 := P.set5 (.string x.lab)
  have Q4 := (Q.keep hb3 (by omega)).apart (show w.heap.size + 1 ≠ w.heap.size by omega) (o := 5) (.string x.lab)
  have B4 := (bt B0 hb3).setCell (p := ⟨w.heap.size, 5, none⟩) (Nat.le_refl _) (.string x.lab)
  have l4 : w.heap.size + 2 ≤ (w3.setCell ⟨w.heap.size, 5, none⟩ (.string x.lab)).heap.size := by simp; omega
  clear c0 c1 c2 c3 c4 c5 c6 f0 f1 f2 f3 f4 f5 f6 P Q B0 l2 hz3 hb3 cL
  generalize w3.setCell ⟨w.heap.size, 5, none⟩ (.string x.lab) = w4 at *
  have HXW := HX.out.next B4
  have HCH := Lib.hid (show Calls Tryd.prog 41 #[.slice x.HA n x.hc] w4 fun e w' => RowH w4.heap.size n x.hs e w' ∧ Below w4.heap.size w4 w' from cloneH_any x.HA x.hc w4.heap.size n x.hs w4 hln HXW.hh (Nat.le_refl _) (by omega))
  clear HXW
  obtain ⟨c0, c1, c2, c3, c4, c5, c6, f0, f1, f2, f3, f4, f5, f6⟩ := id P4
  go_upto_region 3 with (go_at_call 41; (with_reducible refine HCH.out.mono ?_); rintro e w5 ⟨⟨A, c, rfl, hrow⟩, hb5⟩; replace P4 := P4.keep hb5 (by omega); clear c0 c1 c2 c3 c4 c5 c6 f0 f1 f2 f3 f4 f5 f6; obtain ⟨c0, c1, c2, c3, c4, c5, c6, f0, f1, f2, f3, f4, f5, f6⟩ := id P4)
  have hz5 := hb5.size
  have P6 := P4.set6 (.slice A n c)
  have Q6 := (Q4.keep hb5 (by omega)).apart (show w.heap.size + 1 ≠ w.heap.size by omega) (o := 6) (.slice A n c)
  have B6 := (bt B4 hb5).setCell (p := ⟨w.heap.size, 6, none⟩) (Nat.le_refl _) (.slice A n c)
  have hh6 := (HalfH.start HL.out hrow).cell_set (o := 6) (show w.heap.size < w4.heap.size by omega) (.slice A n c)
  have l6 : w4.heap.size ≤ (w5.setCell ⟨w.heap.size, 6, none⟩ (.slice A n c)).heap.size := by simp; omega
  obtain ⟨b, hb⟩ : ∃ b, b = w4.heap.size := ⟨_, rfl⟩
  rw [← hb] at hh6 l6
  have hB : w.heap.size + 2 ≤ b := by omega
  clear c0 c1 c2 c3 c4 c5 c6 f0 f1 f2 f3 f4 f5 f6 P4 Q4 B4 l4 hz5 hb5 HCH hrow hb
  generalize w5.setCell ⟨w.heap.size, 6, none⟩ (.slice A n c) = w6 at *
  have c6 := P6.c6
  go_upto_region 4 with fail
  go_loopw [15] (fun i w' => ∃ (k : Nat) (rs : List HomR), k ≤ n ∧ i = .int .i64 k ∧ rs.length = k ∧ Hid (hds rs = (hds x.hs).take k) ∧ HalfH w' b (.slice A n c) n rs (x.hs.drop k) ∧ Sev w' w.heap.size (.int .i64 x.gen) (.int .i64 x.ep) (.int .i64 x.pos) (.int .i64 x.seq) (.int .i64 x.last) (.string x.lab) (.slice A n c) ∧ Sev w' (w.heap.size + 1) (.int .i64 0) (.int .i64 0) (.int .i64 0) (.int .i64 0) (.int .i64 0) (.string ⟨#[]⟩) (.slice none 0 0) ∧ Below w.heap.size w w' ∧ b ≤ w'.heap.size) (fun i _ => n - (RowKit.intOf i).toNat)
  case atStart => exact ⟨0, [], by omega, rfl, rfl, rfl, hh6, P6, Q6, B6, by omega⟩
  case round =>
    clear P6 Q6 B6 l6 hh6 c6 w6
    rename_i wr
    obtain ⟨k, rs, hk, rfl, hlk, hrs, hown, P3, Q3, hbr, hl3⟩ := hrel
    by_cases hlt : k < n
    · have i1 : (k : Int) < (n : Int) := by omega
      have i2 : (0 : Int) ≤ (k : Int) := by omega
      obtain ⟨r, hr⟩ : ∃ r, x.hs[k]? = some r := ⟨_, List.getElem?_eq_getElem (by have := HL.out; omega)⟩
      have hdr : x.hs.drop k = r :: x.hs.drop (k + 1) := by
        obtain ⟨hkl, rfl⟩ := List.getElem?_eq_some_iff.1 hr
        exact List.drop_eq_getElem_cons hkl
      have HT : Hid (hds (rs ++ [r]) = (hds x.hs).take (k + 1)) := by
        show _ = _
        rw [take_next (hds_map_get hr), hds_append, hrs.out]
        rfl
      rw [hdr] at hown
      obtain ⟨g, rfl, hg1, hg2, hcap, r0, fr⟩ := hown.at
      rw [hlk] at r0 fr
      have i3 : (n : Int) ≤ (c : Int) := by omega
      have hm := List.mem_of_getElem? hr
      have HXW := HX.out.next hbr
      have hpin := HXW.hi r hm
      have cO : ∀ W, Below wr.heap.size wr W → Calls Tryd.prog 42 #[.slice r.A r.ps.length r.c] W fun e w' => OneI W.heap.size r.ps.length r.ps e w' ∧ Below W.heap.size W w' := fun W hW => cloneI_any r.A r.c W.heap.size r.ps.length r.ps W rfl (hpin.next hW).1 (Nat.le_refl _) (ht r hm)
      have p6 := P3.c6
      clear HXW hpin hm hdr hr
      go_wp2_with fail
      refine wp_region_tailT (S := fun W => W.cell? ⟨w.heap.size, 6, none⟩ = some (.slice (some ⟨g, 0, none⟩) n c) ∧ W.cell? ⟨g, k * 3, none⟩ = some (.slice r.A r.ps.length r.c) ∧ Below wr.heap.size wr W) 12 rfl (by kernel_rfl) (by kernel_rfl) ⟨p6, r0, below_dr (Below.refl _ _)⟩ (fun hS => ?_)
      simp only [List.take_succ_cons, List.take_zero]
      (refine wpAnyH_take (i := 0) (v := ?_) rfl (by kernel_rfl) (by kernel_rfl) (by kernel_rfl) (fun _ _ _ h => h) (Or.inl ⟨by rfl, ?_⟩) (by assumption) ?_; rotate_left; (focus (intro w hSw; (try dsimp only at hSw); go_split_ands; go_simp <;> with_reducible rfl)); simp only [List.getElem_toArray, List.getElem_cons_zero, Act.put, List.setIfInBounds_toArray, List.set_cons_zero, List.set_cons_succ])
      (refine wpAnyH_take (i := 1) (v := ?_) rfl (by kernel_rfl) (by kernel_rfl) (by kernel_rfl) (fun _ _ _ h => h) (Or.inl ⟨by rfl, ?_⟩) (by assumption) ?_; rotate_left; (focus (intro w hSw; (try dsimp only at hSw); go_split_ands; go_simp <;> with_reducible rfl)); simp only [List.getElem_toArray, List.getElem_cons_zero, List.getElem_cons_succ, Act.put, List.setIfInBounds_toArray, List.set_cons_zero, List.set_cons_succ])
      (refine wpAnyH_take (i := 2) (v := ?_) rfl (by kernel_rfl) (by kernel_rfl) (by kernel_rfl) (fun _ _ _ h => h) (Or.inl ⟨by rfl, ?_⟩) (by assumption) ?_; rotate_left; (focus (intro w hSw; (try dsimp only at hSw); go_split_ands; go_simp <;> with_reducible rfl)); simp only [List.getElem_toArray, List.getElem_cons_zero, List.getElem_cons_succ, Act.put, List.setIfInBounds_toArray, List.set_cons_zero, List.set_cons_succ])
      (refine wpAnyH_take (i := 3) (v := ?_) rfl (by kernel_rfl) (by kernel_rfl) (by kernel_rfl) (fun _ _ _ h => h) (Or.inl ⟨by rfl, ?_⟩) (by assumption) ?_; rotate_left; (focus (intro w hSw; (try dsimp only at hSw); go_split_ands; go_simp <;> with_reducible rfl)); simp only [List.getElem_toArray, List.getElem_cons_zero, List.getElem_cons_succ, Act.put, List.setIfInBounds_toArray, List.set_cons_zero, List.set_cons_succ])
      (refine wpAnyH_take (i := 4) (v := ?_) rfl (by kernel_rfl) (by kernel_rfl) (by kernel_rfl) (fun _ _ _ h => h) (Or.inl ⟨by rfl, ?_⟩) (by assumption) ?_; rotate_left; (focus (intro w hSw; (try dsimp only at hSw); go_split_ands; go_simp <;> with_reducible rfl)); simp only [List.getElem_toArray, List.getElem_cons_zero, List.getElem_cons_succ, Act.put, List.setIfInBounds_toArray, List.set_cons_zero, List.set_cons_succ])
      (refine wpAnyH_take (i := 5) (v := ?_) rfl (by kernel_rfl) (by kernel_rfl) (by kernel_rfl) (fun _ _ _ h => h) (Or.inl ⟨by rfl, ?_⟩) (by assumption) ?_; rotate_left; (focus (intro w hSw; (try dsimp only at hSw); go_split_ands; go_simp <;> with_reducible rfl)); simp only [List.getElem_toArray, List.getElem_cons_zero, List.getElem_cons_succ, Act.put, List.setIfInBounds_toArray, List.set_cons_zero, List.set_cons_succ])
      (refine wpAnyH_take (i := 6) (v := ?_) rfl (by kernel_rfl) (by kernel_rfl) (by kernel_rfl) (fun _ _ _ h => h) (Or.inl ⟨by rfl, ?_⟩) (by assumption) ?_; rotate_left; (focus (intro w hSw; (try dsimp only at hSw); go_split_ands; go_simp <;> with_reducible rfl)); simp only [List.getElem_toArray, List.getElem_cons_zero, List.getElem_cons_succ, Act.put, List.setIfInBounds_toArray, List.set_cons_zero, List.set_cons_succ])
      (refine wpAnyH_take (i := 7) (v := ?_) rfl (by kernel_rfl) (by kernel_rfl) (by kernel_rfl) (fun _ _ _ h => h) (Or.inl ⟨by rfl, ?_⟩) (by assumption) ?_; rotate_left; (focus (intro w hSw; (try dsimp only at hSw); go_split_ands; go_simp <;> with_reducible rfl)); simp only [List.getElem_toArray, List.getElem_cons_zero, List.getElem_cons_succ, Act.put, List.setIfInBounds_toArray, List.set_cons_zero, List.set_cons_succ])
      (refine wpAnyH_take (i := 8) (v := ?_) rfl (by kernel_rfl) (by kernel_rfl) (by kernel_rfl) (fun _ _ _ h => h) (Or.inl ⟨by rfl, ?_⟩) (by assumption) ?_; rotate_left; (focus (intro w hSw; (try dsimp only at hSw); go_split_ands; go_simp <;> with_reducible rfl)); simp only [List.getElem_toArray, List.getElem_cons_zero, List.getElem_cons_succ, Act.put, List.setIfInBounds_toArray, List.set_cons_zero, List.set_cons_succ])
      refine wpAnyH_ready (rs := [9]) (by kernel_rfl) (by simp) ?_
      refine AllReadyH.cons rfl (fun K hK => ?_) AllReadyH.nil
      go_simp
      (with_reducible refine (cO _ (below_dr (Below.refl _ _))).mono ?_)
      rintro e wo ⟨⟨Xo, co, rfl, -, oo⟩, hbo⟩
      have so : Below wr.heap.size wr wo := bt (below_dr (Below.refl _ _)) hbo
      refine hK.out _ _ ⟨ks so (by omega) p6, ks so (by omega) r0, so⟩ (fun hS => ?_)
      clear hK K
      (refine wpAnyH_take (i := 10) (v := ?_) rfl (by kernel_rfl) (by kernel_rfl) (by kernel_rfl) (fun _ _ _ h => h) (Or.inl ⟨by rfl, ?_⟩) (by assumption) ?_; rotate_left; (focus (intro w hSw; (try dsimp only at hSw); go_split_ands; go_simp <;> with_reducible rfl)); simp only [List.getElem_toArray, List.getElem_cons_zero, List.getElem_cons_succ, Act.put, List.setIfInBounds_toArray, List.set_cons_zero, List.set_cons_succ])
      (refine wpAnyH_take (i := 11) (v := ?_) rfl (by kernel_rfl) (by kernel_rfl) (by kernel_rfl) (fun _ _ _ h => h) (Or.inl ⟨by rfl, ?_⟩) (by assumption) ?_; rotate_left; (focus (intro w hSw; (try dsimp only at hSw); go_split_ands; go_simp <;> with_reducible rfl)); simp only [List.getElem_toArray, List.getElem_cons_zero, List.getElem_cons_succ, Act.put, List.setIfInBounds_toArray, List.set_cons_zero, List.set_cons_succ])
      refine wpAnyH_done (by kernel_rfl) ?_ _
      have hso := so.size
      have r0o := ks so hg2 r0
      have fro := (so.frozen (p := ⟨g, k * 3, none⟩) hg2).trans fr
      have hst := hown.step so (by omega) wr.heap.size (Nat.le_refl _) oo
      rw [hlk] at hst
      have P4 := (P3.keep so (by omega)).apart (show w.heap.size ≠ g by omega) (o := k * 3) (.slice Xo r.ps.length co)
      have Q4 := (Q3.keep so (by omega)).apart (show w.heap.size + 1 ≠ g by omega) (o := k * 3) (.slice Xo r.ps.length co)
      have hbf : Below w.heap.size w (wo.setCell ⟨g, k * 3, none⟩ (.slice Xo r.ps.length co)) := (bt hbr so).setCell (by show w.heap.size ≤ g; omega) _
      have HST := Lib.hid hst
      have HP4 := Lib.hid P4
      have HQ4 := Lib.hid Q4
      have HBF := Lib.hid hbf
      have HHT : Hid (hds (rs ++ [{ r with A := Xo, c := co }]) = (hds x.hs).take (k + 1)) := by
        show _ = _
        rw [← HT.out, hds_append, hds_append]
        rfl
      clear hst P4 Q4 hbf P3 Q3 hown hbr so
      simp only [tailQ]
      go_simp
      go_wp2
      go_roundw
      case rel => exact ⟨k + 1, _, by omega, by go_num, by simp; omega, HHT, HST.out, HP4.out, HQ4.out, HBF.out, by simp; omega⟩
      case measure => simp [RowKit.intOf]; omega
    · obtain rfl : k = n := by omega
      have i1 : ¬ (k : Int) < (k : Int) := by omega
      have hd0 : x.hs.drop k = [] := List.drop_eq_nil_of_le (by have := HL.out; omega)
      rw [hd0] at hown
      obtain ⟨hO, hPar⟩ := hown.whole
      obtain ⟨c0, c1, c2, c3, c4, c5, c6, f0, f1, f2, f3, f4, f5, f6⟩ := id P3
      obtain ⟨z0, z1, z2, z3, z4, z5, z6, e0, e1, e2, e3, e4, e5, e6⟩ := id Q3
      have HRS : Hid (hds rs = hds x.hs) := by
        show _ = _
        rw [hrs.out, List.take_of_length_le (by rw [hds_length]; have := HL.out; omega)]
      have HO := Lib.hid hO
      clear hown hO hrs P3
      go_wp2_with fail
      have k7 := (((((((Q3.set0 (.int .i64 x.gen)).set1 (.int .i64 x.ep)).set2 (.int .i64 x.pos)).set3 (.int .i64 x.seq)).set4 (.int .i64 x.last)).set5 (.string x.lab)).set6 (.slice A k c))
      have hO7 := (((((((HO.out.less (Nat.le_refl b)).cell_set (o := 0) (show w.heap.size + 1 < b by omega) (.int .i64 x.gen)).cell_set (o := 1) (show w.heap.size + 1 < b by omega) (.int .i64 x.ep)).cell_set (o := 2) (show w.heap.size + 1 < b by omega) (.int .i64 x.pos)).cell_set (o := 3) (show w.heap.size + 1 < b by omega) (.int .i64 x.seq)).cell_set (o := 4) (show w.heap.size + 1 < b by omega) (.int .i64 x.last)).cell_set (o := 5) (show w.heap.size + 1 < b by omega) (.string x.lab)).cell_set (o := 6) (show w.heap.size + 1 < b by omega) (.slice A k c)
      exact bodyPost_ret (v := .agg #[.int .i64 x.gen, .int .i64 x.ep, .int .i64 x.pos, .int .i64 x.seq, .int .i64 x.last, .string x.lab, .slice A k c]) (by simp [results, Tryd.results28, go_sem, k7.c0, k7.c1, k7.c2, k7.c3, k7.c4, k7.c5, k7.c6]) rfl ⟨⟨⟨x.gen, x.ep, x.pos, x.seq, x.last, x.lab, A, c, rs⟩, by show Ending.returned (.agg #[.int .i64 x.gen, .int .i64 x.ep, .int .i64 x.pos, .int .i64 x.seq, .int .i64 x.last, .string x.lab, .slice A k c]) = Ending.returned (.agg #[.int .i64 x.gen, .int .i64 x.ep, .int .i64 x.pos, .int .i64 x.seq, .int .i64 x.last, .string x.lab, .slice A rs.length c]); rw [hlk], by show (⟨x.gen, x.ep, x.pos, x.seq, x.last, x.lab, hds rs⟩ : Anc) = ⟨x.gen, x.ep, x.pos, x.seq, x.last, x.lab, hds x.hs⟩; rw [HRS.out], (hO7.less (by omega)), hPar⟩, below_7 hbr (by omega)⟩
end Go.Proofs.YthbjfpgcinmjiaaDoor.plc
