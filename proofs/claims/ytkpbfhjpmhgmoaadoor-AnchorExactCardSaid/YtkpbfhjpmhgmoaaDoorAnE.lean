/-
  anchor.firstHome, First: a new home, a new anchor. Each by its contract. Conditions: what label.Check answers is given; a label shorter than 2^47 bytes.
-/
import Derived.Test.YtkpbfhjpmhgmoaaDoorAnD
import Derived.Test.YtkpbfhjpmhgmoaaDoorAnF
import Derived.Test.YtkpbfhjpmhgmoaaDoorGLb
namespace Go.Proofs.YtkpbfhjpmhgmoaaDoor.anc
open Go.RowKit Go.Lib
open Go.Proofs.YtkpbfhjpmhgmoaaDoor.gmt (Ok five_new check_ok check_no)

theorem Tri.apart {W : World} {g : Nat} {a0 a1 a2 : Value} (h : Tri W g a0 a1 a2) {g' o : Nat} (hne : g ≠ g') (v : Value) : Tri (W.setCell ⟨g', o, none⟩ v) g a0 a1 a2 := by
  have hn : ∀ i, (⟨g, i, none⟩ : Addr) ≠ ⟨g', o, none⟩ := fun i h => hne (congrArg Addr.block h)
  refine ⟨?_, ?_, ?_, ?_, ?_, ?_⟩
  · rw [World.cell?_setCell_other _ _ _ _ (hn _).symm]; exact h.c0
  · rw [World.cell?_setCell_other _ _ _ _ (hn _).symm]; exact h.c1
  · rw [World.cell?_setCell_other _ _ _ _ (hn _).symm]; exact h.c2
  · rw [World.frozen?_setCell]; exact h.f0
  · rw [World.frozen?_setCell]; exact h.f1
  · rw [World.frozen?_setCell]; exact h.f2
/-- What firstHome answers. -/
def FirstH (base D : Nat) (e : Ending) (w' : World) : Prop := ∃ A c, e = .returned (.agg #[.slice A (D + 1) c, .int .i64 ((D : Int) + 1), .int .i64 0]) ∧ OwnV w' base 3 (.slice A (D + 1) c) (ints (upto (D + 1)))
set_option maxRecDepth 100000 in
set_option maxHeartbeats 4000000 in
theorem firstHome_at (Z D : Nat) (s l a : Int) (w : World) (ho : Ok Z D s l a) :
    Calls Tryd.prog 31 #[.agg #[.int .i64 Z, .int .i64 D, .int .i64 s, .int .i64 l, .int .i64 a]] w fun e w' => FirstH w.heap.size D e w' ∧ Below w.heap.size w w' := by
  have cP := fun W => placeCount_at Z D s l a W ho
  obtain ⟨o1, o2, -, -, -⟩ := ho
  have GG := g5_new w Z D s l a
  have B0 := bl w (.cells #[.int .i64 Z, .int .i64 D, .int .i64 s, .int .i64 l, .int .i64 a] 23)
  have L0 : (w.alloc (.cells #[.int .i64 Z, .int .i64 D, .int .i64 s, .int .i64 l, .int .i64 a] 23)).heap.size = w.heap.size + 1 := by simp
  have GG1 := GG.keep (bl (w.alloc (.cells #[.int .i64 Z, .int .i64 D, .int .i64 s, .int .i64 l, .int .i64 a] 23)) (.cells #[.slice none 0 0, .int .i64 0, .int .i64 0] 54)) (by omega)
  have Q0 := tri_new (w.alloc (.cells #[.int .i64 Z, .int .i64 D, .int .i64 s, .int .i64 l, .int .i64 a] 23)) (.slice none 0 0) (.int .i64 0) (.int .i64 0) 54
  have B1 := kal B0 (.cells #[.slice none 0 0, .int .i64 0, .int .i64 0] 54)
  have L1 : ((w.alloc (.cells #[.int .i64 Z, .int .i64 D, .int .i64 s, .int .i64 l, .int .i64 a] 23)).alloc (.cells #[.slice none 0 0, .int .i64 0, .int .i64 0] 54)).heap.size = w.heap.size + 2 := by simp
  rw [L0] at Q0
  clear GG B0 L0
  go_enter Tryd.func31, Tryd.ntmps31
  go_upto_region 1 with fail
  generalize (w.alloc (.cells #[.int .i64 Z, .int .i64 D, .int .i64 s, .int .i64 l, .int .i64 a] 23)).alloc (.cells #[.slice none 0 0, .int .i64 0, .int .i64 0] 54) = w1 at *
  obtain ⟨g0, g1, g2, g3, g4⟩ := id GG1
  go_upto_region 2 with (go_at_call 51; (with_reducible refine (cP _).mono ?_); rintro e w2 ⟨rfl, hb2⟩)
  have hx := bl w2 (.cells #[.slice none 0 0, .int .i64 ((D : Int) + 1), .int .i64 0] 54)
  have T0 := tri_new w2 (.slice none 0 0) (.int .i64 ((D : Int) + 1)) (.int .i64 0) 54
  have L3 : (w2.alloc (.cells #[.slice none 0 0, .int .i64 ((D : Int) + 1), .int .i64 0] 54)).heap.size = w2.heap.size + 1 := by simp
  have L2 := hb2.size
  have GG3 := (GG1.keep hb2 (by omega)).keep hx (by omega)
  have Q3 := (Q0.keep hb2 (by omega)).keep hx (by omega)
  have B3 := bt (bt B1 hb2) hx
  clear g0 g1 g2 g3 g4 GG1 Q0 hb2 B1 hx
  generalize w2.alloc (.cells #[.slice none 0 0, .int .i64 ((D : Int) + 1), .int .i64 0] 54) = w3 at *
  obtain ⟨g0, g1, g2, g3, g4⟩ := id GG3
  go_wp2_with (go_at_call 51; (with_reducible refine (cP _).mono ?_); rintro e w4 ⟨rfl, hb4⟩)
  replace T0 := T0.keep hb4 (by omega)
  replace Q3 := Q3.keep hb4 (by omega)
  replace B3 := bt B3 hb4
  have L4 := hb4.size
  obtain ⟨h, hh⟩ : ∃ h, h = w2.heap.size := ⟨_, rfl⟩
  rw [← hh] at T0 ⊢
  have lh : w.heap.size + 2 ≤ h := by omega
  have lw4 : h + 1 ≤ w4.heap.size := by omega
  clear g0 g1 g2 g3 g4 GG3 hb4 cP L1 L2 L3 L4 hh
  go_loopw [10] (fun i w' => ∃ (q : Nat) (vq : Value), q ≤ D + 1 ∧ i = .int .i64 q ∧ OwnV w' (h + 1) 3 vq (ints (upto q)) ∧ Tri w' h vq (.int .i64 ((D : Int) + 1)) (.int .i64 0) ∧ Tri w' (w.heap.size + 1) (.slice none 0 0) (.int .i64 0) (.int .i64 0) ∧ Below w.heap.size w w' ∧ h + 1 ≤ w'.heap.size) (fun i _ => D + 1 - (RowKit.intOf i).toNat)
  case atStart => exact ⟨0, .slice none 0 0, by omega, rfl, ownV_nil _ _ _, T0, Q3, B3, by omega⟩
  case round =>
    clear T0 Q3 B3
    obtain ⟨w7, rfl⟩ : ∃ x, x = wr := ⟨wr, rfl⟩
    obtain ⟨q, vq, hq, rfl, hoq, T3, Q4, hbq, hlq⟩ := hrel
    by_cases hqt : q < D + 1
    · have j1 : (q : Int) < (D : Int) + 1 := by omega
      have n0 := T3.c0
      have hlu := ints_length (upto q)
      rw [upto_length] at hlu
      have HU := Lib.hid hlu
      clear hlu
      go_wp2_with (first
        | (at_builtin
           refine wpList_appV _ rfl (.tmp 14) (.tmp 16) _ _ rfl (h + 1) 3 tvI vq (ints (upto q)) rfl (hoq.alloc _) _ [.int .i64 (q : Int)] rfl ((SlV.of_block (vs := [.int .i64 (q : Int)]) (heap_alloc_new _ _) rfl (Nat.lt_succ_self _)).src (ints_one [(q : Int)]) Tryd.underlying52 1) (by rw [HU.out]; unfold maxLen; simp; omega) (by rw [HU.out]; simp; omega) (by simp; omega) ?_
           intro v2 w8 ho8 hg8 hat8
           rw [upto_next] at ho8
           have b8 : Below (h + 1) w7 w8 := ((Below.refl (h + 1) w7).alloc hlq _).grown hg8 (by simp; omega) (fun x hx => (World.ownsRow.lt hoq x hx).1)
           have T8 := T3.keep b8 (by omega)
           have Q8 := Q4.keep b8 (by omega)
           have c8 := T8.c0
           have f8 := T8.f0
           obtain ⟨A2, d2, hv2, -, -, -, -⟩ := ho8.form
           subst hv2))
      have hlv : (ints (upto (q + 1))).length = q + 1 := by rw [ints_length, upto_length]
      have hsz := b8.size
      have T9 := T8.set0 (.slice A2 (ints (upto (q + 1))).length d2)
      have Q9 := Q8.apart (g' := h) (o := 0) (by omega) (.slice A2 (ints (upto (q + 1))).length d2)
      have ho9 : OwnV (w8.setCell ⟨h, 0, none⟩ (.slice A2 (ints (upto (q + 1))).length d2)) (h + 1) 3 (.slice A2 (ints (upto (q + 1))).length d2) (ints (upto (q + 1))) :=
        ownsRow_setCell_other ho8 (fun hk => by have := (World.ownsRow.lt ho8 h hk).1; omega) _
      have b9 : Below w.heap.size w (w8.setCell ⟨h, 0, none⟩ (.slice A2 (ints (upto (q + 1))).length d2)) := (hbq.trans (b8.mono (by omega))).setCell (show w.heap.size ≤ h by omega) _
      have hl9 : h + 1 ≤ (w8.setCell ⟨h, 0, none⟩ (.slice A2 (ints (upto (q + 1))).length d2)).heap.size := by simp; omega
      clear T8 Q8 ho8 b8 hg8 hat8 n0 hlv
      go_wp2_with fail
      go_roundw
      case rel => exact ⟨q + 1, _, by omega, by go_num, ho9, T9, Q9, b9, hl9⟩
      case measure => simp [RowKit.intOf]; omega
    · have j1 : ¬ (q : Int) < (D : Int) + 1 := by omega
      obtain rfl : q = D + 1 := by omega
      obtain ⟨n0, n1, n2, -, -, -⟩ := id T3
      obtain ⟨z0, z1, z2, f0, f1, f2⟩ := id Q4
      obtain ⟨A2, d2, hv2, -, -, -, -⟩ := hoq.form
      have hlv : (ints (upto (D + 1))).length = D + 1 := by rw [ints_length, upto_length]
      rw [hlv] at hv2
      subst hv2
      clear hlv
      go_wp2_with fail
      have k7 := ((Q4.set0 (.slice A2 (D + 1) d2)).set1 (.int .i64 ((D : Int) + 1))).set2 (.int .i64 0)
      have hg : w.heap.size + 1 < h + 1 := by omega
      have h7 : ∀ (W : World) (o : Nat) (v : Value), OwnV W (h + 1) 3 (.slice A2 (D + 1) d2) (ints (upto (D + 1))) → OwnV (W.setCell ⟨w.heap.size + 1, o, none⟩ v) (h + 1) 3 (.slice A2 (D + 1) d2) (ints (upto (D + 1))) := fun W o v hW => ownsRow_setCell_other hW (fun hk => by have : h + 1 ≤ w.heap.size + 1 := (World.ownsRow.lt hW _ hk).1; omega) _
      have hl : w.heap.size ≤ w.heap.size + 1 := by omega
      exact bodyPost_ret (v := .agg #[.slice A2 (D + 1) d2, .int .i64 ((D : Int) + 1), .int .i64 0]) (by simp [results, Tryd.results31, go_sem, k7.c0, k7.c1, k7.c2]) rfl ⟨⟨A2, d2, rfl, OwnV.less (h7 _ _ _ (h7 _ _ _ (h7 _ _ _ hoq))) (by omega)⟩, ((hbq.setCell hl _).setCell hl _).setCell hl _⟩
end Go.Proofs.YtkpbfhjpmhgmoaaDoor.anc
