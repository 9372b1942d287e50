/-
  The document's own bytes of a record (RecBytes). Conditions: a right record.
  The document's own bytes of a record, as it lies (rbytes_c); its own cell of a record (RecCell). Conditions: a right record.
-/
import Derived.Test.YtbfdpibjicjagaaGreatDoorGRc
import Derived.Test.YtbfdpibjicjagaaGreatDoorGPk
import Derived.Test.YtbfdpibjicjagaaGreatDoorGSl
set_option maxHeartbeats 8000000
set_option maxRecDepth 100000
namespace Go.Proofs.YtbfdpibjicjagaaGreatDoor.lrc
open Go.RowKit Go.Lib
open Go.Proofs.YtbfdpibjicjagaaGreatDoor.gmt (Ok)
open Go.Proofs.YtbfdpibjicjagaaGreatDoor.anc (bl kal kst ks bm ka)
open Go.Proofs.YtbfdpibjicjagaaGreatDoor.tbl (C1 c1_new G5 g5_new)
open Go.Proofs.YtbfdpibjicjagaaGreatDoor.img
open Go.Proofs.YtbfdpibjicjagaaGreatDoor.pck (le le_length)
theorem own_q5 {w : World} {base q : Nat} {e : TypeId} {v : Value} {l : List UInt8} (h : Own w base e v l) (hq : l.length = q) : ∃ X c, v = .slice X q c ∧ Own w base e (.slice X q c) l := by
  obtain ⟨A, c, rfl, -⟩ := h.form
  rw [hq] at h ⊢
  exact ⟨A, c, rfl, h⟩
theorem src_two {W : World} {g : Nat} {t : TypeId} {fr : Nat × Nat} (a b : Nat) (ha : a < 256) (hb : b < 256) (hg : W.heap[g]? = some (.cells #[.int .u8 (a : Int), .int .u8 (b : Int)] t fr)) : Src Tryz.prog 1 49 (.slice (some ⟨g, 0, none⟩) 2 2) (le 1 a ++ le 1 b).length (cells8 (le 1 a ++ le 1 b)) W := by
  have hc : cells8 (le 1 a ++ le 1 b) = [.int .u8 (a : Int), .int .u8 (b : Int)] := by
    simp [cells8, pck.le_one, by8, Nat.mod_eq_of_lt ha, Nat.mod_eq_of_lt hb]
  rw [hc]
  refine Src.ofSlice W Tryz.underlying49 ⟨g, 0, none⟩ 2 2 [.int .u8 (a : Int), .int .u8 (b : Int)] rfl (fun j u hu => ?_) (by simp [Value.oneCell'])
  rw [Addr.add_lit, cell_of_row W g (0 + j) _ t _ hg, Nat.zero_add, ← Array.getElem?_toList]
  exact hu
theorem rbytes_main (K SQ EP PS NM : Nat) (z wh : Int) (A : Option Addr) (n c : Nat) (lb : List UInt8) (w : World) (hK : K < 3) (hSQ : SQ < 4294967296) (hEP : EP < 4294967296) (hPS : PS < 256) (hNM : NM < 256) (hz : 0 ≤ z ∧ z < 256) (hwh : wh = 255 ∨ (-1 ≤ wh ∧ wh ≤ 3)) (hn : lb.length = n) (hn2 : n ≤ 255) (hA : Sl w w.heap.size A lb) :
    Calls Tryz.prog 56 #[.agg #[.int .i64 K, .int .i64 SQ, .int .i64 EP, .int .i64 PS, .int .i64 NM, .int .i64 z, .int .i64 wh, .slice A n c]] w fun e w' => One w.heap.size (encR ⟨K, SQ, EP, PS, NM, z, wh, lb⟩) e w' ∧ Below w.heap.size w w' := by
  have XX := c8_new w (.int .i64 K) (.int .i64 SQ) (.int .i64 EP) (.int .i64 PS) (.int .i64 NM) (.int .i64 z) (.int .i64 wh) (.slice A n c) 83
  have hw := bl w (.cells #[.int .i64 K, .int .i64 SQ, .int .i64 EP, .int .i64 PS, .int .i64 NM, .int .i64 z, .int .i64 wh, .slice A n c] 83)
  have lx : w.heap.size < (w.alloc (.cells #[.int .i64 K, .int .i64 SQ, .int .i64 EP, .int .i64 PS, .int .i64 NM, .int .i64 z, .int .i64 wh, .slice A n c] 83)).heap.size := by simp
  have HA := Lib.hid (hA.next hw)
  have HN := Lib.hid hn
  clear hA hn
  go_enter Tryz.func56, Tryz.ntmps56
  go_upto_region 1 with fail
  generalize (w.alloc (.cells #[.int .i64 K, .int .i64 SQ, .int .i64 EP, .int .i64 PS, .int .i64 NM, .int .i64 z, .int .i64 wh, .slice A n c] 83)) = w0 at *
  have u1 : IntKind.u8.wrap (K : Int) = K := IntWalk.u8_in _ (by omega)
  have u2 : IntKind.u8.wrap (PS : Int) = PS := IntWalk.u8_in _ (by omega)
  have u3 : IntKind.u8.wrap (NM : Int) = NM := IntWalk.u8_in _ (by omega)
  have b1 := bl w0 (.cells #[.int .u8 (K : Int)] 5)
  have d1 : Below w0.heap.size w0 (w0.alloc (.cells #[.int .u8 (K : Int)] 5)).drew := bt b1 (below_dr (Below.refl _ _))
  have hs1 : Sl (w0.alloc (.cells #[.int .u8 (K : Int)] 5)).drew (w0.alloc (.cells #[.int .u8 (K : Int)] 5)).drew.heap.size (some ⟨w0.heap.size, 0, none⟩) (le 1 K) := (show Sl (w0.alloc (.cells #[.int .u8 (K : Int)] 5)) (w0.alloc (.cells #[.int .u8 (K : Int)] 5)).heap.size (some ⟨w0.heap.size, 0, none⟩) (le 1 K) from Sl.of_block (heap_alloc_new w0 _) (by simp [cells8, pck.le_one, by8, Nat.mod_eq_of_lt (show K < 256 by omega)]) (by simp)).next (below_dr (Below.refl _ _))
  have HP1 := Lib.hid (show Calls Tryz.prog 58 #[.slice (some ⟨w0.heap.size, 0, none⟩) 1 1, .int .i64 SQ, .int .i64 4] (w0.alloc (.cells #[.int .u8 (K : Int)] 5)).drew fun e w' => One (w0.alloc (.cells #[.int .u8 (K : Int)] 5)).drew.heap.size (le 1 K ++ le 4 SQ) e w' ∧ Below (w0.alloc (.cells #[.int .u8 (K : Int)] 5)).drew.heap.size (w0.alloc (.cells #[.int .u8 (K : Int)] 5)).drew w' from pck.ref_put 4 SQ 1 (some ⟨w0.heap.size, 0, none⟩) 1 (le 1 K) (w0.alloc (.cells #[.int .u8 (K : Int)] 5)).drew (by decide) hSQ (le_length 1 K) (by decide) hs1)
  have HP2 := Lib.hid (show ∀ (W : World) (X : Option Addr) (c : Nat), Sl W W.heap.size X (le 1 K ++ le 4 SQ) → Calls Tryz.prog 58 #[.slice X 5 c, .int .i64 EP, .int .i64 4] W fun e w' => One W.heap.size ((le 1 K ++ le 4 SQ) ++ le 4 EP) e w' ∧ Below W.heap.size W w' from fun W X c hs => pck.ref_put 4 EP 5 X c _ W (by decide) hEP (by simp [le_length]) (by decide) hs)
  have HF := Lib.hid (show ∀ W, Below w0.heap.size w0 W → (W.cell? ⟨w.heap.size, 0, none⟩ = some (.int .i64 K) ∧ W.cell? ⟨w.heap.size, 1, none⟩ = some (.int .i64 SQ) ∧ W.cell? ⟨w.heap.size, 2, none⟩ = some (.int .i64 EP)) ∧ Below w0.heap.size w0 W from fun W h => ⟨⟨kst h lx XX.c0, kst h lx XX.c1, kst h lx XX.c2⟩, h⟩)
  clear hs1
  go_region_held3 (fun W => (W.cell? ⟨w.heap.size, 0, none⟩ = some (.int .i64 K) ∧ W.cell? ⟨w.heap.size, 1, none⟩ = some (.int .i64 SQ) ∧ W.cell? ⟨w.heap.size, 2, none⟩ = some (.int .i64 EP)) ∧ Below w0.heap.size w0 W)
    ((refine HF.out _ ?_; first
      | with_reducible exact hb3
      | with_reducible exact hb2
      | with_reducible exact d1
      | with_reducible exact below_dr b1
      | with_reducible exact b1
      | with_reducible exact below_dr (Below.refl _ _)
      | fail))
    (first
      | (go_at_call 58; (with_reducible refine HP1.out.mono ?_); rintro e w2 ⟨⟨v2, rfl, o2⟩, hbq⟩; obtain ⟨X2, c2, hv2, o2'⟩ := own_q5 o2 (show (le 1 K ++ le 4 SQ).length = 5 by simp [le_length]); subst hv2; have hb2 : Below w0.heap.size w0 w2 := bt d1 hbq; have hs2 := (own_bytes o2').2.2.2; clear hbq)
      | (go_at_call 58; (with_reducible refine (HP2.out _ _ _ hs2).mono ?_); rintro e w3 ⟨⟨v3, rfl, o3⟩, hbq⟩; obtain ⟨X3, c3, hv3, o3'⟩ := own_q5 o3 (show ((le 1 K ++ le 4 SQ) ++ le 4 EP).length = 9 by simp [le_length]); subst hv3; have hb3 : Below w0.heap.size w0 w3 := bt hb2 hbq; have hle3 := (bt hb2 hbq).size; have hl23 := hb2.size)
      | fail)
  have o3n := o3'.less hl23
  have hw0 := hw
  clear o3 o3' HP1 HP2 HF o2 o2' hs2 hb2 hbq
  have g3 := kst hb3 lx XX.c3
  have g4 := kst hb3 lx XX.c4
  by_cases hk1 : K = 1
  · have i1 : ((K : Int) = 1) := by omega
    obtain ⟨zn, rfl⟩ := Int.eq_ofNat_of_zero_le hz.1
    have hz8 : zn < 256 := by omega
    have uz : IntKind.u8.wrap (zn : Int) = zn := IntWalk.u8_in _ (by omega)
    have e5 : ∀ W, Below w0.heap.size w0 W → W.cell? ⟨w.heap.size, 6, none⟩ = some (.int .i64 wh) := fun W h => kst h lx XX.c6
    have e0 : ∀ W, Below w0.heap.size w0 W → W.cell? ⟨w.heap.size, 0, none⟩ = some (.int .i64 (K : Int)) := fun W h => kst h lx XX.c0
    by_cases hw1 : wh = -1
    · obtain ⟨wb, hwb⟩ : ∃ k : Nat, k = 254 := ⟨_, rfl⟩
      have hwb8 : wb < 256 := by omega
      have HWB := Lib.hid (show whB wh = wb by rw [hw1]; exact hwb.symm)
      have uw : IntKind.u8.wrap (254 : Int) = (wb : Int) := by rw [hwb]; rfl
      have i2 : (wh = -1) := hw1
      clear hwb hwh
      have HK1 := Lib.hid hk1
      clear hk1
      go_upto_region 3 with (first
    | (at_builtin
       refine wpList_app8 _ rfl (.tmp 15) (.tmp 22) _ _ rfl w0.heap.size 5 t8 _ _ rfl (o3n.alloc _) _ (le 1 PS ++ le 1 NM) rfl (src_two PS NM hPS hNM (heap_alloc_new w3 _)) ?_ ?_ ?_
       · simp [le_length]
       · simp; omega
       intro v4 w4 o4 hg4 hat4))
      have hb4 : Below w0.heap.size w0 w4 := (bt hb3 (bl w3 _)).grown hg4 (by simp; omega) (pck.own_far o3n)
      have g0 := e0 _ hb4
      have g6 := e5 _ hb4
      clear e0 e5 g3 g4 hg4 hat4 o3n
      go_upto_region 8 with fail
      have b5 := bl w4 (.cells #[.int .u8 (zn : Int), .int .u8 (wb : Int)] 5)
      have d5 : Below w0.heap.size w0 (w4.alloc (.cells #[.int .u8 (zn : Int), .int .u8 (wb : Int)] 5)) := bt hb4 b5
      have HSZ := Lib.hid (show Src Tryz.prog 1 49 (.slice (some ⟨w4.heap.size, 0, none⟩) 2 2) (le 1 zn ++ le 1 wb).length (cells8 (le 1 zn ++ le 1 wb)) (w4.alloc (.cells #[.int .u8 (zn : Int), .int .u8 (wb : Int)] 5)).drew from src_two zn wb hz8 hwb8 (heap_alloc_new w4 (.cells #[.int .u8 (zn : Int), .int .u8 (wb : Int)] 5)))
      have hl8 : ∀ l : List UInt8, l.length = 11 → (l ++ (le 1 zn ++ le 1 wb)).length = 13 := fun l h => by rw [List.length_append, h]; simp [le_length]
      have HPT := Lib.hid (show ∀ W, Below w0.heap.size w0 W → Calls Tryz.prog 73 #[.slice A n c] W fun e w' => One W.heap.size (le 1 n ++ lb) e w' ∧ Below W.heap.size W w' from fun W h => pck.ref_part n A c lb W HN.out hn2 (HA.out.next h))
      have HFF := Lib.hid (show ∀ W, Below w0.heap.size w0 W → (W.cell? ⟨w.heap.size, 5, none⟩ = some (.int .i64 (zn : Int)) ∧ W.cell? ⟨w.heap.size, 7, none⟩ = some (.slice A n c)) ∧ Below w0.heap.size w0 W from fun W h => ⟨⟨kst h lx XX.c5, kst h lx XX.c7⟩, h⟩)
      have le4 := hb4.size
      have H13 := Lib.hid (show ∀ v5 w5, Own w5 w0.heap.size 5 v5 ((((le 1 K ++ le 4 SQ) ++ le 4 EP) ++ (le 1 PS ++ le 1 NM)) ++ (le 1 zn ++ le 1 wb)) → ∃ X c, v5 = .slice X 13 c ∧ Own w5 w0.heap.size 5 (.slice X 13 c) ((((le 1 K ++ le 4 SQ) ++ le 4 EP) ++ (le 1 PS ++ le 1 NM)) ++ (le 1 zn ++ le 1 wb)) from fun v5 w5 h => own_q5 h (by simp [le_length]))
      have H63 := Lib.hid (show ((((le 1 K ++ le 4 SQ) ++ le 4 EP) ++ (le 1 PS ++ le 1 NM)) ++ (le 1 zn ++ le 1 wb)).length + (le 1 n ++ lb).length ≤ 140737488355328 by have := HN.out; simp [le_length]; omega)
      have HQ1 := Lib.hid (show (le 1 n ++ lb).length = n + 1 by have := HN.out; simp [le_length]; omega)
      have H62 := Lib.hid (show (((le 1 K ++ le 4 SQ) ++ le 4 EP) ++ (le 1 PS ++ le 1 NM)).length + (le 1 zn ++ le 1 wb).length ≤ 140737488355328 by simp [le_length])
      have HSR := Lib.hid (show ∀ (W : World) (v : Value) (B : Nat), Own W B 5 v (le 1 n ++ lb) → Src Tryz.prog 1 49 v (le 1 n ++ lb).length (cells8 (le 1 n ++ lb)) W from fun W v B h => by
        obtain ⟨Y, y, rfl, -, -, hs, -⟩ := h.form
        exact hs.src Tryz.underlying49 y)
      have o4a := o4.alloc (.cells #[.int .u8 (zn : Int), .int .u8 (wb : Int)] 5)
      have l5 := d5.size
      go_region_held3 (fun W => (W.cell? ⟨w.heap.size, 5, none⟩ = some (.int .i64 (zn : Int)) ∧ W.cell? ⟨w.heap.size, 7, none⟩ = some (.slice A n c)) ∧ Below w0.heap.size w0 W)
        ((refine HFF.out _ ?_; first
          | with_reducible exact hb7
          | with_reducible exact hb6
          | with_reducible exact hb5
          | with_reducible exact below_dr d5
          | with_reducible exact d5
          | with_reducible exact below_dr hb4
          | with_reducible exact bt hb4 (below_dr (Below.refl _ _))
          | fail))
        (first
          | (refine step_app8 _ rfl (.tmp 33) (.tmp 40) _ _ rfl w0.heap.size 5 t8 _ (((le 1 K ++ le 4 SQ) ++ le 4 EP) ++ (le 1 PS ++ le 1 NM)) rfl o4a.drew _ (le 1 zn ++ le 1 wb) rfl HSZ.out H62.out l5 ?_; intro v5 w5 o5 hg5 hat5; have hb5 : Below w0.heap.size w0 w5 := d5.drew.grown hg5 l5 (pck.own_far o4a); obtain ⟨X5, c5, hv5, o5'⟩ := H13.out _ _ o5; subst hv5; clear hg5 hat5; have l6 := hb5.size)
          | (go_at_call 73; (with_reducible refine (HPT.out _ hb5).mono ?_); rintro e w6 ⟨⟨v6, rfl, o6⟩, hbq⟩; obtain ⟨X6, c6, hv6, o6'⟩ := own_q5 o6 HQ1.out; subst hv6; have hb6 : Below w0.heap.size w0 w6 := bt hb5 hbq; have o56 := o5'.below hbq; have l7 := hb6.size)
          | (refine step_app8 _ rfl (.tmp 41) (.tmp 45) _ _ rfl w0.heap.size 5 t8 _ ((((le 1 K ++ le 4 SQ) ++ le 4 EP) ++ (le 1 PS ++ le 1 NM)) ++ (le 1 zn ++ le 1 wb)) rfl o56 _ (le 1 n ++ lb) rfl (HSR.out _ _ _ o6') H63.out l7 ?_; intro v7 w7 o7 hg7 hat7; have hb7 : Below w0.heap.size w0 w7 := hb6.grown hg7 l7 (pck.own_far o56); clear hg7 hat7)
          | fail)
      go_wp2_with fail
      go_ret
      have HN1 := HN.out
      refine ⟨⟨_, rfl, ?_⟩, bt hw0 hb7⟩
      have := o7.less hw0.size
      have h1 := HK1.out
      have h3 := HWB.out
      simpa [encR, headB, imgB, h1, h3, HN1, List.append_assoc] using this
    · obtain ⟨wb, hwb⟩ := Int.eq_ofNat_of_zero_le (show 0 ≤ wh by omega)
      have hwb8 : wb < 256 := by omega
      have HWB := Lib.hid (show whB wh = wb by unfold whB; rw [if_neg hw1]; omega)
      subst hwb
      have uw : IntKind.u8.wrap (wb : Int) = (wb : Int) := IntWalk.u8_in _ (by omega)
      have i2 : ¬ ((wb : Int) = -1) := hw1
      clear hwh hw1
      have HK1 := Lib.hid hk1
      clear hk1
      go_upto_region 3 with (first
    | (at_builtin
       refine wpList_app8 _ rfl (.tmp 15) (.tmp 22) _ _ rfl w0.heap.size 5 t8 _ _ rfl (o3n.alloc _) _ (le 1 PS ++ le 1 NM) rfl (src_two PS NM hPS hNM (heap_alloc_new w3 _)) ?_ ?_ ?_
       · simp [le_length]
       · simp; omega
       intro v4 w4 o4 hg4 hat4))
      have hb4 : Below w0.heap.size w0 w4 := (bt hb3 (bl w3 _)).grown hg4 (by simp; omega) (pck.own_far o3n)
      have g0 := e0 _ hb4
      have g6 := e5 _ hb4
      clear e0 e5 g3 g4 hg4 hat4 o3n
      go_upto_region 8 with fail
      have b5 := bl w4 (.cells #[.int .u8 (zn : Int), .int .u8 (wb : Int)] 5)
      have d5 : Below w0.heap.size w0 (w4.alloc (.cells #[.int .u8 (zn : Int), .int .u8 (wb : Int)] 5)) := bt hb4 b5
      have HSZ := Lib.hid (show Src Tryz.prog 1 49 (.slice (some ⟨w4.heap.size, 0, none⟩) 2 2) (le 1 zn ++ le 1 wb).length (cells8 (le 1 zn ++ le 1 wb)) (w4.alloc (.cells #[.int .u8 (zn : Int), .int .u8 (wb : Int)] 5)).drew from src_two zn wb hz8 hwb8 (heap_alloc_new w4 (.cells #[.int .u8 (zn : Int), .int .u8 (wb : Int)] 5)))
      have hl8 : ∀ l : List UInt8, l.length = 11 → (l ++ (le 1 zn ++ le 1 wb)).length = 13 := fun l h => by rw [List.length_append, h]; simp [le_length]
      have HPT := Lib.hid (show ∀ W, Below w0.heap.size w0 W → Calls Tryz.prog 73 #[.slice A n c] W fun e w' => One W.heap.size (le 1 n ++ lb) e w' ∧ Below W.heap.size W w' from fun W h => pck.ref_part n A c lb W HN.out hn2 (HA.out.next h))
      have HFF := Lib.hid (show ∀ W, Below w0.heap.size w0 W → (W.cell? ⟨w.heap.size, 5, none⟩ = some (.int .i64 (zn : Int)) ∧ W.cell? ⟨w.heap.size, 7, none⟩ = some (.slice A n c)) ∧ Below w0.heap.size w0 W from fun W h => ⟨⟨kst h lx XX.c5, kst h lx XX.c7⟩, h⟩)
      have le4 := hb4.size
      have H13 := Lib.hid (show ∀ v5 w5, Own w5 w0.heap.size 5 v5 ((((le 1 K ++ le 4 SQ) ++ le 4 EP) ++ (le 1 PS ++ le 1 NM)) ++ (le 1 zn ++ le 1 wb)) → ∃ X c, v5 = .slice X 13 c ∧ Own w5 w0.heap.size 5 (.slice X 13 c) ((((le 1 K ++ le 4 SQ) ++ le 4 EP) ++ (le 1 PS ++ le 1 NM)) ++ (le 1 zn ++ le 1 wb)) from fun v5 w5 h => own_q5 h (by simp [le_length]))
      have H63 := Lib.hid (show ((((le 1 K ++ le 4 SQ) ++ le 4 EP) ++ (le 1 PS ++ le 1 NM)) ++ (le 1 zn ++ le 1 wb)).length + (le 1 n ++ lb).length ≤ 140737488355328 by have := HN.out; simp [le_length]; omega)
      have HQ1 := Lib.hid (show (le 1 n ++ lb).length = n + 1 by have := HN.out; simp [le_length]; omega)
      have H62 := Lib.hid (show (((le 1 K ++ le 4 SQ) ++ le 4 EP) ++ (le 1 PS ++ le 1 NM)).length + (le 1 zn ++ le 1 wb).length ≤ 140737488355328 by simp [le_length])
      have HSR := Lib.hid (show ∀ (W : World) (v : Value) (B : Nat), Own W B 5 v (le 1 n ++ lb) → Src Tryz.prog 1 49 v (le 1 n ++ lb).length (cells8 (le 1 n ++ lb)) W from fun W v B h => by
        obtain ⟨Y, y, rfl, -, -, hs, -⟩ := h.form
        exact hs.src Tryz.underlying49 y)
      have o4a := o4.alloc (.cells #[.int .u8 (zn : Int), .int .u8 (wb : Int)] 5)
      have l5 := d5.size
      go_region_held3 (fun W => (W.cell? ⟨w.heap.size, 5, none⟩ = some (.int .i64 (zn : Int)) ∧ W.cell? ⟨w.heap.size, 7, none⟩ = some (.slice A n c)) ∧ Below w0.heap.size w0 W)
        ((refine HFF.out _ ?_; first
          | with_reducible exact hb7
          | with_reducible exact hb6
          | with_reducible exact hb5
          | with_reducible exact below_dr d5
          | with_reducible exact d5
          | with_reducible exact below_dr hb4
          | with_reducible exact bt hb4 (below_dr (Below.refl _ _))
          | fail))
        (first
          | (refine step_app8 _ rfl (.tmp 33) (.tmp 40) _ _ rfl w0.heap.size 5 t8 _ (((le 1 K ++ le 4 SQ) ++ le 4 EP) ++ (le 1 PS ++ le 1 NM)) rfl o4a.drew _ (le 1 zn ++ le 1 wb) rfl HSZ.out H62.out l5 ?_; intro v5 w5 o5 hg5 hat5; have hb5 : Below w0.heap.size w0 w5 := d5.drew.grown hg5 l5 (pck.own_far o4a); obtain ⟨X5, c5, hv5, o5'⟩ := H13.out _ _ o5; subst hv5; clear hg5 hat5; have l6 := hb5.size)
          | (go_at_call 73; (with_reducible refine (HPT.out _ hb5).mono ?_); rintro e w6 ⟨⟨v6, rfl, o6⟩, hbq⟩; obtain ⟨X6, c6, hv6, o6'⟩ := own_q5 o6 HQ1.out; subst hv6; have hb6 : Below w0.heap.size w0 w6 := bt hb5 hbq; have o56 := o5'.below hbq; have l7 := hb6.size)
          | (refine step_app8 _ rfl (.tmp 41) (.tmp 45) _ _ rfl w0.heap.size 5 t8 _ ((((le 1 K ++ le 4 SQ) ++ le 4 EP) ++ (le 1 PS ++ le 1 NM)) ++ (le 1 zn ++ le 1 wb)) rfl o56 _ (le 1 n ++ lb) rfl (HSR.out _ _ _ o6') H63.out l7 ?_; intro v7 w7 o7 hg7 hat7; have hb7 : Below w0.heap.size w0 w7 := hb6.grown hg7 l7 (pck.own_far o56); clear hg7 hat7)
          | fail)
      go_wp2_with fail
      go_ret
      have HN1 := HN.out
      refine ⟨⟨_, rfl, ?_⟩, bt hw0 hb7⟩
      have := o7.less hw0.size
      have h1 := HK1.out
      have h3 := HWB.out
      simpa [encR, headB, imgB, h1, h3, HN1, List.append_assoc] using this
  · have i1 : ¬ (K : Int) = 1 := by omega
    have HK1 := Lib.hid hk1
    clear hk1
    have e0 : ∀ W, Below w0.heap.size w0 W → W.cell? ⟨w.heap.size, 0, none⟩ = some (.int .i64 (K : Int)) := fun W h => kst h lx XX.c0
    go_upto_region 3 with (first
    | (at_builtin
       refine wpList_app8 _ rfl (.tmp 15) (.tmp 22) _ _ rfl w0.heap.size 5 t8 _ _ rfl (o3n.alloc _) _ (le 1 PS ++ le 1 NM) rfl (src_two PS NM hPS hNM (heap_alloc_new w3 _)) ?_ ?_ ?_
       · simp [le_length]
       · simp; omega
       intro v4 w4 o4 hg4 hat4))
    have hb4 : Below w0.heap.size w0 w4 := (bt hb3 (bl w3 _)).grown hg4 (by simp; omega) (pck.own_far o3n)
    have g0 := e0 _ hb4
    go_wp2_with fail
    go_ret
    refine ⟨⟨_, rfl, ?_⟩, bt hw0 hb4⟩
    have := o4.less hw0.size
    have h1 := HK1.out
    have h2 : ¬ (K : Int) = 1 := by omega
    simpa [encR, headB, h2, List.append_assoc] using this
end Go.Proofs.YtbfdpibjicjagaaGreatDoor.lrc
namespace Go.Proofs.YtbfdpibjicjagaaGreatDoor.lrc
open Go.RowKit Go.Lib
open Go.Proofs.YtbfdpibjicjagaaGreatDoor.gmt (Ok)
open Go.Proofs.YtbfdpibjicjagaaGreatDoor.anc (bl kal kst ks bm ka)
open Go.Proofs.YtbfdpibjicjagaaGreatDoor.tbl (C1 c1_new G5 g5_new)
open Go.Proofs.YtbfdpibjicjagaaGreatDoor.img
open Go.Proofs.YtbfdpibjicjagaaGreatDoor.pck (le le_length)
open Go.Proofs.YtbfdpibjicjagaaGreatDoor.sel (Lies enc)
theorem rbytes_c (z d s l a : Int) (r : RcR) (n : Nat) (w : World) (ho : Ok z d s l a) (hx : BIn w w.heap.size r.i) (hn : r.i.l.length = n) (hr : RecOk z d r.d) :
    Calls Tryz.prog 56 #[.agg #[.int .i64 r.kd, .int .i64 r.sq, .int .i64 r.ep, .int .i64 r.ps, .int .i64 r.nm, .int .i64 r.i.z, .int .i64 r.i.wh, .slice r.i.A n r.i.c]] w fun e w' => One w.heap.size (encR r.d) e w' ∧ Below w.heap.size w w' := by
  have hl := (recOk_len hr ⟨ho.2.1.1, ho.2.1.2⟩).1
  have h45 : r.i.l.length ≤ 45 := hl
  obtain ⟨⟨k0, k1⟩, ⟨s0, s1⟩, ⟨e0, e1⟩, ⟨p0, p1⟩, ⟨m0, m1⟩, z0, hwh⟩ : (0 ≤ r.kd ∧ r.kd < 3) ∧ (0 ≤ r.sq ∧ r.sq < 4294967296) ∧ (0 ≤ r.ep ∧ r.ep < 4294967296) ∧ (0 ≤ r.ps ∧ r.ps < 256) ∧ (0 ≤ r.nm ∧ r.nm < 256) ∧ (0 ≤ r.i.z ∧ r.i.z < 256) ∧ (r.i.wh = 255 ∨ (-1 ≤ r.i.wh ∧ r.i.wh ≤ 3)) := by
    obtain ⟨⟨hz0, hz1⟩, ⟨hd0, hd1⟩, -⟩ := ho
    rcases hr with ⟨h0, h1, h2, h3, h4, h5, h6, h7⟩ | ⟨⟨g1, g2, g3⟩, h0, h1, h5, h6, h7⟩ | ⟨⟨g1, g2, g3⟩, h0, h1, h2⟩
    · simp only [RcR.d] at *
      omega
    · simp only [RcR.d] at *
      omega
    · have hw := imOk_wh h2
      have hzz := h2.1
      simp only [RcR.d] at *
      omega
  obtain ⟨K, hK⟩ := Int.eq_ofNat_of_zero_le k0
  obtain ⟨SQ, hSQ⟩ := Int.eq_ofNat_of_zero_le s0
  obtain ⟨EP, hEP⟩ := Int.eq_ofNat_of_zero_le e0
  obtain ⟨PS, hPS⟩ := Int.eq_ofNat_of_zero_le p0
  obtain ⟨NM, hNM⟩ := Int.eq_ofNat_of_zero_le m0
  have h := rbytes_main K SQ EP PS NM r.i.z r.i.wh r.i.A n r.i.c r.i.l w (by omega) (by omega) (by omega) (by omega) (by omega) z0 hwh hn (by omega) hx.1
  have hd : r.d = ⟨K, SQ, EP, PS, NM, r.i.z, r.i.wh, r.i.l⟩ := by unfold RcR.d; rw [hK, hSQ, hEP, hPS, hNM]
  rw [hd, hK, hSQ, hEP, hPS, hNM]
  exact h
end Go.Proofs.YtbfdpibjicjagaaGreatDoor.lrc
