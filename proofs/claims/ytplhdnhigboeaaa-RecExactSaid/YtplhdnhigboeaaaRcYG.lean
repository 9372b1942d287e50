/-
  The developers' own parseImage. Conditions: fewer than 2^32 bytes.
-/
import Derived.Test.YtplhdnhigboeaaaRcYC
import Derived.Test.YtplhdnhigboeaaaTail
import Derived.Deep.CutRange
namespace Go.Proofs.Ytplhdnhigboeaaa.lrc
open Go.RowKit Go.Lib
open Go.Proofs.Ytplhdnhigboeaaa.gmt (Ok)
open Go.Proofs.Ytplhdnhigboeaaa.anc (bl kal kst ks bm ka)
open Go.Proofs.Ytplhdnhigboeaaa.tbl (C1 c1_new G5 g5_new)
open Go.Proofs.Ytplhdnhigboeaaa.img
open Go.Proofs.Ytplhdnhigboeaaa.pck (le le_length num unrow unrow_any)

/-- What Unrow answers, by cases (the texts of anchors have the same). -/
theorem unrow_er (n m : Nat) (A A' : Option Addr) (c c' : Nat) (l : List UInt8) (ss : List Int) (x : Int) (w : World) (hn : l.length = n) (hm : ss.length = m) (hl : m ≤ 1048576) (hc : n ≤ c) (hx : c ≤ maxLen) (hl2 : n ≤ 4294967296) (hr : unrow ss l = .error x) (hA : Sl w w.heap.size A l) (hA' : SlV w w.heap.size A' (ints ss)) :
    Calls Try.prog 63 #[.slice A n c, .slice A' m c'] w fun e w' => e = .returned (.tuple #[.slice none 0 0, .slice none 0 0, .int .i64 x]) ∧ Below w.heap.size w w' := by
  refine (unrow_any n m A A' c c' l ss w hn hm hl hc hx hl2 hA hA').mono fun e w' h => ⟨?_, h.2⟩
  have := h.1
  rw [hr] at this
  exact this
def UnrowK (base p q : Nat) (ns : List Int) (r : List UInt8) (e : Ending) (w' : World) : Prop := ∃ g c X d, e = .returned (.tuple #[.slice (some ⟨g, 0, none⟩) p c, .slice X q d, .int .i64 0]) ∧ (p ≤ c ∧ c ≤ maxLen) ∧ (base ≤ g ∧ g < w'.heap.size) ∧ SlV w' w'.heap.size (some ⟨g, 0, none⟩) (ints ns) ∧ (q ≤ d ∧ d ≤ maxLen) ∧ Own w' base 5 (.slice X q d) r
theorem unrow_ok (n m p q : Nat) (A A' : Option Addr) (c c' : Nat) (l r : List UInt8) (ss ns : List Int) (w : World) (hn : l.length = n) (hm : ss.length = m) (hl : m ≤ 1048576) (hc : n ≤ c) (hx : c ≤ maxLen) (hl2 : n ≤ 4294967296) (hr : unrow ss l = .ok (ns, r)) (hp : ns.length = p) (hp1 : 0 < p) (hq : r.length = q) (hA : Sl w w.heap.size A l) (hA' : SlV w w.heap.size A' (ints ss)) :
    Calls Try.prog 63 #[.slice A n c, .slice A' m c'] w fun e w' => UnrowK w.heap.size p q ns r e w' ∧ Below w.heap.size w w' := by
  refine (unrow_any n m A A' c c' l ss w hn hm hl hc hx hl2 hA hA').mono fun e w' h => ⟨?_, h.2⟩
  have := h.1
  rw [hr] at this
  obtain ⟨v, u, rfl, o1, o2⟩ := this
  obtain ⟨g, c1, hv1, k1, k2, h3, h4⟩ := o1.at (by rw [ints_length, hp]; exact hp1)
  obtain ⟨X2, c2, hv2, k3, k4, -, -⟩ := id o2.form
  obtain ⟨X1, c9, hv9, -, -, hs, -⟩ := o1.form
  subst hv1 hv2
  cases hv9
  rw [ints_length, hp] at *
  rw [hq] at *
  exact ⟨g, c1, X2, c2, rfl, ⟨k1, k2⟩, ⟨h3, h4⟩, hs, ⟨k3, k4⟩, o2⟩
theorem isz_slv (w : World) : SlV (w.alloc (.cells #[.int .i64 1, .int .i64 1] 3)) (w.alloc (.cells #[.int .i64 1, .int .i64 1] 3)).heap.size (some ⟨w.heap.size, 0, none⟩) (ints [1, 1]) := SlV.of_block (heap_alloc_new w _) rfl (by simp)
theorem hsz_slv (w : World) : SlV (w.alloc (.cells #[.int .i64 1, .int .i64 4, .int .i64 4, .int .i64 1, .int .i64 1] 3)) (w.alloc (.cells #[.int .i64 1, .int .i64 4, .int .i64 4, .int .i64 1, .int .i64 1] 3)).heap.size (some ⟨w.heap.size, 0, none⟩) (ints [1, 4, 4, 1, 1]) := SlV.of_block (heap_alloc_new w _) rfl (by simp)
theorem below_set3 {w w' : World} {B q o1 o2 o3 : Nat} (h : Below B w w') (hq : B ≤ q) (x y z : Value) : Below B w (((w'.setCell ⟨q, o1, none⟩ x).setCell ⟨q, o2, none⟩ y).setCell ⟨q, o3, none⟩ z) :=
  ((h.setCell (p := ⟨q, o1, none⟩) hq x).setCell (p := ⟨q, o2, none⟩) hq y).setCell (p := ⟨q, o3, none⟩) hq z
theorem own_st {w : World} {base g o : Nat} {e : TypeId} {v : Value} {l : List UInt8} (h : Own w base e v l) (hg : g < base) (u : Value) : Own (w.setCell ⟨g, o, none⟩ u) base e v l :=
  h.kept (row := some g) ⟨by first | rfl | simp, by first | rfl | simp, by first | rfl | simp, by rw [World.size_setCell]; exact Nat.le_refl _, fun k _ hk => heap_setCell_other w ⟨g, o, none⟩ k u (fun q => hk (by rw [q]))⟩ (.inr fun he => absurd (pck.own_far h g he) (by omega))
theorem own_sl {w : World} {base q c : Nat} {X : Option Addr} {e : TypeId} {l : List UInt8} (h : Own w base e (.slice X q c) l) : Sl w w.heap.size X l := by
  obtain ⟨A, c', he, -, -, hs, -⟩ := h.form
  have k : X = A := (Value.slice.injEq .. ▸ he).1
  rw [k]
  exact hs
theorem unrow2_no {b : List UInt8} (h : b.length < 2) : unrow [1, 1] b = .error 4 := by
  by_cases h1 : b.length < 1
  · simp [unrow, h1]
  · simp [unrow, h1, show b.length - 1 < 1 by omega]
theorem unrow2_yes {b : List UInt8} (h : ¬ b.length < 2) : unrow [1, 1] b = .ok ([(at1 b 0 : Int), (at1 b 1 : Int)], b.drop 2) := by
  simp [unrow, at1, show ¬ b.length < 1 by omega, show ¬ b.length - 1 < 1 by omega]

set_option maxRecDepth 100000 in
set_option maxHeartbeats 8000000 in
theorem pimg_short (A : Option Addr) (c n : Nat) (b : List UInt8) (w : World) (hn : b.length = n) (hA : Sl w w.heap.size A b) (hc : n ≤ c) (hm : c ≤ maxLen) (hl : n ≤ 4294967296) (h2 : b.length < 2) :
    Calls Try.prog 65 #[.slice A n c] w fun e w' => e = .returned (.tuple #[.agg #[.int .i64 0, .int .i64 0, .slice none 0 0], .slice none 0 0, .int .i64 4]) ∧ Below w.heap.size w w' := by
  have TT := anc.tri_new w (.int .i64 0) (.int .i64 0) (.slice none 0 0) 26
  have B0 := bl w (.cells #[.int .i64 0, .int .i64 0, .slice none 0 0] 26)
  have lw : w.heap.size < (w.alloc (.cells #[.int .i64 0, .int .i64 0, .slice none 0 0] 26)).heap.size := by simp
  have HU := Lib.hid fun (W : World) (X : Option Addr) (d : Nat) (hW : Below w.heap.size w W) (h : SlV W W.heap.size X (ints [1, 1])) => unrow_er n 2 A X c d b [1, 1] 4 W hn rfl (by omega) hc hm hl (unrow2_no h2) (hA.next hW) h
  clear hn hA hc hm hl h2
  go_enter Try.func65, Try.ntmps65
  go_upto_region 1 with fail
  generalize w.alloc (.cells #[.int .i64 0, .int .i64 0, .slice none 0 0] 26) = w0 at *
  go_upto_region 2 with (first
    | (go_at_call 84; (with_reducible refine (isizes_c _).mono ?_); rintro e w1 ⟨rfl, rfl⟩)
    | (go_at_call 63; (with_reducible refine (HU.out _ _ _ (kal B0 _) (isz_slv _)).mono ?_); rintro e w3 ⟨rfl, hb3⟩))
  have B3 := bt (kal B0 _) hb3
  have T3 := TT.keep (bt (bl _ _) hb3) lw
  obtain ⟨t0, t1, t2, f0, f1, f2⟩ := id T3
  go_wp2_with fail
  have k3 := ((T3.set0 (.int .i64 0)).set1 (.int .i64 0)).set2 (.slice none 0 0)
  exact bodyPost_ret (v := .tuple #[.agg #[.int .i64 0, .int .i64 0, .slice none 0 0], .slice none 0 0, .int .i64 4]) (by simp [results, Try.results65, go_sem, k3.c0, k3.c1, k3.c2]) rfl ⟨rfl, below_set3 B3 (Nat.le_refl _) _ _ _⟩
set_option maxRecDepth 100000 in
set_option maxHeartbeats 8000000 in
theorem pimg_no (A : Option Addr) (c n m : Nat) (b : List UInt8) (w : World) (hn : b.length = n) (hA : Sl w w.heap.size A b) (hc : n ≤ c) (hm : c ≤ maxLen) (hl : n ≤ 4294967296) (h2 : ¬ b.length < 2) (hm0 : at1 b 2 = m) (h3 : n < 3 + m) :
    Calls Try.prog 65 #[.slice A n c] w fun e w' => e = .returned (.tuple #[.agg #[.int .i64 0, .int .i64 0, .slice none 0 0], .slice none 0 0, .int .i64 4]) ∧ Below w.heap.size w w' := by
  obtain ⟨q, hq⟩ : ∃ q, (b.drop 2).length = q := ⟨_, rfl⟩
  have hqn : q = n - 2 := by rw [← hq, List.length_drop, hn]
  obtain ⟨a0, ha0⟩ : ∃ k, at1 b 0 = k := ⟨_, rfl⟩
  obtain ⟨a1, ha1⟩ : ∃ k, at1 b 1 = k := ⟨_, rfl⟩
  have hu := unrow2_yes h2
  rw [ha0, ha1] at hu
  have HP := Lib.hid fun (W : World) (X : Option Addr) (d base : Nat) (h : Own W base 5 (.slice X q d) (b.drop 2)) (h1 : q ≤ d) (h2 : d ≤ maxLen) => pck.unpart_no q X d (b.drop 2) W hq (by rw [show num ((b.drop 2).take 1) = m from hm0]; omega) h1 h2 (own_sl h)
  have HU := Lib.hid fun (W : World) (X : Option Addr) (d : Nat) (hW : Below w.heap.size w W) (h : SlV W W.heap.size X (ints [1, 1])) => unrow_ok n 2 2 q A X c d b (b.drop 2) [1, 1] [(a0 : Int), (a1 : Int)] W hn rfl (by omega) hc hm hl hu rfl (by omega) hq (hA.next hW) h
  have TT := anc.tri_new w (.int .i64 0) (.int .i64 0) (.slice none 0 0) 26
  have B0 := bl w (.cells #[.int .i64 0, .int .i64 0, .slice none 0 0] 26)
  have lw : w.heap.size < (w.alloc (.cells #[.int .i64 0, .int .i64 0, .slice none 0 0] 26)).heap.size := by simp
  clear hn hA hc hm hl h2 hu hq hm0 hqn h3
  go_enter Try.func65, Try.ntmps65
  go_upto_region 1 with fail
  generalize w.alloc (.cells #[.int .i64 0, .int .i64 0, .slice none 0 0] 26) = w0 at *
  have ls : (w0.alloc (.cells #[.int .i64 1, .int .i64 1] 3)).heap.size = w0.heap.size + 1 := by simp
  go_upto_region 4 with (first
    | (go_at_call 84; (with_reducible refine (isizes_c _).mono ?_); rintro e w1 ⟨rfl, rfl⟩)
    | (go_at_call 63; (with_reducible refine (HU.out _ _ _ (kal B0 _) (isz_slv _)).mono ?_); rintro e w3 ⟨⟨g, c3, X3, d3, rfl, ⟨k1, k2⟩, ⟨l1, l2⟩, s3, ⟨k3, k4⟩, o3⟩, hb3⟩))
  have B3 := bt (kal B0 _) hb3
  have lb := hb3.size
  have T3 := TT.keep (bt (bl _ _) hb3) lw
  rw [ls] at o3 lb
  obtain ⟨b', off', he, hb', hcs⟩ := s3 (by simp [ints_length])
  cases he
  have e0 := hcs 0 (by simp [ints_length])
  have e1 := hcs 1 (by simp [ints_length])
  rw [ints_get] at e0 e1
  simp only [List.getElem_cons_zero, List.getElem_cons_succ, Nat.zero_add] at e0 e1
  have lw3 : w.heap.size < w3.heap.size := by omega
  replace o3 := o3.less (show w.heap.size + 1 ≤ w0.heap.size + 1 by omega)
  clear TT hb3 hcs hb' s3 HU l1 l2
  refine wp_region_tail (S := fun W => W.cell? ⟨g, 0, none⟩ = some (.int .i64 a0) ∧ W.cell? ⟨g, 1, none⟩ = some (.int .i64 a1) ∧ Below w3.heap.size w3 W) 7 rfl (by kernel_rfl) (by kernel_rfl) ⟨e0, e1, below_dr (Below.refl _ _)⟩ (fun hS => ?_)
  simp only [List.take_succ_cons, List.take_zero]
  (refine wpAnyH_take (i := 0) (v := ?_) rfl (by kernel_rfl) (by kernel_rfl) (by kernel_rfl) (fun _ _ _ h => h) (Or.inl ⟨by rfl, ?_⟩) (by assumption) ?_; rotate_left; (focus (intro w hSw; (try dsimp only at hSw); go_split_ands; go_simp <;> with_reducible rfl)); simp only [List.getElem_toArray, List.getElem_cons_zero, Act.put, List.setIfInBounds_toArray, List.set_cons_zero, List.set_cons_succ])
  (refine wpAnyH_take (i := 1) (v := ?_) rfl (by kernel_rfl) (by kernel_rfl) (by kernel_rfl) (fun _ _ _ h => h) (Or.inl ⟨by rfl, ?_⟩) (by assumption) ?_; rotate_left; (focus (intro w hSw; (try dsimp only at hSw); go_split_ands; go_simp <;> with_reducible rfl)); simp only [List.getElem_toArray, List.getElem_cons_zero, List.getElem_cons_succ, Act.put, List.setIfInBounds_toArray, List.set_cons_zero, List.set_cons_succ])
  (refine wpAnyH_take (i := 2) (v := ?_) rfl (by kernel_rfl) (by kernel_rfl) (by kernel_rfl) (fun _ _ _ h => h) (Or.inl ⟨by rfl, ?_⟩) (by assumption) ?_; rotate_left; (focus (intro w hSw; (try dsimp only at hSw); go_split_ands; go_simp <;> with_reducible rfl)); simp only [List.getElem_toArray, List.getElem_cons_zero, List.getElem_cons_succ, Act.put, List.setIfInBounds_toArray, List.set_cons_zero, List.set_cons_succ])
  (refine wpAnyH_take (i := 3) (v := ?_) rfl (by kernel_rfl) (by kernel_rfl) (by kernel_rfl) (fun _ _ _ h => h) (Or.inl ⟨by rfl, ?_⟩) (by assumption) ?_; rotate_left; (focus (intro w hSw; (try dsimp only at hSw); go_split_ands; go_simp <;> with_reducible rfl)); simp only [List.getElem_toArray, List.getElem_cons_zero, List.getElem_cons_succ, Act.put, List.setIfInBounds_toArray, List.set_cons_zero, List.set_cons_succ])
  (refine wpAnyH_take (i := 4) (v := ?_) rfl (by kernel_rfl) (by kernel_rfl) (by kernel_rfl) (fun _ _ _ h => h) (Or.inl ⟨by rfl, ?_⟩) (by assumption) ?_; rotate_left; (focus (intro w hSw; (try dsimp only at hSw); go_split_ands; go_simp <;> with_reducible rfl)); simp only [List.getElem_toArray, List.getElem_cons_zero, List.getElem_cons_succ, Act.put, List.setIfInBounds_toArray, List.set_cons_zero, List.set_cons_succ])
  (refine wpAnyH_take (i := 5) (v := ?_) rfl (by kernel_rfl) (by kernel_rfl) (by kernel_rfl) (fun _ _ _ h => h) (Or.inl ⟨by rfl, ?_⟩) (by assumption) ?_; rotate_left; (focus (intro w hSw; (try dsimp only at hSw); go_split_ands; go_simp <;> with_reducible rfl)); simp only [List.getElem_toArray, List.getElem_cons_zero, List.getElem_cons_succ, Act.put, List.setIfInBounds_toArray, List.set_cons_zero, List.set_cons_succ])
  (refine wpAnyH_take (i := 6) (v := ?_) rfl (by kernel_rfl) (by kernel_rfl) (by kernel_rfl) (fun _ _ _ h => h) (Or.inl ⟨by rfl, ?_⟩) (by assumption) ?_; rotate_left; (focus (intro w hSw; (try dsimp only at hSw); go_split_ands; go_simp <;> with_reducible rfl)); simp only [List.getElem_toArray, List.getElem_cons_zero, List.getElem_cons_succ, Act.put, List.setIfInBounds_toArray, List.set_cons_zero, List.set_cons_succ])
  refine wpAnyH_done (by kernel_rfl) ?_ _
  obtain ⟨t0, t1, t2, f0, f1, f2⟩ := id T3
  simp only [tailQ]
  go_simp
  have T4 := (((T3.set0 (.int .i64 a0)).set1 (.int .i64 a1)).set2 (.slice none 0 0)).keep (below_dr (Below.refl (w.heap.size + 1) _)) (Nat.lt_succ_self _)
  have o4 := (own_st (o := 2) (own_st (o := 1) (own_st (o := 0) o3 (Nat.lt_succ_self _) (.int .i64 a0)) (Nat.lt_succ_self _) (.int .i64 a1)) (Nat.lt_succ_self _) (.slice none 0 0)).drew
  have B4 := below_dr (below_set3 (o1 := 0) (o2 := 1) (o3 := 2) B3 (Nat.le_refl _) (.int .i64 a0) (.int .i64 a1) (.slice none 0 0))
  have l4 : w.heap.size < ((((w3.setCell ⟨w.heap.size, 0, none⟩ (.int .i64 a0)).setCell ⟨w.heap.size, 1, none⟩ (.int .i64 a1)).setCell ⟨w.heap.size, 2, none⟩ (.slice none 0 0)).drew).heap.size := by simpa using lw3
  clear t0 t1 t2 f0 f1 f2 T3 o3 B3 e0 e1 lw3
  generalize (((w3.setCell ⟨w.heap.size, 0, none⟩ (.int .i64 a0)).setCell ⟨w.heap.size, 1, none⟩ (.int .i64 a1)).setCell ⟨w.heap.size, 2, none⟩ (.slice none 0 0)).drew = w4 at *
  obtain ⟨t0, t1, t2, f0, f1, f2⟩ := id T4
  have HA0 := Lib.hid ha0
  have HA1 := Lib.hid ha1
  clear ha0 ha1
  by_cases h254 : a1 = 254
  · have i5 : (a1 : Int) = 254 := by omega
    have T5 := T4.set1 (.int .i64 (-1))
    have o5 := own_st (o := 1) o4 (Nat.lt_succ_self _) (.int .i64 (-1))
    have B5 := B4.setCell (p := ⟨w.heap.size, 1, none⟩) (Nat.le_refl w.heap.size) (.int .i64 (-1))
    have l5 : w.heap.size < (w4.setCell ⟨w.heap.size, 1, none⟩ (.int .i64 (-1))).heap.size := by rw [World.size_setCell]; exact l4
    have HW := Lib.hid (show whI a1 = -1 by unfold whI; rw [if_pos h254])
    clear h254
    go_upto_region 7 with fail
    clear i5 t0 t1 t2 f0 f1 f2 T4 o4 B4 l4
    generalize w4.setCell ⟨w.heap.size, 1, none⟩ (.int .i64 (-1)) = w5 at *
    obtain ⟨t0, t1, t2, f0, f1, f2⟩ := id T5
    go_wp2_with (go_at_call 80; (with_reducible refine (HP.out _ _ _ _ o5 k3 k4).mono ?_); rintro e w6 ⟨rfl, hb6⟩; (have T6 := T5.keep hb6 l5); obtain ⟨u0, u1, u2, h0, h1, h2⟩ := id T6)
    have k9 := (((T6.set2 (.slice none 0 0)).set0 (.int .i64 0)).set1 (.int .i64 0)).set2 (.slice none 0 0)
    exact bodyPost_ret (v := .tuple #[.agg #[.int .i64 0, .int .i64 0, .slice none 0 0], .slice none 0 0, .int .i64 4]) (by simp [results, Try.results65, go_sem, k9.c0, k9.c1, k9.c2]) rfl ⟨rfl, below_set3 ((bt B5 hb6).setCell (p := ⟨w.heap.size, 2, none⟩) (Nat.le_refl w.heap.size) _) (Nat.le_refl _) _ _ _⟩
  · have i5 : ¬ (a1 : Int) = 254 := by omega
    have T5 := T4
    have o5 := o4
    have B5 := B4
    have l5 := l4
    have HW := Lib.hid (show whI a1 = (a1 : Int) by unfold whI; rw [if_neg h254])
    clear h254
    go_upto_region 7 with fail
    go_wp2_with (go_at_call 80; (with_reducible refine (HP.out _ _ _ _ o5 k3 k4).mono ?_); rintro e w6 ⟨rfl, hb6⟩; (have T6 := T5.keep hb6 l5); obtain ⟨u0, u1, u2, h0, h1, h2⟩ := id T6)
    have k9 := (((T6.set2 (.slice none 0 0)).set0 (.int .i64 0)).set1 (.int .i64 0)).set2 (.slice none 0 0)
    exact bodyPost_ret (v := .tuple #[.agg #[.int .i64 0, .int .i64 0, .slice none 0 0], .slice none 0 0, .int .i64 4]) (by simp [results, Try.results65, go_sem, k9.c0, k9.c1, k9.c2]) rfl ⟨rfl, below_set3 ((bt B5 hb6).setCell (p := ⟨w.heap.size, 2, none⟩) (Nat.le_refl w.heap.size) _) (Nat.le_refl _) _ _ _⟩
set_option maxRecDepth 100000 in
set_option maxHeartbeats 8000000 in
theorem pimg_yes (A : Option Addr) (c n m k : Nat) (b : List UInt8) (w : World) (hn : b.length = n) (hA : Sl w w.heap.size A b) (hc : n ≤ c) (hm : c ≤ maxLen) (hl : n ≤ 4294967296) (h2 : ¬ b.length < 2) (hm0 : at1 b 2 = m) (h3 : n = 3 + m + k) :
    Calls Try.prog 65 #[.slice A n c] w fun e w' => (∃ X x Y y, e = .returned (.tuple #[.agg #[.int .i64 (at1 b 0), .int .i64 (whI (at1 b 1)), .slice X m x], .slice Y k y, .int .i64 0]) ∧ Own w' w.heap.size 5 (.slice X m x) ((b.drop 3).take m)) ∧ Below w.heap.size w w' := by
  obtain ⟨q, hq⟩ : ∃ q, (b.drop 2).length = q := ⟨_, rfl⟩
  have hqn : q = n - 2 := by rw [← hq, List.length_drop, hn]
  obtain ⟨a0, ha0⟩ : ∃ k, at1 b 0 = k := ⟨_, rfl⟩
  obtain ⟨a1, ha1⟩ : ∃ k, at1 b 1 = k := ⟨_, rfl⟩
  have hu := unrow2_yes h2
  rw [ha0, ha1] at hu
  have hL : ((b.drop 2).drop 1).take m = (b.drop 3).take m := by rw [List.drop_drop]
  have hL1 : ((b.drop 3).take m).length = m := by rw [List.length_take, List.length_drop]; omega
  have hL2 : (((b.drop 2).drop 1).drop m).length = k := by rw [List.length_drop, List.length_drop, List.length_drop]; omega
  have HP := Lib.hid (show ∀ (W : World) (X : Option Addr) (d base : Nat), Own W base 5 (.slice X q d) (b.drop 2) → q ≤ d → d ≤ maxLen → Calls Try.prog 80 #[.slice X q d] W fun e w' => (∃ X' x' Y y, e = .returned (.tuple #[.slice X' m x', .slice Y k y, .int .i64 0]) ∧ Own w' W.heap.size 5 (.slice X' m x') ((b.drop 3).take m)) ∧ Below W.heap.size W w' from fun W X d base h h1 h2 => by
    refine (pck.unpart_ok q m X d (b.drop 2) W hq (by omega) hm0 (by omega) h1 h2 (by omega) (own_sl h)).mono ?_
    rintro e w' ⟨⟨v, u, rfl, o1, o2⟩, hb⟩
    rw [hL] at o1
    obtain ⟨X', x', rfl, o1⟩ := own_qn o1 hL1
    obtain ⟨Y, y, rfl, o2⟩ := own_qn o2 hL2
    exact ⟨⟨X', x', Y, y, rfl, o1⟩, hb⟩)
  have HU := Lib.hid fun (W : World) (X : Option Addr) (d : Nat) (hW : Below w.heap.size w W) (h : SlV W W.heap.size X (ints [1, 1])) => unrow_ok n 2 2 q A X c d b (b.drop 2) [1, 1] [(a0 : Int), (a1 : Int)] W hn rfl (by omega) hc hm hl hu rfl (by omega) hq (hA.next hW) h
  have TT := anc.tri_new w (.int .i64 0) (.int .i64 0) (.slice none 0 0) 26
  have B0 := bl w (.cells #[.int .i64 0, .int .i64 0, .slice none 0 0] 26)
  have lw : w.heap.size < (w.alloc (.cells #[.int .i64 0, .int .i64 0, .slice none 0 0] 26)).heap.size := by simp
  clear hn hA hc hm hl h2 hu hq hm0 hqn h3 hL hL1 hL2
  go_enter Try.func65, Try.ntmps65
  go_upto_region 1 with fail
  generalize w.alloc (.cells #[.int .i64 0, .int .i64 0, .slice none 0 0] 26) = w0 at *
  have ls : (w0.alloc (.cells #[.int .i64 1, .int .i64 1] 3)).heap.size = w0.heap.size + 1 := by simp
  go_upto_region 4 with (first
    | (go_at_call 84; (with_reducible refine (isizes_c _).mono ?_); rintro e w1 ⟨rfl, rfl⟩)
    | (go_at_call 63; (with_reducible refine (HU.out _ _ _ (kal B0 _) (isz_slv _)).mono ?_); rintro e w3 ⟨⟨g, c3, X3, d3, rfl, ⟨k1, k2⟩, ⟨l1, l2⟩, s3, ⟨k3, k4⟩, o3⟩, hb3⟩))
  have B3 := bt (kal B0 _) hb3
  have lb := hb3.size
  have T3 := TT.keep (bt (bl _ _) hb3) lw
  rw [ls] at o3 lb
  obtain ⟨b', off', he, hb', hcs⟩ := s3 (by simp [ints_length])
  cases he
  have e0 := hcs 0 (by simp [ints_length])
  have e1 := hcs 1 (by simp [ints_length])
  rw [ints_get] at e0 e1
  simp only [List.getElem_cons_zero, List.getElem_cons_succ, Nat.zero_add] at e0 e1
  have lw3 : w.heap.size < w3.heap.size := by omega
  replace o3 := o3.less (show w.heap.size + 1 ≤ w0.heap.size + 1 by omega)
  clear TT hb3 hcs hb' s3 HU l1 l2
  refine wp_region_tail (S := fun W => W.cell? ⟨g, 0, none⟩ = some (.int .i64 a0) ∧ W.cell? ⟨g, 1, none⟩ = some (.int .i64 a1) ∧ Below w3.heap.size w3 W) 7 rfl (by kernel_rfl) (by kernel_rfl) ⟨e0, e1, below_dr (Below.refl _ _)⟩ (fun hS => ?_)
  simp only [List.take_succ_cons, List.take_zero]
  (refine wpAnyH_take (i := 0) (v := ?_) rfl (by kernel_rfl) (by kernel_rfl) (by kernel_rfl) (fun _ _ _ h => h) (Or.inl ⟨by rfl, ?_⟩) (by assumption) ?_; rotate_left; (focus (intro w hSw; (try dsimp only at hSw); go_split_ands; go_simp <;> with_reducible rfl)); simp only [List.getElem_toArray, List.getElem_cons_zero, Act.put, List.setIfInBounds_toArray, List.set_cons_zero, List.set_cons_succ])
  (refine wpAnyH_take (i := 1) (v := ?_) rfl (by kernel_rfl) (by kernel_rfl) (by kernel_rfl) (fun _ _ _ h => h) (Or.inl ⟨by rfl, ?_⟩) (by assumption) ?_; rotate_left; (focus (intro w hSw; (try dsimp only at hSw); go_split_ands; go_simp <;> with_reducible rfl)); simp only [List.getElem_toArray, List.getElem_cons_zero, List.getElem_cons_succ, Act.put, List.setIfInBounds_toArray, List.set_cons_zero, List.set_cons_succ])
  (refine wpAnyH_take (i := 2) (v := ?_) rfl (by kernel_rfl) (by kernel_rfl) (by kernel_rfl) (fun _ _ _ h => h) (Or.inl ⟨by rfl, ?_⟩) (by assumption) ?_; rotate_left; (focus (intro w hSw; (try dsimp only at hSw); go_split_ands; go_simp <;> with_reducible rfl)); simp only [List.getElem_toArray, List.getElem_cons_zero, List.getElem_cons_succ, Act.put, List.setIfInBounds_toArray, List.set_cons_zero, List.set_cons_succ])
  (refine wpAnyH_take (i := 3) (v := ?_) rfl (by kernel_rfl) (by kernel_rfl) (by kernel_rfl) (fun _ _ _ h => h) (Or.inl ⟨by rfl, ?_⟩) (by assumption) ?_; rotate_left; (focus (intro w hSw; (try dsimp only at hSw); go_split_ands; go_simp <;> with_reducible rfl)); simp only [List.getElem_toArray, List.getElem_cons_zero, List.getElem_cons_succ, Act.put, List.setIfInBounds_toArray, List.set_cons_zero, List.set_cons_succ])
  (refine wpAnyH_take (i := 4) (v := ?_) rfl (by kernel_rfl) (by kernel_rfl) (by kernel_rfl) (fun _ _ _ h => h) (Or.inl ⟨by rfl, ?_⟩) (by assumption) ?_; rotate_left; (focus (intro w hSw; (try dsimp only at hSw); go_split_ands; go_simp <;> with_reducible rfl)); simp only [List.getElem_toArray, List.getElem_cons_zero, List.getElem_cons_succ, Act.put, List.setIfInBounds_toArray, List.set_cons_zero, List.set_cons_succ])
  (refine wpAnyH_take (i := 5) (v := ?_) rfl (by kernel_rfl) (by kernel_rfl) (by kernel_rfl) (fun _ _ _ h => h) (Or.inl ⟨by rfl, ?_⟩) (by assumption) ?_; rotate_left; (focus (intro w hSw; (try dsimp only at hSw); go_split_ands; go_simp <;> with_reducible rfl)); simp only [List.getElem_toArray, List.getElem_cons_zero, List.getElem_cons_succ, Act.put, List.setIfInBounds_toArray, List.set_cons_zero, List.set_cons_succ])
  (refine wpAnyH_take (i := 6) (v := ?_) rfl (by kernel_rfl) (by kernel_rfl) (by kernel_rfl) (fun _ _ _ h => h) (Or.inl ⟨by rfl, ?_⟩) (by assumption) ?_; rotate_left; (focus (intro w hSw; (try dsimp only at hSw); go_split_ands; go_simp <;> with_reducible rfl)); simp only [List.getElem_toArray, List.getElem_cons_zero, List.getElem_cons_succ, Act.put, List.setIfInBounds_toArray, List.set_cons_zero, List.set_cons_succ])
  refine wpAnyH_done (by kernel_rfl) ?_ _
  obtain ⟨t0, t1, t2, f0, f1, f2⟩ := id T3
  simp only [tailQ]
  go_simp
  have T4 := (((T3.set0 (.int .i64 a0)).set1 (.int .i64 a1)).set2 (.slice none 0 0)).keep (below_dr (Below.refl (w.heap.size + 1) _)) (Nat.lt_succ_self _)
  have o4 := (own_st (o := 2) (own_st (o := 1) (own_st (o := 0) o3 (Nat.lt_succ_self _) (.int .i64 a0)) (Nat.lt_succ_self _) (.int .i64 a1)) (Nat.lt_succ_self _) (.slice none 0 0)).drew
  have B4 := below_dr (below_set3 (o1 := 0) (o2 := 1) (o3 := 2) B3 (Nat.le_refl _) (.int .i64 a0) (.int .i64 a1) (.slice none 0 0))
  have l4 : w.heap.size < ((((w3.setCell ⟨w.heap.size, 0, none⟩ (.int .i64 a0)).setCell ⟨w.heap.size, 1, none⟩ (.int .i64 a1)).setCell ⟨w.heap.size, 2, none⟩ (.slice none 0 0)).drew).heap.size := by simpa using lw3
  clear t0 t1 t2 f0 f1 f2 T3 o3 B3 e0 e1 lw3
  generalize (((w3.setCell ⟨w.heap.size, 0, none⟩ (.int .i64 a0)).setCell ⟨w.heap.size, 1, none⟩ (.int .i64 a1)).setCell ⟨w.heap.size, 2, none⟩ (.slice none 0 0)).drew = w4 at *
  obtain ⟨t0, t1, t2, f0, f1, f2⟩ := id T4
  have HA0 := Lib.hid ha0
  have HA1 := Lib.hid ha1
  clear ha0 ha1
  by_cases h254 : a1 = 254
  · have i5 : (a1 : Int) = 254 := by omega
    have T5 := T4.set1 (.int .i64 (-1))
    have o5 := own_st (o := 1) o4 (Nat.lt_succ_self _) (.int .i64 (-1))
    have B5 := B4.setCell (p := ⟨w.heap.size, 1, none⟩) (Nat.le_refl w.heap.size) (.int .i64 (-1))
    have l5 : w.heap.size < (w4.setCell ⟨w.heap.size, 1, none⟩ (.int .i64 (-1))).heap.size := by rw [World.size_setCell]; exact l4
    have HW := Lib.hid (show whI a1 = -1 by unfold whI; rw [if_pos h254])
    clear h254
    go_upto_region 7 with fail
    clear i5 t0 t1 t2 f0 f1 f2 T4 o4 B4 l4
    generalize w4.setCell ⟨w.heap.size, 1, none⟩ (.int .i64 (-1)) = w5 at *
    obtain ⟨t0, t1, t2, f0, f1, f2⟩ := id T5
    go_wp2_with (go_at_call 80; (with_reducible refine (HP.out _ _ _ _ o5 k3 k4).mono ?_); rintro e w6 ⟨⟨X6, x6, Y6, y6, rfl, o6⟩, hb6⟩; (have T6 := T5.keep hb6 l5); obtain ⟨u0, u1, u2, h0, h1, h2⟩ := id T6)
    have k9 := (((T6.set2 (.slice X6 m x6)).set0 (.int .i64 a0)).set1 (.int .i64 (-1))).set2 (.slice X6 m x6)
    have o7 := own_st (o := 2) (own_st (o := 1) (own_st (o := 0) (own_st (o := 2) (o6.less (show w.heap.size + 1 ≤ _ from l5)) (Nat.lt_succ_self _) (.slice X6 m x6)) (Nat.lt_succ_self _) (.int .i64 a0)) (Nat.lt_succ_self _) (.int .i64 (-1))) (Nat.lt_succ_self _) (.slice X6 m x6)
    exact bodyPost_ret (v := .tuple #[.agg #[.int .i64 a0, .int .i64 (-1), .slice X6 m x6], .slice Y6 k y6, .int .i64 0]) (by simp [results, Try.results65, go_sem, k9.c0, k9.c1, k9.c2]) rfl ⟨⟨X6, x6, Y6, y6, by rw [HA0.out, HA1.out, HW.out], o7.less (Nat.le_succ _)⟩, below_set3 ((bt B5 hb6).setCell (p := ⟨w.heap.size, 2, none⟩) (Nat.le_refl w.heap.size) _) (Nat.le_refl _) _ _ _⟩
  · have i5 : ¬ (a1 : Int) = 254 := by omega
    have T5 := T4
    have o5 := o4
    have B5 := B4
    have l5 := l4
    have HW := Lib.hid (show whI a1 = (a1 : Int) by unfold whI; rw [if_neg h254])
    clear h254
    go_upto_region 7 with fail
    go_wp2_with (go_at_call 80; (with_reducible refine (HP.out _ _ _ _ o5 k3 k4).mono ?_); rintro e w6 ⟨⟨X6, x6, Y6, y6, rfl, o6⟩, hb6⟩; (have T6 := T5.keep hb6 l5); obtain ⟨u0, u1, u2, h0, h1, h2⟩ := id T6)
    have k9 := (((T6.set2 (.slice X6 m x6)).set0 (.int .i64 a0)).set1 (.int .i64 (a1))).set2 (.slice X6 m x6)
    have o7 := own_st (o := 2) (own_st (o := 1) (own_st (o := 0) (own_st (o := 2) (o6.less (show w.heap.size + 1 ≤ _ from l5)) (Nat.lt_succ_self _) (.slice X6 m x6)) (Nat.lt_succ_self _) (.int .i64 a0)) (Nat.lt_succ_self _) (.int .i64 (a1))) (Nat.lt_succ_self _) (.slice X6 m x6)
    exact bodyPost_ret (v := .tuple #[.agg #[.int .i64 a0, .int .i64 (a1), .slice X6 m x6], .slice Y6 k y6, .int .i64 0]) (by simp [results, Try.results65, go_sem, k9.c0, k9.c1, k9.c2]) rfl ⟨⟨X6, x6, Y6, y6, by rw [HA0.out, HA1.out, HW.out], o7.less (Nat.le_succ _)⟩, below_set3 ((bt B5 hb6).setCell (p := ⟨w.heap.size, 2, none⟩) (Nat.le_refl w.heap.size) _) (Nat.le_refl _) _ _ _⟩
end Go.Proofs.Ytplhdnhigboeaaa.lrc
