/-
  Package table: Lost. Conditions: a right geometry, a right table.
-/
import Derived.Test.YtldknkikekaifaaTbF
import Derived.Deep.RegionHeld3
namespace Go.Proofs.Ytldknkikekaifaa.tbl
open Go.RowKit Go.Lib
open Go.Proofs.Ytldknkikekaifaa.gmt (Ok five_new check_ok check_no)
open Go.Proofs.Ytldknkikekaifaa.anc (flat_get flat_len slv_cell bl kal kst ks bm ka row_form row_below)

theorem lostN_yes {es : List Ent} {k : Nat} {e : Ent} (h : es[k]? = some e) (hl : e.ls = true) : lostN es (k + 1) = lostN es k ++ [(k : Int)] := by
  rw [lostN, h]
  simp [hl]
theorem lostN_not {es : List Ent} {k : Nat} {e : Ent} (h : es[k]? = some e) (hl : e.ls = false) : lostN es (k + 1) = lostN es k := by
  rw [lostN, h]
  simp [hl]
set_option maxRecDepth 100000 in
set_option maxHeartbeats 4000000 in
theorem tlost_ok (z s l a : Int) (D : Nat) (x : TV) (w : World) (ho : Ok z D s l a) (hx : x.In w w.heap.size) (hg : Good D x.es) :
    Calls Try.prog 11 #[.agg #[.int .i64 z, .int .i64 D, .int .i64 s, .int .i64 l, .int .i64 a], x.v] w fun e w' => IntE (lostN x.es D).length (lostN x.es D) e w' ∧ Below w.heap.size w w' := by
  have HC := Lib.hid (show ∀ W, Below w.heap.size w W → Calls Try.prog 13 #[.agg #[.int .i64 z, .int .i64 D, .int .i64 s, .int .i64 l, .int .i64 a], .agg #[.slice x.A x.es.length x.c]] W fun e w' => e = .returned (.int .i64 0) ∧ Below W.heap.size W w' from fun W h => tcheck_yes z D s l a x W ho hg (hx.next h))
  have o2 := ho.2.1
  have hD : D ≤ 4 := by omega
  have hD1 : 1 ≤ D := by omega
  unfold TV.v
  have s1 : (w.alloc (.cells #[.int .i64 z, .int .i64 D, .int .i64 s, .int .i64 l, .int .i64 a] 23)).heap.size = w.heap.size + 1 := by simp
  have hx2 := bl (w.alloc (.cells #[.int .i64 z, .int .i64 D, .int .i64 s, .int .i64 l, .int .i64 a] 23)) (.cells #[.slice x.A x.es.length x.c] 26)
  have GG := (g5_new w z D s l a).keep hx2 (by omega)
  have T1 := c1_new (w.alloc (.cells #[.int .i64 z, .int .i64 D, .int .i64 s, .int .i64 l, .int .i64 a] 23)) (.slice x.A x.es.length x.c) 26
  rw [s1] at T1
  have hb0 := kal (bl w (.cells #[.int .i64 z, .int .i64 D, .int .i64 s, .int .i64 l, .int .i64 a] 23)) (.cells #[.slice x.A x.es.length x.c] 26)
  have l1 : w.heap.size + 1 < ((w.alloc (.cells #[.int .i64 z, .int .i64 D, .int .i64 s, .int .i64 l, .int .i64 a] 23)).alloc (.cells #[.slice x.A x.es.length x.c] 26)).heap.size := by simp
  clear s1 hx2
  have HX := Lib.hid (hx.next hb0)
  have HG := Lib.hid hg
  obtain ⟨n, hnn⟩ : ∃ n, n = x.es.length := ⟨_, rfl⟩
  have hn5 : n ≤ 5 := by have := hg.1; omega
  have HN := Lib.hid hnn
  have HND := Lib.hid (show n = D + 1 by have := hg.1; omega)
  rw [← hnn] at HC hb0 T1 l1 GG ⊢
  clear ho hx hg o2 hnn
  clear hD hD1
  go_enter Try.func11, Try.ntmps11
  go_upto_region 1 with fail
  rw [← HN.out] at HX
  generalize (w.alloc (.cells #[.int .i64 z, .int .i64 D, .int .i64 s, .int .i64 l, .int .i64 a] 23)).alloc (.cells #[.slice x.A n x.c] 26) = w0 at *
  have t0 := T1.c0
  obtain ⟨g0, g1, g2, g3, g4⟩ := id GG
  go_upto_region 5 with (go_at_call 13; (with_reducible refine (HC.out _ hb0).mono ?_); rintro e w1 ⟨rfl, hb1⟩)
  replace T1 := T1.keep hb1 l1
  replace HX := Lib.hid (HX.out.next hb1)
  replace hb0 := bt hb0 hb1
  replace l1 := Nat.lt_of_lt_of_le l1 hb1.size
  clear g0 g1 g2 g3 g4 hb1 t0 w0 HC GG
  have t0 := T1.c0
  go_wp2_with fail
  go_loopw [7, 19] (fun v i w' => ∃ k : Nat, k ≤ n ∧ i = .int .i64 k ∧ OwnV w' w1.heap.size 3 v (ints (lostN x.es k)) ∧ Below w1.heap.size w1 w') (fun _ i _ => n - (RowKit.intOf i).toNat)
  case atStart => exact ⟨0, by omega, rfl, ownV_nil _ _ _, Below.refl _ _⟩
  case round =>
    obtain ⟨w6, rfl⟩ : ∃ x, x = wr := ⟨wr, rfl⟩
    obtain ⟨k, hk, rfl, own, hbr⟩ := hrel
    clear t0
    by_cases hlt : k < n
    · have j1 : (k : Int) < (n : Int) := by omega
      obtain ⟨b1, off, u, hA2, hb2, c0, c1, c2, hu, e2⟩ := ent_at (HX.out.next hbr).h (show k < x.es.length by have := HN.out; omega)
      rw [hA2]
      have HE2 := Lib.hid e2
      have hlen := lostN_le x.es k
      have hbe := bl w6 (.cells #[.int .i64 u.st, .int .i64 u.sm, .bool u.ls] 47)
      have l6 := hbr.size
      have own6 := own.below hbe
      have hbr6 := bt hbr hbe
      obtain ⟨st, hst0⟩ : ∃ q, q = u.st := ⟨_, rfl⟩
      obtain ⟨sm, hsm0⟩ : ∃ q, q = u.sm := ⟨_, rfl⟩
      obtain ⟨ls, hls0⟩ : ∃ q, q = u.ls := ⟨_, rfl⟩
      rw [← hst0, ← hsm0, ← hls0] at hbe own6 hbr6
      rw [← hst0] at c0
      rw [← hsm0] at c1
      rw [← hls0] at c2
      have HLS := Lib.hid hls0
      clear hA2 hu e2 hst0 hsm0 hls0 own
      cases ls
      case false =>
        have HT := Lib.hid (lostN_not HE2.out HLS.out.symm)
        clear HLS HE2 hlen
        go_wp2_with fail
        go_roundw
        case rel => exact ⟨k + 1, by omega, by go_num, by rw [HT.out]; exact own6, hbr6⟩
        case measure => simp [RowKit.intOf]; omega
      case true =>
        have HT := Lib.hid (lostN_yes HE2.out HLS.out.symm)
        clear HLS HE2
        have HLE := Lib.hid hlen
        have lz := hbr6.size
        have HSRC := Lib.hid (show ∀ W : World, Src Try.prog 1 35 (.slice (some ⟨W.heap.size, 0, none⟩) 1 1) 1 [.int .i64 (k : Int)] (W.alloc (.cells #[.int .i64 (k : Int)] 3)) from fun W => (SlV.of_block (B := (W.alloc (.cells #[.int .i64 (k : Int)] 3)).heap.size) (vs := [.int .i64 (k : Int)]) (heap_alloc_new W (.cells #[.int .i64 (k : Int)] 3)) rfl (by simp)).src (by intro u hu; rw [List.mem_singleton.1 hu]; rfl) Try.underlying35 1)
        have HL1 := Lib.hid (show (ints (lostN x.es k)).length + 1 ≤ maxLen by rw [ints_length]; unfold maxLen; omega)
        have HL2 := Lib.hid (show ((ints (lostN x.es k)).length + 1) * 8 ≤ 140737488355328 by rw [ints_length]; omega)
        clear hlen
        have XE := heap_alloc_new w6 (.cells #[.int .i64 st, .int .i64 sm, .bool true] 47)
        go_upto_region 8 with fail
        obtain ⟨gE, hgE⟩ : ∃ g, g = w6.heap.size := ⟨_, rfl⟩
        rw [← hgE] at XE ⊢
        clear hgE hbe c0 c1 c2
        generalize w6.alloc (.cells #[.int .i64 st, .int .i64 sm, .bool true] 47) = w7 at *
        have e3 : w7.cell? ⟨gE, 2, none⟩ = some (.bool true) := by rw [cell_of_row _ _ _ _ _ _ XE]; rfl
        go_wp2_with (first
          | (at_builtin
             (refine wpList_appV _ rfl (.tmp 26) (.tmp 28) _ _ rfl w1.heap.size 3 tvI _ (ints (lostN x.es k)) rfl (own6.alloc _) _ [.int .i64 (k : Int)] rfl ?_ ?_ ?_ ?_ ?_; (focus (exact HSRC.out _)); (focus (exact HL1.out)); (focus (exact HL2.out)); (focus (exact Nat.le_trans lz (bl _ _).size)); intro v4 w4 own4 hg4 hat4; have hb4 := (kal hbr6 (.cells #[.int .i64 (k : Int)] 3)).grown hg4 (Nat.le_trans lz (bl _ _).size) (fun q hq => (World.ownsRow.lt own6 q hq).1))))
        have own5 : OwnV w4 w1.heap.size 3 v4 (ints (lostN x.es (k + 1))) := by rw [HT.out, ints_append]; exact own4
        clear HT HSRC own4 HLE
        go_wp2_with fail
        go_roundw
        case rel => exact ⟨k + 1, by omega, by go_num, own5, hb4⟩
        case measure => simp [RowKit.intOf]; omega
    · have j1 : ¬ (k : Int) < (n : Int) := by omega
      obtain rfl : k = n := by omega
      have hT : lostN x.es k = lostN x.es D := by
        obtain ⟨u, hu⟩ : ∃ u, x.es[D]? = some u := ⟨_, List.getElem?_eq_getElem (by have := HN.out; have := HND.out; omega)⟩
        rw [HND.out]
        exact lostN_not hu (HG.out.2.2 u (by rw [Int.toNat_natCast]; exact hu))
      rw [hT] at own
      obtain ⟨X, c, rfl, -, -, sl, -⟩ := own.form
      rw [ints_length]
      have HO := Lib.hid (show IntE (lostN x.es D).length (lostN x.es D) (.returned (.tuple #[.slice X (lostN x.es D).length c, .int .i64 0])) w6 from ⟨X, c, rfl, rfl, sl⟩)
      have hb6 := bt hb0 hbr
      clear hT own sl HX T1
      go_wp2_with fail
      go_ret2
      exact ⟨HO.out, hb6⟩
end Go.Proofs.Ytldknkikekaifaa.tbl
