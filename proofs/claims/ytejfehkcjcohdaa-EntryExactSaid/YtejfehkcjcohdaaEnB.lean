/-
  Package entry: Table, Make. Conditions: none.
-/
import Derived.Test.YtejfehkcjcohdaaEnA
namespace Go.Proofs.Ytejfehkcjcohdaa.ent
open Go.RowKit Go.Lib
open Go.Proofs.Ytejfehkcjcohdaa.gmt (Ok)
open Go.Proofs.Ytejfehkcjcohdaa.anc (bl kal kst ks bm ka)
open Go.Proofs.Ytejfehkcjcohdaa.sel (Three three_new Lies opened Opn no opened_err enc enc_opened open_any)
open Go.Proofs.Ytejfehkcjcohdaa.tbl (Ent EntOk entsN TV C1 c1_new G5 g5_new TbE)
open Go.Proofs.Ytejfehkcjcohdaa.tbl (RdT noTV noTV_own)
set_option maxRecDepth 100000 in
set_option maxHeartbeats 8000000 in
theorem tab_none (z d s l a e addr root : Int) (A : Option Addr) (n k : Nat) (w : World) (cP : ∀ W, Below w.heap.size w W → Calls Try.prog 26 #[.agg #[.int .i64 e, .slice A n k], .int .i64 addr, .int .i64 root] W fun e w' => BytB W.heap.size [] false e w' ∧ Below W.heap.size W w') :
    Calls Try.prog 11 #[.agg #[.int .i64 z, .int .i64 d, .int .i64 s, .int .i64 l, .int .i64 a], .agg #[.int .i64 e, .slice A n k], .int .i64 addr, .int .i64 root] w fun e w' => RdT w.heap.size [] false e w' ∧ Below w.heap.size w w' := by
  have HP := Lib.hid cP
  clear cP
  have s1 : (w.alloc (.cells #[.int .i64 z, .int .i64 d, .int .i64 s, .int .i64 l, .int .i64 a] 23)).heap.size = w.heap.size + 1 := by simp
  have s2 : ((w.alloc (.cells #[.int .i64 z, .int .i64 d, .int .i64 s, .int .i64 l, .int .i64 a] 23)).alloc (.cells #[.int .i64 e, .slice A n k] 27)).heap.size = w.heap.size + 2 := by simp
  have hx2 := bl (w.alloc (.cells #[.int .i64 z, .int .i64 d, .int .i64 s, .int .i64 l, .int .i64 a] 23)) (.cells #[.int .i64 e, .slice A n k] 27)
  have hx3 := bl ((w.alloc (.cells #[.int .i64 z, .int .i64 d, .int .i64 s, .int .i64 l, .int .i64 a] 23)).alloc (.cells #[.int .i64 e, .slice A n k] 27)) (.cells #[.slice none 0 0] 36)
  have GG := ((g5_new w z d s l a).keep hx2 (by omega)).keep hx3 (by omega)
  have GX : ((w.alloc (.cells #[.int .i64 z, .int .i64 d, .int .i64 s, .int .i64 l, .int .i64 a] 23)).alloc (.cells #[.int .i64 e, .slice A n k] 27)).heap[w.heap.size + 1]? = some (.cells #[.int .i64 e, .slice A n k] 27) := by rw [← s1]; exact heap_alloc_new _ _
  have x0 : (((w.alloc (.cells #[.int .i64 z, .int .i64 d, .int .i64 s, .int .i64 l, .int .i64 a] 23)).alloc (.cells #[.int .i64 e, .slice A n k] 27)).alloc (.cells #[.slice none 0 0] 36)).cell? ⟨w.heap.size + 1, 0, none⟩ = some (.int .i64 e) := kst hx3 (by omega) (by rw [cell_of_row _ _ _ _ _ _ GX]; rfl)
  have x1 : (((w.alloc (.cells #[.int .i64 z, .int .i64 d, .int .i64 s, .int .i64 l, .int .i64 a] 23)).alloc (.cells #[.int .i64 e, .slice A n k] 27)).alloc (.cells #[.slice none 0 0] 36)).cell? ⟨w.heap.size + 1, 1, none⟩ = some (.slice A n k) := kst hx3 (by omega) (by rw [cell_of_row _ _ _ _ _ _ GX]; rfl)
  have PP := c1_new ((w.alloc (.cells #[.int .i64 z, .int .i64 d, .int .i64 s, .int .i64 l, .int .i64 a] 23)).alloc (.cells #[.int .i64 e, .slice A n k] 27)) (.slice none 0 0) 36
  rw [s2] at PP
  have hx := kal (kal (bl w (.cells #[.int .i64 z, .int .i64 d, .int .i64 s, .int .i64 l, .int .i64 a] 23)) (.cells #[.int .i64 e, .slice A n k] 27)) (.cells #[.slice none 0 0] 36)
  have l2 : w.heap.size + 2 < (((w.alloc (.cells #[.int .i64 z, .int .i64 d, .int .i64 s, .int .i64 l, .int .i64 a] 23)).alloc (.cells #[.int .i64 e, .slice A n k] 27)).alloc (.cells #[.slice none 0 0] 36)).heap.size := by simp
  clear s1 s2 hx2 hx3 GX
  go_enter Try.func11, Try.ntmps11
  go_upto_region 1 with fail
  generalize (((w.alloc (.cells #[.int .i64 z, .int .i64 d, .int .i64 s, .int .i64 l, .int .i64 a] 23)).alloc (.cells #[.int .i64 e, .slice A n k] 27)).alloc (.cells #[.slice none 0 0] 36)) = w0 at *
  go_upto_region 2 with (go_at_call 26; (with_reducible refine (HP.out _ hx).mono ?_); rintro e w1 ⟨⟨Y, y, rfl, hs⟩, hb1⟩)
  have PP1 := PP.keep hb1 l2
  have GG1 := GG.keep hb1 (by omega)
  have HB := bt hx hb1
  have lw := hx.size
  replace l2 := Nat.lt_of_lt_of_le l2 hb1.size
  clear hb1 x0 x1 HP PP GG hx
  generalize w0.heap.size = N0 at *
  clear w0
  have p0 := PP1.c0
  have f0 := PP1.f0
  go_wp2_with fail
  have k7 := PP1.set (.slice none 0 0)
  exact bodyPost_ret (v := .tuple #[.agg #[.slice none 0 0], .bool false]) (by simp [results, Try.results11, go_sem, k7.c0]) rfl ⟨⟨noTV, rfl, rfl, noTV_own _ _⟩, HB.setCell (p := ⟨w.heap.size + 2, 0, none⟩) (by show w.heap.size ≤ w.heap.size + 2; omega) _⟩
set_option maxRecDepth 100000 in
set_option maxHeartbeats 8000000 in
theorem tab_sec (c : Bool) (z d s l a e addr root ge : Int) (es : List Ent) (A : Option Addr) (n k : Nat) (L : List UInt8) (w : World) (hc : c = true ↔ ge = 0) (cP : ∀ W, Below w.heap.size w W → Calls Try.prog 26 #[.agg #[.int .i64 e, .slice A n k], .int .i64 addr, .int .i64 root] W fun e w' => BytB W.heap.size L true e w' ∧ Below W.heap.size W w')
    (cR : ∀ (W : World) (Y : Option Addr) (y : Nat), Below w.heap.size w W → Sl W W.heap.size Y L → L.length ≤ y → y ≤ maxLen → Calls Try.prog 29 #[.agg #[.int .i64 z, .int .i64 d, .int .i64 s, .int .i64 l, .int .i64 a], .slice Y L.length y] W fun e w' => TbE W.heap.size es ge e w' ∧ Below W.heap.size W w') :
    Calls Try.prog 11 #[.agg #[.int .i64 z, .int .i64 d, .int .i64 s, .int .i64 l, .int .i64 a], .agg #[.int .i64 e, .slice A n k], .int .i64 addr, .int .i64 root] w fun e w' => RdT w.heap.size (part c es) c e w' ∧ Below w.heap.size w w' := by
  have HP := Lib.hid cP
  have HR := Lib.hid cR
  have HC := Lib.hid hc
  clear cP cR hc
  have s1 : (w.alloc (.cells #[.int .i64 z, .int .i64 d, .int .i64 s, .int .i64 l, .int .i64 a] 23)).heap.size = w.heap.size + 1 := by simp
  have s2 : ((w.alloc (.cells #[.int .i64 z, .int .i64 d, .int .i64 s, .int .i64 l, .int .i64 a] 23)).alloc (.cells #[.int .i64 e, .slice A n k] 27)).heap.size = w.heap.size + 2 := by simp
  have hx2 := bl (w.alloc (.cells #[.int .i64 z, .int .i64 d, .int .i64 s, .int .i64 l, .int .i64 a] 23)) (.cells #[.int .i64 e, .slice A n k] 27)
  have hx3 := bl ((w.alloc (.cells #[.int .i64 z, .int .i64 d, .int .i64 s, .int .i64 l, .int .i64 a] 23)).alloc (.cells #[.int .i64 e, .slice A n k] 27)) (.cells #[.slice none 0 0] 36)
  have GG := ((g5_new w z d s l a).keep hx2 (by omega)).keep hx3 (by omega)
  have GX : ((w.alloc (.cells #[.int .i64 z, .int .i64 d, .int .i64 s, .int .i64 l, .int .i64 a] 23)).alloc (.cells #[.int .i64 e, .slice A n k] 27)).heap[w.heap.size + 1]? = some (.cells #[.int .i64 e, .slice A n k] 27) := by rw [← s1]; exact heap_alloc_new _ _
  have x0 : (((w.alloc (.cells #[.int .i64 z, .int .i64 d, .int .i64 s, .int .i64 l, .int .i64 a] 23)).alloc (.cells #[.int .i64 e, .slice A n k] 27)).alloc (.cells #[.slice none 0 0] 36)).cell? ⟨w.heap.size + 1, 0, none⟩ = some (.int .i64 e) := kst hx3 (by omega) (by rw [cell_of_row _ _ _ _ _ _ GX]; rfl)
  have x1 : (((w.alloc (.cells #[.int .i64 z, .int .i64 d, .int .i64 s, .int .i64 l, .int .i64 a] 23)).alloc (.cells #[.int .i64 e, .slice A n k] 27)).alloc (.cells #[.slice none 0 0] 36)).cell? ⟨w.heap.size + 1, 1, none⟩ = some (.slice A n k) := kst hx3 (by omega) (by rw [cell_of_row _ _ _ _ _ _ GX]; rfl)
  have PP := c1_new ((w.alloc (.cells #[.int .i64 z, .int .i64 d, .int .i64 s, .int .i64 l, .int .i64 a] 23)).alloc (.cells #[.int .i64 e, .slice A n k] 27)) (.slice none 0 0) 36
  rw [s2] at PP
  have hx := kal (kal (bl w (.cells #[.int .i64 z, .int .i64 d, .int .i64 s, .int .i64 l, .int .i64 a] 23)) (.cells #[.int .i64 e, .slice A n k] 27)) (.cells #[.slice none 0 0] 36)
  have l2 : w.heap.size + 2 < (((w.alloc (.cells #[.int .i64 z, .int .i64 d, .int .i64 s, .int .i64 l, .int .i64 a] 23)).alloc (.cells #[.int .i64 e, .slice A n k] 27)).alloc (.cells #[.slice none 0 0] 36)).heap.size := by simp
  clear s1 s2 hx2 hx3 GX
  go_enter Try.func11, Try.ntmps11
  go_upto_region 1 with fail
  generalize (((w.alloc (.cells #[.int .i64 z, .int .i64 d, .int .i64 s, .int .i64 l, .int .i64 a] 23)).alloc (.cells #[.int .i64 e, .slice A n k] 27)).alloc (.cells #[.slice none 0 0] 36)) = w0 at *
  go_upto_region 2 with (go_at_call 26; (with_reducible refine (HP.out _ hx).mono ?_); rintro e w1 ⟨⟨Y, y, rfl, hs⟩, hb1⟩)
  have PP1 := PP.keep hb1 l2
  have GG1 := GG.keep hb1 (by omega)
  have HB := bt hx hb1
  have lw := hx.size
  replace l2 := Nat.lt_of_lt_of_le l2 hb1.size
  clear hb1 x0 x1 HP PP GG hx
  generalize w0.heap.size = N0 at *
  clear w0
  have p0 := PP1.c0
  have f0 := PP1.f0
  obtain ⟨Y', y', hv, h1, h2, hsl, -⟩ := id hs.form
  simp only [Value.slice.injEq] at hv
  obtain ⟨rfl, -, rfl⟩ := hv
  have HR2 := Lib.hid (HR.out w1 Y y HB hsl h1 h2)
  clear hs hsl h1 h2 HR
  obtain ⟨g0, g1, g2, g3, g4⟩ := id GG1
  go_upto_region 5 with (go_at_call 29; (with_reducible refine HR2.out.mono ?_); rintro e w3 ⟨⟨t, het, hte0, hto⟩, hb3⟩; rw [TV.v] at het; subst het; have hte1 := Lib.hid hte0; clear hte0)
  obtain ⟨N, hN⟩ : ∃ N, N = t.es.length := ⟨_, rfl⟩
  rw [← hN]
  have hxT := bl w3 (.cells #[.slice t.A N t.c] 36)
  have TT := c1_new w3 (.slice t.A (N : Nat) t.c) 36
  have PP2 := (PP1.keep hb3 l2).keep hxT (Nat.lt_of_lt_of_le l2 hb3.size)
  have HB2 := bt (bt HB hb3) hxT
  have HTO := Lib.hid (hto.below hxT)
  have HNN := Lib.hid hN
  have lb3 := hb3.size
  have lb4 := hxT.size
  clear hto hxT hb3 PP1 GG1 g0 g1 g2 g3 g4 p0 f0 HB HR2 hN
  generalize w3.alloc (.cells #[.slice t.A N t.c] 36) = w4 at *
  have p0 := PP2.c0
  have f0 := PP2.f0
  have t0 := TT.c0
  cases c
  case true =>
    have i1 : (ge != 0) = false := by rw [HC.out.1 rfl]; rfl
    clear HC
    go_wp2_with fail
    have k7 := PP2.set (.slice t.A (N : Nat) t.c)
    exact bodyPost_ret (v := .tuple #[.agg #[.slice t.A (N : Nat) t.c], .bool true]) (by simp [results, Try.results11, go_sem, k7.c0]) rfl ⟨⟨t, by rw [TV.v, ← HNN.out], hte1.out, TV.Own.less (tbl.OwnE.cell_set HTO.out (by omega) _) (by omega)⟩, HB2.setCell (p := ⟨w.heap.size + 2, 0, none⟩) (by show w.heap.size ≤ w.heap.size + 2; omega) _⟩
  case false =>
    have i1 : (ge != 0) = true := bne_iff_ne.2 fun h => Bool.false_ne_true (HC.out.2 h)
    clear HC
    go_wp2_with fail
    have k7 := PP2.set (.slice none 0 0)
    exact bodyPost_ret (v := .tuple #[.agg #[.slice none 0 0], .bool false]) (by simp [results, Try.results11, go_sem, k7.c0]) rfl ⟨⟨noTV, rfl, rfl, noTV_own _ _⟩, HB2.setCell (p := ⟨w.heap.size + 2, 0, none⟩) (by show w.heap.size ≤ w.heap.size + 2; omega) _⟩
/-- What table a reading says, of a root. -/
theorem table_c (c : Bool) (z d s l a e addr root : Int) (A : Option Addr) (n k : Nat) (b : List UInt8) (w : World) (hn : b.length = n) (hk : n ≤ k) (hm : k ≤ maxLen) (hA : Sl w w.heap.size A b) (hc : c = true ↔ Ok z d s l a ∧ TabB d e b addr root) :
    Calls Try.prog 11 #[.agg #[.int .i64 z, .int .i64 d, .int .i64 s, .int .i64 l, .int .i64 a], .agg #[.int .i64 e, .slice A n k], .int .i64 addr, .int .i64 root] w fun e w' => RdT w.heap.size (part c (entsN (opened b).load (d.toNat + 1))) c e w' ∧ Below w.heap.size w w' := by
  by_cases hs : SayB e b addr root
  case neg =>
    obtain rfl : c = false := by cases c; rfl; exact absurd (hc.1 rfl).2.1 hs
    exact tab_none z d s l a e addr root A n k w fun W hW => pay_c false e addr root A n k b W hn hk hm (hA.next hW) (iff_of_false Bool.false_ne_true hs)
  have cP := fun W (hW : Below w.heap.size w W) => pay_c true e addr root A n k b W hn hk hm (hA.next hW) (iff_of_true rfl hs)
  have h96 := (enc_opened hs.2.1).2.2.2
  by_cases ho : Ok z d s l a
  case neg =>
    obtain rfl : c = false := by cases c; rfl; exact absurd (hc.1 rfl).1 ho
    exact tab_sec false z d s l a e addr root 1 [] A n k (opened b).load w (by simp) cP fun W Y y _ _ _ _ => tbl.tread_geo z d s l a _ W ⟨Y, _, y, rfl⟩ ho
  obtain ⟨D, rfl⟩ : ∃ D : Nat, d = D := ⟨d.toNat, by have := ho.2.1; omega⟩
  rw [Int.toNat_natCast]
  by_cases ht : tbl.Told D (opened b).load
  · obtain rfl : c = true := hc.2 ⟨ho, hs, ht⟩
    refine tab_sec true z D s l a e addr root 0 _ A n k (opened b).load w (by simp) cP fun W Y y hW h1 h2 h3 => ?_
    have h := tbl.tread_any true z s l a D Y _ y _ W ho rfl h2 h3 (by omega) h1 (iff_of_true rfl ht)
    unfold tbl.RdR at h
    exact h
  · obtain rfl : c = false := by cases c; rfl; exact absurd (hc.1 rfl).2.2 ht
    refine tab_sec false z D s l a e addr root 4 [] A n k (opened b).load w (by simp) cP fun W Y y hW h1 h2 h3 => ?_
    have h := tbl.tread_any false z s l a D Y _ y _ W ho rfl h2 h3 (by omega) h1 (iff_of_false Bool.false_ne_true ht)
    unfold tbl.RdR at h
    exact h
set_option maxRecDepth 100000 in
set_option maxHeartbeats 8000000 in
theorem mak_arg (st : Int) (A : Option Addr) (n k : Nat) (w : World) (hs : ¬ (0 ≤ st ∧ st ≤ 4294967295)) :
    Calls Try.prog 12 #[.int .i64 st, .slice A n k] w fun e w' => e = .returned (.tuple #[.agg #[.int .i64 0, .int .i64 0, .bool false], .int .i64 1]) ∧ Below w.heap.size w w' := by
  have PP := three_new w (.int .i64 0) (.int .i64 0) (.bool false) 29
  have hx := bl w (.cells #[.int .i64 0, .int .i64 0, .bool false] 29)
  have lx : w.heap.size < (w.alloc (.cells #[.int .i64 0, .int .i64 0, .bool false] 29)).heap.size := by simp
  go_enter Try.func12, Try.ntmps12
  go_upto_region 1 with fail
  generalize w.alloc (.cells #[.int .i64 0, .int .i64 0, .bool false] 29) = w0 at *
  obtain ⟨p0, p1, p2, f0, f1, f2⟩ := id PP
  have q : st < 0 ∨ (0 ≤ st ∧ 4294967295 < st) := by omega
  clear hs
  rcases q with q | ⟨q, q2⟩
  all_goals
    go_wp2_with fail
    have k7 := PP.set (.int .i64 0) (.int .i64 0) (.bool false)
    exact bodyPost_ret (v := .tuple #[.agg #[.int .i64 0, .int .i64 0, .bool false], .int .i64 1]) (by simp [results, Try.results12, go_sem, k7.c0, k7.c1, k7.c2]) rfl ⟨rfl, Three.below hx (Nat.le_refl _) _ _ _⟩
set_option maxRecDepth 100000 in
set_option maxHeartbeats 8000000 in
theorem mak_len (st : Int) (A : Option Addr) (n k : Nat) (w : World) (hs : 0 ≤ st ∧ st ≤ 4294967295) (hn : n ≠ 8) :
    Calls Try.prog 12 #[.int .i64 st, .slice A n k] w fun e w' => e = .returned (.tuple #[.agg #[.int .i64 0, .int .i64 0, .bool false], .int .i64 2]) ∧ Below w.heap.size w w' := by
  obtain ⟨q1, q2⟩ := hs
  have i1 : ((n : Int) != 8) = true := bne_iff_ne.2 (by omega)
  clear hn
  have PP := three_new w (.int .i64 0) (.int .i64 0) (.bool false) 29
  have hx := bl w (.cells #[.int .i64 0, .int .i64 0, .bool false] 29)
  have lx : w.heap.size < (w.alloc (.cells #[.int .i64 0, .int .i64 0, .bool false] 29)).heap.size := by simp
  go_enter Try.func12, Try.ntmps12
  go_upto_region 1 with fail
  generalize w.alloc (.cells #[.int .i64 0, .int .i64 0, .bool false] 29) = w0 at *
  obtain ⟨p0, p1, p2, f0, f1, f2⟩ := id PP
  go_wp2_with fail
  have k7 := PP.set (.int .i64 0) (.int .i64 0) (.bool false)
  exact bodyPost_ret (v := .tuple #[.agg #[.int .i64 0, .int .i64 0, .bool false], .int .i64 2]) (by simp [results, Try.results12, go_sem, k7.c0, k7.c1, k7.c2]) rfl ⟨rfl, Three.below hx (Nat.le_refl _) _ _ _⟩
set_option maxRecDepth 100000 in
set_option maxHeartbeats 8000000 in
theorem mak_ok (st : Int) (A : Option Addr) (k : Nat) (l : List UInt8) (w : World) (hs : 0 ≤ st ∧ st ≤ 4294967295) (hn : l.length = 8) (hA : Sl w w.heap.size A l) :
    Calls Try.prog 12 #[.int .i64 st, .slice A 8 k] w fun e w' => e = .returned (.tuple #[.agg #[.int .i64 st, .int .i64 (crc.sum l : Nat), .bool false], .int .i64 0]) ∧ Below w.heap.size w w' := by
  obtain ⟨q1, q2⟩ := hs
  have i1 : ((8 : Int) != 8) = false := rfl
  have HF := Lib.hid (show ∀ W, Below w.heap.size w W → Calls Try.prog 27 #[.slice A (8 : Nat) k] W fun e w' => e = .returned (.int .i64 (crc.sum l : Nat)) ∧ W = w' from fun W hW => by
    have h9 := crc.of_any A k _ l W (hA.next hW) (by rw [hn]; decide)
    rw [hn] at h9
    exact h9)
  clear hn hA
  obtain ⟨S, hS⟩ : ∃ S : Nat, S = crc.sum l := ⟨_, rfl⟩
  rw [← hS] at HF ⊢
  clear hS
  have PP := three_new w (.int .i64 0) (.int .i64 0) (.bool false) 29
  have hx := bl w (.cells #[.int .i64 0, .int .i64 0, .bool false] 29)
  have lx : w.heap.size < (w.alloc (.cells #[.int .i64 0, .int .i64 0, .bool false] 29)).heap.size := by simp
  go_enter Try.func12, Try.ntmps12
  go_upto_region 1 with fail
  generalize w.alloc (.cells #[.int .i64 0, .int .i64 0, .bool false] 29) = w0 at *
  obtain ⟨p0, p1, p2, f0, f1, f2⟩ := id PP
  go_wp2_with (go_at_call 27; (with_reducible refine (HF.out _ hx).mono ?_); rintro e w1 ⟨rfl, rfl⟩)
  have k7 := PP.set (.int .i64 st) (.int .i64 S) (.bool false)
  exact bodyPost_ret (v := .tuple #[.agg #[.int .i64 st, .int .i64 (S : Nat), .bool false], .int .i64 0]) (by simp [results, Try.results12, go_sem, k7.c0, k7.c1, k7.c2]) rfl ⟨rfl, Three.below hx (Nat.le_refl _) _ _ _⟩
end Go.Proofs.Ytejfehkcjcohdaa.ent
