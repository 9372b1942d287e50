/-
  The law ZoneLost, walked. Conditions: 'Czn'.
-/
import Derived.Test.YtajjmllolaajoaaZnP
import Derived.Test.YtajjmllolaajoaaDkQ
import Derived.IntWalk
import Derived.Test.YtajjmllolaajoaaTbO
namespace Go.Proofs.Ytajjmllolaajoaa.zon
open Go.RowKit Go.Lib
open Go.Proofs.Ytajjmllolaajoaa.gmt (Ok)
open Go.Proofs.Ytajjmllolaajoaa.anc (kal kst ks bm ka)
open Go.Proofs.Ytajjmllolaajoaa.tbl (Ent EntOk C1 c1_new G5 g5_new OwnE)
open Go.Proofs.Ytajjmllolaajoaa.par (zx zeros zeros_length zx_length)
theorem lost_good {d : Int} {es : List Ent} {e0 : Ent} {J : Nat} (h : tbl.Good d es) (h1 : es[J]? = some e0) (hJ : (J : Int) < d) : tbl.Good d (es.set J { e0 with ls := true }) := by
  refine ⟨by rw [List.length_set]; exact h.1, fun e he => ?_, fun e he => ?_⟩
  · rcases List.mem_or_eq_of_mem_set he with k | k
    · exact h.2.1 e k
    · rw [k]; exact h.2.1 e0 (List.mem_of_getElem? h1)
  · rw [List.getElem?_set_ne (by omega)] at he
    exact h.2.2 e he
theorem lost_set {es : List Ent} {e0 : Ent} {J : Nat} (hJ : J < es.length) : lostK (es.set J { e0 with ls := true }) J = true := by
  rw [lostK_get (List.getElem?_set_self hJ)]
theorem had_put {n : Nat} {hs : List (List UInt8)} (h : HadOk n hs) (j : Nat) {l : List UInt8} (hl : l.length = 8) : HadOk n (hs.set j l) := by
  refine ⟨by rw [List.length_set]; exact h.1, fun x hx => ?_⟩
  rcases List.mem_or_eq_of_mem_set hx with k | k
  · exact h.2 x k
  · rw [k]; exact .inr hl
theorem knowns_lost {n J : Nat} {es : List Ent} {hs : List (List UInt8)} (hl : lostK es J = true) (hJ : J < hs.length) (a b : List UInt8) : knowns n es (hs.set J a) = knowns n es (hs.set J b) := by
  unfold knowns
  refine List.map_congr_left fun i _ => known_other hl (fun k hk => ?_) i
  rw [hadK_set a hJ k, hadK_set b hJ k, if_neg hk, if_neg hk]
/-- Rows of one's own, where another block is written. -/
theorem rows_other {w : World} {base g0 o : Nat} {v : Value} {rs : List Row} {ls : List (List UInt8)} (h : OwnRows w base v rs ls) (h1 : ∀ g, v.ownBlock = some g → g < g0) (h2 : ∀ r ∈ rs, ∀ g, r.v.ownBlock = some g → g < g0) (x : Value) : OwnRows (w.setCell ⟨g0, o, none⟩ x) base v rs ls :=
  ⟨ownsRow_setCell_other h.1 (fun k => by have := h1 g0 k; omega) x, h.2.1, fun r hr => ownsRow_setCell_other (h.2.2 r hr) (fun k => by have := h2 r hr g0 k; omega) x⟩
/-- One of them made bytes that lie below. -/
theorem rows_put {w : World} {base B g m c j : Nat} {rows : List Row} {ls : List (List UInt8)} {r : Row} (h : OwnRows w base (.slice (some ⟨g, 0, none⟩) m c) rows ls) (hm : ls.length = m) (hr : Sl w B r.A r.l) (hB : B ≤ g) (hBw : B ≤ w.heap.size) (hc : r.l.length ≤ r.c ∧ r.c ≤ maxLen) :
    LV.In (w.setCell ⟨g, j, none⟩ r.v) (w.setCell ⟨g, j, none⟩ r.v).heap.size ⟨some ⟨g, 0, none⟩, c, rows.set j r⟩ := by
  have hl : (vals rows).length = m := by rw [vals_length, h.len, hm]
  obtain ⟨h1, hg⟩ := h.1.store hl j r.v
  have h3 : OwnV (w.setCell ⟨g, j, none⟩ r.v) base 31 (.slice (some ⟨g, 0, none⟩) m c) (vals (rows.set j r)) := by unfold vals; rw [List.map_set]; exact h1
  obtain ⟨A', c', hv, h4, h5, h6, -⟩ := h3.form
  simp only [Value.slice.injEq] at hv
  obtain ⟨rfl, -, rfl⟩ := hv
  rw [vals_length] at h4
  have hw : Below B w (w.setCell ⟨g, j, none⟩ r.v) := (Below.refl B w).setCell (p := ⟨g, j, none⟩) hB r.v
  refine ⟨h6, fun q hq => ?_, ⟨h4, h5⟩, fun q hq => ?_⟩
  · rcases List.mem_or_eq_of_mem_set hq with k | k
    · exact row_sl ((h.2.2 q k).kept hg (own_apart (h.2.2 q k) h.1 u8_other))
    · rw [k]; exact (hr.below hw).more (by simpa using hBw)
  · rcases List.mem_or_eq_of_mem_set hq with k | k
    · exact own_caps (h.2.2 q k)
    · rw [k]; exact hc
set_option maxRecDepth 100000 in
set_option maxHeartbeats 8000000 in
theorem zl_heavy (z s l a : Int) (d : Int) (x : tbl.TV) (N : Nat) (hA : Option Addr) (hq : Nat) (hr : List Row) (n : Nat) (at0 : Int) (bA : Option Addr) (m bc : Nat) (w : World) (hc : Czn w) (hN : x.es.length = N) (hx : x.In w w.heap.size) (hn : hr.length = n) (hh : LV.In w w.heap.size ⟨hA, hq, hr⟩) (hv : 20 < N ∨ 20 < n ∨ ∃ y ∈ lists hr, 100 < y.length) :
    Calls Try.prog 7 #[.agg #[.int .i64 z, .int .i64 d, .int .i64 s, .int .i64 l, .int .i64 a], .agg #[.slice x.A N x.c], .slice hA n hq, .int .i64 at0, .slice bA m bc] w fun e w' => e = .returned (.bool true) ∧ Below w.heap.size w w' := by
  have s1 : (w.alloc (.cells #[.int .i64 z, .int .i64 d, .int .i64 s, .int .i64 l, .int .i64 a] 23)).heap.size = w.heap.size + 1 := by simp
  have hx2 := anc.bl (w.alloc (.cells #[.int .i64 z, .int .i64 d, .int .i64 s, .int .i64 l, .int .i64 a] 23)) (.cells #[.slice x.A N x.c] 26)
  have GG := (g5_new w z d s l a).keep hx2 (by omega)
  have TT := c1_new (w.alloc (.cells #[.int .i64 z, .int .i64 d, .int .i64 s, .int .i64 l, .int .i64 a] 23)) (.slice x.A N x.c) 26
  rw [s1] at TT
  have hw := kal (anc.bl w (.cells #[.int .i64 z, .int .i64 d, .int .i64 s, .int .i64 l, .int .i64 a] 23)) (.cells #[.slice x.A N x.c] 26)
  have lT : w.heap.size + 1 < ((w.alloc (.cells #[.int .i64 z, .int .i64 d, .int .i64 s, .int .i64 l, .int .i64 a] 23)).alloc (.cells #[.slice x.A N x.c] 26)).heap.size := by simp
  have HC := Lib.hid hc
  have HNE := Lib.hid hN
  have HXI := Lib.hid (hx.next hw)
  have HHI := Lib.hid (hh.next hw)
  have HHn := Lib.hid hn
  clear hc hN hx hh hn s1 hx2
  go_enter Try.func7, Try.ntmps7
  go_upto_region 1 with fail
  generalize ((w.alloc (.cells #[.int .i64 z, .int .i64 d, .int .i64 s, .int .i64 l, .int .i64 a] 23)).alloc (.cells #[.slice x.A N x.c] 26)) = w2 at *
  obtain ⟨g0, g1', g2, g3, g4⟩ := id GG
  have t0 := TT.c0
  have HHV := Lib.hid (heavy_c true x.A hA N x.c n hq hr w2 HHn.out HHI.out.h HHI.out.r (iff_of_true rfl hv))
  clear hv
  have HMG := Lib.hid (show ∀ W, Below w2.heap.size w2 W → (W.cell? ⟨w.heap.size, 0, none⟩ = some (.int .i64 z) ∧ W.cell? ⟨w.heap.size, 1, none⟩ = some (.int .i64 d) ∧ W.cell? ⟨w.heap.size, 2, none⟩ = some (.int .i64 s) ∧ W.cell? ⟨w.heap.size, 3, none⟩ = some (.int .i64 l) ∧ W.cell? ⟨w.heap.size, 4, none⟩ = some (.int .i64 a)) ∧ W.cell? ⟨w.heap.size + 1, 0, none⟩ = some (.slice x.A N x.c) from fun W h => ⟨⟨kst h (by omega) g0, kst h (by omega) g1', kst h (by omega) g2, kst h (by omega) g3, kst h (by omega) g4⟩, kst h lT t0⟩)
  go_wp2_with (first
    | (go_at_call 9; (with_reducible refine HHV.out.mono ?_); rintro e w3 ⟨rfl, hb3⟩; clear g0 g1' g2 g3 g4 t0; obtain ⟨⟨g0, g1', g2, g3, g4⟩, t0⟩ := HMG.out _ hb3))
  go_ret
  exact ⟨rfl, bt hw hb3⟩
set_option maxRecDepth 100000 in
set_option maxHeartbeats 8000000 in
theorem zl_geo (z s l a : Int) (d : Int) (x : tbl.TV) (N : Nat) (hA : Option Addr) (hq : Nat) (hr : List Row) (n : Nat) (at0 : Int) (bA : Option Addr) (m bc : Nat) (w : World) (hc : Czn w) (hN : x.es.length = N) (hx : x.In w w.heap.size) (hn : hr.length = n) (hh : LV.In w w.heap.size ⟨hA, hq, hr⟩) (hv : ¬ (20 < N ∨ 20 < n ∨ ∃ y ∈ lists hr, 100 < y.length)) (ho : ¬ Ok z d s l a) :
    Calls Try.prog 7 #[.agg #[.int .i64 z, .int .i64 d, .int .i64 s, .int .i64 l, .int .i64 a], .agg #[.slice x.A N x.c], .slice hA n hq, .int .i64 at0, .slice bA m bc] w fun e w' => e = .returned (.bool true) ∧ Below w.heap.size w w' := by
  have s1 : (w.alloc (.cells #[.int .i64 z, .int .i64 d, .int .i64 s, .int .i64 l, .int .i64 a] 23)).heap.size = w.heap.size + 1 := by simp
  have hx2 := anc.bl (w.alloc (.cells #[.int .i64 z, .int .i64 d, .int .i64 s, .int .i64 l, .int .i64 a] 23)) (.cells #[.slice x.A N x.c] 26)
  have GG := (g5_new w z d s l a).keep hx2 (by omega)
  have TT := c1_new (w.alloc (.cells #[.int .i64 z, .int .i64 d, .int .i64 s, .int .i64 l, .int .i64 a] 23)) (.slice x.A N x.c) 26
  rw [s1] at TT
  have hw := kal (anc.bl w (.cells #[.int .i64 z, .int .i64 d, .int .i64 s, .int .i64 l, .int .i64 a] 23)) (.cells #[.slice x.A N x.c] 26)
  have lT : w.heap.size + 1 < ((w.alloc (.cells #[.int .i64 z, .int .i64 d, .int .i64 s, .int .i64 l, .int .i64 a] 23)).alloc (.cells #[.slice x.A N x.c] 26)).heap.size := by simp
  have HC := Lib.hid hc
  have HNE := Lib.hid hN
  have HXI := Lib.hid (hx.next hw)
  have HHI := Lib.hid (hh.next hw)
  have HHn := Lib.hid hn
  clear hc hN hx hh hn s1 hx2
  go_enter Try.func7, Try.ntmps7
  go_upto_region 1 with fail
  generalize ((w.alloc (.cells #[.int .i64 z, .int .i64 d, .int .i64 s, .int .i64 l, .int .i64 a] 23)).alloc (.cells #[.slice x.A N x.c] 26)) = w2 at *
  obtain ⟨g0, g1', g2, g3, g4⟩ := id GG
  have t0 := TT.c0
  have HHV := Lib.hid (heavy_c false x.A hA N x.c n hq hr w2 HHn.out HHI.out.h HHI.out.r (iff_of_false Bool.false_ne_true hv))
  have HRG := Lib.hid (show ∀ W, Calls Try.prog 16 #[.agg #[.int .i64 z, .int .i64 d, .int .i64 s, .int .i64 l, .int .i64 a]] W fun e w' => e = .returned (.bool false) ∧ Below W.heap.size W w' from fun W => gmt.rgeo_at false z d s l a W (iff_of_false Bool.false_ne_true ho))
  clear hv ho
  have HMG := Lib.hid (show ∀ W, Below w2.heap.size w2 W → (W.cell? ⟨w.heap.size, 0, none⟩ = some (.int .i64 z) ∧ W.cell? ⟨w.heap.size, 1, none⟩ = some (.int .i64 d) ∧ W.cell? ⟨w.heap.size, 2, none⟩ = some (.int .i64 s) ∧ W.cell? ⟨w.heap.size, 3, none⟩ = some (.int .i64 l) ∧ W.cell? ⟨w.heap.size, 4, none⟩ = some (.int .i64 a)) ∧ W.cell? ⟨w.heap.size + 1, 0, none⟩ = some (.slice x.A N x.c) from fun W h => ⟨⟨kst h (by omega) g0, kst h (by omega) g1', kst h (by omega) g2, kst h (by omega) g3, kst h (by omega) g4⟩, kst h lT t0⟩)
  go_wp2_with (first
    | (go_at_call 9; (with_reducible refine HHV.out.mono ?_); rintro e w3 ⟨rfl, hb3⟩; clear g0 g1' g2 g3 g4 t0; obtain ⟨⟨g0, g1', g2, g3, g4⟩, t0⟩ := HMG.out _ hb3)
    | (go_at_call 16; (with_reducible refine (HRG.out w3).mono ?_); rintro e w4 ⟨rfl, hb4⟩; have hb34 := bt hb3 hb4; clear g0 g1' g2 g3 g4 t0; obtain ⟨⟨g0, g1', g2, g3, g4⟩, t0⟩ := HMG.out _ hb34))
  go_ret
  exact ⟨rfl, bt hw hb34⟩
set_option maxRecDepth 100000 in
set_option maxHeartbeats 8000000 in
theorem zl_tab (z s l a : Int) (d : Int) (x : tbl.TV) (N : Nat) (hA : Option Addr) (hq : Nat) (hr : List Row) (n : Nat) (at0 : Int) (bA : Option Addr) (m bc : Nat) (w : World) (hc : Czn w) (hN : x.es.length = N) (hx : x.In w w.heap.size) (hn : hr.length = n) (hh : LV.In w w.heap.size ⟨hA, hq, hr⟩) (hv : ¬ (20 < N ∨ 20 < n ∨ ∃ y ∈ lists hr, 100 < y.length)) (ho : Ok z d s l a) (hg : ¬ tbl.Good d x.es) :
    Calls Try.prog 7 #[.agg #[.int .i64 z, .int .i64 d, .int .i64 s, .int .i64 l, .int .i64 a], .agg #[.slice x.A N x.c], .slice hA n hq, .int .i64 at0, .slice bA m bc] w fun e w' => e = .returned (.bool true) ∧ Below w.heap.size w w' := by
  have s1 : (w.alloc (.cells #[.int .i64 z, .int .i64 d, .int .i64 s, .int .i64 l, .int .i64 a] 23)).heap.size = w.heap.size + 1 := by simp
  have hx2 := anc.bl (w.alloc (.cells #[.int .i64 z, .int .i64 d, .int .i64 s, .int .i64 l, .int .i64 a] 23)) (.cells #[.slice x.A N x.c] 26)
  have GG := (g5_new w z d s l a).keep hx2 (by omega)
  have TT := c1_new (w.alloc (.cells #[.int .i64 z, .int .i64 d, .int .i64 s, .int .i64 l, .int .i64 a] 23)) (.slice x.A N x.c) 26
  rw [s1] at TT
  have hw := kal (anc.bl w (.cells #[.int .i64 z, .int .i64 d, .int .i64 s, .int .i64 l, .int .i64 a] 23)) (.cells #[.slice x.A N x.c] 26)
  have lT : w.heap.size + 1 < ((w.alloc (.cells #[.int .i64 z, .int .i64 d, .int .i64 s, .int .i64 l, .int .i64 a] 23)).alloc (.cells #[.slice x.A N x.c] 26)).heap.size := by simp
  have HC := Lib.hid hc
  have HNE := Lib.hid hN
  have HXI := Lib.hid (hx.next hw)
  have HHI := Lib.hid (hh.next hw)
  have HHn := Lib.hid hn
  clear hc hN hx hh hn s1 hx2
  go_enter Try.func7, Try.ntmps7
  go_upto_region 1 with fail
  generalize ((w.alloc (.cells #[.int .i64 z, .int .i64 d, .int .i64 s, .int .i64 l, .int .i64 a] 23)).alloc (.cells #[.slice x.A N x.c] 26)) = w2 at *
  obtain ⟨g0, g1', g2, g3, g4⟩ := id GG
  have t0 := TT.c0
  have HHV := Lib.hid (heavy_c false x.A hA N x.c n hq hr w2 HHn.out HHI.out.h HHI.out.r (iff_of_false Bool.false_ne_true hv))
  have HO := Lib.hid ho
  have HRG := Lib.hid (show ∀ W, Calls Try.prog 16 #[.agg #[.int .i64 z, .int .i64 d, .int .i64 s, .int .i64 l, .int .i64 a]] W fun e w' => e = .returned (.bool true) ∧ Below W.heap.size W w' from fun W => gmt.rgeo_at true z d s l a W (iff_of_true rfl ho))
  have hN20 : N ≤ 20 := by omega
  have hn20 : n ≤ 20 := by omega
  have HN20 := Lib.hid hN20
  have Hn20 := Lib.hid hn20
  have HSH := Lib.hid (show ∀ y ∈ lists hr, y.length ≤ 100 from fun y hy => Nat.le_of_not_lt fun k => hv (.inr (.inr ⟨y, hy, k⟩)))
  clear hv hN20 hn20
  have HRT := Lib.hid (show ∀ W, Below w2.heap.size w2 W → Calls Try.prog 17 #[.agg #[.int .i64 z, .int .i64 d, .int .i64 s, .int .i64 l, .int .i64 a], .agg #[.slice x.A N x.c]] W fun e w' => e = .returned (.bool false) ∧ Below W.heap.size W w' from fun W hW => by
    have h9 := tbl.rtable_any false z d s l a x W HO.out (HXI.out.next hW) (by rw [HNE.out]; have := HN20.out; omega) (iff_of_false Bool.false_ne_true hg)
    rw [tbl.TV.v, HNE.out] at h9
    exact h9)
  clear ho hg
  have HMG := Lib.hid (show ∀ W, Below w2.heap.size w2 W → (W.cell? ⟨w.heap.size, 0, none⟩ = some (.int .i64 z) ∧ W.cell? ⟨w.heap.size, 1, none⟩ = some (.int .i64 d) ∧ W.cell? ⟨w.heap.size, 2, none⟩ = some (.int .i64 s) ∧ W.cell? ⟨w.heap.size, 3, none⟩ = some (.int .i64 l) ∧ W.cell? ⟨w.heap.size, 4, none⟩ = some (.int .i64 a)) ∧ W.cell? ⟨w.heap.size + 1, 0, none⟩ = some (.slice x.A N x.c) from fun W h => ⟨⟨kst h (by omega) g0, kst h (by omega) g1', kst h (by omega) g2, kst h (by omega) g3, kst h (by omega) g4⟩, kst h lT t0⟩)
  go_wp2_with (first
    | (go_at_call 9; (with_reducible refine HHV.out.mono ?_); rintro e w3 ⟨rfl, hb3⟩; clear g0 g1' g2 g3 g4 t0; obtain ⟨⟨g0, g1', g2, g3, g4⟩, t0⟩ := HMG.out _ hb3)
    | (go_at_call 16; (with_reducible refine (HRG.out w3).mono ?_); rintro e w4 ⟨rfl, hb4⟩; have hb34 := bt hb3 hb4; clear g0 g1' g2 g3 g4 t0; obtain ⟨⟨g0, g1', g2, g3, g4⟩, t0⟩ := HMG.out _ hb34)
    | (go_at_call 17; (with_reducible refine (HRT.out _ hb34).mono ?_); rintro e w5 ⟨rfl, hb5⟩; have hb35 := bt hb34 hb5; clear g0 g1' g2 g3 g4 t0; obtain ⟨⟨g0, g1', g2, g3, g4⟩, t0⟩ := HMG.out _ hb35))
  go_ret
  exact ⟨rfl, bt hw hb35⟩
set_option maxRecDepth 100000 in
set_option maxHeartbeats 8000000 in
theorem zl_had (z s l a : Int) (D : Nat) (x : tbl.TV) (N : Nat) (hA : Option Addr) (hq : Nat) (hr : List Row) (n : Nat) (at0 : Int) (bA : Option Addr) (m bc : Nat) (w : World) (hc : Czn w) (hN : x.es.length = N) (hx : x.In w w.heap.size) (hn : hr.length = n) (hh : LV.In w w.heap.size ⟨hA, hq, hr⟩) (hv : ¬ (20 < N ∨ 20 < n ∨ ∃ y ∈ lists hr, 100 < y.length)) (ho : Ok z D s l a) (hg : tbl.Good (D : Int) x.es) (hd : ¬ HadOk (D + 1) (lists hr)) :
    Calls Try.prog 7 #[.agg #[.int .i64 z, .int .i64 D, .int .i64 s, .int .i64 l, .int .i64 a], .agg #[.slice x.A N x.c], .slice hA n hq, .int .i64 at0, .slice bA m bc] w fun e w' => e = .returned (.bool true) ∧ Below w.heap.size w w' := by
  have s1 : (w.alloc (.cells #[.int .i64 z, .int .i64 D, .int .i64 s, .int .i64 l, .int .i64 a] 23)).heap.size = w.heap.size + 1 := by simp
  have hx2 := anc.bl (w.alloc (.cells #[.int .i64 z, .int .i64 D, .int .i64 s, .int .i64 l, .int .i64 a] 23)) (.cells #[.slice x.A N x.c] 26)
  have GG := (g5_new w z D s l a).keep hx2 (by omega)
  have TT := c1_new (w.alloc (.cells #[.int .i64 z, .int .i64 D, .int .i64 s, .int .i64 l, .int .i64 a] 23)) (.slice x.A N x.c) 26
  rw [s1] at TT
  have hw := kal (anc.bl w (.cells #[.int .i64 z, .int .i64 D, .int .i64 s, .int .i64 l, .int .i64 a] 23)) (.cells #[.slice x.A N x.c] 26)
  have lT : w.heap.size + 1 < ((w.alloc (.cells #[.int .i64 z, .int .i64 D, .int .i64 s, .int .i64 l, .int .i64 a] 23)).alloc (.cells #[.slice x.A N x.c] 26)).heap.size := by simp
  have HC := Lib.hid hc
  have HNE := Lib.hid hN
  have HXI := Lib.hid (hx.next hw)
  have HHI := Lib.hid (hh.next hw)
  have HHn := Lib.hid hn
  clear hc hN hx hh hn s1 hx2
  go_enter Try.func7, Try.ntmps7
  go_upto_region 1 with fail
  generalize ((w.alloc (.cells #[.int .i64 z, .int .i64 D, .int .i64 s, .int .i64 l, .int .i64 a] 23)).alloc (.cells #[.slice x.A N x.c] 26)) = w2 at *
  obtain ⟨g0, g1', g2, g3, g4⟩ := id GG
  have t0 := TT.c0
  have HHV := Lib.hid (heavy_c false x.A hA N x.c n hq hr w2 HHn.out HHI.out.h HHI.out.r (iff_of_false Bool.false_ne_true hv))
  have HO := Lib.hid ho
  have HRG := Lib.hid (show ∀ W, Calls Try.prog 16 #[.agg #[.int .i64 z, .int .i64 D, .int .i64 s, .int .i64 l, .int .i64 a]] W fun e w' => e = .returned (.bool true) ∧ Below W.heap.size W w' from fun W => gmt.rgeo_at true z D s l a W (iff_of_true rfl ho))
  have hN20 : N ≤ 20 := by omega
  have hn20 : n ≤ 20 := by omega
  have HN20 := Lib.hid hN20
  have Hn20 := Lib.hid hn20
  have HSH := Lib.hid (show ∀ y ∈ lists hr, y.length ≤ 100 from fun y hy => Nat.le_of_not_lt fun k => hv (.inr (.inr ⟨y, hy, k⟩)))
  clear hv hN20 hn20
  have HRT := Lib.hid (show ∀ W, Below w2.heap.size w2 W → Calls Try.prog 17 #[.agg #[.int .i64 z, .int .i64 D, .int .i64 s, .int .i64 l, .int .i64 a], .agg #[.slice x.A N x.c]] W fun e w' => e = .returned (.bool true) ∧ Below W.heap.size W w' from fun W hW => by
    have h9 := tbl.rtable_any true z D s l a x W HO.out (HXI.out.next hW) (by rw [HNE.out]; have := HN20.out; omega) (iff_of_true rfl hg)
    rw [tbl.TV.v, HNE.out] at h9
    exact h9)
  have HRH := Lib.hid (show ∀ W, Below w2.heap.size w2 W → Calls Try.prog 19 #[.agg #[.int .i64 z, .int .i64 D, .int .i64 s, .int .i64 l, .int .i64 a], .slice hA n hq] W fun e w' => e = .returned (.bool false) ∧ Below W.heap.size W w' from fun W hW => had_c false z s l a D hA n hq hr W HO.out HHn.out (HHI.out.next hW).h (HHI.out.next hW).r (iff_of_false Bool.false_ne_true hd))
  clear ho hg hd
  have HMG := Lib.hid (show ∀ W, Below w2.heap.size w2 W → (W.cell? ⟨w.heap.size, 0, none⟩ = some (.int .i64 z) ∧ W.cell? ⟨w.heap.size, 1, none⟩ = some (.int .i64 D) ∧ W.cell? ⟨w.heap.size, 2, none⟩ = some (.int .i64 s) ∧ W.cell? ⟨w.heap.size, 3, none⟩ = some (.int .i64 l) ∧ W.cell? ⟨w.heap.size, 4, none⟩ = some (.int .i64 a)) ∧ W.cell? ⟨w.heap.size + 1, 0, none⟩ = some (.slice x.A N x.c) from fun W h => ⟨⟨kst h (by omega) g0, kst h (by omega) g1', kst h (by omega) g2, kst h (by omega) g3, kst h (by omega) g4⟩, kst h lT t0⟩)
  go_wp2_with (first
    | (go_at_call 9; (with_reducible refine HHV.out.mono ?_); rintro e w3 ⟨rfl, hb3⟩; clear g0 g1' g2 g3 g4 t0; obtain ⟨⟨g0, g1', g2, g3, g4⟩, t0⟩ := HMG.out _ hb3)
    | (go_at_call 16; (with_reducible refine (HRG.out w3).mono ?_); rintro e w4 ⟨rfl, hb4⟩; have hb34 := bt hb3 hb4; clear g0 g1' g2 g3 g4 t0; obtain ⟨⟨g0, g1', g2, g3, g4⟩, t0⟩ := HMG.out _ hb34)
    | (go_at_call 17; (with_reducible refine (HRT.out _ hb34).mono ?_); rintro e w5 ⟨rfl, hb5⟩; have hb35 := bt hb34 hb5; clear g0 g1' g2 g3 g4 t0; obtain ⟨⟨g0, g1', g2, g3, g4⟩, t0⟩ := HMG.out _ hb35)
    | (go_at_call 19; (with_reducible refine (HRH.out _ hb35).mono ?_); rintro e w6 ⟨rfl, hb6⟩; have hb36 := bt hb35 hb6; clear g0 g1' g2 g3 g4 t0; obtain ⟨⟨g0, g1', g2, g3, g4⟩, t0⟩ := HMG.out _ hb36))
  go_ret
  exact ⟨rfl, bt hw hb36⟩
set_option maxRecDepth 100000 in
set_option maxHeartbeats 8000000 in
theorem zl_len (z s l a : Int) (D : Nat) (x : tbl.TV) (N : Nat) (hA : Option Addr) (hq : Nat) (hr : List Row) (n : Nat) (at0 : Int) (bA : Option Addr) (m bc : Nat) (w : World) (hc : Czn w) (hN : x.es.length = N) (hx : x.In w w.heap.size) (hn : hr.length = n) (hh : LV.In w w.heap.size ⟨hA, hq, hr⟩) (hv : ¬ (20 < N ∨ 20 < n ∨ ∃ y ∈ lists hr, 100 < y.length)) (ho : Ok z D s l a) (hg : tbl.Good (D : Int) x.es) (hd : HadOk (D + 1) (lists hr)) (hm : m ≠ 8) :
    Calls Try.prog 7 #[.agg #[.int .i64 z, .int .i64 D, .int .i64 s, .int .i64 l, .int .i64 a], .agg #[.slice x.A N x.c], .slice hA n hq, .int .i64 at0, .slice bA m bc] w fun e w' => e = .returned (.bool true) ∧ Below w.heap.size w w' := by
  have s1 : (w.alloc (.cells #[.int .i64 z, .int .i64 D, .int .i64 s, .int .i64 l, .int .i64 a] 23)).heap.size = w.heap.size + 1 := by simp
  have hx2 := anc.bl (w.alloc (.cells #[.int .i64 z, .int .i64 D, .int .i64 s, .int .i64 l, .int .i64 a] 23)) (.cells #[.slice x.A N x.c] 26)
  have GG := (g5_new w z D s l a).keep hx2 (by omega)
  have TT := c1_new (w.alloc (.cells #[.int .i64 z, .int .i64 D, .int .i64 s, .int .i64 l, .int .i64 a] 23)) (.slice x.A N x.c) 26
  rw [s1] at TT
  have hw := kal (anc.bl w (.cells #[.int .i64 z, .int .i64 D, .int .i64 s, .int .i64 l, .int .i64 a] 23)) (.cells #[.slice x.A N x.c] 26)
  have lT : w.heap.size + 1 < ((w.alloc (.cells #[.int .i64 z, .int .i64 D, .int .i64 s, .int .i64 l, .int .i64 a] 23)).alloc (.cells #[.slice x.A N x.c] 26)).heap.size := by simp
  have HC := Lib.hid hc
  have HNE := Lib.hid hN
  have HXI := Lib.hid (hx.next hw)
  have HHI := Lib.hid (hh.next hw)
  have HHn := Lib.hid hn
  clear hc hN hx hh hn s1 hx2
  go_enter Try.func7, Try.ntmps7
  go_upto_region 1 with fail
  generalize ((w.alloc (.cells #[.int .i64 z, .int .i64 D, .int .i64 s, .int .i64 l, .int .i64 a] 23)).alloc (.cells #[.slice x.A N x.c] 26)) = w2 at *
  obtain ⟨g0, g1', g2, g3, g4⟩ := id GG
  have t0 := TT.c0
  have HHV := Lib.hid (heavy_c false x.A hA N x.c n hq hr w2 HHn.out HHI.out.h HHI.out.r (iff_of_false Bool.false_ne_true hv))
  have HO := Lib.hid ho
  have HRG := Lib.hid (show ∀ W, Calls Try.prog 16 #[.agg #[.int .i64 z, .int .i64 D, .int .i64 s, .int .i64 l, .int .i64 a]] W fun e w' => e = .returned (.bool true) ∧ Below W.heap.size W w' from fun W => gmt.rgeo_at true z D s l a W (iff_of_true rfl ho))
  have hN20 : N ≤ 20 := by omega
  have hn20 : n ≤ 20 := by omega
  have HN20 := Lib.hid hN20
  have Hn20 := Lib.hid hn20
  have HSH := Lib.hid (show ∀ y ∈ lists hr, y.length ≤ 100 from fun y hy => Nat.le_of_not_lt fun k => hv (.inr (.inr ⟨y, hy, k⟩)))
  clear hv hN20 hn20
  have HRT := Lib.hid (show ∀ W, Below w2.heap.size w2 W → Calls Try.prog 17 #[.agg #[.int .i64 z, .int .i64 D, .int .i64 s, .int .i64 l, .int .i64 a], .agg #[.slice x.A N x.c]] W fun e w' => e = .returned (.bool true) ∧ Below W.heap.size W w' from fun W hW => by
    have h9 := tbl.rtable_any true z D s l a x W HO.out (HXI.out.next hW) (by rw [HNE.out]; have := HN20.out; omega) (iff_of_true rfl hg)
    rw [tbl.TV.v, HNE.out] at h9
    exact h9)
  have HRH := Lib.hid (show ∀ W, Below w2.heap.size w2 W → Calls Try.prog 19 #[.agg #[.int .i64 z, .int .i64 D, .int .i64 s, .int .i64 l, .int .i64 a], .slice hA n hq] W fun e w' => e = .returned (.bool true) ∧ Below W.heap.size W w' from fun W hW => had_c true z s l a D hA n hq hr W HO.out HHn.out (HHI.out.next hW).h (HHI.out.next hW).r (iff_of_true rfl hd))
  clear ho hg hd
  have HMG := Lib.hid (show ∀ W, Below w2.heap.size w2 W → (W.cell? ⟨w.heap.size, 0, none⟩ = some (.int .i64 z) ∧ W.cell? ⟨w.heap.size, 1, none⟩ = some (.int .i64 D) ∧ W.cell? ⟨w.heap.size, 2, none⟩ = some (.int .i64 s) ∧ W.cell? ⟨w.heap.size, 3, none⟩ = some (.int .i64 l) ∧ W.cell? ⟨w.heap.size, 4, none⟩ = some (.int .i64 a)) ∧ W.cell? ⟨w.heap.size + 1, 0, none⟩ = some (.slice x.A N x.c) from fun W h => ⟨⟨kst h (by omega) g0, kst h (by omega) g1', kst h (by omega) g2, kst h (by omega) g3, kst h (by omega) g4⟩, kst h lT t0⟩)
  have q : ((m : Int) != 8) = true := bne_iff_ne.2 (by omega)
  clear hm
  go_wp2_with (first
    | (go_at_call 9; (with_reducible refine HHV.out.mono ?_); rintro e w3 ⟨rfl, hb3⟩; clear g0 g1' g2 g3 g4 t0; obtain ⟨⟨g0, g1', g2, g3, g4⟩, t0⟩ := HMG.out _ hb3)
    | (go_at_call 16; (with_reducible refine (HRG.out w3).mono ?_); rintro e w4 ⟨rfl, hb4⟩; have hb34 := bt hb3 hb4; clear g0 g1' g2 g3 g4 t0; obtain ⟨⟨g0, g1', g2, g3, g4⟩, t0⟩ := HMG.out _ hb34)
    | (go_at_call 17; (with_reducible refine (HRT.out _ hb34).mono ?_); rintro e w5 ⟨rfl, hb5⟩; have hb35 := bt hb34 hb5; clear g0 g1' g2 g3 g4 t0; obtain ⟨⟨g0, g1', g2, g3, g4⟩, t0⟩ := HMG.out _ hb35)
    | (go_at_call 19; (with_reducible refine (HRH.out _ hb35).mono ?_); rintro e w6 ⟨rfl, hb6⟩; have hb36 := bt hb35 hb6; clear g0 g1' g2 g3 g4 t0; obtain ⟨⟨g0, g1', g2, g3, g4⟩, t0⟩ := HMG.out _ hb36))
  go_ret
  exact ⟨rfl, bt hw hb36⟩
set_option maxRecDepth 100000 in
set_option maxHeartbeats 8000000 in
theorem zl_main (z s l a : Int) (D : Nat) (x : tbl.TV) (N : Nat) (hA : Option Addr) (hq : Nat) (hr : List Row) (n : Nat) (at0 : Int) (bA : Option Addr) (bc : Nat) (bL : List UInt8) (w : World) (hc : Czn w) (hN : x.es.length = N) (hx : x.In w w.heap.size) (hn : hr.length = n) (hh : LV.In w w.heap.size ⟨hA, hq, hr⟩) (hv : ¬ (20 < N ∨ 20 < n ∨ ∃ y ∈ lists hr, 100 < y.length)) (ho : Ok z D s l a) (hg : tbl.Good (D : Int) x.es) (hd : HadOk (D + 1) (lists hr)) (hbl : bL.length = 8) (hbs : Sl w w.heap.size bA bL) (hbc : 8 ≤ bc ∧ bc ≤ maxLen) :
    Calls Try.prog 7 #[.agg #[.int .i64 z, .int .i64 D, .int .i64 s, .int .i64 l, .int .i64 a], .agg #[.slice x.A N x.c], .slice hA n hq, .int .i64 at0, .slice bA 8 bc] w fun e w' => e = .returned (.bool true) ∧ Below w.heap.size w w' := by
  have hj := gmt.wrap_mod at0 (D : Int) (by have := ho.2.1; omega)
  generalize hJ0 : (IntKind.u64.wrap at0).tmod (D : Int) = j0 at *
  obtain ⟨J, rfl⟩ : ∃ J : Nat, j0 = J := ⟨j0.toNat, by omega⟩
  have HJ : Hid (J < D) := Lib.hid (by omega)
  have HJ0 := Lib.hid hJ0
  have HBL := Lib.hid hbl
  have HBS := Lib.hid hbs
  have HBC := Lib.hid hbc
  have HH0 := Lib.hid hh
  clear hJ0 hj hbl hbs hbc
  have s1 : (w.alloc (.cells #[.int .i64 z, .int .i64 D, .int .i64 s, .int .i64 l, .int .i64 a] 23)).heap.size = w.heap.size + 1 := by simp
  have hx2 := anc.bl (w.alloc (.cells #[.int .i64 z, .int .i64 D, .int .i64 s, .int .i64 l, .int .i64 a] 23)) (.cells #[.slice x.A N x.c] 26)
  have GG := (g5_new w z D s l a).keep hx2 (by omega)
  have TT := c1_new (w.alloc (.cells #[.int .i64 z, .int .i64 D, .int .i64 s, .int .i64 l, .int .i64 a] 23)) (.slice x.A N x.c) 26
  rw [s1] at TT
  have hw := kal (anc.bl w (.cells #[.int .i64 z, .int .i64 D, .int .i64 s, .int .i64 l, .int .i64 a] 23)) (.cells #[.slice x.A N x.c] 26)
  have lT : w.heap.size + 1 < ((w.alloc (.cells #[.int .i64 z, .int .i64 D, .int .i64 s, .int .i64 l, .int .i64 a] 23)).alloc (.cells #[.slice x.A N x.c] 26)).heap.size := by simp
  have HC := Lib.hid hc
  have HNE := Lib.hid hN
  have HXI := Lib.hid (hx.next hw)
  have HHI := Lib.hid (hh.next hw)
  have HHn := Lib.hid hn
  clear hc hN hx hh hn s1 hx2
  go_enter Try.func7, Try.ntmps7
  go_upto_region 1 with fail
  generalize ((w.alloc (.cells #[.int .i64 z, .int .i64 D, .int .i64 s, .int .i64 l, .int .i64 a] 23)).alloc (.cells #[.slice x.A N x.c] 26)) = w2 at *
  obtain ⟨g0, g1', g2, g3, g4⟩ := id GG
  have t0 := TT.c0
  have HHV := Lib.hid (heavy_c false x.A hA N x.c n hq hr w2 HHn.out HHI.out.h HHI.out.r (iff_of_false Bool.false_ne_true hv))
  have HO := Lib.hid ho
  have HG := Lib.hid hg
  have HH := Lib.hid hd
  have HRG := Lib.hid (show ∀ W, Calls Try.prog 16 #[.agg #[.int .i64 z, .int .i64 D, .int .i64 s, .int .i64 l, .int .i64 a]] W fun e w' => e = .returned (.bool true) ∧ Below W.heap.size W w' from fun W => gmt.rgeo_at true z D s l a W (iff_of_true rfl ho))
  have hN20 : N ≤ 20 := by omega
  have hn20 : n ≤ 20 := by omega
  have HN20 := Lib.hid hN20
  have Hn20 := Lib.hid hn20
  have HSH := Lib.hid (show ∀ y ∈ lists hr, y.length ≤ 100 from fun y hy => Nat.le_of_not_lt fun k => hv (.inr (.inr ⟨y, hy, k⟩)))
  clear hv hN20 hn20
  have HRT := Lib.hid (show ∀ W, Below w2.heap.size w2 W → Calls Try.prog 17 #[.agg #[.int .i64 z, .int .i64 D, .int .i64 s, .int .i64 l, .int .i64 a], .agg #[.slice x.A N x.c]] W fun e w' => e = .returned (.bool true) ∧ Below W.heap.size W w' from fun W hW => by
    have h9 := tbl.rtable_any true z D s l a x W HO.out (HXI.out.next hW) (by rw [HNE.out]; have := HN20.out; omega) (iff_of_true rfl hg)
    rw [tbl.TV.v, HNE.out] at h9
    exact h9)
  have HRH := Lib.hid (show ∀ W, Below w2.heap.size w2 W → Calls Try.prog 19 #[.agg #[.int .i64 z, .int .i64 D, .int .i64 s, .int .i64 l, .int .i64 a], .slice hA n hq] W fun e w' => e = .returned (.bool true) ∧ Below W.heap.size W w' from fun W hW => had_c true z s l a D hA n hq hr W HO.out HHn.out (HHI.out.next hW).h (HHI.out.next hW).r (iff_of_true rfl hd))
  have HMG := Lib.hid (show ∀ W, Below w2.heap.size w2 W → (W.cell? ⟨w.heap.size, 0, none⟩ = some (.int .i64 z) ∧ W.cell? ⟨w.heap.size, 1, none⟩ = some (.int .i64 D) ∧ W.cell? ⟨w.heap.size, 2, none⟩ = some (.int .i64 s) ∧ W.cell? ⟨w.heap.size, 3, none⟩ = some (.int .i64 l) ∧ W.cell? ⟨w.heap.size, 4, none⟩ = some (.int .i64 a)) ∧ W.cell? ⟨w.heap.size + 1, 0, none⟩ = some (.slice x.A N x.c) from fun W h => ⟨⟨kst h (by omega) g0, kst h (by omega) g1', kst h (by omega) g2, kst h (by omega) g3, kst h (by omega) g4⟩, kst h lT t0⟩)
  have HD1 : Hid (1 ≤ D ∧ D ≤ 4) := Lib.hid (by have := ho.2.1; omega)
  clear ho hg hd
  go_upto_region 3 with (first
    | (go_at_call 9; (with_reducible refine HHV.out.mono ?_); rintro e w3 ⟨rfl, hb3⟩; clear g0 g1' g2 g3 g4 t0; obtain ⟨⟨g0, g1', g2, g3, g4⟩, t0⟩ := HMG.out _ hb3)
    | (go_at_call 16; (with_reducible refine (HRG.out w3).mono ?_); rintro e w4 ⟨rfl, hb4⟩; have hb34 := bt hb3 hb4; clear g0 g1' g2 g3 g4 t0; obtain ⟨⟨g0, g1', g2, g3, g4⟩, t0⟩ := HMG.out _ hb34)
    | (go_at_call 17; (with_reducible refine (HRT.out _ hb34).mono ?_); rintro e w5 ⟨rfl, hb5⟩; have hb35 := bt hb34 hb5; clear g0 g1' g2 g3 g4 t0; obtain ⟨⟨g0, g1', g2, g3, g4⟩, t0⟩ := HMG.out _ hb35)
    | (go_at_call 19; (with_reducible refine (HRH.out _ hb35).mono ?_); rintro e w6 ⟨rfl, hb6⟩; have hb36 := bt hb35 hb6; clear g0 g1' g2 g3 g4 t0; obtain ⟨⟨g0, g1', g2, g3, g4⟩, t0⟩ := HMG.out _ hb36))
  replace GG := GG.keep hb36 (by omega)
  replace TT := TT.keep hb36 lT
  replace lT := Nat.lt_of_lt_of_le lT hb36.size
  replace HXI := Lib.hid (HXI.out.next hb36)
  replace HHI := Lib.hid (HHI.out.next hb36)
  replace hw := bt hw hb36
  have HeN : Hid (N = D + 1) := Lib.hid (by have := HG.out.1; rw [HNE.out] at this; omega)
  have Hen : Hid (n = D + 1) := Lib.hid (by have := HH.out.1; rw [lists_length, HHn.out] at this; exact this)
  clear hb36 hb35 hb34 hb3 hb4 hb5 hb6 g0 g1' g2 g3 g4 t0 HMG HRT HRH HHV HRG
  obtain ⟨g0, g1', g2, g3, g4⟩ := id GG
  have hw1 : IntKind.u64.wrap (D : Int) = (D : Int) := IntWalk.u64_in _ (by have := HD1.out; omega)
  have hm0 : ((D : Int) == 0) = false := beq_eq_false_iff_ne.2 (by have := HD1.out; omega)
  have hm1 : ¬ (D : Int) = 0 := by have := HD1.out; omega
  have hJ0 := HJ0.out
  have hJD : J < D := HJ.out
  have hDb : D ≤ 4 := HD1.out.2
  go_upto_region 4 with fail
  clear g0 g1' g2 g3 g4 hw1 hm0 hm1 hJ0 HJ0
  have t0 := TT.c0
  have HTT := Lib.hid (show Calls Try.prog 10 #[.agg #[.slice x.A N x.c]] w6 fun e w' => tbl.TbQ w6.heap.size x.es e w' ∧ Below w6.heap.size w6 w' from by
    have h9 := tbl.twin_table x N w6 HXI.out HNE.out (by have := HN20.out; omega)
    rw [tbl.TV.v, HNE.out] at h9
    exact h9)
  go_upto_region 5 with (go_at_call 10; (with_reducible refine HTT.out.mono ?_); rintro e w7 ⟨⟨⟨uA, uc, ues⟩, heu, hue0, huo⟩, hb7⟩; replace hue0 : ues = x.es := hue0; subst hue0; replace heu : e = .returned (.agg #[.slice uA x.es.length uc]) := heu; rw [HNE.out] at heu; subst heu)
  obtain ⟨gE, hgE, hgE1, hgE2⟩ := huo.row (show 0 < x.es.length by rw [HNE.out, HeN.out]; omega)
  replace hgE : uA = some ⟨gE, 0, none⟩ := hgE
  subst hgE
  have hxU := anc.bl w7 (.cells #[.slice (some ⟨gE, 0, none⟩) N uc] 26)
  have UU := c1_new w7 (.slice (some ⟨gE, 0, none⟩) N uc) 26
  have lU : w7.heap.size < (w7.alloc (.cells #[.slice (some ⟨gE, 0, none⟩) N uc] 26)).heap.size := by simp
  have huo8 := tbl.TV.Own.below huo hxU
  have lE : w.heap.size + 1 < gE := by omega
  have b7 := bt hb7 hxU
  have GG8 := GG.keep b7 (by omega)
  have TT8 := TT.keep b7 lT
  have hw8 := bt hw b7
  have lT8 := Nat.lt_of_lt_of_le lT b7.size
  have lgU : w.heap.size + 1 < w7.heap.size := Nat.lt_of_lt_of_le lT hb7.size
  clear huo hb7 hxU b7 t0 HTT GG TT lT hw HXI HHI
  generalize hgU : w7.heap.size = gU at *
  clear hgU
  generalize w7.alloc (.cells #[.slice (some ⟨gE, 0, none⟩) N uc] 26) = w8 at *
  have hlt : J < x.es.length := by rw [HNE.out, HeN.out]; omega
  obtain ⟨b1, off, e0, hA1, hb1, c0, c1, c2, -, e1⟩ := tbl.ent_at (tbl.TV.Own.inn huo8).h hlt
  simp only [Option.some.injEq, Addr.mk.injEq, and_true] at hA1
  obtain ⟨rfl, rfl⟩ := hA1
  have hf0 := tbl.TV.Own.frozen huo8 rfl (J * 3 + 2)
  have hst := tbl.TV.Own.store (i := 2) (e' := { e0 with ls := true }) (v := .bool true) huo8 rfl e1 (by decide) rfl
  have hgd2 := lost_good HG.out e1 (by omega)
  have hls2 := lost_set (e0 := e0) hlt
  have hne2 : (x.es.set J { e0 with ls := true }).length = N := by rw [List.length_set]; exact HNE.out
  obtain ⟨es2, hes2⟩ : ∃ es2, es2 = x.es.set J { e0 with ls := true } := ⟨_, rfl⟩
  replace hst : tbl.TV.Own _ _ ⟨_, _, x.es.set J { e0 with ls := true }⟩ := hst
  rw [← hes2] at hst hgd2 hls2 hne2
  have HST := Lib.hid hst
  have HGD := Lib.hid hgd2
  have HLS := Lib.hid hls2
  have HN2 := Lib.hid hne2
  simp only [Nat.zero_add] at c0 c1 c2
  have i3 : (J : Int) < (N : Int) := by have := HeN.out; omega
  have i0 : (0 : Int) ≤ (J : Int) := by omega
  have t0 := UU.c0
  clear e1 hlt huo8 hst hgd2 hls2 hne2 hes2 HG
  go_upto_region 6 with fail
  have hgs : (w8.setCell ⟨gE, J * 3 + 2, none⟩ (.bool true)).heap.size = w8.heap.size := by simp
  have U1 : C1 (w8.setCell ⟨gE, J * 3 + 2, none⟩ (.bool true)) gU (.slice (some ⟨gE, 0, none⟩) N uc) := UU.apart (by omega) _
  have GG : G5 (w8.setCell ⟨gE, J * 3 + 2, none⟩ (.bool true)) w.heap.size z D s l a := GG8.set (by omega) _
  have hw : Below w.heap.size w (w8.setCell ⟨gE, J * 3 + 2, none⟩ (.bool true)) := hw8.setCell (show w.heap.size ≤ gE by omega) _
  have HU2 := Lib.hid (tbl.TV.Own.inn HST.out)
  have lT : w.heap.size + 1 < (w8.setCell ⟨gE, J * 3 + 2, none⟩ (.bool true)).heap.size := by rw [hgs]; exact lT8
  replace lU : gU < (w8.setCell ⟨gE, J * 3 + 2, none⟩ (.bool true)).heap.size := by rw [hgs]; exact lU
  clear hgs UU GG8 TT8 hw8 lT8 HST c0 c1 c2 hf0 t0 hb1
  generalize w8.setCell ⟨gE, J * 3 + 2, none⟩ (.bool true) = w9 at *
  have HTR := Lib.hid (show ∀ W, Below w9.heap.size w9 W → Calls Try.prog 11 #[.slice hA n hq] W fun e w' => (∃ (g c : Nat) (rs : List Row), e = .returned (.slice (some ⟨g, 0, none⟩) n c) ∧ OwnRows w' W.heap.size (.slice (some ⟨g, 0, none⟩) n c) rs (lists hr) ∧ W.heap.size ≤ g ∧ g < w'.heap.size) ∧ Below W.heap.size W w' from fun W hW => by
    have hwW := bt hw hW
    refine (twins_any hA hq n hr W HHn.out (HH0.out.next hwW).h (HH0.out.next hwW).r (by have := Hn20.out; omega) (fun r hr2 => Nat.le_trans (HSH.out r.l (List.mem_map_of_mem hr2)) (by decide))).mono ?_
    rintro e w' ⟨⟨v, rs, rfl, ho⟩, hb⟩
    obtain ⟨g, c, hv, -, -, h3, h4⟩ := ho.at (show (lists hr).length = n by rw [lists_length]; exact HHn.out) (by rw [Hen.out]; omega)
    subst hv
    exact ⟨⟨g, c, rs, rfl, ho, h3, h4⟩, hb⟩)
  go_upto_region 7 with (first
    | (go_at_call 11; (with_reducible refine (HTR.out w9 (Below.refl _ _)).mono ?_); rintro e w10 ⟨⟨gx, xc, xr, rfl, hxo, hgx1, hgx2⟩, hb10⟩)
    | (go_at_call 11; (with_reducible refine (HTR.out _ hb10).mono ?_); rintro e w11 ⟨⟨gy, yc, yr, rfl, hyo, hgy1, hgy2⟩, hb11⟩))
  have hlz : (lists hr).length = n := by rw [lists_length]; exact HHn.out
  have hxb : ∀ r ∈ xr, ∀ g, r.v.ownBlock = some g → g < gy := fun r hr2 g k => by have := (World.ownsRow.lt (hxo.2.2 r hr2) g k).2; omega
  have hxo11 := hxo.below hb11
  obtain ⟨⟨u0, c0⟩, f0⟩ := rows_frozen hxo11 hlz J (by rw [Hen.out]; omega)
  obtain ⟨hxo12, -⟩ := rows_nil hxo11 hlz J
  have hyo12 := OwnRows.cell_set (o := J) hyo hgx2 (.slice none 0 0)
  obtain ⟨⟨u1, c1⟩, f1⟩ := rows_frozen hyo12 hlz J (by rw [Hen.out]; omega)
  have hgs : (w11.setCell ⟨gx, J, none⟩ (.slice none 0 0)).heap.size = w11.heap.size := by simp
  have hgs2 : ((w11.setCell ⟨gx, J, none⟩ (.slice none 0 0)).setCell ⟨gy, J, none⟩ (.slice bA 8 bc)).heap.size = w11.heap.size := by simp
  have hxo13 := rows_other (o := J) hxo12 (g0 := gy) (fun g k => by simp only [Value.ownBlock, Option.some.injEq] at k; omega) (fun r hr2 g k => by
    rcases List.mem_or_eq_of_mem_set hr2 with q | q
    · exact hxb r q g k
    · rw [q] at k; exact absurd k (by simp [Row.v, Value.ownBlock])) (.slice bA 8 bc)
  have b11 := bt hb10 hb11
  have hw11 := bt hw b11
  have b12 : Below w9.heap.size w9 (w11.setCell ⟨gx, J, none⟩ (.slice none 0 0)) := b11.setCell (p := ⟨gx, J, none⟩) (show w9.heap.size ≤ gx from hgx1) (.slice none 0 0)
  have hw12 := bt hw b12
  have b13 : Below w9.heap.size w9 ((w11.setCell ⟨gx, J, none⟩ (.slice none 0 0)).setCell ⟨gy, J, none⟩ (.slice bA 8 bc)) := b12.setCell (p := ⟨gy, J, none⟩) (show w9.heap.size ≤ gy by have := hb10.size; omega) (.slice bA 8 bc)
  have hyi13 : LV.In ((w11.setCell ⟨gx, J, none⟩ (.slice none 0 0)).setCell ⟨gy, J, none⟩ (.slice bA 8 bc)) ((w11.setCell ⟨gx, J, none⟩ (.slice none 0 0)).setCell ⟨gy, J, none⟩ (.slice bA 8 bc)).heap.size ⟨some ⟨gy, 0, none⟩, yc, yr.set J ⟨bA, bc, bL⟩⟩ := by
    have h9 := rows_put (j := J) (r := ⟨bA, bc, bL⟩) hyo12 hlz (HBS.out.below hw12) (by have := hb10.size; have := hw.size; omega) hw12.size (by rw [HBL.out]; exact HBC.out)
    unfold Row.v at h9
    rw [HBL.out] at h9
    exact h9
  have HXI := Lib.hid (rows_in hxo13)
  have HYI := Lib.hid hyi13
  have HXL := Lib.hid hxo12.2.1
  have hyl : lists (yr.set J ⟨bA, bc, bL⟩) = (lists hr).set J bL := by rw [← hyo.2.1]; unfold lists; rw [List.map_set]
  have HYL := Lib.hid hyl
  have HXn : Hid ((xr.set J ⟨none, 0, []⟩).length = n) := Lib.hid (hxo12.len.trans (by rw [List.length_set]; exact hlz))
  have HYn : Hid ((yr.set J ⟨bA, bc, bL⟩).length = n) := Lib.hid (by rw [List.length_set]; exact hyo12.len.trans hlz)
  have HLZ := Lib.hid hlz
  have i4 : (J : Int) < (n : Int) := by have := Hen.out; omega
  clear hxo hyo hxo11 hxo12 hyo12 hxo13 hyi13 hyl hxb hlz b11 b12 hw11 hw12 hb10 hb11 hgs HTR HBS HBC
  go_upto_region 8 with fail
  replace GG := GG.keep b13 (by omega)
  replace U1 := U1.keep b13 lU
  replace HU2 := Lib.hid (HU2.out.next b13)
  replace hw := bt hw b13
  replace lU := Nat.lt_of_lt_of_le lU b13.size
  replace lT := Nat.lt_of_lt_of_le lT b13.size
  clear c0 f0 c1 f1 hgs2 hgx1 hgx2 hgy1 hgy2 b13 i4
  generalize (w11.setCell ⟨gx, J, none⟩ (.slice none 0 0)).setCell ⟨gy, J, none⟩ (.slice bA 8 bc) = w13 at *
  have hke := knowns_lost (n := D + 1) HLS.out (show J < (lists hr).length by rw [HLZ.out, Hen.out]; omega) [] bL
  obtain ⟨KN, hkn⟩ : ∃ KN, KN = knowns (D + 1) es2 ((lists hr).set J []) := ⟨_, rfl⟩
  rw [← hkn] at hke
  have hkl : KN.length = D + 1 := by rw [hkn, knowns_length]
  have hkJ : KN[J]? = some [] := by rw [hkn, knowns_get _ _ (by omega), known_lost HLS.out]
  have HKS : Hid (∀ y ∈ KN, y.length ≤ 8) := Lib.hid fun y hy => by
    rw [hkn] at hy
    unfold knowns at hy
    obtain ⟨i, -, rfl⟩ := List.mem_map.1 hy
    rcases known_length (es := es2) (had_set HH.out J) i with k | k
    · rw [k]; exact Nat.zero_le _
    · omega
  have HAX := Lib.hid (show Calls Try.prog 13 #[.agg #[.int .i64 z, .int .i64 D, .int .i64 s, .int .i64 l, .int .i64 a], .agg #[.slice (some ⟨gE, 0, none⟩) N uc], .slice (some ⟨gx, 0, none⟩) n xc] w13 fun e w' => AllZ (D + 1) KN e w' ∧ Below w13.heap.size w13 w' from by
    have h9 := HC.out.all z s l a D ⟨some ⟨gE, 0, none⟩, uc, es2⟩ N ⟨some ⟨gx, 0, none⟩, xc, xr.set J ⟨none, 0, []⟩⟩ n w13 hw HO.out HU2.out HN2.out HGD.out HXI.out HXn.out (by show HadOk _ (lists _); rw [HXL.out]; exact had_set HH.out J)
    change Calls Try.prog 13 #[.agg #[.int .i64 z, .int .i64 D, .int .i64 s, .int .i64 l, .int .i64 a], .agg #[.slice (some ⟨gE, 0, none⟩) N uc], .slice (some ⟨gx, 0, none⟩) n xc] w13 fun e w' => AllZ (D + 1) (knowns (D + 1) es2 (lists (xr.set J ⟨none, 0, []⟩))) e w' ∧ Below w13.heap.size w13 w' at h9
    rw [HXL.out, ← hkn] at h9
    exact h9)
  have HAY := Lib.hid (show ∀ W, Below w13.heap.size w13 W → Calls Try.prog 13 #[.agg #[.int .i64 z, .int .i64 D, .int .i64 s, .int .i64 l, .int .i64 a], .agg #[.slice (some ⟨gE, 0, none⟩) N uc], .slice (some ⟨gy, 0, none⟩) n yc] W fun e w' => AllZ (D + 1) KN e w' ∧ Below W.heap.size W w' from fun W hW => by
    have h9 := HC.out.all z s l a D ⟨some ⟨gE, 0, none⟩, uc, es2⟩ N ⟨some ⟨gy, 0, none⟩, yc, yr.set J ⟨bA, bc, bL⟩⟩ n W (bt hw hW) HO.out (HU2.out.next hW) HN2.out HGD.out (HYI.out.next hW) HYn.out (by show HadOk _ (lists _); rw [HYL.out]; exact had_put HH.out J HBL.out)
    change Calls Try.prog 13 #[.agg #[.int .i64 z, .int .i64 D, .int .i64 s, .int .i64 l, .int .i64 a], .agg #[.slice (some ⟨gE, 0, none⟩) N uc], .slice (some ⟨gy, 0, none⟩) n yc] W fun e w' => AllZ (D + 1) (knowns (D + 1) es2 (lists (yr.set J ⟨bA, bc, bL⟩))) e w' ∧ Below W.heap.size W w' at h9
    rw [HYL.out, ← hke] at h9
    exact h9)
  have HBY := Lib.hid (show ∀ W, Below w13.heap.size w13 W → Calls Try.prog 12 #[.agg #[.int .i64 z, .int .i64 D, .int .i64 s, .int .i64 l, .int .i64 a], .agg #[.slice (some ⟨gE, 0, none⟩) N uc], .slice (some ⟨gy, 0, none⟩) n yc, .int .i64 (J : Nat)] W fun e w' => (∃ (X : Option Addr) (c : Nat), e = .returned (.tuple #[.slice X 0 c, .int .i64 13])) ∧ Below W.heap.size W w' from fun W hW => by
    refine (HC.out.block z s l a D ⟨some ⟨gE, 0, none⟩, uc, es2⟩ N ⟨some ⟨gy, 0, none⟩, yc, yr.set J ⟨bA, bc, bL⟩⟩ n W (J : Int) (bt hw hW) HO.out (HU2.out.next hW) HN2.out HGD.out (HYI.out.next hW) HYn.out (by show HadOk _ (lists _); rw [HYL.out]; exact had_put HH.out J HBL.out) (by omega)).mono ?_
    rintro e w' ⟨⟨X, c, rfl, -⟩, hb⟩
    refine ⟨⟨X, c, ?_⟩, hb⟩
    have hat : atN D (J : Int) = J := by unfold atN; split <;> omega
    show Ending.returned (.tuple #[.slice X (known (D + 1) es2 _ (atN D (J : Int))).length c, .int .i64 (if known (D + 1) es2 _ (atN D (J : Int)) = [] then 13 else 0)]) = _
    rw [hat, known_lost HLS.out]
    rfl)
  have HM := Lib.hid (show ∀ W, Below w13.heap.size w13 W → G5 W w.heap.size z D s l a ∧ C1 W gU (.slice (some ⟨gE, 0, none⟩) N uc) from fun W hW => ⟨GG.keep hW (by omega), U1.keep hW lU⟩)
  have HKL := Lib.hid hkl
  have HKJ := Lib.hid hkJ
  clear hke hkn hkl hkJ HXI HYI HXL HYL HXn HYn HLZ HH0 HSH HU2 HGD HLS HN2
  obtain ⟨⟨g0, g1', g2, g3, g4⟩, TX⟩ := HM.out _ (Below.refl _ _)
  have t0 := TX.c0
  go_upto_region 9 with (go_at_call 13; (with_reducible refine HAX.out.mono ?_); rintro e w14 ⟨⟨Y, yc1, yr1, K, kc1, rfl, hyl, hyi, hks⟩, hb14⟩)
  have HYI := Lib.hid hyi
  have HKX := Lib.hid hks
  have HYL := Lib.hid hyl
  clear g0 g1' g2 g3 g4 t0 TX hyi hks hyl HAX
  obtain ⟨⟨g0, g1', g2, g3, g4⟩, TX⟩ := HM.out _ hb14
  have t0 := TX.c0
  go_upto_region 10 with (go_at_call 13; (with_reducible refine (HAY.out _ hb14).mono ?_); rintro e w15 ⟨⟨Y2, yc2, yr2, K2, kc2, rfl, hyl, hyi, hks⟩, hb15⟩)
  have HYI2 := Lib.hid hyi
  have HKX2 := Lib.hid hks
  have HYL2 := Lib.hid hyl
  replace HYI := Lib.hid (HYI.out.next hb15)
  replace HKX := Lib.hid (HKX.out.next hb15)
  have hb15' := bt hb14 hb15
  clear g0 g1' g2 g3 g4 t0 TX hyi hks hyl HAY hb14 hb15
  obtain ⟨⟨g0, g1', g2, g3, g4⟩, TX⟩ := HM.out _ hb15'
  have t0 := TX.c0
  go_upto_region 11 with (go_at_call 12; (with_reducible refine (HBY.out _ hb15').mono ?_); rintro e w16 ⟨⟨X, xc2, rfl⟩, hb16⟩)
  replace HYI := Lib.hid (HYI.out.next hb16)
  replace HKX := Lib.hid (HKX.out.next hb16)
  replace HYI2 := Lib.hid (HYI2.out.next hb16)
  replace HKX2 := Lib.hid (HKX2.out.next hb16)
  have hb16' := bt hb15' hb16
  clear g0 g1' g2 g3 g4 t0 TX HBY hb15' hb16
  obtain ⟨⟨g0, g1', g2, g3, g4⟩, TX⟩ := HM.out _ hb16'
  obtain ⟨b4, of4, hK, hb4, c4, e4⟩ := bool_at HKX.out (show J < (kn KN).length by rw [kn_length, HKL.out]; omega)
  have hbk : (kn KN)[J]'(by rw [kn_length, HKL.out]; omega) = false := by
    have h9 := kn_get HKJ.out
    rw [e4] at h9
    exact Option.some.inj h9
  rw [hbk] at c4
  have HRR := Lib.hid (show ∀ W, Below w16.heap.size w16 W → Calls Try.prog 15 #[.slice Y (D + 1) yc1, .slice Y2 (D + 1) yc2] W fun e w' => e = .returned (.bool true) ∧ Below W.heap.size W w' from fun W hW => by
    have h9 := rows_any Y Y2 yc1 yc2 (D + 1) (D + 1) yr1 yr2 W (by have := congrArg List.length HYL.out; rw [lists_length, HKL.out] at this; exact this) (by have := congrArg List.length HYL2.out; rw [lists_length, HKL.out] at this; exact this) (HYI.out.next hW).h (HYI2.out.next hW).h (HYI.out.next hW).r (HYI2.out.next hW).r (by omega) (fun r hr2 => by
      have h8 : r.l ∈ lists yr1 := List.mem_map_of_mem hr2
      rw [HYL.out] at h8
      exact Nat.le_trans (HKS.out _ h8) (by decide))
    rw [decide_eq_true (by rw [HYL.out, HYL2.out])] at h9
    exact h9)
  have HBB := Lib.hid (show ∀ W, Below w16.heap.size w16 W → Calls Try.prog 26 #[.slice K (D + 1) kc1, .slice K2 (D + 1) kc2] W fun e w' => e = .returned (.bool true) ∧ Below W.heap.size W w' from fun W hW => by
    have h9 := bools_any K K2 kc1 kc2 (D + 1) (D + 1) (kn KN) (kn KN) W (by rw [kn_length, HKL.out]) (by rw [kn_length, HKL.out]) (HKX.out.next hW) (HKX2.out.next hW) (by omega)
    rw [decide_eq_true rfl] at h9
    exact h9)
  have HWK := Lib.hid (fun (W : World) (hW : Below w13.heap.size w13 W) => wk_zn W (HC.out.next (bt hw hW)))
  subst hK
  have q9 : (((D + 1 : Nat) : Int) == (D : Int) + 1) = true := by rw [show ((D + 1 : Nat) : Int) = (D : Int) + 1 by omega]; exact beq_self_eq_true _
  have j1 : (J : Int) < ((D + 1 : Nat) : Int) := by omega
  clear e4 hbk HKX HKX2 HYI HYI2 HYL HYL2 HKL HKJ HKS HM GG U1 i3 TX
  go_wp2_with (first
    | (go_at_call 15; (with_reducible refine (HRR.out _ (Below.refl _ _)).mono ?_); rintro e w17 ⟨rfl, hb17⟩)
    | (go_at_call 26; (with_reducible refine (HBB.out _ hb17).mono ?_); rintro e w18 ⟨rfl, hb18⟩)
    | (go_at_call 18; (with_reducible refine (HWK.out _ (bt hb16' (bt hb17 hb18))).mono ?_); rintro e w19 ⟨rfl, hb19⟩))
  go_ret
  exact ⟨rfl, bt hw (bt hb16' (bt hb17 (bt hb18 hb19)))⟩
/-- The law. -/
theorem lost_law (z s l a : Int) (d : Int) (x : tbl.TV) (N : Nat) (hA : Option Addr) (hq : Nat) (hr : List Row) (n : Nat) (at0 : Int) (bA : Option Addr) (m bc : Nat) (w : World) (hc : Czn w) (hN : x.es.length = N) (hx : x.In w w.heap.size) (hn : hr.length = n) (hh : LV.In w w.heap.size ⟨hA, hq, hr⟩) (bL : List UInt8) (hbl : bL.length = m) (hbs : Sl w w.heap.size bA bL) (hbc : m ≤ bc ∧ bc ≤ maxLen) :
    Calls Try.prog 7 #[.agg #[.int .i64 z, .int .i64 d, .int .i64 s, .int .i64 l, .int .i64 a], .agg #[.slice x.A N x.c], .slice hA n hq, .int .i64 at0, .slice bA m bc] w fun e w' => e = .returned (.bool true) ∧ Below w.heap.size w w' := by
  by_cases hv : 20 < N ∨ 20 < n ∨ ∃ y ∈ lists hr, 100 < y.length
  · exact zl_heavy z s l a d x N hA hq hr n at0 bA m bc w hc hN hx hn hh hv
  by_cases ho : Ok z d s l a
  case neg => exact zl_geo z s l a d x N hA hq hr n at0 bA m bc w hc hN hx hn hh hv ho
  by_cases hg : tbl.Good d x.es
  case neg => exact zl_tab z s l a d x N hA hq hr n at0 bA m bc w hc hN hx hn hh hv ho hg
  obtain ⟨D, rfl⟩ : ∃ D : Nat, d = D := ⟨d.toNat, by have := ho.2.1; omega⟩
  by_cases hd : HadOk (D + 1) (lists hr)
  case neg => exact zl_had z s l a D x N hA hq hr n at0 bA m bc w hc hN hx hn hh hv ho hg hd
  by_cases hm : m = 8
  case neg => exact zl_len z s l a D x N hA hq hr n at0 bA m bc w hc hN hx hn hh hv ho hg hd hm
  subst hm
  exact zl_main z s l a D x N hA hq hr n at0 bA bc bL w hc hN hx hn hh hv ho hg hd hbl hbs hbc
/-- The law as its row calls it. -/
theorem lost_said (z s l a d : Int) (x : tbl.TV) (hA : Option Addr) (hq : Nat) (hr : List Row) (at0 : Int) (bA : Option Addr) (bc : Nat) (bL : List UInt8) (w : World) (hc : Czn w) (hx : x.In w w.heap.size) (hh : LV.In w w.heap.size ⟨hA, hq, hr⟩) (hbs : Sl w w.heap.size bA bL) (hbc : bL.length ≤ bc ∧ bc ≤ maxLen) :
    Calls Try.prog 7 #[.agg #[.int .i64 z, .int .i64 d, .int .i64 s, .int .i64 l, .int .i64 a], x.v, .slice hA hr.length hq, .int .i64 at0, .slice bA bL.length bc] w fun e w' => e = .returned (.bool true) ∧ Below w.heap.size w w' := by
  unfold tbl.TV.v
  exact lost_law z s l a d x _ hA hq hr _ at0 bA _ bc w hc rfl hx rfl hh bL rfl hbs hbc
end Go.Proofs.Ytajjmllolaajoaa.zon
