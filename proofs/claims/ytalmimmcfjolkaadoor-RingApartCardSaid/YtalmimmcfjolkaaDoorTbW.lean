/-
  Package table: Read. Conditions: rows shorter than 2^20.
-/
import Derived.Test.YtalmimmcfjolkaaDoorTbJ
namespace Go.Proofs.YtalmimmcfjolkaaDoor.tbl
open Go.RowKit Go.Lib
open Go.Proofs.YtalmimmcfjolkaaDoor.gmt (Ok five_new check_ok check_no)
open Go.Proofs.YtalmimmcfjolkaaDoor.anc (flat_get flat_len slv_cell bl kal kst ks bm ka row_form row_below)

def PrsC (b : List UInt8) (D n base : Nat) (t : TV) (q : Nat) (ec : Int) (w' : World) : Prop :=
  (ec = 0 ∧ (D + 1) * 9 ≤ n ∧ (∀ k, k ≤ D → lostAt b k ≤ 1) ∧ q = n - (D + 1) * 9 ∧ t.es = entsN b (D + 1) ∧ t.Own w' base) ∨ (ec = 4 ∧ (n < (D + 1) * 9 ∨ ∃ k, k ≤ D ∧ 1 < lostAt b k))
def PrsA (b : List UInt8) (D n base : Nat) (e : Ending) (w' : World) : Prop := ∃ (t : TV) (Y : Option Addr) (q y : Nat) (ec : Int), e = .returned (.tuple #[t.v, .slice Y q y, .int .i64 ec]) ∧ PrsC b D n base t q ec w'
theorem tparse_any (z s l a : Int) (D : Nat) (A : Option Addr) (n c : Nat) (b : List UInt8) (w : World) (h1 : 1 ≤ D) (h2 : D ≤ 4) (hn : b.length = n) (hc : n ≤ c) (hx : c ≤ maxLen) (hl : n ≤ 1048576) (hA : Sl w w.heap.size A b) :
    Calls Tryd.prog 60 #[.agg #[.int .i64 z, .int .i64 D, .int .i64 s, .int .i64 l, .int .i64 a], .slice A n c] w fun e w' => PrsA b D n w.heap.size e w' ∧ Below w.heap.size w w' := by
  by_cases hs : n < (D + 1) * 9
  · refine (Go.callsIn_wide.1 (tparse_short z s l a D A n c b w h1 h2 hn hc hx hl hA hs)).mono ?_
    rintro e w' ⟨he, hb⟩
    exact ⟨⟨noTV, none, 0, 0, 4, he, .inr ⟨rfl, .inl hs⟩⟩, hb⟩
  · refine (Go.callsIn_wide.1 (parse_in z s l a D A n c b w h1 h2 hn hc hx hl hA (by omega))).mono ?_
    rintro e w' ⟨⟨hlo, t, Y, y, he, hte, hto⟩ | ⟨hlo, he⟩, hb⟩
    · exact ⟨⟨t, Y, _, y, 0, he, .inl ⟨rfl, by omega, hlo, rfl, hte, hto⟩⟩, hb⟩
    · exact ⟨⟨noTV, none, 0, 0, 4, he, .inr ⟨rfl, .inr hlo⟩⟩, hb⟩
set_option maxRecDepth 100000 in
set_option maxHeartbeats 4000000 in
theorem tread_geo (z d s l a : Int) (v : Value) (w : World) (hv : ∃ A n c, v = .slice A n c) (ho : ¬ Ok z d s l a) :
    Calls Tryd.prog 57 #[.agg #[.int .i64 z, .int .i64 d, .int .i64 s, .int .i64 l, .int .i64 a], v] w fun e w' => TbE w.heap.size [] 1 e w' ∧ Below w.heap.size w w' := by
  obtain ⟨A, n, c, rfl⟩ := hv
  have cC := fun W => check_no z d s l a W ho
  have s1 : (w.alloc (.cells #[.int .i64 z, .int .i64 d, .int .i64 s, .int .i64 l, .int .i64 a] 23)).heap.size = w.heap.size + 1 := by simp
  have hx2 := bl (w.alloc (.cells #[.int .i64 z, .int .i64 d, .int .i64 s, .int .i64 l, .int .i64 a] 23)) (.cells #[.slice none 0 0] 65)
  have GG := (g5_new w z d s l a).keep hx2 (by omega)
  have T1 := c1_new (w.alloc (.cells #[.int .i64 z, .int .i64 d, .int .i64 s, .int .i64 l, .int .i64 a] 23)) (.slice none 0 0) 65
  rw [s1] at T1
  have hb0 := kal (bl w (.cells #[.int .i64 z, .int .i64 d, .int .i64 s, .int .i64 l, .int .i64 a] 23)) (.cells #[.slice none 0 0] 65)
  have l1 : w.heap.size + 1 < ((w.alloc (.cells #[.int .i64 z, .int .i64 d, .int .i64 s, .int .i64 l, .int .i64 a] 23)).alloc (.cells #[.slice none 0 0] 65)).heap.size := by simp
  clear s1 hx2 ho
  go_enter Tryd.func57, Tryd.ntmps57
  go_upto_region 1 with fail
  generalize (w.alloc (.cells #[.int .i64 z, .int .i64 d, .int .i64 s, .int .i64 l, .int .i64 a] 23)).alloc (.cells #[.slice none 0 0] 65) = w0 at *
  obtain ⟨g0, g1, g2, g3, g4⟩ := id GG
  go_wp2_with (go_at_call 24; (with_reducible refine (cC _).mono ?_); rintro e w1 ⟨rfl, hb1⟩; have P := T1.keep hb1 l1; have p0 := P.c0; have f0 := P.f0)
  have k1 := P.set (.slice none 0 0)
  have hb5 := (bt hb0 hb1).setCell (p := ⟨w.heap.size + 1, 0, none⟩) (show w.heap.size ≤ w.heap.size + 1 by omega) (.slice none 0 0)
  exact bodyPost_ret (v := .tuple #[.agg #[.slice none 0 0], .int .i64 1]) (by simp [results, Tryd.results57, go_sem, k1.c0]) rfl ⟨⟨noTV, rfl, rfl, noTV_own _ _⟩, hb5⟩
def RdR (b : List UInt8) (D base : Nat) (c : Bool) (e : Ending) (w' : World) : Prop := if c = true then TbE base (entsN b (D + 1)) 0 e w' else TbE base [] 4 e w'
set_option maxRecDepth 100000 in
set_option maxHeartbeats 4000000 in
theorem tread_any (cc : Bool) (z s l a : Int) (D : Nat) (A : Option Addr) (n c : Nat) (b : List UInt8) (w : World) (ho : Ok z D s l a) (hn : b.length = n) (hc : n ≤ c) (hx : c ≤ maxLen) (hl : n ≤ 1048576) (hA : Sl w w.heap.size A b) (hcc : cc = true ↔ Told D b) :
    Calls Tryd.prog 57 #[.agg #[.int .i64 z, .int .i64 D, .int .i64 s, .int .i64 l, .int .i64 a], .slice A n c] w fun e w' => RdR b D w.heap.size cc e w' ∧ Below w.heap.size w w' := by
  have cC := fun W => check_ok z D s l a W ho
  have o2 := ho.2.1
  have hD1 : 1 ≤ D := by omega
  have hD : D ≤ 4 := by omega
  have HP := Lib.hid (show ∀ W, Below w.heap.size w W → Calls Tryd.prog 60 #[.agg #[.int .i64 z, .int .i64 D, .int .i64 s, .int .i64 l, .int .i64 a], .slice A n c] W fun e w' => PrsA b D n W.heap.size e w' ∧ Below W.heap.size W w' from fun W hW => tparse_any z s l a D A n c b W hD1 hD hn hc hx hl (hA.next hW))
  have HCK := Lib.hid (show ∀ (g : Bool) (t : TV) (W : World), t.In W W.heap.size → t.es.length ≤ 1048576 → (g = true ↔ Good D t.es) → Calls Tryd.prog 61 #[.agg #[.int .i64 z, .int .i64 D, .int .i64 s, .int .i64 l, .int .i64 a], .agg #[.slice t.A t.es.length t.c]] W fun e w' => e = .returned (.int .i64 (if g = true then 0 else 1)) ∧ Below W.heap.size W w' from fun g t W ht hlt hg => tcheck_any g z s l a D t W ho ht hlt hg)
  have HT := Lib.hid hcc
  have HN := Lib.hid hn
  have s1 : (w.alloc (.cells #[.int .i64 z, .int .i64 D, .int .i64 s, .int .i64 l, .int .i64 a] 23)).heap.size = w.heap.size + 1 := by simp
  have hx2 := bl (w.alloc (.cells #[.int .i64 z, .int .i64 D, .int .i64 s, .int .i64 l, .int .i64 a] 23)) (.cells #[.slice none 0 0] 65)
  have GG := (g5_new w z D s l a).keep hx2 (by omega)
  have T1 := c1_new (w.alloc (.cells #[.int .i64 z, .int .i64 D, .int .i64 s, .int .i64 l, .int .i64 a] 23)) (.slice none 0 0) 65
  rw [s1] at T1
  have hb0 := kal (bl w (.cells #[.int .i64 z, .int .i64 D, .int .i64 s, .int .i64 l, .int .i64 a] 23)) (.cells #[.slice none 0 0] 65)
  have l1 : w.heap.size + 1 < ((w.alloc (.cells #[.int .i64 z, .int .i64 D, .int .i64 s, .int .i64 l, .int .i64 a] 23)).alloc (.cells #[.slice none 0 0] 65)).heap.size := by simp
  clear s1 hx2 ho o2 hcc hn hA
  go_enter Tryd.func57, Tryd.ntmps57
  go_upto_region 1 with fail
  generalize (w.alloc (.cells #[.int .i64 z, .int .i64 D, .int .i64 s, .int .i64 l, .int .i64 a] 23)).alloc (.cells #[.slice none 0 0] 65) = w0 at *
  obtain ⟨g0, g1, g2, g3, g4⟩ := id GG
  go_upto_region 4 with (go_at_call 24; (with_reducible refine (cC _).mono ?_); rintro e w1 ⟨rfl, hb1⟩)
  replace GG := GG.keep hb1 (by omega)
  replace T1 := T1.keep hb1 l1
  replace hb0 := bt hb0 hb1
  replace l1 := Nat.lt_of_lt_of_le l1 hb1.size
  clear g0 g1 g2 g3 g4 hb1 w0 cC
  obtain ⟨g0, g1, g2, g3, g4⟩ := id GG
  go_upto_region 5 with (go_at_call 60; (with_reducible refine (HP.out _ hb0).mono ?_); rintro e w3 ⟨⟨t, Y, q, y, ec, het, hPC⟩, hb3⟩; rw [TV.v] at het; subst het; have HPC := Lib.hid hPC; clear hPC)
  have hx3 := bl w3 (.cells #[.slice t.A t.es.length t.c] 65)
  have T3 := c1_new w3 (.slice t.A t.es.length t.c) 65
  have b13 := bt hb3 hx3
  replace GG := GG.keep b13 (by omega)
  have P := T1.keep b13 l1
  have hbL := bt hb0 b13
  have l3 : w1.heap.size ≤ w3.heap.size := hb3.size
  have l4 : w3.heap.size < (w3.alloc (.cells #[.slice t.A t.es.length t.c] 65)).heap.size := by simp
  obtain ⟨gT, hgT⟩ : ∃ g, g = w3.heap.size := ⟨_, rfl⟩
  have HPC2 := Lib.hid (show ec = 0 → t.Own (w3.alloc (.cells #[.slice t.A t.es.length t.c] 65)) (w.heap.size + 2) from fun h => by
    rcases HPC.out with h9 | h9
    · exact (TV.Own.below h9.2.2.2.2.2 hx3).less (by omega)
    · omega)
  rw [← hgT] at T3 l4 l3 ⊢
  clear hgT hx3 b13 hb3 hb0 T1 g0 g1 g2 g3 g4 HP
  generalize w3.alloc (.cells #[.slice t.A t.es.length t.c] 65) = w4 at *
  obtain ⟨g0, g1, g2, g3, g4⟩ := id GG
  have p0 := P.c0
  have f0 := P.f0
  have t0 := T3.c0
  by_cases he : ec = 0
  case neg =>
    have q1 : (ec != 0) = true := bne_iff_ne.2 he
    obtain rfl : cc = false := by
      cases cc with
      | false => rfl
      | true =>
        obtain ⟨k1, k2, -⟩ := HT.out.1 rfl
        rcases HPC.out with h9 | ⟨-, h9 | ⟨k, hk, h9⟩⟩
        · exact absurd h9.1 he
        · rw [HN.out] at k1; omega
        · have := k2 k (by omega); omega
    clear he HT HPC HPC2 HCK
    go_wp2_with fail
    have k1 := P.set (.slice none 0 0)
    have hb5 := hbL.setCell (p := ⟨w.heap.size + 1, 0, none⟩) (show w.heap.size ≤ w.heap.size + 1 by omega) (.slice none 0 0)
    exact bodyPost_ret (v := .tuple #[.agg #[.slice none 0 0], .int .i64 4]) (by simp [results, Tryd.results57, go_sem, k1.c0]) rfl ⟨⟨noTV, rfl, rfl, noTV_own _ _⟩, hb5⟩
  obtain ⟨h9, k3, k4, k5, k6, -⟩ | ⟨h9, -⟩ := HPC.out
  case inr => omega
  subst h9
  have own := HPC2.out rfl
  have HQ := Lib.hid k5
  by_cases hq : q = 0
  case neg =>
    have i1 : (0 : Int) < (q : Int) := by omega
    obtain rfl : cc = false := by
      cases cc with
      | false => rfl
      | true =>
        obtain ⟨k1, -, -⟩ := HT.out.1 rfl
        rw [HN.out] at k1
        omega
    clear HT HPC HPC2 HCK hq he k4 k5 k6
    go_wp2_with fail
    have k1 := P.set (.slice none 0 0)
    have hb5 := hbL.setCell (p := ⟨w.heap.size + 1, 0, none⟩) (show w.heap.size ≤ w.heap.size + 1 by omega) (.slice none 0 0)
    exact bodyPost_ret (v := .tuple #[.agg #[.slice none 0 0], .int .i64 4]) (by simp [results, Tryd.results57, go_sem, k1.c0]) rfl ⟨⟨noTV, rfl, rfl, noTV_own _ _⟩, hb5⟩
  have hnn : n = (D + 1) * 9 := by omega
  have HE := Lib.hid k6
  have hlen : t.es.length ≤ 1048576 := by rw [k6, entsN_length]; omega
  have hg : cc = true ↔ Good D t.es := by
    rw [HT.out, k6]
    constructor
    · exact fun h => by have := h.2.2; rwa [Int.toNat_natCast] at this
    · exact fun h => ⟨by rw [HN.out]; omega, fun k hk => k4 k (by omega), by rw [Int.toNat_natCast]; exact h⟩
  have HCG := Lib.hid (HCK.out cc t w4 (TV.Own.inn own) hlen hg)
  subst hq
  clear HT HPC HPC2 HCK hnn hg hlen k6 k5 he
  cases cc
  case false =>
    go_wp2_with (go_at_call 61; (with_reducible refine HCG.out.mono ?_); rintro e w5 ⟨rfl, hb5⟩; replace hbL := bt hbL hb5; replace P := P.keep hb5 (by omega); clear p0 f0; have p0 := P.c0; have f0 := P.f0)
    have k1 := P.set (.slice none 0 0)
    have hb5 := hbL.setCell (p := ⟨w.heap.size + 1, 0, none⟩) (show w.heap.size ≤ w.heap.size + 1 by omega) (.slice none 0 0)
    exact bodyPost_ret (v := .tuple #[.agg #[.slice none 0 0], .int .i64 4]) (by simp [results, Tryd.results57, go_sem, k1.c0]) rfl ⟨⟨noTV, rfl, rfl, noTV_own _ _⟩, hb5⟩
  case true =>
    have HO5 := Lib.hid own
    go_wp2_with (go_at_call 61; (with_reducible refine HCG.out.mono ?_); rintro e w5 ⟨rfl, hb5⟩; replace hbL := bt hbL hb5; replace P := P.keep hb5 (by omega); have own5 := TV.Own.below HO5.out hb5; have T5 := T3.keep hb5 l4; clear p0 f0 t0; have p0 := P.c0; have f0 := P.f0; have t0 := T5.c0)
    have k1 := P.set (.slice t.A t.es.length t.c)
    have hb6 := hbL.setCell (p := ⟨w.heap.size + 1, 0, none⟩) (show w.heap.size ≤ w.heap.size + 1 by omega) (.slice t.A t.es.length t.c)
    have own6 := OwnE.less (base' := w.heap.size) (OwnE.cell_set (o := 0) own5 (show w.heap.size + 1 < w.heap.size + 2 by omega) (.slice t.A t.es.length t.c)) (by omega)
    exact bodyPost_ret (v := .tuple #[.agg #[.slice t.A t.es.length t.c], .int .i64 0]) (by simp [results, Tryd.results57, go_sem, k1.c0]) rfl ⟨⟨t, rfl, HE.out, own6⟩, hb6⟩
end Go.Proofs.YtalmimmcfjolkaaDoor.tbl
