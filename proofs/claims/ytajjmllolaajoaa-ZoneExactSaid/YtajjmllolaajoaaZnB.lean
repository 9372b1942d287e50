/-
  The developers' own zone.check. Conditions: lists shorter than 2^20.
-/
import Derived.Test.YtajjmllolaajoaaZnA
import Derived.Test.YtajjmllolaajoaaTbA
namespace Go.Proofs.Ytajjmllolaajoaa.zon
open Go.RowKit Go.Lib
open Go.Proofs.Ytajjmllolaajoaa.gmt (Ok)
open Go.Proofs.Ytajjmllolaajoaa.anc (bl kal kst ks bm ka)
open Go.Proofs.Ytajjmllolaajoaa.tbl (Ent EntOk C1 c1_new G5 g5_new OwnE)

/-- table.Check, as zone asks it. -/
theorem tc_no (z d s l a : Int) (x : tbl.TV) (N : Nat) (w : World) (hno : ¬ (Ok z d s l a ∧ tbl.Good d x.es)) (hN : x.es.length = N) (hN1 : N ≤ 1048576) (hx : x.In w w.heap.size) :
    Calls Try.prog 37 #[.agg #[.int .i64 z, .int .i64 d, .int .i64 s, .int .i64 l, .int .i64 a], .agg #[.slice x.A N x.c]] w fun e w' => e = .returned (.int .i64 1) ∧ Below w.heap.size w w' := by
  subst hN
  by_cases ho : Ok z d s l a
  · obtain ⟨D, rfl⟩ : ∃ D : Nat, d = D := ⟨d.toNat, by have := ho.2.1; omega⟩
    exact tbl.tcheck_any false z s l a D x w ho hx hN1 (iff_of_false Bool.false_ne_true fun h => hno ⟨ho, h⟩)
  · exact tbl.tcheck_no z d s l a x w ho
theorem tc_yes (z s l a : Int) (D : Nat) (x : tbl.TV) (N : Nat) (w : World) (ho : Ok z D s l a) (hg : tbl.Good (D : Int) x.es) (hN : x.es.length = N) (hN1 : N ≤ 1048576) (hx : x.In w w.heap.size) :
    Calls Try.prog 37 #[.agg #[.int .i64 z, .int .i64 D, .int .i64 s, .int .i64 l, .int .i64 a], .agg #[.slice x.A N x.c]] w fun e w' => e = .returned (.int .i64 0) ∧ Below w.heap.size w w' := by
  subst hN
  exact tbl.tcheck_any true z s l a D x w ho hx hN1 (iff_of_true rfl hg)
set_option maxRecDepth 100000 in
set_option maxHeartbeats 4000000 in
theorem check_no (z d s l a : Int) (x : tbl.TV) (N : Nat) (A : Option Addr) (n c : Nat) (w : World) (hno : ¬ (Ok z d s l a ∧ tbl.Good d x.es)) (hN : x.es.length = N) (hN1 : N ≤ 1048576) (hx : x.In w w.heap.size) :
    Calls Try.prog 29 #[.agg #[.int .i64 z, .int .i64 d, .int .i64 s, .int .i64 l, .int .i64 a], .agg #[.slice x.A N x.c], .slice A n c] w fun e w' => e = .returned (.int .i64 1) ∧ Below w.heap.size w w' := by
  have s1 : (w.alloc (.cells #[.int .i64 z, .int .i64 d, .int .i64 s, .int .i64 l, .int .i64 a] 23)).heap.size = w.heap.size + 1 := by simp
  have hx2 := bl (w.alloc (.cells #[.int .i64 z, .int .i64 d, .int .i64 s, .int .i64 l, .int .i64 a] 23)) (.cells #[.slice x.A N x.c] 26)
  have GG := (g5_new w z d s l a).keep hx2 (by omega)
  have TT := c1_new (w.alloc (.cells #[.int .i64 z, .int .i64 d, .int .i64 s, .int .i64 l, .int .i64 a] 23)) (.slice x.A N x.c) 26
  rw [s1] at TT
  have hw := kal (bl w (.cells #[.int .i64 z, .int .i64 d, .int .i64 s, .int .i64 l, .int .i64 a] 23)) (.cells #[.slice x.A N x.c] 26)
  have HT := Lib.hid fun W (hW : Below w.heap.size w W) => tc_no z d s l a x N W hno hN hN1 (hx.next hW)
  clear hno hN hx s1 hx2 hN1
  go_enter Try.func29, Try.ntmps29
  go_upto_region 1 with fail
  generalize ((w.alloc (.cells #[.int .i64 z, .int .i64 d, .int .i64 s, .int .i64 l, .int .i64 a] 23)).alloc (.cells #[.slice x.A N x.c] 26)) = w0 at *
  obtain ⟨g0, g1, g2, g3, g4⟩ := id GG
  have t0 := TT.c0
  go_wp2_with (go_at_call 37; (with_reducible refine (HT.out _ hw).mono ?_); rintro e w1 ⟨rfl, hb1⟩)
  go_ret
  exact ⟨rfl, bt hw hb1⟩
set_option maxRecDepth 100000 in
set_option maxHeartbeats 8000000 in
theorem check_c (v : Int) (z s l a : Int) (D : Nat) (x : tbl.TV) (N : Nat) (A : Option Addr) (n c : Nat) (rs : List Row) (w : World) (ho : Ok z D s l a) (hN : x.es.length = N) (hx : x.In w w.heap.size) (hg : tbl.Good (D : Int) x.es) (hn : rs.length = n) (hA : SlV w w.heap.size A (vals rs)) (hR : Rws w w.heap.size rs) (hb : (HadOk (D + 1) (lists rs) → v = 0) ∧ (¬ HadOk (D + 1) (lists rs) → v = 2)) :
    Calls Try.prog 29 #[.agg #[.int .i64 z, .int .i64 D, .int .i64 s, .int .i64 l, .int .i64 a], .agg #[.slice x.A N x.c], .slice A n c] w fun e w' => e = .returned (.int .i64 v) ∧ Below w.heap.size w w' := by
  have hND : N = D + 1 := by have := hg.1; rw [hN] at this; omega
  have hD : D ≤ 4 := by have := ho.2.1; omega
  have s1 : (w.alloc (.cells #[.int .i64 z, .int .i64 D, .int .i64 s, .int .i64 l, .int .i64 a] 23)).heap.size = w.heap.size + 1 := by simp
  have hx2 := bl (w.alloc (.cells #[.int .i64 z, .int .i64 D, .int .i64 s, .int .i64 l, .int .i64 a] 23)) (.cells #[.slice x.A N x.c] 26)
  have GG := (g5_new w z D s l a).keep hx2 (by omega)
  have TT := c1_new (w.alloc (.cells #[.int .i64 z, .int .i64 D, .int .i64 s, .int .i64 l, .int .i64 a] 23)) (.slice x.A N x.c) 26
  rw [s1] at TT
  have lT : w.heap.size + 1 < ((w.alloc (.cells #[.int .i64 z, .int .i64 D, .int .i64 s, .int .i64 l, .int .i64 a] 23)).alloc (.cells #[.slice x.A N x.c] 26)).heap.size := by simp
  have hw := kal (bl w (.cells #[.int .i64 z, .int .i64 D, .int .i64 s, .int .i64 l, .int .i64 a] 23)) (.cells #[.slice x.A N x.c] 26)
  have HT := Lib.hid fun W (hW : Below w.heap.size w W) => tc_yes z s l a D x N W ho hg hN (by omega) (hx.next hW)
  have HA := Lib.hid (hA.next hw)
  have HR := Lib.hid (hR.next hw)
  have HL := Lib.hid hn
  have HB := Lib.hid hb
  have HND := Lib.hid hND
  clear hN hx s1 hx2 ho hg hA hR hn hb hND
  go_enter Try.func29, Try.ntmps29
  go_upto_region 1 with fail
  generalize ((w.alloc (.cells #[.int .i64 z, .int .i64 D, .int .i64 s, .int .i64 l, .int .i64 a] 23)).alloc (.cells #[.slice x.A N x.c] 26)) = w0 at *
  obtain ⟨g0, g1, g2, g3, g4⟩ := id GG
  have t0 := TT.c0
  go_upto_region 4 with (go_at_call 37; (with_reducible refine (HT.out _ hw).mono ?_); rintro e w1 ⟨rfl, hb1⟩)
  clear t0 g0 g1 g2 g3 g4 GG
  replace TT := TT.keep hb1 lT
  replace hw := bt hw hb1
  replace HA := Lib.hid (HA.out.next hb1)
  replace HR := Lib.hid (HR.out.next hb1)
  have t0 := TT.c0
  clear hb1 lT HT
  by_cases h1 : n = N
  case neg =>
    have q : ((n : Int) != (N : Int)) = true := bne_iff_ne.2 (by omega)
    obtain rfl : v = 2 := HB.out.2 fun h => by
      have := h.1
      rw [lists_length, HL.out] at this
      exact absurd (this.trans HND.out.symm) h1
    clear h1 HB
    go_wp2_with fail
    go_ret
    exact ⟨rfl, hw⟩
  have q : ((n : Int) != (N : Int)) = false := by rw [h1]; exact bne_self_eq_false _
  have HY : Hid ((∀ h ∈ lists rs, h = [] ∨ h.length = 8) → v = 0) := Lib.hid fun h => HB.out.1 ⟨by rw [lists_length, HL.out, h1, HND.out], h⟩
  have HZ : Hid (∀ h ∈ lists rs, ¬ (h = [] ∨ h.length = 8) → v = 2) := Lib.hid fun h hh hno => HB.out.2 fun k => hno (k.2 h hh)
  have hn5 : n ≤ 5 := by have := HND.out; omega
  clear h1 HB
  go_upto_region 7 with fail
  clear t0 TT q
  go_loop [24] (fun i => ∃ k : Nat, i = .int .i64 k ∧ k ≤ n ∧ ∀ h ∈ (lists rs).take k, h = [] ∨ h.length = 8) (fun i => n - (RowKit.intOf i).toNat)
  case atStart => exact ⟨0, rfl, by omega, fun h hh => by simp at hh⟩
  case round =>
    obtain ⟨k, rfl, hk, hs2⟩ := hrel
    by_cases hlt : k < n
    · have j1 : (k : Int) < (n : Int) := by omega
      obtain ⟨b1, off, r, rfl, hb1, g, -, -, -, e1⟩ := row_at HA.out HR.out (show k < rs.length by have := HL.out; omega)
      have HAV := Lib.hid fun W => avail_c r.A r.l.length r.c W
      by_cases h3 : r.l = [] ∨ r.l.length = 8
      · have HN : Hid (∀ h ∈ (lists rs).take (k + 1), h = [] ∨ h.length = 8) := Lib.hid fun h hm => by
          rw [take_next e1] at hm
          rcases List.mem_append.1 hm with hm | hm
          · exact hs2 h hm
          · obtain rfl := List.mem_singleton.1 hm
            exact h3
        have j3 : decide (0 < r.l.length) = false ∨ decide (0 < r.l.length) = true ∧ ((r.l.length : Int) != 8) = false := by
          rcases h3 with h3 | h3
          · rw [h3]; exact .inl rfl
          · rw [h3]; exact .inr ⟨rfl, rfl⟩
        clear hs2 e1 h3
        rcases j3 with j3 | ⟨j3, j4⟩
        all_goals
          rw [j3] at HAV
          clear j3
          go_wp2_with (go_at_call 38; (with_reducible refine (HAV.out _).mono ?_); rintro e w1 ⟨rfl, rfl⟩)
          go_round
          case rel => exact ⟨k + 1, by go_num, by omega, HN.out⟩
          case measure => simp [RowKit.intOf]; omega
      · have j3 : decide (0 < r.l.length) = true := decide_eq_true (Nat.pos_of_ne_zero fun h => h3 (.inl (List.eq_nil_of_length_eq_zero h)))
        have j4 : ((r.l.length : Int) != 8) = true := bne_iff_ne.2 fun h => h3 (.inr (by omega))
        obtain rfl : v = 2 := HZ.out r.l (List.mem_of_getElem? e1) h3
        rw [j3] at HAV
        clear hs2 e1 h3 j3 HY HZ
        go_wp2_with (go_at_call 38; (with_reducible refine (HAV.out _).mono ?_); rintro e w1 ⟨rfl, rfl⟩)
        go_ret
        exact ⟨rfl, hw⟩
    · have j1 : ¬ (k : Int) < (n : Int) := by omega
      obtain rfl : v = 0 := (HY.out fun h hh => hs2 h (by rw [List.take_of_length_le (by rw [lists_length]; have := HL.out; omega)]; exact hh))
      clear hs2 HY HZ
      go_wp2_with fail
      go_ret
      exact ⟨rfl, hw⟩
end Go.Proofs.Ytajjmllolaajoaa.zon
