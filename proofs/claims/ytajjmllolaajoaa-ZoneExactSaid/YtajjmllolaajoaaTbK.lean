/-
  casematekeep.Table: whether two tables are the same; TwinTable: a table like it. Conditions: rows shorter than 2^20.
-/
import Derived.Test.YtajjmllolaajoaaTbV
import Derived.Deep.CutRange
import Derived.Laws.StructEq
namespace Go.Proofs.Ytajjmllolaajoaa.tbl
open Go.RowKit Go.Lib
open Go.Proofs.Ytajjmllolaajoaa.anc (flat_get flat_len slv_cell bl kal kst ks bm ka take_same take_other row_form row_below wpList_row)

theorem src_ents {P : Program} {w : World} {B n c : Nat} {tx e' : TypeId} {A : Option Addr} {es : List Ent} (hk : P.underlying tx = some (.slice e')) (hA : SlV w B A (evs es)) (hn : es.length = n) : Src P 3 tx (.slice A n c) n (evs es) w := by
  subst hn
  cases A with
  | none =>
    have h0 : es = [] := by
      rcases es with _ | ⟨e, es⟩
      · rfl
      · obtain ⟨b, off, h, -, -⟩ := hA (by rw [evs_length, List.length_cons]; omega)
        cases h
    subst h0
    exact Src.ofNil w hk c
  | some a =>
    refine Src.ofSlice w hk a _ c _ (evs_length es) (fun j u hu => ?_) (evs_one es)
    obtain ⟨hj, -⟩ := List.getElem?_eq_some_iff.1 hu
    obtain ⟨b, off, he, -, -⟩ := id (hA (by omega))
    simp only [Option.some.injEq] at he
    subst he
    have := (slv_cell hA hu).1
    rwa [Addr.add_lit]
theorem two_new (w : World) (a b : Value) (t : TypeId) : C1 ((w.alloc (.cells #[a] t)).alloc (.cells #[b] t)) w.heap.size a ∧ C1 ((w.alloc (.cells #[a] t)).alloc (.cells #[b] t)) (w.heap.size + 1) b := by
  have h1 := (c1_new w a t).keep (bl (w.alloc (.cells #[a] t)) (.cells #[b] t)) (by simp)
  have h2 := c1_new (w.alloc (.cells #[a] t)) b t
  rw [show (w.alloc (.cells #[a] t)).heap.size = w.heap.size + 1 by simp] at h2
  exact ⟨h1, h2⟩
set_option maxRecDepth 100000 in
set_option maxHeartbeats 4000000 in
theorem table_long (x y : TV) (w : World) (h : x.es.length ≠ y.es.length) :
    Calls Try.prog 14 #[x.v, y.v] w fun e w' => e = .returned (.bool false) ∧ Below w.heap.size w w' := by
  have h2 : ((x.es.length : Int) != (y.es.length : Int)) = true := bne_iff_ne.2 (by omega)
  obtain ⟨T1, T2⟩ := two_new w (.slice x.A x.es.length x.c) (.slice y.A y.es.length y.c) 26
  have hb := kal (bl w (.cells #[.slice x.A x.es.length x.c] 26)) (.cells #[.slice y.A y.es.length y.c] 26)
  unfold TV.v
  go_enter Try.func14, Try.ntmps14
  go_upto_region 1 with fail
  generalize (w.alloc (.cells #[.slice x.A x.es.length x.c] 26)).alloc (.cells #[.slice y.A y.es.length y.c] 26) = w0 at *
  have a0 := T1.c0
  have b0 := T2.c0
  go_wp2_with fail
  go_ret
  exact ⟨rfl, hb⟩
set_option maxRecDepth 100000 in
set_option maxHeartbeats 4000000 in
theorem table_short (x y : TV) (n : Nat) (w : World) (hx : x.In w w.heap.size) (hy : y.In w w.heap.size) (h1 : x.es.length = n) (h2 : y.es.length = n) (hn : n ≤ 1048576) :
    Calls Try.prog 14 #[x.v, y.v] w fun e w' => e = .returned (.bool (decide (x.es = y.es))) ∧ Below w.heap.size w w' := by
  obtain ⟨T1, T2⟩ := two_new w (.slice x.A n x.c) (.slice y.A n y.c) 26
  have hb := kal (bl w (.cells #[.slice x.A n x.c] 26)) (.cells #[.slice y.A n y.c] 26)
  have l2 : ((w.alloc (.cells #[.slice x.A n x.c] 26)).alloc (.cells #[.slice y.A n y.c] 26)).heap.size = w.heap.size + 2 := by simp
  unfold TV.v
  rw [h1, h2]
  have i0 : ((n : Int) != (n : Int)) = false := bne_self_eq_false _
  go_enter Try.func14, Try.ntmps14
  go_upto_region 1 with fail
  generalize (w.alloc (.cells #[.slice x.A n x.c] 26)).alloc (.cells #[.slice y.A n y.c] 26) = w0 at *
  have a0 := T1.c0
  have b0 := T2.c0
  go_wp2_with fail
  go_loopw [5] (fun i w' => ∃ k : Nat, k ≤ n ∧ i = .int .i64 k ∧ x.es.take k = y.es.take k ∧ Below w0.heap.size w0 w') (fun i _ => n - (RowKit.intOf i).toNat)
  case atStart => exact ⟨0, by omega, rfl, rfl, Below.refl _ _⟩
  case round =>
    obtain ⟨w5, rfl⟩ : ∃ x, x = wr := ⟨wr, rfl⟩
    obtain ⟨k, hk, rfl, hs, hbr⟩ := hrel
    have hb5 := bt hb hbr
    have a5 := kst hbr (by omega) a0
    have b5 := kst hbr (by omega) b0
    clear a0 b0 T1 T2
    by_cases hlt : k < n
    · have hX := (hx.below hb5).h
      have hY := (hy.below hb5).h
      obtain ⟨b1, off, e, hA1, hb1, c0, c1, c2, -, e1⟩ := ent_at hX (show k < x.es.length by omega)
      obtain ⟨b2, off', e', hA2, hb2, d0, d1, d2, -, e2⟩ := ent_at hY (show k < y.es.length by omega)
      rw [hA1] at a5
      rw [hA2] at b5
      have i1 : (k : Int) < (n : Int) := by omega
      have lw := hb5.size
      by_cases he : e = e'
      · have H1 := Lib.hid (take_same hs e1 e2 he)
        subst he
        clear hs e1 e2 hX hY hA1 hA2
        go_wp2_with fail
        go_quiet (fail)
        generalize hw6 : w5.drewN nq = w6 at *
        have hb6 := hw6 ▸ below_dn hb5 nq
        have hbr6 := hw6 ▸ below_dn hbr nq
        clear hw6
        go_wp2_with fail
        go_roundw
        case rel => exact ⟨k + 1, by omega, by go_num, H1.out, hbr6⟩
        case measure => simp [RowKit.intOf]; omega
      · have H2 := Lib.hid (take_other e1 e2 he)
        clear hs e1 e2 hX hY hA1 hA2
        have hd : Hid (decide (x.es = y.es) = false) := Lib.hid (decide_eq_false H2.out)
        by_cases k1 : e.st = e'.st
        · by_cases k2 : e.sm = e'.sm
          · have k3 : (e.ls == e'.ls) = false := beq_eq_false_iff_ne.2 fun k3 => he (by cases e; cases e'; simp_all)
            have j1 : (e.st == e'.st) = true := beq_iff_eq.2 k1
            have j2 : (e.sm == e'.sm) = true := beq_iff_eq.2 k2
            clear k1 k2 he
            go_wp2_with fail
            go_quiet (fail)
            go_wp2_with fail
            go_ret
            exact ⟨ret_bool hd.out.symm, below_dn hb5 _⟩
          · have j1 : (e.st == e'.st) = true := beq_iff_eq.2 k1
            have j2 : (e.sm == e'.sm) = false := beq_eq_false_iff_ne.2 k2
            clear k1 k2 he
            go_wp2_with fail
            go_quiet (fail)
            go_wp2_with fail
            go_ret
            exact ⟨ret_bool hd.out.symm, below_dn hb5 _⟩
        · have j1 : (e.st == e'.st) = false := beq_eq_false_iff_ne.2 k1
          clear k1 he
          go_wp2_with fail
          go_quiet (fail)
          go_wp2_with fail
          go_ret
          exact ⟨ret_bool hd.out.symm, below_dn hb5 _⟩
    · have H : Hid (decide (x.es = y.es) = true) := by
        show decide (x.es = y.es) = true
        rw [List.take_of_length_le (by omega), List.take_of_length_le (by omega)] at hs
        exact decide_eq_true hs
      have i1 : ¬ (k : Int) < (n : Int) := by omega
      go_wp2_with fail
      go_ret
      exact ⟨ret_bool H.out.symm, hb5⟩
theorem tab_same (x y : TV) (w : World) (hx : x.In w w.heap.size) (hy : y.In w w.heap.size) (hn : x.es.length ≤ 1048576) :
    Calls Try.prog 14 #[x.v, y.v] w fun e w' => e = .returned (.bool (decide (x.es = y.es))) ∧ Below w.heap.size w w' := by
  by_cases h : x.es.length = y.es.length
  · exact table_short x y _ w hx hy rfl h.symm hn
  · rw [decide_eq_false fun k => h (congrArg List.length k)]
    exact table_long x y w h
/-- What is told of a table: one of one's own. -/
def TbQ (base : Nat) (es : List Ent) (e : Ending) (w' : World) : Prop := ∃ t : TV, e = .returned t.v ∧ t.es = es ∧ t.Own w' base
set_option maxRecDepth 100000 in
set_option maxHeartbeats 4000000 in
theorem twin_table (x : TV) (n : Nat) (w : World) (hx : x.In w w.heap.size) (h1 : x.es.length = n) (hn : n ≤ 1048576) :
    Calls Try.prog 10 #[x.v] w fun e w' => TbQ w.heap.size x.es e w' ∧ Below w.heap.size w w' := by
  obtain ⟨T1, T2⟩ := two_new w (.slice x.A n x.c) (.slice none 0 0) 26
  have hb := kal (bl w (.cells #[.slice x.A n x.c] 26)) (.cells #[.slice none 0 0] 26)
  have l2 : ((w.alloc (.cells #[.slice x.A n x.c] 26)).alloc (.cells #[.slice none 0 0] 26)).heap.size = w.heap.size + 2 := by simp
  unfold TV.v
  rw [h1]
  have hX := (hx.h.below hb).more hb.size
  have HL := Lib.hid h1
  clear h1
  go_enter Try.func10, Try.ntmps10
  go_upto_region 1 with fail
  generalize (w.alloc (.cells #[.slice x.A n x.c] 26)).alloc (.cells #[.slice none 0 0] 26) = w0 at *
  have a0 := T1.c0
  have z0 := T2.c0
  have f0 := T2.f0
  go_wp2_with (first
    | (at_builtin
       refine wpList_row _ rfl (.tmp 4) (.tmp 6) _ _ rfl w0.heap.size 3 24 54 (.agg #[.int .i64 0, .int .i64 0, .bool false]) Try.underlying24 e_info rfl (.slice none 0 0) 0 [] rfl (World.ownsRow_nil w0 _ _ 3) _ n _ rfl (src_ents (P := Try.prog) Try.underlying24 hX HL.out) (by unfold maxLen; omega) (by omega) (Nat.le_refl _) ?_
       intro v3 w3 h3 hg3
       rw [Nat.zero_add, List.nil_append] at h3
       have b3 : Below w0.heap.size w0 w3 := (Below.refl _ _).grown hg3 (Nat.le_refl _) (fun x hx => by cases hx)
       obtain ⟨A3, d3, hv3, -, -, -⟩ := row_form h3
       subst hv3
       replace z0 := kst b3 (by omega) z0
       replace f0 := (T2.keep b3 (by omega)).f0))
  have k0 : C1 (w3.setCell ⟨w.heap.size + 1, 0, none⟩ (.slice A3 n d3)) (w.heap.size + 1) (.slice A3 n d3) := C1.set ⟨z0, f0⟩ _
  have h4 : OwnE w3 w0.heap.size (.slice A3 n d3) x.es := by
    unfold OwnE
    rw [HL.out]
    exact h3
  have h5 : OwnE (w3.setCell ⟨w.heap.size + 1, 0, none⟩ (.slice A3 n d3)) w.heap.size (.slice A3 n d3) x.es := (h4.cell_set (by omega) _).less (by omega)
  exact bodyPost_ret (v := .agg #[.slice A3 n d3]) (by simp [results, Try.results10, go_sem, k0.c0]) rfl ⟨⟨⟨A3, d3, x.es⟩, by unfold TV.v; rw [HL.out], rfl, by unfold TV.Own; rw [HL.out]; exact h5⟩, (bt hb b3).setCell (p := ⟨w.heap.size + 1, 0, none⟩) (Nat.le_succ _) _⟩
end Go.Proofs.Ytajjmllolaajoaa.tbl