/-
  RingNeeds: how many records blocks need, one after another. Conditions: 'Crg'.
-/
import Derived.Test.YtalmimmcfjolkaaDoorRgI
import Derived.Test.YtalmimmcfjolkaaDoorGRd
import Derived.Test.YtalmimmcfjolkaaDoorRgJ
import Derived.Deep.QuietTactic
import Derived.BigQuiet
import Derived.IntWalk
namespace Go.Proofs.YtalmimmcfjolkaaDoor.rng
open Go.RowKit Go.Lib
open Go.Proofs.YtalmimmcfjolkaaDoor.gmt (Ok)
open Go.Proofs.YtalmimmcfjolkaaDoor.anc (bl kal kst ks bm ka row_apart)
open Go.Proofs.YtalmimmcfjolkaaDoor.tbl (G5 g5_new)

theorem int_bool : 3 ≠ 4 := by decide
section
variable {W W' : World} {base base' g1 g2 n m : Nat} {met per : List Bool} {v : Value} {vs : List Value}
theorem TwoB.grown (h : TwoB W base g1 g2 n m met per) (hv : OwnV W base' 3 v vs) (hg : W.grownBy W' v.ownBlock) : TwoB W' base g1 g2 n m met per :=
  ⟨World.ownsRow.kept h.a hg (row_apart h.a hv int_bool.symm), World.ownsRow.kept h.b hg (row_apart h.b hv int_bool.symm), h.ne, ⟨h.ba.1, Nat.lt_of_lt_of_le h.ba.2 hg.size⟩, ⟨h.bb.1, Nat.lt_of_lt_of_le h.bb.2 hg.size⟩⟩
theorem own_beside {g k c : Nat} {l : List Bool} (h : OwnV W base 3 v vs) (hb : OwnB W base' (.slice (some ⟨g, 0, none⟩) n c) l) (u : Value) : OwnV (W.setCell ⟨g, k, none⟩ u) base 3 v vs :=
  ownsRow_setCell_other h (fun e => by
    rcases row_apart h hb int_bool with q | q
    · rw [q] at e; cases e
    · exact q e) u
end
theorem own_slv {w : World} {base m c : Nat} {A : Option Addr} {qs : List Int} (h : OwnV w base 3 (.slice A m c) (ints qs)) : SlV w w.heap.size A (ints qs) ∧ qs.length = m ∧ m ≤ c ∧ c ≤ maxLen := by
  obtain ⟨A', c', e, h1, h2, hs, -⟩ := h.form
  rw [ints_length] at e h1
  simp only [Value.slice.injEq] at e
  obtain ⟨rfl, rfl, rfl⟩ := e
  exact ⟨hs, rfl, h1, h2⟩
theorem wrap_modN (i : Int) (m : Nat) (hm : 0 < m) : ∃ a : Nat, a < m ∧ (IntKind.u64.wrap i).tmod (m : Int) = (a : Int) := by
  obtain ⟨h1, h2⟩ := gmt.wrap_mod i (m : Int) (by omega)
  exact ⟨((IntKind.u64.wrap i).tmod (m : Int)).toNat, by omega, by omega⟩
set_option maxRecDepth 100000 in
set_option maxHeartbeats 8000000 in
theorem rn_main (zones data : Int) (yA : Option Addr) (yc n : Nat) (ys : List Int) (w : World) (hc : Crg w) (hyn : ys.length = n) (hy : SlV w w.heap.size yA (ints ys)) (h30 : ¬ (30 : Int) < (n : Int)) :
    Calls Tryd.prog 4 #[.int .i64 zones, .int .i64 data, .slice yA n yc] w fun e w' => e = .returned (.bool true) ∧ Below w.heap.size w w' := by
  have HC := Lib.hid hc
  have HYN := Lib.hid hyn
  have HY := Lib.hid hy
  have HS := Lib.hid fun W => gmt.some_any zones data 1 0 0 W
  clear hc hyn hy
  go_enter Tryd.func4, Tryd.ntmps4
  go_upto_region 2 with (go_at_call 15; (with_reducible refine (HS.out _).mono ?_); rintro e w1 ⟨⟨z, d, s, l, a, ho, rfl⟩, hb1⟩; have HO := Lib.hid ho; clear ho)
  obtain ⟨Z, rfl⟩ : ∃ Z : Nat, z = Z := ⟨z.toNat, by have := HO.out.1; omega⟩
  obtain ⟨D, rfl⟩ : ∃ D : Nat, d = D := ⟨d.toNat, by have := HO.out.2.1; omega⟩
  have hZ : 1 ≤ Z ∧ Z ≤ 4 := by have := HO.out.1; omega
  have hD : 1 ≤ D ∧ D ≤ 4 := by have := HO.out.2.1; omega
  obtain ⟨N, hN⟩ : ∃ N, N = Z * D := ⟨_, rfl⟩
  have hNi : (Z : Int) * (D : Int) = (N : Int) := by rw [hN, Int.natCast_mul]
  have hN16 : N ≤ 16 := by rw [hN]; exact Nat.mul_le_mul hZ.2 hD.2
  have hN1 : 0 < N := by rw [hN]; exact Nat.mul_pos hZ.1 hD.1
  have HNN := Lib.hid hN
  have GG := g5_new w1 Z D s l a
  have lg : w1.heap.size < (w1.alloc (.cells #[.int .i64 (Z : Int), .int .i64 (D : Int), .int .i64 s, .int .i64 l, .int .i64 a] 23)).heap.size := by simp
  have hb2 := kal hb1 (.cells #[.int .i64 (Z : Int), .int .i64 (D : Int), .int .i64 s, .int .i64 l, .int .i64 a] 23)
  clear hb1 hN
  obtain ⟨gg, hgg⟩ : ∃ gg, gg = w1.heap.size := ⟨_, rfl⟩
  rw [← hgg] at GG lg ⊢
  clear hgg
  generalize w1.alloc (.cells #[.int .i64 (Z : Int), .int .i64 (D : Int), .int .i64 s, .int .i64 l, .int .i64 a] 23) = w2 at *
  obtain ⟨g0, g1, g2, g3, g4⟩ := id GG
  go_upto_region 4 with fail
  have v0 : IntKind.i64.wrap ((Z : Int) * (D : Int)) = (N : Int) := by rw [hNi]; exact IntWalk.i64_in _ (by omega)
  have HNI := Lib.hid hNi
  clear hNi
  have hd0 := below_dr (Below.refl w2.heap.size w2)
  go_cut [8, 9] from 106 (fun p q wc => ∃ gA gB : Nat, p = .slice (some ⟨gA, 0, none⟩) N N ∧ q = .slice (some ⟨gB, 0, none⟩) Z Z ∧ TwoB wc w2.heap.size gA gB N Z (List.replicate N false) (List.replicate Z false) ∧ Below w2.heap.size w2 wc)
  case first =>
    have mk1 := make_bools N (by omega)
    have mk2 := make_bools Z (by omega)
    have TAB := Lib.hid (twoB_ab w2 w2.heap.size N Z (by omega) (by omega) (Nat.le_refl _))
    have TBA := Lib.hid (twoB_ba w2 w2.heap.size N Z (by omega) (by omega) (Nat.le_refl _))
    have B1 := Lib.hid (kal (bl w2 (.cells (bcells N) 4)) (.cells (bcells Z) 4))
    have B2 := Lib.hid (kal (bl w2 (.cells (bcells Z) 4)) (.cells (bcells N) 4))
    have HS := Lib.hid (show ∀ W, Below w2.heap.size w2 W → W.cell? ⟨gg, 0, none⟩ = some (.int .i64 (Z : Int)) ∧ W.cell? ⟨gg, 1, none⟩ = some (.int .i64 (D : Int)) ∧ Below w2.heap.size w2 W from fun W hW => ⟨ks hW lg g0, ks hW lg g1, hW⟩)
    go_region_held3 (fun W => W.cell? ⟨gg, 0, none⟩ = some (.int .i64 (Z : Int)) ∧ W.cell? ⟨gg, 1, none⟩ = some (.int .i64 (D : Int)) ∧ Below w2.heap.size w2 W)
      ((refine HS.out _ ?_; first
        | with_reducible exact hd0
        | with_reducible exact kal hd0 _
        | with_reducible exact below_dr (bl w2 _)
        | with_reducible exact below_dr (kal (bl w2 _) _)
        | fail))
      (first | fail)
    all_goals (go_wp2 <;> go_meet)
    · exact ⟨_, _, rfl, rfl, TAB.out.drew, below_dr B1.out⟩
    · exact ⟨_, _, rfl, rfl, TBA.out.drew, below_dr B2.out⟩
  case rest =>
    obtain ⟨gA, gB, rfl, rfl, hT, hbc⟩ := hcut
    obtain ⟨w3, rfl⟩ : ∃ y, y = wc := ⟨wc, rfl⟩
    have HMG := Lib.hid (show ∀ W, Below w2.heap.size w2 W → G5 W gg Z D s l a from fun W hW => GG.keep hW lg)
    have HYW := Lib.hid (show ∀ W, Below w2.heap.size w2 W → SlV W w.heap.size yA (ints ys) from fun W hW => HY.out.below (bt hb2 hW))
    have HWK := Lib.hid (show ∀ W, Below w2.heap.size w2 W → Calls Tryd.prog 14 #[] W fun e w' => e = .returned (.bool true) ∧ Below W.heap.size W w' from fun W hW => wk_ring W (HC.out.more (bt hb2 hW)))
    have HND := Lib.hid (show ∀ (A : Option Addr) (c m : Nat) (ps : List Int) (E : Int) (W : World), Below w2.heap.size w2 W → SlV W W.heap.size A (ints ps) → ps.length = m → m ≤ c → c ≤ maxLen → LbasOk Z D ps → needN (D : Int) ps = E → Calls Tryd.prog 16 #[.agg #[.int .i64 (Z : Int), .int .i64 (D : Int), .int .i64 s, .int .i64 l, .int .i64 a], .slice A m c] W fun e w' => e = .returned (.tuple #[.int .i64 E, .int .i64 0]) ∧ Below W.heap.size W w' from fun A c m ps E W hW h1 h2 h3 h4 h5 h6 => by
      rw [← h6]
      exact HC.out.need Z D s l a A c m ps W (bt hb2 hW) HO.out h1 h2 h3 h4 h5)
    have hn2 : w2.heap.size ≤ w3.heap.size := hbc.size
    clear g0 g1 g2 g3 g4 GG hd0 v0
    go_upto_region 8 with fail
    go_loopw [10, 11, 12] (fun lb wn iv w' => ∃ (k : Nat) (ps : List Int) (R : Nat) (met per : List Bool), k ≤ n ∧ iv = .int .i64 (k : Int) ∧ wn = .int .i64 ((ps.length : Int) + 2 * (R : Int)) ∧ ps.length ≤ k ∧ R = zr (D : Int) ps.reverse ∧ Mt Z D ps met per ∧ TwoB w' w2.heap.size gA gB N Z met per ∧ OwnV w' w2.heap.size 3 lb (ints ps) ∧ Below w2.heap.size w2 w') (fun _ _ iv _ => n - (RowKit.intOf iv).toNat)
    case atStart => exact ⟨0, [], 0, List.replicate N false, List.replicate Z false, by omega, rfl, rfl, Nat.le_refl _, rfl, by rw [HNN.out]; exact Mt.nil Z D, hT, ownV_nil _ _ _, hbc⟩
    case round =>
      obtain ⟨w5, rfl⟩ : ∃ x, x = wr := ⟨wr, rfl⟩
      obtain ⟨k, ps, R, met, per, hk, rfl, rfl, hpk, hR, hmt, hT5, hlb, hbr⟩ := hrel
      have lw := hbr.size
      obtain ⟨g0, g1, g2, g3, g4⟩ := HMG.out w5 hbr
      have hR30 : R ≤ 30 := by
        have h9 := zr_le (D : Int) ps.reverse
        rw [List.length_reverse] at h9
        omega
      have HR := Lib.hid hR
      have HM := Lib.hid hmt
      clear hR hmt
      by_cases hlt : k < n
      · have j1 : (k : Int) < (n : Int) := by omega
        have hky : k < ys.length := by rw [HYN.out]; exact hlt
        obtain ⟨b1, off, hAA, hb1, hcs⟩ := (HYW.out w5 hbr) (by rw [ints_length, HYN.out]; omega)
        have gy := hcs k (by rw [ints_length]; exact hky)
        rw [ints_get] at gy
        obtain ⟨y, hy⟩ : ∃ y, y = ys[k] := ⟨_, rfl⟩
        rw [← hy] at gy
        obtain ⟨Y, hYN, hYw⟩ := wrap_modN y N hN1
        have n4 : IntKind.u64.wrap (N : Int) = (N : Int) := IntWalk.u64_in _ (by omega)
        have n5 : IntKind.i64.wrap (Y : Int) = (Y : Int) := IntWalk.i64_in _ (by omega)
        have n6 : ¬ (N : Int) = 0 := by omega
        have n7 : ((N : Int) == 0) = false := beq_eq_false_iff_ne.2 n6
        have n8 : (0 : Int) ≤ (Y : Int) := by omega
        have n9 : (Y : Int) < (N : Int) := by omega
        have hYZ : Y < Z * D := by rw [← HNN.out]; exact hYN
        obtain ⟨bm, hbm⟩ : ∃ b, met[Y]? = some b := ⟨_, HM.out.m Y hYZ⟩
        have c0 := hT5.cellA hbm
        subst hAA
        clear hcs hy hky
        cases bm
        case true =>
          go_wp2_with fail
          go_roundw
          case rel => exact ⟨k + 1, ps, R, met, per, by omega, by go_num, rfl, by omega, HR.out, HM.out, hT5, hlb, hbr⟩
          case measure => simp [RowKit.intOf]; omega
        case false =>
          obtain ⟨q, hq⟩ : ∃ q, q = Y / D := ⟨_, rfl⟩
          have hqZ : q < Z := by rw [hq]; exact div_lt hYZ
          obtain ⟨b, hpb⟩ : ∃ b, per[q]? = some b := ⟨_, by rw [hq]; exact HM.out.p (Y / D) (div_lt hYZ)⟩
          have HNX := Lib.hid (show Mt Z D (ps ++ [(Y : Int)]) (met.set Y true) (per.set q true) by rw [hq]; exact HM.out.next hYZ hbm)
          have HZN := Lib.hid (show (zr (D : Int) (ps ++ [(Y : Int)]).reverse : Int) = R + (if b = true then 0 else 1) by
            rw [HR.out]
            exact HM.out.zone hYZ (by rw [← hq]; exact hpb))
          have m1 : (Y : Int).tdiv (D : Int) = (q : Int) := by rw [hq, Int.tdiv_eq_ediv_of_nonneg (by omega)]; exact (Int.natCast_ediv Y D).symm
          have m2 : ¬ (D : Int) = 0 := by omega
          have m3 : ((D : Int) == 0) = false := beq_eq_false_iff_ne.2 m2
          have m4 : IntKind.i64.wrap (q : Int) = (q : Int) := IntWalk.i64_in _ (by omega)
          have m5 : (q : Int) < (Z : Int) := by omega
          have m6 : (0 : Int) ≤ (q : Int) := by omega
          have f0 := hT5.fA Y
          have HQ := Lib.hid hq
          clear hq
          have E0 := HNX.out.ok
          go_upto_region 13 with fail
          have T6 := hT5.setA Y true
          have hlb6 := own_beside (k := Y) hlb hT5.a (.bool true)
          have hb6 := hbr.setCell (p := ⟨gA, Y, none⟩) hT5.ba.1 (.bool true)
          clear c0 f0 g0 g1 g2 g3 g4 gy
          generalize w5.setCell ⟨gA, Y, none⟩ (.bool true) = w6 at *
          have T6a := T6.below (bl w6 (.cells #[.int .i64 (Y : Int)] 3))
          have hlb6a := hlb6.below (bl w6 (.cells #[.int .i64 (Y : Int)] 3))
          have l6 := hb6.size
          have l6a := (bl w6 (.cells #[.int .i64 (Y : Int)] 3)).size
          have hfar : ∀ q, u10.ownBlock = some q → w2.heap.size ≤ q := fun q hq => (World.ownsRow.lt hlb6 q hq).1
          go_upto_region 15 with (first
            | (at_builtin; refine wpList_appV _ rfl (.tmp 56) (.tmp 58) _ _ rfl w2.heap.size 3 tvI u10 (ints ps) rfl hlb6a _ [.int .i64 (Y : Int)] rfl ((SlV.of_block (vs := [.int .i64 (Y : Int)]) (heap_alloc_new _ _) rfl (Nat.lt_succ_self _)).src (ints_one [(Y : Int)]) Tryd.underlying27 1) (by rw [ints_length]; unfold maxLen; simp; omega) (by rw [ints_length]; simp; omega) (by omega) ?_; intro v8 w8 o8 hg8 hd8; obtain ⟨A8, c8, rfl, o8'⟩ := own_formI o8)
            | fail)
          have T8 := T6a.grown hlb6a hg8
          have b8 := (hb6.alloc l6 (.cells #[.int .i64 (Y : Int)] 3)).grown hg8 (by omega) hfar
          obtain ⟨g0, g1, g2, g3, g4⟩ := HMG.out w8 b8
          have c1 := T8.cellB hpb
          have f1 := T8.fB q
          have p1 : IntKind.i64.wrap ((ps.length : Int) + 2 * (R : Int) + 1) = (ps.length : Int) + 2 * (R : Int) + 1 := IntWalk.i64_in _ (by omega)
          have p2 : IntKind.i64.wrap ((ps.length : Int) + 2 * (R : Int) + 1 + 2) = (ps.length : Int) + 2 * (R : Int) + 1 + 2 := IntWalk.i64_in _ (by omega)
          have p3 : IntKind.i64.wrap ((ps.length : Int) + 2 * (R : Int) + 1 + 1) = (ps.length : Int) + 2 * (R : Int) + 1 + 1 := IntWalk.i64_in _ (by omega)
          have p4 : IntKind.i64.wrap ((ps.length : Int) + 2 * (R : Int) + 1 + 2 + 1) = (ps.length : Int) + 2 * (R : Int) + 1 + 2 + 1 := IntWalk.i64_in _ (by omega)
          cases b
          · have HZ1 := Lib.hid (show zr (D : Int) (ps ++ [(Y : Int)]).reverse = R + 1 from by
              have h9 := HZN.out
              rw [if_neg Bool.false_ne_true] at h9
              omega)
            go_upto_region 18 with fail
            have T9 := T8.setB q true
            have lb9 := own_beside (k := q) o8' T8.b (.bool true)
            have b9 := b8.setCell (p := ⟨gB, q, none⟩) T8.bb.1 (.bool true)
            clear c1 f1 g0 g1 g2 g3 g4
            generalize w8.setCell ⟨gB, q, none⟩ (.bool true) = w9 at *
            obtain ⟨g0, g1, g2, g3, g4⟩ := HMG.out w9 b9
            obtain ⟨s1, s2, s3, s4⟩ := own_slv lb9
            have HNV := Lib.hid (HND.out A8 c8 (ps.length + 1) (ps ++ [(Y : Int)]) ((ps.length : Int) + 2 * (R : Int) + 1 + 2 + 1) w9 b9 s1 s2 s3 s4 E0 (by rw [needN_snoc, HZN.out]; simp; try omega))
            clear s1 s2 s3 s4
            go_wp2_with (first
              | (go_at_call 16; (with_reducible refine (HNV.out).mono ?_); rintro e w10 ⟨rfl, hb10⟩)
              | fail)
            go_roundw
            case rel => exact ⟨k + 1, ps ++ [(Y : Int)], R + 1, met.set Y true, per.set q true, by omega, by go_num, by rw [List.length_append, List.length_singleton]; go_num, by rw [List.length_append, List.length_singleton]; omega, HZ1.out.symm, HNX.out, T9.below hb10, (lb9).below hb10, b9.trans (hb10.mono b9.size)⟩
            case measure => simp [RowKit.intOf]; omega
          · have HZ1 := Lib.hid (show zr (D : Int) (ps ++ [(Y : Int)]).reverse = R from by
              have h9 := HZN.out
              rw [if_pos rfl] at h9
              omega)
            go_upto_region 18 with fail
            have T9 : TwoB w8 w2.heap.size gA gB N Z (met.set Y true) (per.set q true) := by rw [set_same hpb]; exact T8
            obtain ⟨s1, s2, s3, s4⟩ := own_slv o8'
            have HNV := Lib.hid (HND.out A8 c8 (ps.length + 1) (ps ++ [(Y : Int)]) ((ps.length : Int) + 2 * (R : Int) + 1 + 1) w8 b8 s1 s2 s3 s4 E0 (by rw [needN_snoc, HZN.out]; simp; try omega))
            clear s1 s2 s3 s4
            go_wp2_with (first
              | (go_at_call 16; (with_reducible refine (HNV.out).mono ?_); rintro e w10 ⟨rfl, hb10⟩)
              | fail)
            go_roundw
            case rel => exact ⟨k + 1, ps ++ [(Y : Int)], R, met.set Y true, per.set q true, by omega, by go_num, by rw [List.length_append, List.length_singleton]; go_num, by rw [List.length_append, List.length_singleton]; omega, HZ1.out.symm, HNX.out, T9.below hb10, (o8').below hb10, b8.trans (hb10.mono b8.size)⟩
            case measure => simp [RowKit.intOf]; omega
      · have j1 : ¬ (k : Int) < (n : Int) := by omega
        have HNV := Lib.hid (HND.out none 0 0 [] 0 w5 hbr (SlV.nil _ _ _) rfl (Nat.le_refl _) (Nat.zero_le _) ⟨fun x hx => (by cases hx), List.nodup_nil⟩ rfl)
        go_wp2_with (first
          | (go_at_call 16; (with_reducible refine (HNV.out).mono ?_); rintro e w6 ⟨rfl, hb6⟩)
          | (go_at_call 14; (with_reducible refine (HWK.out _ (hbr.trans (hb6.mono lw))).mono ?_); rintro e w7 ⟨rfl, hb7⟩)
          | fail)
        go_ret
        exact ⟨rfl, bt hb2 (hbr.trans ((bt hb6 hb7).mono lw))⟩
theorem ringneeds_law (zones data : Int) (yA : Option Addr) (yc n : Nat) (ys : List Int) (w : World) (hc : Crg w) (hyn : ys.length = n) (hy : SlV w w.heap.size yA (ints ys)) :
    Calls Tryd.prog 4 #[.int .i64 zones, .int .i64 data, .slice yA n yc] w fun e w' => e = .returned (.bool true) ∧ Below w.heap.size w w' := by
  by_cases h30 : (30 : Int) < (n : Int)
  · exact rn_long zones data yA yc n w h30
  · exact rn_main zones data yA yc n ys w hc hyn hy h30
end Go.Proofs.YtalmimmcfjolkaaDoor.rng
