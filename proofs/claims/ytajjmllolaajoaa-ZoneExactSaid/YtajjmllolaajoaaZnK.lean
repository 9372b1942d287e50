/-
  The document's answer to what is known of one of a zone's. Conditions: a right geometry, as many entries and as many had as there are to be.
-/
import Derived.Test.YtajjmllolaajoaaZnV
import Derived.Test.YtajjmllolaajoaaTbS
import Derived.Deep.RegionHeld3
namespace Go.Proofs.Ytajjmllolaajoaa.zon
open Go.RowKit Go.Lib
open Go.Proofs.Ytajjmllolaajoaa.gmt (Ok)
open Go.Proofs.Ytajjmllolaajoaa.anc (bl kal kst ks bm ka)
open Go.Proofs.Ytajjmllolaajoaa.tbl (Ent EntOk C1 c1_new G5 g5_new)
open Go.Proofs.Ytajjmllolaajoaa.par (zx zeros zeros_length zx_length)

set_option maxHeartbeats 1000000 in
theorem two_any (A A' : Option Addr) (c c' B B' : Nat) (a b : List UInt8) (w : World) (hab : a.length = b.length) (hA : Sl w B A a) (hA' : Sl w B' A' b) (hB : B ≤ w.heap.size) (hB' : B' ≤ w.heap.size) (hl : a.length ≤ 1048576) :
    Calls Try.prog 34 #[.slice A a.length c, .slice A' a.length c'] w fun e w' => One w.heap.size (zx a b) e w' ∧ Below w.heap.size w w' := by
  go_enter Try.func34, Try.ntmps34
  go_wp2
  go_loopw [5, 6] (fun v i w' => ∃ k : Nat, k ≤ a.length ∧ i = .int .i64 k ∧ Own w' w.heap.size 5 v (List.zipWith (· ^^^ ·) (a.take k) (b.take k)) ∧ Below w.heap.size w w') (fun _ i _ => a.length - (RowKit.intOf i).toNat)
  case atStart => exact ⟨0, by omega, rfl, own_nil _ _ _, Below.refl _ _⟩
  case round =>
    rename_i wr
    obtain ⟨k, hk, rfl, hown, hbr⟩ := hrel
    by_cases hlt : k < a.length
    · obtain ⟨b1, off, rfl, hb, hc⟩ := (hA.below (hbr.mono hB)) (by omega)
      obtain ⟨b2, off', rfl, hb', hc'⟩ := (hA'.below (hbr.mono hB')) (by omega)
      have g := hc k hlt
      have g' := hc' k (by omega)
      have i1 : (k : Int) < (a.length : Int) := by omega
      have hz : List.zipWith (· ^^^ ·) (a.take (k + 1)) (b.take (k + 1)) = List.zipWith (· ^^^ ·) (a.take k) (b.take k) ++ [a[k] ^^^ b[k]'(by omega)] := by
        rw [List.take_succ_eq_append_getElem hlt, List.take_succ_eq_append_getElem (show k < b.length by omega), List.zipWith_append (by rw [List.length_take, List.length_take]; omega)]
        rfl
      have hxy := crc.xor_u8 a[k] (b[k]'(by omega))
      unfold by8 at g g'
      clear hc hc' hA hA'
      have HZ := Lib.hid hz
      have hzl : (List.zipWith (· ^^^ ·) (a.take k) (b.take k)).length = k := by rw [List.length_zipWith, List.length_take, List.length_take]; omega
      have HL := Lib.hid hzl
      clear hz hzl
      generalize List.zipWith (· ^^^ ·) (a.take k) (b.take k) = z at hown HZ HL
      generalize a[k] = x at g hxy HZ
      generalize (b[k]'(by omega)) = y at g' hxy HZ
      have hx := x.toNat_lt
      have hy := y.toNat_lt
      clear hab
      go_wp2_with fail
      have hfar : ∀ q, u5.ownBlock = some q → w.heap.size ≤ q := fun q hq => (World.ownsRow.lt hown q hq).1
      have hlw := hbr.size
      have n1 : some b1 ≠ u5.ownBlock := fun h => by have := hfar b1 h.symm; omega
      have n2 : some b2 ≠ u5.ownBlock := fun h => by have := hfar b2 h.symm; omega
      go_region_held3 (fun W => W.cell? ⟨b1, off + k, none⟩ = some (.int .u8 (x.toNat : Int)) ∧ W.cell? ⟨b2, off' + k, none⟩ = some (.int .u8 (y.toNat : Int)))
        (first
          | go_keep
          | (go_split_ands
             refine ⟨?_, ?_⟩
             · (rw [hg3.cell_far _ (by simp; omega) n1]; assumption)
             · (rw [hg3.cell_far _ (by simp; omega) n2]; assumption)))
        ((refine step_app8 _ (by rfl) _ _ _ _ (by rfl) w.heap.size 5 t8 u5 z (by rfl) (hown.alloc _).drew _ [x ^^^ y] (by rfl) (src_at Try.underlying31 (x ^^^ y) _ (by rw [UInt8.toNat_xor]) _ _ (0, 0) (heap_alloc_new wr _)) (by rw [HL.out, List.length_singleton]; omega) (by simp; omega) ?_; intro v3 w3 hown3 hg3 hat3))
      go_wp2
      have hb4 : Below w.heap.size w w3 := (below_dr (hbr.alloc hbr.size _)).grown hg3 (by simp; omega) hfar
      go_roundw
      case rel => exact ⟨k + 1, by omega, by go_num, by rw [HZ.out]; exact hown3, hb4⟩
      case measure => simp [RowKit.intOf]; omega
    · have hz : List.zipWith (· ^^^ ·) (a.take k) (b.take k) = List.zipWith (· ^^^ ·) a b := by rw [List.take_of_length_le (by omega), List.take_of_length_le (by omega)]
      rw [hz] at hown
      clear hz hab
      go_wp2
      go_ret
      exact ⟨⟨_, rfl, hown⟩, hbr⟩

theorem two_c (A A' : Option Addr) (c c' n m : Nat) (a b : List UInt8) (w : World) (ha : a.length = n) (hb : b.length = m) (hnm : n = m) (hA : Sl w w.heap.size A a) (hA' : Sl w w.heap.size A' b) (hl : n ≤ 1048576) :
    Calls Try.prog 34 #[.slice A n c, .slice A' m c'] w fun e w' => One w.heap.size (zx a b) e w' ∧ Below w.heap.size w w' := by
  subst ha hb
  have h := two_any A A' c c' _ _ a b w hnm hA hA' (Nat.le_refl _) (Nat.le_refl _) hl
  rw [← hnm]
  exact h
theorem z8_own (W : World) (base : Nat) (hb : base ≤ W.heap.size) : Own (W.alloc (.cells tbl.z8cells 5)) base 5 (.slice (some ⟨W.heap.size, 0, none⟩) 8 8) (zeros 8) := by
  have hl := tbl.z8_list
  have hs : tbl.z8cells.size = 8 := by
    have h := congrArg List.length hl
    rw [Array.length_toList] at h
    rw [h]
    unfold cells8 tbl.zer8
    simp
  have h : (W.alloc (.cells tbl.z8cells 5)).ownsRow base 5 1 (.slice (some ⟨W.heap.size, 0, none⟩) tbl.z8cells.size tbl.z8cells.size) tbl.z8cells.size tbl.z8cells.toList := World.ownsRow_lit W tbl.z8cells tbl.z8cells.size hb (by rw [hs]; decide) (by omega)
  rw [hl, hs] at h
  exact h
set_option maxRecDepth 100000 in
set_option maxHeartbeats 800000 in
theorem rknown_at (z s l a : Int) (D : Nat) (x : tbl.TV) (N : Nat) (A : Option Addr) (n c : Nat) (rs : List Row) (i : Nat) (w : World) (ho : Ok z D s l a) (hN : x.es.length = N) (hND : N = D + 1) (hx : x.In w w.heap.size) (hn : rs.length = n) (hnD : n = D + 1) (hA : SlV w w.heap.size A (vals rs)) (hR : Rws w w.heap.size rs) (hH : HadOk (D + 1) (lists rs)) (hi : i ≤ D) :
    Calls Try.prog 20 #[.agg #[.int .i64 z, .int .i64 D, .int .i64 s, .int .i64 l, .int .i64 a], .agg #[.slice x.A N x.c], .slice A n c, .int .i64 (i : Nat)] w fun e w' => One w.heap.size (known (D + 1) x.es (lists rs) i) e w' ∧ Below w.heap.size w w' := by
  have o2 := ho.2.1
  have hD : D ≤ 4 := by omega
  have s1 : (w.alloc (.cells #[.int .i64 z, .int .i64 D, .int .i64 s, .int .i64 l, .int .i64 a] 23)).heap.size = w.heap.size + 1 := by simp
  have hx2 := bl (w.alloc (.cells #[.int .i64 z, .int .i64 D, .int .i64 s, .int .i64 l, .int .i64 a] 23)) (.cells #[.slice x.A N x.c] 26)
  have GG := (g5_new w z D s l a).keep hx2 (by omega)
  have TB := c1_new (w.alloc (.cells #[.int .i64 z, .int .i64 D, .int .i64 s, .int .i64 l, .int .i64 a] 23)) (.slice x.A N x.c) 26
  rw [s1] at TB
  have hw := kal (bl w (.cells #[.int .i64 z, .int .i64 D, .int .i64 s, .int .i64 l, .int .i64 a] 23)) (.cells #[.slice x.A N x.c] 26)
  have l1 : w.heap.size + 1 < ((w.alloc (.cells #[.int .i64 z, .int .i64 D, .int .i64 s, .int .i64 l, .int .i64 a] 23)).alloc (.cells #[.slice x.A N x.c] 26)).heap.size := by simp
  have HX := Lib.hid (hx.next hw)
  have HA := Lib.hid (hA.next hw)
  have HR := Lib.hid (hR.next hw)
  have HN := Lib.hid hN
  have HL := Lib.hid hn
  have HH := Lib.hid hH
  have HI := Lib.hid hi
  have HND := Lib.hid hND
  have HnD := Lib.hid hnD
  clear o2 ho s1 hx2 hx hA hR hN hn hH hi hND hnD
  go_enter Try.func20, Try.ntmps20
  go_upto_region 1 with fail
  generalize ((w.alloc (.cells #[.int .i64 z, .int .i64 D, .int .i64 s, .int .i64 l, .int .i64 a] 23)).alloc (.cells #[.slice x.A N x.c] 26)) = w0 at *
  obtain ⟨b1, off, en, hEA, hb1, c0, c1, c2, -, e1⟩ := tbl.ent_at HX.out.h (show i < x.es.length by have := HN.out; have := HI.out; have := HND.out; omega)
  obtain ⟨b2, o2, r, hRA, hb2, gr, hrs, -, -, r1⟩ := row_at HA.out HR.out (show i < rs.length by have := HL.out; have := HI.out; have := HnD.out; omega)
  have HLK := Lib.hid (lostK_get e1)
  have HSK := Lib.hid (sumK_get e1)
  have HHK := Lib.hid (hadK_get r1)
  have t0 := TB.c0
  rw [hEA] at t0
  obtain ⟨g0, g1, g2, g3, g4⟩ := id GG
  have i1 : (i : Int) < (N : Int) := by have := HI.out; have := HND.out; omega
  have i2 : (i : Int) < (n : Int) := by have := HI.out; have := HnD.out; omega
  have i3 : (0 : Int) ≤ (i : Int) := by omega
  rw [hRA]
  clear e1 r1
  by_cases hls : en.ls = true
  case pos =>
    rw [hls] at c2
    have HK := Lib.hid (known_lost (n := D + 1) (hs := lists rs) (HLK.out.trans hls))
    clear hls
    go_wp2_with fail
    go_ret
    refine ⟨⟨_, rfl, ?_⟩, hw⟩
    rw [HK.out]
    exact own_nil _ _ _
  have hlf : en.ls = false := by cases h : en.ls; rfl; exact absurd h hls
  have HLF := Lib.hid (HLK.out.trans hlf)
  rw [hlf] at c2
  clear hls hlf
  by_cases hlen : r.l = []
  case neg =>
    have j1 : (0 : Int) < (r.l.length : Int) := by have := List.length_pos_iff.2 hlen; omega
    have h8 : r.l.length = 8 := by have := hadK_ok HH.out i; rw [HHK.out] at this; exact this.resolve_left hlen
    have HK := Lib.hid (known_had (n := D + 1) (es := x.es) HLF.out (show hadK (lists rs) i ≠ [] by rw [HHK.out]; exact hlen))
    have HTW := Lib.hid (twin_any r.A r.c w0.heap.size r.l w0 hrs (by omega))
    clear hlen h8
    go_wp2_with (go_at_call 28; (with_reducible refine HTW.out.mono ?_); rintro e w1 ⟨⟨v, rfl, hov⟩, hb9⟩)
    go_ret
    refine ⟨⟨_, rfl, ?_⟩, bt hw hb9⟩
    rw [HK.out, HHK.out]
    exact hov.less hw.size
  have j1 : ¬ (0 : Int) < (r.l.length : Int) := by rw [hlen]; simp
  have HNO := Lib.hid (show hadK (lists rs) i = [] by rw [HHK.out]; exact hlen)
  clear hlen hrs
  have hmk := tbl.z8_run
  have HZ := Lib.hid (z8_own w0 w0.heap.size (Nat.le_refl _))
  have hb5 := bl w0 (.cells tbl.z8cells 5)
  have LW := hw.size
  obtain ⟨g0, g1, g2, g3, g4⟩ := id GG
  go_upto_region 7 with fail
  clear g0 g1 g2 g3 g4 c0 c1 c2 gr t0 hmk
  generalize w0.alloc (.cells tbl.z8cells 5) = w1 at *
  go_loopw [9, 10] (fun v j w' => ∃ (k : Nat) (y : List UInt8), k ≤ D + 1 ∧ j = .int .i64 k ∧ acc x.es (lists rs) i k = some y ∧ Own w' w0.heap.size 5 v y ∧ Below w0.heap.size w0 w') (fun _ j _ => D + 1 - (RowKit.intOf j).toNat)
  case atStart => exact ⟨0, zeros 8, by omega, rfl, rfl, HZ.out, hb5⟩
  case round =>
    obtain ⟨w5, rfl⟩ : ∃ q, q = wr := ⟨wr, rfl⟩
    obtain ⟨k, y, hk, rfl, hac, hov, hbr⟩ := hrel
    have GG5 := GG.keep hbr (by omega)
    have TB5 := TB.keep hbr l1
    have HX5 := Lib.hid (HX.out.next hbr)
    have HA5 := Lib.hid (HA.out.next hbr)
    have HR5 := Lib.hid (HR.out.next hbr)
    have HAC := Lib.hid hac
    have HOV := Lib.hid hov
    have hwr := bt hw hbr
    have lw5 := hbr.size
    obtain ⟨g0, g1, g2, g3, g4⟩ := id GG5
    clear hac hov
    by_cases hlt : k ≤ D
    · have i4 : (k : Int) ≤ (D : Int) := by omega
      obtain ⟨b3, of3, ek, hE3, hb3, c0, c1, c2, -, e3⟩ := tbl.ent_at HX5.out.h (show k < x.es.length by have := HN.out; have := HND.out; omega)
      obtain ⟨b4, of4, rk, hR4, hb4, gr, hrs, -, -, r3⟩ := row_at HA5.out HR5.out (show k < rs.length by have := HL.out; have := HnD.out; omega)
      obtain ⟨rfl, rfl⟩ : b1 = b3 ∧ off = of3 := by rw [hEA] at hE3; simpa using hE3
      obtain ⟨rfl, rfl⟩ : b2 = b4 ∧ o2 = of4 := by rw [hRA] at hR4; simpa using hR4
      have t0 := TB5.c0
      have HLKk := Lib.hid (lostK_get e3)
      have HHKk := Lib.hid (hadK_get r3)
      have j1 : (k : Int) < (N : Int) := by have := HND.out; omega
      have j2 : (k : Int) < (n : Int) := by have := HnD.out; omega
      have j3 : (0 : Int) ≤ (k : Int) := by omega
      clear e3 r3 hE3 hR4 TB5 GG5
      by_cases hki : k = i
      · have q : ((k : Int) == (i : Int)) = true := by rw [hki]; exact beq_self_eq_true _
        have HS := Lib.hid ((acc_skip (es := x.es) (hs := lists rs) (.inl hki)).trans HAC.out)
        clear hki
        go_wp2_with fail
        go_roundw
        case rel => exact ⟨k + 1, y, by omega, by go_num, HS.out, HOV.out, hbr⟩
        case measure => simp [RowKit.intOf]; omega
      · have q : ((k : Int) == (i : Int)) = false := beq_eq_false_iff_ne.2 (by omega)
        by_cases hlk : ek.ls = true
        · rw [hlk] at c2
          have HS := Lib.hid ((acc_skip (i := i) (hs := lists rs) (.inr (HLKk.out.trans hlk))).trans HAC.out)
          clear hki hlk
          go_wp2_with fail
          go_roundw
          case rel => exact ⟨k + 1, y, by omega, by go_num, HS.out, HOV.out, hbr⟩
          case measure => simp [RowKit.intOf]; omega
        · have hlk2 : ek.ls = false := by cases h : ek.ls; rfl; exact absurd h hlk
          rw [hlk2] at c2
          have HNS := Lib.hid (show ¬ (k = i ∨ lostK x.es k = true) from fun h => h.elim hki fun h => by rw [HLKk.out, hlk2] at h; cases h)
          clear hki hlk hlk2
          by_cases hrk : rk.l = []
          · have j5 : ((rk.l.length : Int) == 0) = true := by rw [hrk]; rfl
            have HKN := Lib.hid (known_none (n := D + 1) HLF.out HNO.out (acc_stays (acc_lack HNS.out (show hadK (lists rs) k = [] by rw [HHKk.out]; exact hrk)) (D + 1) (by omega)))
            clear hrk hrs
            go_wp2_with fail
            go_ret
            refine ⟨⟨_, rfl, ?_⟩, hwr⟩
            rw [HKN.out]
            exact own_nil _ _ _
          · have j5 : ((rk.l.length : Int) == 0) = false := beq_eq_false_iff_ne.2 fun h => hrk (List.eq_nil_of_length_eq_zero (by omega))
            have h8 : rk.l.length = 8 := by have := hadK_ok HH.out k; rw [HHKk.out] at this; exact this.resolve_left hrk
            have y8 : y.length = 8 := acc_length HH.out i k y HAC.out
            have HTK := Lib.hid (acc_take HNS.out (show hadK (lists rs) k ≠ [] by rw [HHKk.out]; exact hrk) HAC.out)
            obtain ⟨Y, yc, hv, -, -, hsl, -⟩ := id HOV.out.form
            subst hv
            have HTW := Lib.hid (show Calls Try.prog 34 #[.slice Y y.length yc, .slice rk.A rk.l.length rk.c] w5 fun e w' => One w5.heap.size (zx y rk.l) e w' ∧ Below w5.heap.size w5 w' from two_c Y rk.A yc rk.c _ _ y rk.l w5 rfl rfl (y8.trans h8.symm) hsl hrs (by omega))
            clear hrk hrs hsl h8 y8
            go_wp2_with (go_at_call 34; (with_reducible refine HTW.out.mono ?_); rintro e w6 ⟨⟨u, rfl, hou⟩, hb6⟩)
            go_roundw
            case rel => exact ⟨k + 1, zx y rk.l, by omega, by go_num, by rw [HTK.out, HHKk.out], hou.less lw5, bt hbr hb6⟩
            case measure => simp [RowKit.intOf]; omega
    · obtain rfl : k = D + 1 := by omega
      have i4 : ¬ ((D + 1 : Nat) : Int) ≤ (D : Int) := by omega
      obtain ⟨b3, of3, ek, hE3, hb3, c0, c1, c2, -, e3⟩ := tbl.ent_at HX5.out.h (show i < x.es.length by have := HN.out; have := HI.out; have := HND.out; omega)
      obtain ⟨rfl, rfl⟩ : b1 = b3 ∧ off = of3 := by rw [hEA] at hE3; simpa using hE3
      have HSM := Lib.hid (sumK_get e3)
      have y8 : y.length = 8 := acc_length HH.out i _ y HAC.out
      have t0 := TB5.c0
      obtain ⟨Y, yc, hv, -, -, hsl, -⟩ := id HOV.out.form
      subst hv
      obtain ⟨S, hS⟩ : ∃ S : Nat, S = crc.sum y := ⟨_, rfl⟩
      have HSS := Lib.hid hS
      have HKS := Lib.hid (known_some HLF.out HNO.out HAC.out)
      have HF := Lib.hid (show ∀ m, Calls Try.prog 27 #[.slice Y (8 : Nat) yc] (w5.drewN m) fun e w' => e = .returned (.int .i64 S) ∧ ∃ m, w' = w5.drewN m from fun m => by
        have h9 := crc.ref_sum Y yc _ y (w5.drewN m) (hsl.below (below_dn (Below.refl _ _) m)) (by rw [y8]; decide)
        rw [y8, ← HSS.out] at h9
        exact h9.mono fun e w' h => ⟨h.1, m, h.2.symm⟩)
      clear hS hsl e3 hE3 hlt
      by_cases hsm : (S : Int) = ek.sm
      · have q5 : ((S : Int) != ek.sm) = false := by rw [hsm]; exact bne_self_eq_false _
        have HKE := Lib.hid (show known (D + 1) x.es (lists rs) i = y by rw [HKS.out, if_pos (by rw [HSM.out, ← HSS.out]; exact hsm)])
        clear hsm
        go_wp2_with fail
        go_quiet (exact HF.out _)
        go_wp2_with fail
        go_ret
        refine ⟨⟨_, rfl, ?_⟩, below_dn hwr _⟩
        rw [HKE.out]
        have h9 := (HOV.out.less (base' := w.heap.size) LW).below (below_dn (Below.refl _ _) nq)
        rw [y8] at h9
        exact h9
      · have q5 : ((S : Int) != ek.sm) = true := bne_iff_ne.2 hsm
        have HKE := Lib.hid (show known (D + 1) x.es (lists rs) i = [] by rw [HKS.out, if_neg (by rw [HSM.out, ← HSS.out]; exact hsm)])
        clear hsm
        go_wp2_with fail
        go_quiet (exact HF.out _)
        go_wp2_with fail
        go_ret
        refine ⟨⟨_, rfl, ?_⟩, below_dn hwr _⟩
        rw [HKE.out]
        exact own_nil _ _ _
end Go.Proofs.Ytajjmllolaajoaa.zon
