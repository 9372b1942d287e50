/-
  The law DiskKeeps, walked. No condition.
-/
import Derived.Test.YtegcbmimndmfkaaDkAw
import Derived.Test.YtegcbmimndmfkaaDkKm
import Derived.Test.YtegcbmimndmfkaaDkRi
import Derived.Test.YtegcbmimndmfkaaKeepInts
import Derived.Deep.RegionHeld3
namespace Go.Proofs.Ytegcbmimndmfkaa.dsk
open Go.RowKit Go.Lib

theorem onto_okk {x : Wri} {n : Nat} (hx : OkWri n x) (c : Cel) (hc : OkCel c) : OkCel (onto x.bs c) := by
  unfold onto
  split
  · exact hc
  · exact ⟨by show (0 : Int) ≤ 0; omega, by show (0 : Int) ≤ 2; omega, hx.2.2, hc.2.2.1⟩
theorem lists_set (rs : List Row) (a : Nat) (r : Row) : lists (rs.set a r) = (lists rs).set a r.l := by simp [lists, List.map_set]
set_option maxRecDepth 100000 in
set_option maxHeartbeats 2000000 in
theorem keeps_go (n keep : Int) (RA : Option Addr) (rc : Nat) (rs : List Row) (IA : Option Addr) (ic : Nat) (l : List Int) (w : World) (hR : SlV w w.heap.size RA (vals rs)) (hrw : ∀ r ∈ rs, RIn w w.heap.size r) (hI : SlV w w.heap.size IA (ints l))
    (h1 : rs.length ≤ 31) (h2 : rs.length ≤ l.length) (h0 : 0 ≤ keep) (hmx : keep ≤ 9223372036854775807) :
    Calls Try.prog 5 #[.int .i64 n, .slice RA rs.length rc, .slice IA l.length ic, .int .i64 keep] w fun e w' => e = .returned (.bool true) ∧ Below w.heap.size w w' := by
  have B := Below.refl w.heap.size w
  obtain ⟨N0, hN0, hNm⟩ := wmod n 8 (by decide)
  have hNm : (IntKind.u64.wrap n).tmod 8 = (N0 : Int) := hNm
  obtain ⟨N, hN⟩ : ∃ N : Nat, 1 + (N0 : Int) = (N : Int) := ⟨1 + N0, by omega⟩
  have n1 : 1 ≤ N := by omega
  have n8 : N ≤ 8 := by omega
  have j1 : ¬ (31 < (rs.length : Int)) := by omega
  have j2 : ¬ ((l.length : Int) < (rs.length : Int)) := by omega
  have j3 : ¬ (keep < 0) := by omega
  go_enter Try.func5, Try.ntmps5
  go_upto_region 4 with fail
  have cc1 := new_p N w _ _ (new_ok n1 n8)
  try dsimp only at cc1
  go_upto_region 7 with (first | (go_at_call 28; (with_reducible refine cc1.mono ?_); rintro e w1 ⟨⟨y1, rfl, hd1, ho1⟩, hb1⟩; have Z1 := hb1.size; have B := bt B hb1))
  clear cc1
  have Vd := var_new (base := w.heap.size) ho1 (by omega) (by omega) 25
  have al1 := bl w1 (.cells #[.slice y1.CA y1.cs.length y1.cc, .slice y1.WA y1.ws.length y1.wc, .int .i64 y1.reqs, .int .i64 y1.left] 25)
  have B := bt B al1
  have sz1 : w1.heap.size < (w1.alloc (.cells #[.slice y1.CA y1.cs.length y1.cc, .slice y1.WA y1.ws.length y1.wc, .int .i64 y1.reqs, .int .i64 y1.left] 25)).heap.size := by simp
  clear al1
  generalize w1.alloc (.cells #[.slice y1.CA y1.cs.length y1.cc, .slice y1.WA y1.ws.length y1.wc, .int .i64 y1.reqs, .int .i64 y1.left] 25) = W1 at *
  have hK : Keeps N 0 (pick keep) y1.d (lists (List.replicate N ⟨none, 0, []⟩)) := by rw [hd1, show lists (List.replicate N ⟨none, 0, []⟩) = List.replicate N [] by simp [lists]]; exact keeps_new
  clear hd1 ho1
  have mk := make_rows N (by omega)
  go_upto_region 8 with fail
  have VW := want_new W1 N
  have al := bl W1 (.cells (zrs N) 26)
  have Vd := Vd.below al
  have B := bt B al
  have zg : w1.heap.size < W1.heap.size := sz1
  have ze : w.heap.size ≤ w1.heap.size := Z1
  have gh : W1.heap.size < (W1.alloc (.cells (zrs N) 26)).heap.size := by simp
  clear al mk sz1
  generalize W1.alloc (.cells (zrs N) 26) = W2 at *
  obtain ⟨gw, hgw⟩ : ∃ g, g = W1.heap.size := ⟨_, rfl⟩
  obtain ⟨gd, hgd⟩ : ∃ g, g = w1.heap.size := ⟨_, rfl⟩
  rw [← hgw] at VW zg gh
  rw [← hgd] at Vd zg ze
  rw [← hgw, ← hgd]
  clear hgw hgd hb1 Z1
  go_wp2_with fail
  go_loopw [12] (fun i w' => ∃ (k : Nat) (y : DV) (ws : List Row), k ≤ rs.length ∧ i = .int .i64 k ∧ RefD w' w.heap.size gd y ∧ Keeps N k (pick keep) y.d (lists ws) ∧ Want w' gw ws ∧ (∀ r ∈ ws, RIn w w.heap.size r) ∧ Below w.heap.size w w') (fun i _ => rs.length - (RowKit.intOf i).toNat)
  case atStart => exact ⟨0, y1, _, by omega, rfl, Vd, hK, VW, fun r hr => by obtain rfl := List.eq_of_mem_replicate hr; exact zrow_in _ _, B⟩
  case round =>
    clear Vd hK VW B
    rename_i wr
    obtain ⟨k, y, ws, hk, rfl, Vd, hK, VW, hws, B⟩ := hrel
    by_cases hlt : k < rs.length
    · have i1 : (k : Int) < (rs.length : Int) := by omega
      obtain ⟨b1, o1, r, rfl, hb1, c1, -, hr, -, -⟩ := row_at hR (fun q hq => (hrw q hq).1) hlt
      have Ir := hrw r hr
      obtain ⟨b2, o2, rfl, hb2, hc2⟩ := hI (by rw [ints_length]; omega)
      have lk : k < l.length := by omega
      have c2 : w.cell? ⟨b2, o2 + k, none⟩ = some (.int .i64 (l[k]'lk)) := by have h := hc2 k (by rw [ints_length]; exact lk); rwa [ints_get] at h
      have c1 := (B.cell (p := ⟨b1, o1 + k, none⟩) hb1).trans c1
      have c2 := (B.cell (p := ⟨b2, o2 + k, none⟩) hb2).trans c2
      have lkI : (k : Int) < (l.length : Int) := by omega
      generalize l[k]'lk = lk0 at *
      clear hc2
      by_cases h100 : 100 < r.l.length
      · have h101 : 100 < (r.l.length : Int) := by omega
        go_wp2_with fail
        go_ret
        exact ⟨rfl, B⟩
      have h101 : ¬ (100 < (r.l.length : Int)) := by omega
      obtain ⟨a, ha, haM⟩ := wmod lk0 N (by omega)
      have i3 : ((N : Int) == 0) = false := beq_eq_false_iff_ne.2 (by omega)
      have i4 : (N == 0) = false := beq_eq_false_iff_ne.2 (by omega)
      have i5 : (0 : Int) < (N : Int) := by omega
      have i6 : (a : Int) < (N : Int) := by omega
      go_upto_region 14 with fail
      obtain ⟨D', hW, hK2⟩ := hK.write n1 n8 (by omega) ha (show r.l.length ≤ 200 by omega)
      obtain ⟨t0, t1, t2, t3, -, -, -, -⟩ := id Vd.r
      have gr : gd < wr.heap.size := Vd.hi
      have gz : w.heap.size ≤ wr.heap.size := by omega
      have gwh : gw < wr.heap.size := VW.hi
      have cW : ∀ W, Below wr.heap.size wr W → Calls Try.prog 13 #[.agg #[.slice y.CA y.cs.length y.cc, .slice y.WA y.ws.length y.wc, .int .i64 y.reqs, .int .i64 y.left], .int .i64 a, .slice r.A r.l.length r.c] W fun e w' => (∃ z : DV, e = .returned (.tuple #[.agg #[.slice z.CA z.cs.length z.cc, .slice z.WA z.ws.length z.wc, .int .i64 z.reqs, .int .i64 z.left], .int .i64 0]) ∧ z.d = D' ∧ z.Own w' W.heap.size) ∧ Below W.heap.size W w' := fun W hb =>
        write_p y a r W _ _ _ (Vd.below hb).o.in (((Ir.below B).more gz).next hb) rfl hW
      have HK := Lib.hid hK
      have HK2 := Lib.hid hK2
      have HW := Lib.hid cW
      have HS := Lib.hid hws
      have a64 : a < ws.length := by have := hK.len; rw [lists_length] at this; omega
      clear hK hK2 cW hW hws j1 j2 j3 hN hNm haM h2 hk
      go_cut [14, 15] from 53 to 94 (fun v u wx => u = .int .i64 0 ∧ ∃ (gx : Nat) (z : DV), v = .pointer (some ⟨gx, 0, none⟩) ∧ Four wx gx (.slice z.CA z.cs.length z.cc) (.slice z.WA z.ws.length z.wc) (.int .i64 z.reqs) (.int .i64 z.left) ∧ z.d = D' ∧ z.Own wx wr.heap.size ∧ Below wr.heap.size wr wx)
      case first =>
        have F0 := four_new wr (.slice none 0 0) (.slice none 0 0) (.int .i64 0) (.int .i64 0) 25
        have F1 := four_new wr.drew (.slice none 0 0) (.slice none 0 0) (.int .i64 0) (.int .i64 0) 25
        have sA : wr.heap.size < (wr.alloc (.cells #[.slice none 0 0, .slice none 0 0, .int .i64 0, .int .i64 0] 25)).heap.size := by simp
        have sB : wr.heap.size < (wr.drew.alloc (.cells #[.slice none 0 0, .slice none 0 0, .int .i64 0, .int .i64 0] 25)).heap.size := by rw [World.size_alloc]; exact Nat.lt_succ_self wr.heap.size
        have sA2 : wr.heap.size < (wr.alloc (.cells #[.slice none 0 0, .slice none 0 0, .int .i64 0, .int .i64 0] 25)).drew.heap.size := sA
        have sB2 : wr.heap.size < (wr.drew.alloc (.cells #[.slice none 0 0, .slice none 0 0, .int .i64 0, .int .i64 0] 25)).drew.heap.size := sB
        have F0d := F0.drew
        have F1d := F1.drew
        go_region_held3 (fun W => Below wr.heap.size wr W ∧ W.cell? ⟨b1, o1 + k, none⟩ = some (.slice r.A r.l.length r.c) ∧ W.cell? ⟨gd, 0, none⟩ = some (.slice y.CA y.cs.length y.cc) ∧ W.cell? ⟨gd, 1, none⟩ = some (.slice y.WA y.ws.length y.wc) ∧ W.cell? ⟨gd, 2, none⟩ = some (.int .i64 y.reqs) ∧ W.cell? ⟨gd, 3, none⟩ = some (.int .i64 y.left))
          ((go_split_ands; refine ⟨?_, ?_, ?_, ?_, ?_, ?_⟩ <;> (first | (with_reducible assumption) | (with_reducible exact (by (first | (with_reducible assumption) | (with_reducible exact below_dr (Below.refl _ _)) | (with_reducible exact kal (Below.refl _ _) _) | (with_reducible exact kal hbw _) | (with_reducible exact below_dr (kal (Below.refl _ _) _)) | (with_reducible exact below_dr hbw) | (with_reducible exact kal (below_dr (Below.refl _ _)) _) | (with_reducible exact below_dr (kal (below_dr (Below.refl _ _)) _)) | (with_reducible exact (((hbw.setCell (p := ⟨_, 0, none⟩) (Nat.le_refl _) _).setCell (p := ⟨_, 1, none⟩) (Nat.le_refl _) _).setCell (p := ⟨_, 2, none⟩) (Nat.le_refl _) _).setCell (p := ⟨_, 3, none⟩) (Nat.le_refl _) _)))) | (with_reducible exact kst (a := wr) (by (first | (with_reducible assumption) | (with_reducible exact below_dr (Below.refl _ _)) | (with_reducible exact kal (Below.refl _ _) _) | (with_reducible exact kal hbw _) | (with_reducible exact below_dr (kal (Below.refl _ _) _)) | (with_reducible exact below_dr hbw) | (with_reducible exact kal (below_dr (Below.refl _ _)) _) | (with_reducible exact below_dr (kal (below_dr (Below.refl _ _)) _)) | (with_reducible exact (((hbw.setCell (p := ⟨_, 0, none⟩) (Nat.le_refl _) _).setCell (p := ⟨_, 1, none⟩) (Nat.le_refl _) _).setCell (p := ⟨_, 2, none⟩) (Nat.le_refl _) _).setCell (p := ⟨_, 3, none⟩) (Nat.le_refl _) _))) (by omega) (by with_reducible assumption)) | fail)))
          (first | (go_at_call 13; (with_reducible refine (HW.out _ (by (first | (with_reducible assumption) | (with_reducible exact below_dr (Below.refl _ _)) | (with_reducible exact kal (Below.refl _ _) _) | (with_reducible exact kal hbw _) | (with_reducible exact below_dr (kal (Below.refl _ _) _)) | (with_reducible exact below_dr hbw) | (with_reducible exact kal (below_dr (Below.refl _ _)) _) | (with_reducible exact below_dr (kal (below_dr (Below.refl _ _)) _)) | (with_reducible exact (((hbw.setCell (p := ⟨_, 0, none⟩) (Nat.le_refl _) _).setCell (p := ⟨_, 1, none⟩) (Nat.le_refl _) _).setCell (p := ⟨_, 2, none⟩) (Nat.le_refl _) _).setCell (p := ⟨_, 3, none⟩) (Nat.le_refl _) _)))).mono ?_); rintro e wz ⟨⟨z, rfl, hz, ho⟩, hb⟩; have hbw : Below wr.heap.size wr wz := bt (by (first | (with_reducible assumption) | (with_reducible exact below_dr (Below.refl _ _)) | (with_reducible exact kal (Below.refl _ _) _) | (with_reducible exact kal hbw _) | (with_reducible exact below_dr (kal (Below.refl _ _) _)) | (with_reducible exact below_dr hbw) | (with_reducible exact kal (below_dr (Below.refl _ _)) _) | (with_reducible exact below_dr (kal (below_dr (Below.refl _ _)) _)) | (with_reducible exact (((hbw.setCell (p := ⟨_, 0, none⟩) (Nat.le_refl _) _).setCell (p := ⟨_, 1, none⟩) (Nat.le_refl _) _).setCell (p := ⟨_, 2, none⟩) (Nat.le_refl _) _).setCell (p := ⟨_, 3, none⟩) (Nat.le_refl _) _))) hb; (first | (with_reducible have FF := Four.keep F0d hb sA2) | (with_reducible have FF := Four.keep F0 hb sA) | (with_reducible have FF := Four.keep F1 hb sB) | (with_reducible have FF := Four.keep F1d hb sB2) | skip); (try (obtain ⟨z0, z1, z2, z3, z4, z5, z6, z7⟩ := id FF))) | fail)
        all_goals (go_wp2_with fail; go_meet)
        all_goals (first
          | exact ⟨rfl, wz.heap.size, z, rfl, four_new wz _ _ _ _ _, hz, (ho.less (Nat.le_refl _)).below (bl wz _), kal hbw _⟩
          | exact ⟨rfl, wr.heap.size, z, rfl, (set4 FF ⟨N8.s _ _ _, N8.s _ _ _, N8.i _, N8.i _⟩ _ _ _ _).1, hz, ((set4 FF ⟨N8.s _ _ _, N8.s _ _ _, N8.i _, N8.i _⟩ _ _ _ _).2.2.2.2 _ z (by first | exact sA | exact sB) ho).less (Nat.le_of_lt (by first | exact sA | exact sB)), hbw.trans ((set4 FF ⟨N8.s _ _ _, N8.s _ _ _, N8.i _, N8.i _⟩ _ _ _ _).2.2.1 _ (Nat.le_refl _))⟩)
      case rest =>
        obtain ⟨w6, rfl⟩ : ∃ x, x = wc := ⟨wc, rfl⟩
        obtain ⟨rfl, gx, z, rfl, X, hz, ho, hb⟩ := hcut
        have Vd := Vd.below hb
        have VW := VW.below hb
        have B := bt B hb
        have c1 := kst hb (by omega) c1
        clear t0 t1 t2 t3 c2
        obtain ⟨x0, x1, x2, x3, -, -, -, -⟩ := id X
        obtain ⟨d0, d1, d2, d3, e0, e1, e2, e3⟩ := id Vd.r
        go_upto_region 18 with fail
        obtain ⟨VV, b', s', i', o'⟩ := var_set Vd ho gz gr
        have n1' : (Value.slice z.CA z.cs.length z.cc).ownBlock ≠ some gw := fun e => by have := (World.ownsRow.lt ho.oc _ e).1; omega
        have n2' : (Value.slice z.WA z.ws.length z.wc).ownBlock ≠ some gw := fun e => by have := (World.ownsRow.lt ho.ow _ e).1; omega
        have VW := (((VW.apart (g' := gd) (o := 0) (by omega) (.slice z.CA z.cs.length z.cc)).apart (g' := gd) (o := 1) (by omega) (.slice z.WA z.ws.length z.wc)).apart (g' := gd) (o := 2) (by omega) (.int .i64 z.reqs)).apart (g' := gd) (o := 3) (by omega) (.int .i64 z.left)
        have B := B.trans b'
        have c1 := (b'.cell (p := ⟨b1, o1 + k, none⟩) hb1).trans c1
        clear Vd b' s' i' o' x0 x1 x2 x3 d0 d1 d2 d3 e0 e1 e2 e3 X ho hb HW
        generalize (((w6.setCell ⟨gd, 0, none⟩ (.slice z.CA z.cs.length z.cc)).setCell ⟨gd, 1, none⟩ (.slice z.WA z.ws.length z.wc)).setCell ⟨gd, 2, none⟩ (.int .i64 z.reqs)).setCell ⟨gd, 3, none⟩ (.int .i64 z.left) = w7 at *
        have hbit := pick_bit keep k h0 hmx
        have HZ := Lib.hid hz
        clear hz
        by_cases hp : pick keep k = true
        · rw [if_pos hp] at hbit
          have HP := Lib.hid hp
          have v0 := VW.c a _ (List.getElem?_eq_getElem a64)
          have v1 := VW.f a
          clear hp
          go_wp2_with fail
          go_roundw
          case rel =>
            have hq := HK2.out
            rw [if_pos HP.out, ← HZ.out] at hq
            refine ⟨k + 1, z, ws.set a r, by omega, by go_num, VV.apart (by omega) n1' n2' v0 (slice_no8 _ _ _) _, by rw [lists_set]; exact hq, VW.set a64 r, fun q hq => ?_, B.setCell (p := ⟨gw, a, none⟩) (show w.heap.size ≤ gw by omega) _⟩
            rcases List.mem_or_eq_of_mem_set hq with h | rfl
            · exact HS.out q h
            · exact Ir
          case measure => simp [RowKit.intOf]; omega
        · rw [if_neg hp] at hbit
          have HP := Lib.hid hp
          clear hp
          go_wp2_with fail
          go_roundw
          case rel =>
            have hq := HK2.out
            rw [if_neg HP.out, ← HZ.out] at hq
            exact ⟨k + 1, z, ws, by omega, by go_num, VV, hq, VW, HS.out, B⟩
          case measure => simp [RowKit.intOf]; omega
    · have i1 : ¬ ((k : Int) < (rs.length : Int)) := by omega
      have hv := hK.valid n1 n8 (by omega)
      have hcr : crashA y.d keep = (⟨play (pick keep) 0 y.d.cells y.d.cache, [], y.d.reqs, -1⟩, 0) := if_neg (not_not_intro ⟨hv, h0⟩)
      have ok : ∀ c ∈ play (pick keep) 0 y.d.cells y.d.cache, OkCel c := play_all OkCel _ _ _ _ hv.2.1 fun x hx c k => onto_okk (hv.2.2 x hx) c k
      have gz : w.heap.size < wr.heap.size := by have := VW.hi; omega
      have hbs := hK.bs
      have hln := hK.len
      clear hK hv j1 j2 j3 hN hNm
      obtain ⟨l210, l211, l212, l213, -, -, -, -⟩ := id Vd.r
      have cc22 := crash_p y keep wr _ _ _ Vd.o.in hmx rfl hcr
      try dsimp only at cc22
      go_upto_region 21 with (first | (go_at_call 15; (with_reducible refine cc22.mono ?_); rintro e w22 ⟨⟨y22, rfl, hd22, ho22⟩, hb22⟩; have Z22 := hb22.size; have Vd := Vd.below hb22; have VW := VW.below hb22; have B := bt B hb22))
      clear cc22
      have Vx := var_new (base := w.heap.size) ho22 (by omega) (by omega) 25
      have al22 := bl w22 (.cells #[.slice y22.CA y22.cs.length y22.cc, .slice y22.WA y22.ws.length y22.wc, .int .i64 y22.reqs, .int .i64 y22.left] 25)
      have Vd := Vd.below al22
      have VW := VW.below al22
      have B := bt B al22
      have sz22 : w22.heap.size < (w22.alloc (.cells #[.slice y22.CA y22.cs.length y22.cc, .slice y22.WA y22.ws.length y22.wc, .int .i64 y22.reqs, .int .i64 y22.left] 25)).heap.size := by simp
      clear al22
      generalize w22.alloc (.cells #[.slice y22.CA y22.cs.length y22.cc, .slice y22.WA y22.ws.length y22.wc, .int .i64 y22.reqs, .int .i64 y22.left] 25) = W22 at *
      have ex : cds y22.cs = play (pick keep) 0 y.d.cells y.d.cache := congrArg Dsk.cells hd22
      have lx : y22.cs.length = N := by rw [← hln, ← hbs, List.length_map, ← ex, cds_length]
      have nx : ((y22.cs.length : Int) != (N : Int)) = false := by rw [lx]; exact bne_self_eq_false _
      have HE := Lib.hid ex
      have HL := Lib.hid lx
      have HB := Lib.hid hbs
      have HO := Lib.hid ok
      have HN := Lib.hid hln
      have HS := Lib.hid hws
      clear hd22 ex lx hbs ok hln hws hcr
      obtain ⟨l230, l231, l232, l233, -, -, -, -⟩ := id Vx.r
      go_wp2_with fail
      go_loopw [18] (fun i w' => ∃ j : Nat, j ≤ N ∧ i = .int .i64 j ∧ Below W22.heap.size W22 w') (fun i _ => N - (RowKit.intOf i).toNat)
      case atStart => exact ⟨0, by omega, rfl, Below.refl _ _⟩
      case round =>
        obtain ⟨j, hj, rfl, hbr⟩ := hrel
        have Vx := Vx.below hbr
        have VW := VW.below hbr
        have B2 := bt B hbr
        have lw := hbr.size
        by_cases hjn : j < N
        · have i0 : (j : Int) < (N : Int) := by omega
          have ix : (j : Int) < (y22.cs.length : Int) := by rw [HL.out]; exact i0
          obtain ⟨bx, fx, ux, ex, hbx, -, q, -, mx, -, -, -, zx⟩ := cell_at Vx.o.in.hc Vx.o.in.ci (show j < y22.cs.length by rw [HL.out]; exact hjn)
          have jw : j < ws.length := by have := HN.out; rw [lists_length] at this; omega
          obtain ⟨r, hr⟩ : ∃ r, ws[j]? = some r := ⟨_, List.getElem?_eq_getElem jw⟩
          have v0 := VW.c j r hr
          have Ir := HS.out r (List.mem_of_getElem? hr)
          obtain ⟨x0, x1, x2, x3, -, -, -, -⟩ := id Vx.r
          rw [ex] at x0
          have okx := (HO.out ux.d (by rw [← HE.out]; exact List.mem_of_getElem? zx)).2.2.1
          have eb : ux.b.l = r.l := by
            have h := congrArg (fun l => l[j]?) HB.out
            rw [HE.out] at zx
            simp only [lists, List.getElem?_map] at h
            rw [zx, hr] at h
            exact Option.some.inj h
          have cB : ∀ n, Calls Try.prog 23 #[.slice ux.b.A ux.b.l.length ux.b.c, .slice r.A r.l.length r.c] (wr.drewN n) fun e w' => e = .returned (.bool (decide (ux.b.l = r.l))) ∧ ∃ m, w' = (wr.drewN n).drewN m := fun n =>
            keep_any_q _ _ _ _ _ _ _ _ _ (mx.below (below_dn (Below.refl _ _) n)).1 ((Ir.below B2).below (below_dn (Below.refl _ _) n)).1 (Nat.le_refl _) B2.size (Nat.le_trans okx (by decide))
          rw [show (decide (ux.b.l = r.l)) = true from decide_eq_true eb] at cB
          clear ex zx mx eb okx hr Ir Vx VW Vd hbx x1 x2 x3 B2 HE HL HB HO HN HS nx
          go_wp2_with fail
          go_quiet ((go_at_call 23; with_reducible refine Calls.quiet_of (cB _)))
          go_wp2_with fail
          go_roundw
          case rel => exact ⟨j + 1, by omega, by go_num, below_dn hbr _⟩
          case measure => simp [RowKit.intOf]; omega
        · have i0 : ¬ ((j : Int) < (N : Int)) := by omega
          go_wp2_with (first | (go_at_call 20; (with_reducible refine (dwakes _).mono ?_); rintro e w9 ⟨rfl, hb9⟩; have B3 := bt B2 hb9))
          go_ret
          exact ⟨rfl, B3⟩
end Go.Proofs.Ytegcbmimndmfkaa.dsk
