/-
  The developers' own functions below zone.All and zone.Block: isAvailable, memberIndex, rebuild, find. Conditions: each theorem's own.
  The developers' own zone.check. Conditions: lists shorter than 2^20.
  The developers' own zone.Block and zone.All. Conditions: lists shorter than 2^20.
-/
import Derived.Test.YthdahdopejapmaaGZn
import Derived.Test.YthdahdopejapmaaXorA
import Derived.Test.YthdahdopejapmaaGPk
import Derived.Test.YthdahdopejapmaaGTb
import Derived.Deep.RegionHeld3
namespace Go.Proofs.Ythdahdopejapmaa.zon
open Go.RowKit Go.Lib
open Go.Proofs.Ythdahdopejapmaa.gmt (Ok)
open Go.Proofs.Ythdahdopejapmaa.anc (bl kal kst ks bm ka)
open Go.Proofs.Ythdahdopejapmaa.tbl (Ent EntOk C1 c1_new G5 g5_new OwnE)
open Go.Proofs.Ythdahdopejapmaa.par (zx zeros zeros_length zx_length xall xall_append xall_one xall_length AllLen Ans)

set_option maxRecDepth 100000 in
theorem avail_c (A : Option Addr) (n c : Nat) (w : World) :
    Calls Try.prog 59 #[.slice A n c] w fun e w' => e = .returned (.bool (decide (0 < n))) ∧ w = w' := by
  go_enter Try.func59, Try.ntmps59
  go_wp2
  go_ret
  exact ⟨rfl, rfl⟩
/-- What rebuild answers: what all others come to, or none. -/
def RbZ (base : Nat) (o : Option (List UInt8)) (e : Ending) (w' : World) : Prop := ∃ (X : Option Addr) (c : Nat) (L : List UInt8), e = .returned (.tuple #[.slice X L.length c, .bool o.isSome]) ∧ Own w' base 5 (.slice X L.length c) L ∧ ∀ x, o = some x → L = x
set_option maxRecDepth 100000 in
set_option maxHeartbeats 8000000 in
theorem rebuild_c (x : tbl.TV) (N : Nat) (A : Option Addr) (c n : Nat) (rs : List Row) (i : Nat) (w : World) (hN : x.es.length = N) (hx : x.In w w.heap.size) (hA : SlV w w.heap.size A (vals rs)) (hR : Rws w w.heap.size rs) (hn : rs.length = n) (hNn : N = n) (hn1 : n ≤ 1048576) (hd : HadOk n (lists rs)) (hi : i < n) :
    Calls Try.prog 60 #[.agg #[.slice x.A N x.c], .slice A n c, .int .i64 i] w fun e w' => RbZ w.heap.size (acc x.es (lists rs) i n) e w' ∧ Below w.heap.size w w' := by
  subst hNn
  have TB := c1_new w (.slice x.A N x.c) 26
  have hb0 := bl w (.cells #[.slice x.A N x.c] 26)
  have HX := Lib.hid (hx.next hb0)
  have HA := Lib.hid (hA.next hb0)
  have HR := Lib.hid (hR.next hb0)
  have HN := Lib.hid hN
  have HL := Lib.hid hn
  have HD := Lib.hid hd
  have H1 := Lib.hid hn1
  clear hx hA hR hN hn hd hn1
  go_enter Try.func60, Try.ntmps60
  go_upto_region 1 with fail
  generalize (w.alloc (.cells #[.slice x.A N x.c] 26)) = w0 at *
  obtain ⟨b1, off, -, hA1, hb1, -, -, -, -, -⟩ := tbl.ent_at HX.out.h (show 0 < x.es.length by have := HN.out; omega)
  obtain ⟨b2, o2, -, hA2, hb2, -, -, -, -, -⟩ := row_at HA.out HR.out (show 0 < rs.length by have := HL.out; omega)
  subst hA2
  rw [hA1] at TB
  have HA1 := Lib.hid hA1
  clear hA1
  have t0 := TB.c0
  go_upto_region 3 with fail
  clear t0 TB
  go_loopw [8, 16] (fun v j w' => ∃ (k : Nat) (os : List Row), k ≤ N ∧ j = .int .i64 k ∧ OwnV w' w0.heap.size 29 v (vals os) ∧ Rws w' w0.heap.size os ∧ AllLen 8 (lists os) ∧ acc x.es (lists rs) i k = some (xall 8 (lists os)) ∧ os.length ≤ k ∧ Below w0.heap.size w0 w') (fun _ j _ => N - (RowKit.intOf j).toNat)
  case atStart => exact ⟨0, [], by omega, rfl, ownV_nil _ _ _, Rws.nil _ _, AllLen.nil 8, rfl, Nat.le_refl _, Below.refl _ _⟩
  case round =>
    obtain ⟨w6, rfl⟩ : ∃ x, x = wr := ⟨wr, rfl⟩
    obtain ⟨k, os, hk, rfl, hown, hro, hal, hac, hol, hbr⟩ := hrel
    have lN := H1.out
    by_cases hlt : k < N
    · have j1 : (k : Int) < (N : Int) := by omega
      obtain ⟨b3, off3, u, hA3, -, c0, c1, c2, -, e1⟩ := tbl.ent_at (HX.out.next hbr).h (show k < x.es.length by have := HN.out; omega)
      obtain ⟨rfl, rfl⟩ : b1 = b3 ∧ off = off3 := by
        have h9 := HA1.out.symm.trans hA3
        simp only [Option.some.injEq, Addr.mk.injEq, and_true] at h9
        exact h9
      obtain ⟨b4, off4, r, hA4, -, gr, hrs, -, -, r1⟩ := row_at (HA.out.below hbr) (HR.out.below hbr) (show k < rs.length by have := HL.out; omega)
      simp only [Option.some.injEq, Addr.mk.injEq, and_true] at hA4
      obtain ⟨rfl, rfl⟩ := hA4
      have HLK := Lib.hid (lostK_get e1)
      have HHK := Lib.hid (hadK_get r1)
      have hbe := bl w6 (.cells #[.int .i64 u.st, .int .i64 u.sm, .bool u.ls] 61)
      have hbf := bt hbr hbe
      have s6 : b2 < w6.heap.size := Nat.lt_of_lt_of_le hb2 hbr.size
      have gr' := kst hbe s6 gr
      have tr0 := cell_of_row (w6.alloc (.cells #[.int .i64 u.st, .int .i64 u.sm, .bool u.ls] 61)) w6.heap.size 2 _ _ _ (heap_alloc_new w6 _)
      have HOW := Lib.hid (hown.below hbe)
      have HRO := Lib.hid (hro.below (hbe.mono hbr.size))
      have HRS := Lib.hid (hrs.below (hbe.mono hbr.size))
      have HAL := Lib.hid hal
      have HAC := Lib.hid hac
      clear e1 r1 hA3 hown hro hrs hal hac
      by_cases hki : k = i
      · have q : ((k : Int) == (i : Int)) = true := beq_iff_eq.2 (by omega)
        have HS := Lib.hid (acc_skip (es := x.es) (hs := lists rs) (.inl hki))
        clear hki
        go_wp2_with fail
        go_roundw
        case rel => exact ⟨k + 1, os, by omega, by go_num, HOW.out, HRO.out, HAL.out, HS.out.trans HAC.out, by omega, hbf⟩
        case measure => simp [RowKit.intOf]; omega
      · have q : ((k : Int) == (i : Int)) = false := beq_eq_false_iff_ne.2 (by omega)
        cases hls : u.ls with
        | true =>
          rw [hls] at c2 tr0 hbe hbf gr' HOW HRO HRS
          have HS := Lib.hid (acc_skip (es := x.es) (hs := lists rs) (i := i) (.inr (HLK.out.trans hls)))
          clear hki hls
          go_wp2_with fail
          go_roundw
          case rel => exact ⟨k + 1, os, by omega, by go_num, HOW.out, HRO.out, HAL.out, HS.out.trans HAC.out, by omega, hbf⟩
          case measure => simp [RowKit.intOf]; omega
        | false =>
          rw [hls] at c2 tr0 hbe hbf gr' HOW HRO HRS
          have hno := Lib.hid (show ¬ (k = i ∨ lostK x.es k = true) from fun h => h.elim hki fun h => by rw [HLK.out, hls] at h; cases h)
          clear hki hls
          have HAV := Lib.hid fun W => avail_c r.A r.l.length r.c W
          by_cases hl : r.l = []
          · have HZ := Lib.hid (show acc x.es (lists rs) i N = none from acc_stays (acc_lack hno.out (by rw [HHK.out]; exact hl)) N (by omega))
            have d0 : decide (0 < r.l.length) = false := by rw [hl]; rfl
            rw [d0] at HAV
            clear hl d0
            go_wp2_with (go_at_call 59; (with_reducible refine (HAV.out _).mono ?_); rintro e w1 ⟨rfl, rfl⟩)
            go_ret2
            exact ⟨⟨none, 0, [], by rw [HZ.out]; rfl, own_nil _ _ _, fun y hy => by rw [HZ.out] at hy; cases hy⟩, bt hb0 hbf⟩
          · have h8 : r.l.length = 8 := by have := hadK_ok HD.out k; rw [HHK.out] at this; exact this.resolve_left hl
            have HT := Lib.hid (show acc x.es (lists rs) i (k + 1) = some (xall 8 (lists (os ++ [r]))) from by
              rw [acc_take hno.out (by rw [HHK.out]; exact hl) HAC.out, HHK.out, lists_append]
              show _ = some (xall 8 (lists os ++ [r.l]))
              rw [xall_append HAL.out (AllLen.cons h8 (AllLen.nil 8))]
              exact congrArg (fun y => some (zx _ y)) (xall_one h8).symm)
            have HAL2 := Lib.hid (show AllLen 8 (lists (os ++ [r])) by rw [lists_append]; exact HAL.out.append (AllLen.cons h8 (AllLen.nil 8)))
            have d0 : decide (0 < r.l.length) = true := by rw [h8]; rfl
            rw [d0] at HAV
            have hv1 := vals_length os
            have lw := hbf.size
            clear hl d0 h8
            go_upto_region 8 with (go_at_call 59; (with_reducible refine (HAV.out _).mono ?_); rintro e w1 ⟨rfl, rfl⟩)
            clear tr0 hbe c0 c1 c2 gr
            generalize w6.alloc (.cells #[.int .i64 u.st, .int .i64 u.sm, .bool false] 61) = w7 at *
            have HON := Lib.hid (HOW.out.alloc (.cells #[r.v] 29))
            go_wp2_with (at_builtin
                         refine wpList_appV _ rfl (.tmp 34) (.tmp 39) _ _ rfl w0.heap.size 29 tv _ (vals os) rfl HON.out _ [r.v] rfl (srcV_one w7 Try.underlying27 _ rfl _) (by rw [hv1]; unfold maxLen; simp; omega) (by rw [hv1]; simp; omega) (by simp; omega) ?_
                         intro v2 w2 hown3 hg3 hat3)
            have hbw := (hbf.alloc hbf.size (.cells #[r.v] 29)).grown hg3 (by simp; omega) (fun q hq => (World.ownsRow.lt HOW.out q hq).1)
            have hb7 : Below w0.heap.size w7 w2 := ((Below.refl _ w7).alloc lw (.cells #[r.v] 29)).grown hg3 (by simp; omega) (fun q hq => (World.ownsRow.lt HOW.out q hq).1)
            go_roundw
            case rel => exact ⟨k + 1, os ++ [r], by omega, by go_num, by rw [vals_append]; exact hown3, ((HRO.out.append (fun q hq => by rw [List.mem_singleton] at hq; rw [hq]; exact HRS.out)).below hb7), HAL2.out, HT.out, by rw [List.length_append]; simp; omega, hbw⟩
            case measure => simp [RowKit.intOf]; omega
    · have j1 : ¬ (k : Int) < (N : Int) := by omega
      obtain rfl : k = N := by omega
      obtain ⟨X, cx, hv, -, -, hs1, -⟩ := hown.form
      rw [vals_length] at hv
      subst hv
      have HXA := Lib.hid (show Calls Try.prog 54 #[.slice X os.length cx, .int .i64 8] w6 fun e w' => Ans w6.heap.size (xall 8 (lists os)) e w' ∧ Below w6.heap.size w6 w' from par.all_ok 8 X cx os w6 hs1 (hro.more hbr.size) (by omega) (by omega) hal)
      have HAC := Lib.hid hac
      have lw := hbr.size
      have lw0 := hb0.size
      clear hown hro hal hac hs1
      go_wp2_with (go_at_call 54; (with_reducible refine HXA.out.mono ?_); rintro e w8 ⟨⟨v, rfl, hov⟩, hb8⟩)
      obtain ⟨Y, cy, hv, h1, h2, h3, h4⟩ := id hov.form
      subst hv
      go_ret2
      exact ⟨⟨Y, cy, _, by rw [HAC.out]; rfl, hov.less (by omega), fun y hy => by rw [HAC.out] at hy; exact Option.some.inj hy⟩, bt hb0 (bt hbr hb8)⟩
/-- What find answers: what is known, and whether something is. -/
def FndZ (base : Nat) (L : List UInt8) (e : Ending) (w' : World) : Prop := ∃ (X : Option Addr) (c : Nat), e = .returned (.tuple #[.slice X L.length c, .bool (!L.isEmpty)]) ∧ Own w' base 5 (.slice X L.length c) L
theorem fnd_none {base : Nat} {L : List UInt8} {w' : World} (h : L = []) : FndZ base L (.returned (.tuple #[.slice none 0 0, .bool false])) w' := by
  subst h
  exact ⟨none, 0, rfl, own_nil _ _ _⟩
set_option maxRecDepth 100000 in
set_option maxHeartbeats 8000000 in
theorem find_c (x : tbl.TV) (N : Nat) (A : Option Addr) (c n : Nat) (rs : List Row) (i : Nat) (w : World) (hN : x.es.length = N) (hx : x.In w w.heap.size) (hA : SlV w w.heap.size A (vals rs)) (hR : Rws w w.heap.size rs) (hn : rs.length = n) (hNn : N = n) (hn1 : n ≤ 1048576) (hd : HadOk n (lists rs)) (hi : i < n) :
    Calls Try.prog 46 #[.agg #[.slice x.A N x.c], .slice A n c, .int .i64 i] w fun e w' => FndZ w.heap.size (known n x.es (lists rs) i) e w' ∧ Below w.heap.size w w' := by
  subst hNn
  have TB := c1_new w (.slice x.A N x.c) 26
  have hb0 := bl w (.cells #[.slice x.A N x.c] 26)
  have lT : w.heap.size < (w.alloc (.cells #[.slice x.A N x.c] 26)).heap.size := by simp
  have HX := Lib.hid (hx.next hb0)
  have HA := Lib.hid (hA.next hb0)
  have HR := Lib.hid (hR.next hb0)
  have HD := Lib.hid hd
  have HRB := Lib.hid fun W (hW : Below w.heap.size w W) => rebuild_c x N A c N rs i W hN (hx.next hW) (hA.next hW) (hR.next hW) hn rfl hn1 hd hi
  have HN := Lib.hid hN
  have HL := Lib.hid hn
  have H1 := Lib.hid hn1
  clear hx hA hR hN hn hd hn1
  go_enter Try.func46, Try.ntmps46
  go_upto_region 1 with fail
  generalize (w.alloc (.cells #[.slice x.A N x.c] 26)) = w0 at *
  obtain ⟨b1, off, u, hA1, hb1, c0, c1, c2, -, e1⟩ := tbl.ent_at HX.out.h (show i < x.es.length by have := HN.out; omega)
  obtain ⟨b2, o2, r, hA2, hb2, gr, hrs, -, -, r1⟩ := row_at HA.out HR.out (show i < rs.length by have := HL.out; omega)
  subst hA2
  have HLK := Lib.hid (lostK_get e1)
  have HSK := Lib.hid (sumK_get e1)
  have HHK := Lib.hid (hadK_get r1)
  rw [hA1] at TB HRB
  rw [hA1]
  have t0 := TB.c0
  have i1 : (i : Int) < (N : Int) := by omega
  clear e1 r1 hA1
  cases hls : u.ls with
  | true =>
    rw [hls] at c2
    have HK := Lib.hid (known_lost (n := N) (hs := lists rs) (HLK.out.trans hls))
    clear hls
    go_wp2_with fail
    go_ret2
    exact ⟨fnd_none HK.out, hb0⟩
  | false =>
    rw [hls] at c2
    have HLF := Lib.hid (HLK.out.trans hls)
    clear hls
    have HAV := Lib.hid fun W => avail_c r.A r.l.length r.c W
    by_cases hl : r.l = []
    case neg =>
      have h8 : r.l.length = 8 := by have := hadK_ok HD.out i; rw [HHK.out] at this; exact this.resolve_left hl
      have HK := Lib.hid (show known N x.es (lists rs) i = r.l from by rw [known_had HLF.out (by rw [HHK.out]; exact hl), HHK.out])
      have HCL := Lib.hid (pck.clone_any r.A r.c w0.heap.size r.l.length r.l w0 rfl hrs (by omega))
      have d0 : decide (0 < r.l.length) = true := by rw [h8]; rfl
      have HNE := Lib.hid (show (!r.l.isEmpty) = true by cases h : r.l; exact absurd h hl; rfl)
      rw [d0] at HAV
      have lw := hb0.size
      clear hl d0 h8
      go_wp2_with (first
        | (go_at_call 59; (with_reducible refine (HAV.out _).mono ?_); rintro e w1 ⟨rfl, rfl⟩)
        | (go_at_call 37; (with_reducible refine HCL.out.mono ?_); rintro e w2 ⟨⟨v, rfl, hov⟩, hb9⟩))
      obtain ⟨Y, cy, hv, -, -, -, -⟩ := id hov.form
      subst hv
      go_ret2
      refine ⟨?_, bt hb0 hb9⟩
      rw [HK.out]
      exact ⟨Y, cy, by rw [HNE.out]; rfl, hov.less lw⟩
    case pos =>
      have d0 : decide (0 < r.l.length) = false := by rw [hl]; rfl
      have HHN := Lib.hid (show hadK (lists rs) i = [] by rw [HHK.out]; exact hl)
      rw [d0] at HAV
      have lw := hb0.size
      clear hl d0
      go_upto_region 6 with (first
        | (go_at_call 59; (with_reducible refine (HAV.out _).mono ?_); rintro e w1 ⟨rfl, rfl⟩)
        | (go_at_call 60; (with_reducible refine (HRB.out _ hb0).mono ?_); rintro e w1 ⟨⟨Y, cy, L, rfl, hov, hol⟩, hbq⟩))
      have t1 := kst hbq lT t0
      have c1' := kst hbq hb1 c1
      have hw1 := bt hb0 hbq
      have HOV := Lib.hid hov
      clear gr hrs t0 c0 c1 c2 HAV HRB TB hov
      cases hac : acc x.es (lists rs) i N with
      | none =>
        have HK := Lib.hid (known_none HLF.out HHN.out hac)
        clear hac hol
        go_quiet (fail)
        go_wp2
        exact bodyPost_ret (v := .tuple #[.slice none 0 0, .bool false]) (by simp [results, Try.results46, go_sem]) rfl ⟨fnd_none HK.out, below_dn hw1 _⟩
      | some y =>
        obtain rfl := hol y hac
        have h8 := acc_length HD.out i N _ hac
        have HK := Lib.hid (known_some HLF.out HHN.out hac)
        rw [h8] at HOV ⊢
        obtain ⟨Y', y', hv, h1, h2, hsl, -⟩ := id HOV.out.form
        simp only [Value.slice.injEq] at hv
        obtain ⟨rfl, -, rfl⟩ := hv
        obtain ⟨S, hS⟩ : ∃ S : Int, S = ((crc.sum L : Nat) : Int) := ⟨_, rfl⟩
        have HF := Lib.hid (show ∀ m, Calls Try.prog 61 #[.slice Y (8 : Nat) cy] (w1.drewN m) fun e w' => e = .returned (.int .i64 S) ∧ ∃ m, w' = w1.drewN m from fun m => by
          have h9 := crc.of_any Y cy _ L (w1.drewN m) (hsl.below (below_dn (Below.refl _ _) m)) (by omega)
          rw [h8, ← hS] at h9
          exact h9.mono fun e w' h => ⟨h.1, m, h.2.symm⟩)
        rw [HSK.out, ← hS] at HK
        have H8 := Lib.hid h8
        clear hsl h1 h2 hS hac hol h8
        by_cases hsm : S = u.sm
        · have i2 : (S != u.sm) = false := by rw [hsm]; exact bne_self_eq_false _
          rw [if_pos hsm] at HK
          clear hsm
          go_quiet (exact HF.out _)
          go_wp2
          refine bodyPost_ret (v := .tuple #[.slice Y (8 : Nat) cy, .bool true]) (by simp [results, Try.results46, go_sem]) rfl ⟨?_, below_dn hw1 _⟩
          rw [HK.out]
          refine ⟨Y, cy, ?_, ?_⟩
          · rw [H8.out]
            cases hL : L
            · have := H8.out; rw [hL] at this; cases this
            · rfl
          · rw [H8.out]
            exact (HOV.out.less lw).below (below_dn (Below.refl _ _) _)
        · have i2 : (S != u.sm) = true := bne_iff_ne.2 hsm
          rw [if_neg hsm] at HK
          clear hsm
          go_quiet (exact HF.out _)
          go_wp2
          exact bodyPost_ret (v := .tuple #[.slice none 0 0, .bool false]) (by simp [results, Try.results46, go_sem]) rfl ⟨fnd_none HK.out, below_dn hw1 _⟩
end Go.Proofs.Ythdahdopejapmaa.zon

namespace Go.Proofs.Ythdahdopejapmaa.zon
open Go.RowKit Go.Lib
open Go.Proofs.Ythdahdopejapmaa.gmt (Ok)
open Go.Proofs.Ythdahdopejapmaa.anc (bl kal kst ks bm ka)
open Go.Proofs.Ythdahdopejapmaa.tbl (Ent EntOk C1 c1_new G5 g5_new OwnE)

/-- table.Check, as zone asks it. -/
theorem tc_no (z d s l a : Int) (x : tbl.TV) (N : Nat) (w : World) (hno : ¬ (Ok z d s l a ∧ tbl.Good d x.es)) (hN : x.es.length = N) (hN1 : N ≤ 1048576) (hx : x.In w w.heap.size) :
    Calls Try.prog 50 #[.agg #[.int .i64 z, .int .i64 d, .int .i64 s, .int .i64 l, .int .i64 a], .agg #[.slice x.A N x.c]] w fun e w' => e = .returned (.int .i64 1) ∧ Below w.heap.size w w' := by
  subst hN
  by_cases ho : Ok z d s l a
  · obtain ⟨D, rfl⟩ : ∃ D : Nat, d = D := ⟨d.toNat, by have := ho.2.1; omega⟩
    exact tbl.tcheck_any false z s l a D x w ho hx hN1 (iff_of_false Bool.false_ne_true fun h => hno ⟨ho, h⟩)
  · exact tbl.tcheck_no z d s l a x w ho
theorem tc_yes (z s l a : Int) (D : Nat) (x : tbl.TV) (N : Nat) (w : World) (ho : Ok z D s l a) (hg : tbl.Good (D : Int) x.es) (hN : x.es.length = N) (hN1 : N ≤ 1048576) (hx : x.In w w.heap.size) :
    Calls Try.prog 50 #[.agg #[.int .i64 z, .int .i64 D, .int .i64 s, .int .i64 l, .int .i64 a], .agg #[.slice x.A N x.c]] w fun e w' => e = .returned (.int .i64 0) ∧ Below w.heap.size w w' := by
  subst hN
  exact tbl.tcheck_any true z s l a D x w ho hx hN1 (iff_of_true rfl hg)
set_option maxRecDepth 100000 in
set_option maxHeartbeats 4000000 in
theorem check_no (z d s l a : Int) (x : tbl.TV) (N : Nat) (A : Option Addr) (n c : Nat) (w : World) (hno : ¬ (Ok z d s l a ∧ tbl.Good d x.es)) (hN : x.es.length = N) (hN1 : N ≤ 1048576) (hx : x.In w w.heap.size) :
    Calls Try.prog 45 #[.agg #[.int .i64 z, .int .i64 d, .int .i64 s, .int .i64 l, .int .i64 a], .agg #[.slice x.A N x.c], .slice A n c] w fun e w' => e = .returned (.int .i64 1) ∧ Below w.heap.size w w' := by
  have s1 : (w.alloc (.cells #[.int .i64 z, .int .i64 d, .int .i64 s, .int .i64 l, .int .i64 a] 23)).heap.size = w.heap.size + 1 := by simp
  have hx2 := bl (w.alloc (.cells #[.int .i64 z, .int .i64 d, .int .i64 s, .int .i64 l, .int .i64 a] 23)) (.cells #[.slice x.A N x.c] 26)
  have GG := (g5_new w z d s l a).keep hx2 (by omega)
  have TT := c1_new (w.alloc (.cells #[.int .i64 z, .int .i64 d, .int .i64 s, .int .i64 l, .int .i64 a] 23)) (.slice x.A N x.c) 26
  rw [s1] at TT
  have hw := kal (bl w (.cells #[.int .i64 z, .int .i64 d, .int .i64 s, .int .i64 l, .int .i64 a] 23)) (.cells #[.slice x.A N x.c] 26)
  have HT := Lib.hid fun W (hW : Below w.heap.size w W) => tc_no z d s l a x N W hno hN hN1 (hx.next hW)
  clear hno hN hx s1 hx2 hN1
  go_enter Try.func45, Try.ntmps45
  go_upto_region 1 with fail
  generalize ((w.alloc (.cells #[.int .i64 z, .int .i64 d, .int .i64 s, .int .i64 l, .int .i64 a] 23)).alloc (.cells #[.slice x.A N x.c] 26)) = w0 at *
  obtain ⟨g0, g1, g2, g3, g4⟩ := id GG
  have t0 := TT.c0
  go_wp2_with (go_at_call 50; (with_reducible refine (HT.out _ hw).mono ?_); rintro e w1 ⟨rfl, hb1⟩)
  go_ret
  exact ⟨rfl, bt hw hb1⟩
set_option maxRecDepth 100000 in
set_option maxHeartbeats 8000000 in
theorem check_c (v : Int) (z s l a : Int) (D : Nat) (x : tbl.TV) (N : Nat) (A : Option Addr) (n c : Nat) (rs : List Row) (w : World) (ho : Ok z D s l a) (hN : x.es.length = N) (hx : x.In w w.heap.size) (hg : tbl.Good (D : Int) x.es) (hn : rs.length = n) (hA : SlV w w.heap.size A (vals rs)) (hR : Rws w w.heap.size rs) (hb : (HadOk (D + 1) (lists rs) → v = 0) ∧ (¬ HadOk (D + 1) (lists rs) → v = 2)) :
    Calls Try.prog 45 #[.agg #[.int .i64 z, .int .i64 D, .int .i64 s, .int .i64 l, .int .i64 a], .agg #[.slice x.A N x.c], .slice A n c] w fun e w' => e = .returned (.int .i64 v) ∧ Below w.heap.size w w' := by
  have hND : N = D + 1 := by have := hg.1; rw [hN] at this; omega
  have hD : D ≤ 4 := by have := ho.2.1; omega
  have s1 : (w.alloc (.cells #[.int .i64 z, .int .i64 D, .int .i64 s, .int .i64 l, .int .i64 a] 23)).heap.size = w.heap.size + 1 := by simp
  have hx2 := bl (w.alloc (.cells #[.int .i64 z, .int .i64 D, .int .i64 s, .int .i64 l, .int .i64 a] 23)) (.cells #[.slice x.A N x.c] 26)
  have GG := (g5_new w z D s l a).keep hx2 (by omega)
  have TT := c1_new (w.alloc (.cells #[.int .i64 z, .int .i64 D, .int .i64 s, .int .i64 l, .int .i64 a] 23)) (.slice x.A N x.c) 26
  rw [s1] at TT
  have lT : w.heap.size + 1 < ((w.alloc (.cells #[.int .i64 z, .int .i64 D, .int .i64 s, .int .i64 l, .int .i64 a] 23)).alloc (.cells #[.slice x.A N x.c] 26)).heap.size := by simp
  have hw := kal (bl w (.cells #[.int .i64 z, .int .i64 D, .int .i64 s, .int .i64 l, .int .i64 a] 23)) (.cells #[.slice x.A N x.c] 26)
  have HT := Lib.hid fun W (hW : Below w.heap.size w W) => tc_yes z s l a D x N W ho hg hN (by omega) (hx.next hW)
  have HA := Lib.hid (hA.next hw)
  have HR := Lib.hid (hR.next hw)
  have HL := Lib.hid hn
  have HB := Lib.hid hb
  have HND := Lib.hid hND
  clear hN hx s1 hx2 ho hg hA hR hn hb hND
  go_enter Try.func45, Try.ntmps45
  go_upto_region 1 with fail
  generalize ((w.alloc (.cells #[.int .i64 z, .int .i64 D, .int .i64 s, .int .i64 l, .int .i64 a] 23)).alloc (.cells #[.slice x.A N x.c] 26)) = w0 at *
  obtain ⟨g0, g1, g2, g3, g4⟩ := id GG
  have t0 := TT.c0
  go_upto_region 4 with (go_at_call 50; (with_reducible refine (HT.out _ hw).mono ?_); rintro e w1 ⟨rfl, hb1⟩)
  clear t0 g0 g1 g2 g3 g4 GG
  replace TT := TT.keep hb1 lT
  replace hw := bt hw hb1
  replace HA := Lib.hid (HA.out.next hb1)
  replace HR := Lib.hid (HR.out.next hb1)
  have t0 := TT.c0
  clear hb1 lT HT
  by_cases h1 : n = N
  case neg =>
    have q : ((n : Int) != (N : Int)) = true := bne_iff_ne.2 (by omega)
    obtain rfl : v = 2 := HB.out.2 fun h => by
      have := h.1
      rw [lists_length, HL.out] at this
      exact absurd (this.trans HND.out.symm) h1
    clear h1 HB
    go_wp2_with fail
    go_ret
    exact ⟨rfl, hw⟩
  have q : ((n : Int) != (N : Int)) = false := by rw [h1]; exact bne_self_eq_false _
  have HY : Hid ((∀ h ∈ lists rs, h = [] ∨ h.length = 8) → v = 0) := Lib.hid fun h => HB.out.1 ⟨by rw [lists_length, HL.out, h1, HND.out], h⟩
  have HZ : Hid (∀ h ∈ lists rs, ¬ (h = [] ∨ h.length = 8) → v = 2) := Lib.hid fun h hh hno => HB.out.2 fun k => hno (k.2 h hh)
  have hn5 : n ≤ 5 := by have := HND.out; omega
  clear h1 HB
  go_upto_region 7 with fail
  clear t0 TT q
  go_loop [24] (fun i => ∃ k : Nat, i = .int .i64 k ∧ k ≤ n ∧ ∀ h ∈ (lists rs).take k, h = [] ∨ h.length = 8) (fun i => n - (RowKit.intOf i).toNat)
  case atStart => exact ⟨0, rfl, by omega, fun h hh => by simp at hh⟩
  case round =>
    obtain ⟨k, rfl, hk, hs2⟩ := hrel
    by_cases hlt : k < n
    · have j1 : (k : Int) < (n : Int) := by omega
      obtain ⟨b1, off, r, rfl, hb1, g, -, -, -, e1⟩ := row_at HA.out HR.out (show k < rs.length by have := HL.out; omega)
      have HAV := Lib.hid fun W => avail_c r.A r.l.length r.c W
      by_cases h3 : r.l = [] ∨ r.l.length = 8
      · have HN : Hid (∀ h ∈ (lists rs).take (k + 1), h = [] ∨ h.length = 8) := Lib.hid fun h hm => by
          rw [take_next e1] at hm
          rcases List.mem_append.1 hm with hm | hm
          · exact hs2 h hm
          · obtain rfl := List.mem_singleton.1 hm
            exact h3
        have j3 : decide (0 < r.l.length) = false ∨ decide (0 < r.l.length) = true ∧ ((r.l.length : Int) != 8) = false := by
          rcases h3 with h3 | h3
          · rw [h3]; exact .inl rfl
          · rw [h3]; exact .inr ⟨rfl, rfl⟩
        clear hs2 e1 h3
        rcases j3 with j3 | ⟨j3, j4⟩
        all_goals
          rw [j3] at HAV
          clear j3
          go_wp2_with (go_at_call 59; (with_reducible refine (HAV.out _).mono ?_); rintro e w1 ⟨rfl, rfl⟩)
          go_round
          case rel => exact ⟨k + 1, by go_num, by omega, HN.out⟩
          case measure => simp [RowKit.intOf]; omega
      · have j3 : decide (0 < r.l.length) = true := decide_eq_true (Nat.pos_of_ne_zero fun h => h3 (.inl (List.eq_nil_of_length_eq_zero h)))
        have j4 : ((r.l.length : Int) != 8) = true := bne_iff_ne.2 fun h => h3 (.inr (by omega))
        obtain rfl : v = 2 := HZ.out r.l (List.mem_of_getElem? e1) h3
        rw [j3] at HAV
        clear hs2 e1 h3 j3 HY HZ
        go_wp2_with (go_at_call 59; (with_reducible refine (HAV.out _).mono ?_); rintro e w1 ⟨rfl, rfl⟩)
        go_ret
        exact ⟨rfl, hw⟩
    · have j1 : ¬ (k : Int) < (n : Int) := by omega
      obtain rfl : v = 0 := (HY.out fun h hh => hs2 h (by rw [List.take_of_length_le (by rw [lists_length]; have := HL.out; omega)]; exact hh))
      clear hs2 HY HZ
      go_wp2_with fail
      go_ret
      exact ⟨rfl, hw⟩
end Go.Proofs.Ythdahdopejapmaa.zon

namespace Go.Proofs.Ythdahdopejapmaa.zon
open Go.RowKit Go.Lib
open Go.Proofs.Ythdahdopejapmaa.gmt (Ok)
open Go.Proofs.Ythdahdopejapmaa.anc (bl kal kst ks bm ka)
open Go.Proofs.Ythdahdopejapmaa.tbl (Ent EntOk C1 c1_new G5 g5_new OwnE)

theorem b_inf : (Try.prog.info? 4).map (fun i => (i.zero, i.size, i.bytes)) = some (some (.bool false), 1, 1) := by kernel_rfl
theorem bool_row : 4 ≠ 29 := by decide
theorem row_bool : 29 ≠ 4 := by decide
theorem u8_bool : 5 ≠ 4 := by decide
theorem tvB : TV Try.prog 53 4 (.bool false) 1 := by
  refine ⟨Try.underlying53, rfl, ?_⟩
  have h := b_inf
  cases hi : Try.prog.info? 4 with
  | none => rw [hi] at h; cases h
  | some i =>
    rw [hi] at h
    simp only [Option.map_some, Option.some.injEq, Prod.mk.injEq] at h
    exact ⟨i, rfl, h.1, h.2.1, h.2.2⟩
set_option maxRecDepth 100000 in
set_option maxHeartbeats 8000000 in
theorem all_no (v : Int) (z d s l a : Int) (x : tbl.TV) (N : Nat) (A : Option Addr) (n c : Nat) (w : World) (hv : v ≠ 0) (cC : ∀ W, Below w.heap.size w W → Calls Try.prog 45 #[.agg #[.int .i64 z, .int .i64 d, .int .i64 s, .int .i64 l, .int .i64 a], .agg #[.slice x.A N x.c], .slice A n c] W fun e w' => e = .returned (.int .i64 v) ∧ Below W.heap.size W w') :
    Calls Try.prog 27 #[.agg #[.int .i64 z, .int .i64 d, .int .i64 s, .int .i64 l, .int .i64 a], .agg #[.slice x.A N x.c], .slice A n c] w fun e w' => AllNo v e ∧ Below w.heap.size w w' := by
  have q : (v != 0) = true := bne_iff_ne.2 hv
  have HC := Lib.hid cC
  clear cC hv
  have s1 : (w.alloc (.cells #[.int .i64 z, .int .i64 d, .int .i64 s, .int .i64 l, .int .i64 a] 23)).heap.size = w.heap.size + 1 := by simp
  have hx2 := bl (w.alloc (.cells #[.int .i64 z, .int .i64 d, .int .i64 s, .int .i64 l, .int .i64 a] 23)) (.cells #[.slice x.A N x.c] 26)
  have GG := (g5_new w z d s l a).keep hx2 (by omega)
  have TT := c1_new (w.alloc (.cells #[.int .i64 z, .int .i64 d, .int .i64 s, .int .i64 l, .int .i64 a] 23)) (.slice x.A N x.c) 26
  rw [s1] at TT
  have lT : w.heap.size + 1 < ((w.alloc (.cells #[.int .i64 z, .int .i64 d, .int .i64 s, .int .i64 l, .int .i64 a] 23)).alloc (.cells #[.slice x.A N x.c] 26)).heap.size := by simp
  have hw := kal (bl w (.cells #[.int .i64 z, .int .i64 d, .int .i64 s, .int .i64 l, .int .i64 a] 23)) (.cells #[.slice x.A N x.c] 26)
  clear s1 hx2
  go_enter Try.func27, Try.ntmps27
  go_upto_region 1 with fail
  generalize ((w.alloc (.cells #[.int .i64 z, .int .i64 d, .int .i64 s, .int .i64 l, .int .i64 a] 23)).alloc (.cells #[.slice x.A N x.c] 26)) = w0 at *
  obtain ⟨g0, g1, g2, g3, g4⟩ := id GG
  have t0 := TT.c0
  go_wp2_with (go_at_call 45; (with_reducible refine (HC.out _ hw).mono ?_); rintro e w1 ⟨rfl, hb1⟩)
  go_ret3
  exact ⟨⟨none, 0, none, 0, rfl⟩, bt hw hb1⟩
set_option maxRecDepth 100000 in
set_option maxHeartbeats 8000000 in
theorem all_c (z s l a : Int) (D : Nat) (x : tbl.TV) (N : Nat) (A : Option Addr) (n c : Nat) (w : World) (es : List Ent) (hs : List (List UInt8)) (hnD : n = D + 1) (hD : D ≤ 4) (cC : ∀ W, Below w.heap.size w W → Calls Try.prog 45 #[.agg #[.int .i64 z, .int .i64 D, .int .i64 s, .int .i64 l, .int .i64 a], .agg #[.slice x.A N x.c], .slice A n c] W fun e w' => e = .returned (.int .i64 0) ∧ Below W.heap.size W w') (cF : ∀ W, Below w.heap.size w W → ∀ k : Nat, k < n → Calls Try.prog 46 #[.agg #[.slice x.A N x.c], .slice A n c, .int .i64 k] W fun e w' => FndZ W.heap.size (known n es hs k) e w' ∧ Below W.heap.size W w') :
    Calls Try.prog 27 #[.agg #[.int .i64 z, .int .i64 D, .int .i64 s, .int .i64 l, .int .i64 a], .agg #[.slice x.A N x.c], .slice A n c] w fun e w' => AllZ n (knowns n es hs) e w' ∧ Below w.heap.size w w' := by
  have HC := Lib.hid cC
  have HF := Lib.hid cF
  have HnD := Lib.hid hnD
  have hn5 : n ≤ 5 := by omega
  clear cC cF hnD
  have s1 : (w.alloc (.cells #[.int .i64 z, .int .i64 D, .int .i64 s, .int .i64 l, .int .i64 a] 23)).heap.size = w.heap.size + 1 := by simp
  have hx2 := bl (w.alloc (.cells #[.int .i64 z, .int .i64 D, .int .i64 s, .int .i64 l, .int .i64 a] 23)) (.cells #[.slice x.A N x.c] 26)
  have GG := (g5_new w z D s l a).keep hx2 (by omega)
  have TT := c1_new (w.alloc (.cells #[.int .i64 z, .int .i64 D, .int .i64 s, .int .i64 l, .int .i64 a] 23)) (.slice x.A N x.c) 26
  rw [s1] at TT
  have lT : w.heap.size + 1 < ((w.alloc (.cells #[.int .i64 z, .int .i64 D, .int .i64 s, .int .i64 l, .int .i64 a] 23)).alloc (.cells #[.slice x.A N x.c] 26)).heap.size := by simp
  have hw := kal (bl w (.cells #[.int .i64 z, .int .i64 D, .int .i64 s, .int .i64 l, .int .i64 a] 23)) (.cells #[.slice x.A N x.c] 26)
  clear s1 hx2
  go_enter Try.func27, Try.ntmps27
  go_upto_region 1 with fail
  generalize ((w.alloc (.cells #[.int .i64 z, .int .i64 D, .int .i64 s, .int .i64 l, .int .i64 a] 23)).alloc (.cells #[.slice x.A N x.c] 26)) = w0 at *
  obtain ⟨g0, g1, g2, g3, g4⟩ := id GG
  have t0 := TT.c0
  go_upto_region 4 with (go_at_call 45; (with_reducible refine (HC.out _ hw).mono ?_); rintro e w1 ⟨rfl, hb1⟩)
  replace TT := TT.keep hb1 lT
  replace lT := Nat.lt_of_lt_of_le lT hb1.size
  replace hw := bt hw hb1
  clear t0 hb1 HC g0 g1 g2 g3 g4 GG
  have t0 := TT.c0
  go_upto_region 5 with fail
  go_loopw [6, 7, 22] (fun v u i w' => ∃ (k : Nat) (rows : List Row), k ≤ n ∧ i = .int .i64 k ∧ OwnRows w' w1.heap.size v rows ((knowns n es hs).take k) ∧ OwnV w' w1.heap.size 4 u (bools (kn ((knowns n es hs).take k))) ∧ Below w1.heap.size w1 w') (fun _ _ i _ => n - (RowKit.intOf i).toNat)
  case atStart => exact ⟨0, [], by omega, rfl, ownRows_nil _ _, ownV_nil _ _ _, Below.refl _ _⟩
  case round =>
    obtain ⟨w6, rfl⟩ : ∃ x, x = wr := ⟨wr, rfl⟩
    obtain ⟨k, rows, hk, rfl, hor, hob, hbr⟩ := hrel
    by_cases hlt : k < n
    · have j1 : (k : Int) < (n : Int) := by omega
      have t6 := kst hbr lT t0
      have HK := Lib.hid (take_next (knowns_get es hs hlt))
      have HFK := Lib.hid (HF.out w6 (bt hw hbr) k hlt)
      have lw := hbr.size
      have hlr : rows.length = k := by rw [hor.len, List.length_take, knowns_length]; omega
      have hlb : (bools (kn ((knowns n es hs).take k))).length = k := by rw [bools_length, kn_length, List.length_take, knowns_length]; omega
      have HOR := Lib.hid hor
      have HOB := Lib.hid hob
      clear t0 hor hob
      go_upto_region 8 with (go_at_call 46; (with_reducible refine HFK.out.mono ?_); rintro e w7 ⟨⟨X, y, rfl, hov⟩, hb7⟩)
      have HOV := Lib.hid (hov.less lw)
      have HR7 := Lib.hid (HOR.out.below hb7)
      have HB7 := Lib.hid (HOB.out.below hb7)
      have l7 := Nat.le_trans lw hb7.size
      have hb17 := bt hbr hb7
      clear hov HOR HOB t6 hb7 HFK
      generalize known n es hs k = L at *
      have hv1 : (vals rows).length = k := by rw [vals_length, hlr]
      have HON := Lib.hid (HR7.out.alloc (.cells #[.slice X L.length y] 29))
      have HOB2 := Lib.hid (HB7.out.alloc (.cells #[.slice X L.length y] 29))
      have HOV2 := Lib.hid (HOV.out.alloc (.cells #[.slice X L.length y] 29))
      go_upto_region 9 with (at_builtin; refine wpList_appV _ rfl (.tmp 32) (.tmp 34) _ _ rfl w1.heap.size 29 tv _ (vals rows) rfl HON.out.1 _ [Row.v ⟨X, y, L⟩] rfl (srcV_one w7 Try.underlying27 _ rfl _) (by rw [hv1]; unfold maxLen; simp; omega) (by rw [hv1]; simp; omega) (by simp; omega) ?_; intro v8 w8 hown8 hg8 hat8)
      have HR8 := Lib.hid (HON.out.more (r := ⟨X, y, L⟩) HOV2.out hown8 hg8)
      have HB8 := Lib.hid (World.ownsRow.kept HOB2.out hg8 (rows_apart HOB2.out HON.out.1 bool_row))
      have hb18 := (hb17.alloc l7 (.cells #[.slice X L.length y] 29)).grown hg8 (by simp; omega) (fun q hq => (World.ownsRow.lt HON.out.1 q hq).1)
      have l8 := hb18.size
      have hv2 : (bools (kn ((knowns n es hs).take k))).length = k := hlb
      clear hown8 hg8 hat8 HON HOB2 HOV2 HR7 HB7 HOV hv1
      have HOB9 := Lib.hid (show OwnV (w8.alloc (.cells #[.bool (!L.isEmpty)] 4)) w1.heap.size 4 u7 (bools (kn ((knowns n es hs).take k))) from OwnV.alloc HB8.out _)
      go_upto_region 10 with (at_builtin; refine wpList_appV _ rfl (.tmp 36) (.tmp 38) _ _ rfl w1.heap.size 4 tvB _ (bools (kn ((knowns n es hs).take k))) rfl HOB9.out _ [.bool (!L.isEmpty)] rfl (srcV_one w8 Try.underlying53 _ rfl _) (by rw [hv2]; unfold maxLen; simp; omega) (by rw [hv2]; simp; omega) (by simp; omega) ?_; intro v9 w9 hown9 hg9 hat9)
      have hb19 := (hb18.alloc l8 (.cells #[.bool (!L.isEmpty)] 4)).grown hg9 (by simp; omega) (fun q hq => (World.ownsRow.lt HOB9.out q hq).1)
      have HR9 := Lib.hid (OwnRows.kept (HR8.out.alloc (.cells #[.bool (!L.isEmpty)] 4)) HOB9.out row_bool u8_bool hg9)
      have HOW9 := Lib.hid hown9
      clear hown9 hg9 hat9 HOB9 HB8 HR8
      go_wp2_with fail
      go_roundw
      case rel => exact ⟨k + 1, rows ++ [⟨X, y, L⟩], by omega, by go_num, by rw [HK.out]; exact HR9.out, by rw [HK.out]; simp only [kn, List.map_append, bools, List.map_cons, List.map_nil] at HOW9 ⊢; exact HOW9.out, hb19⟩
      case measure => simp [RowKit.intOf]; omega
    · have j1 : ¬ (k : Int) < (n : Int) := by omega
      have e9 : (knowns n es hs).take k = knowns n es hs := List.take_of_length_le (by rw [knowns_length]; omega)
      rw [e9] at hor hob
      have hll : rows.length = n := by rw [hor.len, knowns_length]
      obtain ⟨Y, yc, hv, hin⟩ := rows_lv hor
      obtain ⟨K, kc, hu, -, -, hsl, -⟩ := hob.form
      rw [bools_length, kn_length, knowns_length] at hu
      rw [hll] at hv
      subst hv hu
      have HO := Lib.hid (show lists rows = knowns n es hs from hor.2.1)
      have HI := Lib.hid hin
      have HSL := Lib.hid hsl
      clear hor hob e9 hin hsl
      go_wp2_with fail
      go_ret3
      exact ⟨⟨Y, yc, rows, K, kc, rfl, HO.out, HI.out, HSL.out⟩, bt hw hbr⟩
end Go.Proofs.Ythdahdopejapmaa.zon
