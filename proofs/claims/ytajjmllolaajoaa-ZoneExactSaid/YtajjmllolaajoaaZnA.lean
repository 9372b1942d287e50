/-
  The developers' own functions below zone.All and zone.Block: isAvailable, memberIndex, rebuild, find. Conditions: each theorem's own.
-/
import Derived.Test.YtajjmllolaajoaaZnP
import Derived.Test.YtajjmllolaajoaaXorA
import Derived.Test.YtajjmllolaajoaaGPk
namespace Go.Proofs.Ytajjmllolaajoaa.zon
open Go.RowKit Go.Lib
open Go.Proofs.Ytajjmllolaajoaa.gmt (Ok)
open Go.Proofs.Ytajjmllolaajoaa.anc (bl kal kst ks bm ka)
open Go.Proofs.Ytajjmllolaajoaa.tbl (Ent EntOk C1 c1_new G5 g5_new OwnE)
open Go.Proofs.Ytajjmllolaajoaa.par (zx zeros zeros_length zx_length xall xall_append xall_one xall_length AllLen Ans)

set_option maxRecDepth 100000 in
theorem avail_c (A : Option Addr) (n c : Nat) (w : World) :
    Calls Try.prog 38 #[.slice A n c] w fun e w' => e = .returned (.bool (decide (0 < n))) ∧ w = w' := by
  go_enter Try.func38, Try.ntmps38
  go_wp2
  go_ret
  exact ⟨rfl, rfl⟩
set_option maxRecDepth 100000 in
theorem member_c (z s l a i : Int) (D : Nat) (w : World) :
    Calls Try.prog 31 #[.agg #[.int .i64 z, .int .i64 D, .int .i64 s, .int .i64 l, .int .i64 a], .int .i64 i] w fun e w' => e = .returned (.int .i64 (if i = -1 then D else i)) ∧ Below w.heap.size w w' := by
  have GG := g5_new w z D s l a
  have hx := bl w (.cells #[.int .i64 z, .int .i64 D, .int .i64 s, .int .i64 l, .int .i64 a] 23)
  obtain ⟨g0, g1, g2, g3, g4⟩ := id GG
  by_cases h : i = -1
  · have q : (i == -1) = true := beq_iff_eq.2 h
    rw [if_pos h]
    clear h
    go_enter Try.func31, Try.ntmps31
    go_wp2
    go_ret
    exact ⟨rfl, hx⟩
  · have q : (i == -1) = false := beq_eq_false_iff_ne.2 h
    rw [if_neg h]
    clear h
    go_enter Try.func31, Try.ntmps31
    go_wp2
    go_ret
    exact ⟨rfl, hx⟩

/-- What rebuild answers: what all others come to, or none. -/
def RbZ (base : Nat) (o : Option (List UInt8)) (e : Ending) (w' : World) : Prop := ∃ (X : Option Addr) (c : Nat) (L : List UInt8), e = .returned (.tuple #[.slice X L.length c, .bool o.isSome]) ∧ Own w' base 5 (.slice X L.length c) L ∧ ∀ x, o = some x → L = x
set_option maxRecDepth 100000 in
set_option maxHeartbeats 8000000 in
theorem rebuild_c (x : tbl.TV) (N : Nat) (A : Option Addr) (c n : Nat) (rs : List Row) (i : Nat) (w : World) (hN : x.es.length = N) (hx : x.In w w.heap.size) (hA : SlV w w.heap.size A (vals rs)) (hR : Rws w w.heap.size rs) (hn : rs.length = n) (hNn : N = n) (hn1 : n ≤ 1048576) (hd : HadOk n (lists rs)) (hi : i < n) :
    Calls Try.prog 40 #[.agg #[.slice x.A N x.c], .slice A n c, .int .i64 i] w fun e w' => RbZ w.heap.size (acc x.es (lists rs) i n) e w' ∧ Below w.heap.size w w' := by
  subst hNn
  have TB := c1_new w (.slice x.A N x.c) 26
  have hb0 := bl w (.cells #[.slice x.A N x.c] 26)
  have HX := Lib.hid (hx.next hb0)
  have HA := Lib.hid (hA.next hb0)
  have HR := Lib.hid (hR.next hb0)
  have HN := Lib.hid hN
  have HL := Lib.hid hn
  have HD := Lib.hid hd
  have H1 := Lib.hid hn1
  clear hx hA hR hN hn hd hn1
  go_enter Try.func40, Try.ntmps40
  go_upto_region 1 with fail
  generalize (w.alloc (.cells #[.slice x.A N x.c] 26)) = w0 at *
  obtain ⟨b1, off, -, hA1, hb1, -, -, -, -, -⟩ := tbl.ent_at HX.out.h (show 0 < x.es.length by have := HN.out; omega)
  obtain ⟨b2, o2, -, hA2, hb2, -, -, -, -, -⟩ := row_at HA.out HR.out (show 0 < rs.length by have := HL.out; omega)
  subst hA2
  rw [hA1] at TB
  have HA1 := Lib.hid hA1
  clear hA1
  have t0 := TB.c0
  go_upto_region 3 with fail
  clear t0 TB
  go_loopw [8, 16] (fun v j w' => ∃ (k : Nat) (os : List Row), k ≤ N ∧ j = .int .i64 k ∧ OwnV w' w0.heap.size 31 v (vals os) ∧ Rws w' w0.heap.size os ∧ AllLen 8 (lists os) ∧ acc x.es (lists rs) i k = some (xall 8 (lists os)) ∧ os.length ≤ k ∧ Below w0.heap.size w0 w') (fun _ j _ => N - (RowKit.intOf j).toNat)
  case atStart => exact ⟨0, [], by omega, rfl, ownV_nil _ _ _, Rws.nil _ _, AllLen.nil 8, rfl, Nat.le_refl _, Below.refl _ _⟩
  case round =>
    obtain ⟨w6, rfl⟩ : ∃ x, x = wr := ⟨wr, rfl⟩
    obtain ⟨k, os, hk, rfl, hown, hro, hal, hac, hol, hbr⟩ := hrel
    have lN := H1.out
    by_cases hlt : k < N
    · have j1 : (k : Int) < (N : Int) := by omega
      obtain ⟨b3, off3, u, hA3, -, c0, c1, c2, -, e1⟩ := tbl.ent_at (HX.out.next hbr).h (show k < x.es.length by have := HN.out; omega)
      obtain ⟨rfl, rfl⟩ : b1 = b3 ∧ off = off3 := by
        have h9 := HA1.out.symm.trans hA3
        simp only [Option.some.injEq, Addr.mk.injEq, and_true] at h9
        exact h9
      obtain ⟨b4, off4, r, hA4, -, gr, hrs, -, -, r1⟩ := row_at (HA.out.below hbr) (HR.out.below hbr) (show k < rs.length by have := HL.out; omega)
      simp only [Option.some.injEq, Addr.mk.injEq, and_true] at hA4
      obtain ⟨rfl, rfl⟩ := hA4
      have HLK := Lib.hid (lostK_get e1)
      have HHK := Lib.hid (hadK_get r1)
      have hbe := bl w6 (.cells #[.int .i64 u.st, .int .i64 u.sm, .bool u.ls] 54)
      have hbf := bt hbr hbe
      have s6 : b2 < w6.heap.size := Nat.lt_of_lt_of_le hb2 hbr.size
      have gr' := kst hbe s6 gr
      have tr0 := cell_of_row (w6.alloc (.cells #[.int .i64 u.st, .int .i64 u.sm, .bool u.ls] 54)) w6.heap.size 2 _ _ _ (heap_alloc_new w6 _)
      have HOW := Lib.hid (hown.below hbe)
      have HRO := Lib.hid (hro.below (hbe.mono hbr.size))
      have HRS := Lib.hid (hrs.below (hbe.mono hbr.size))
      have HAL := Lib.hid hal
      have HAC := Lib.hid hac
      clear e1 r1 hA3 hown hro hrs hal hac
      by_cases hki : k = i
      · have q : ((k : Int) == (i : Int)) = true := beq_iff_eq.2 (by omega)
        have HS := Lib.hid (acc_skip (es := x.es) (hs := lists rs) (.inl hki))
        clear hki
        go_wp2_with fail
        go_roundw
        case rel => exact ⟨k + 1, os, by omega, by go_num, HOW.out, HRO.out, HAL.out, HS.out.trans HAC.out, by omega, hbf⟩
        case measure => simp [RowKit.intOf]; omega
      · have q : ((k : Int) == (i : Int)) = false := beq_eq_false_iff_ne.2 (by omega)
        cases hls : u.ls with
        | true =>
          rw [hls] at c2 tr0 hbe hbf gr' HOW HRO HRS
          have HS := Lib.hid (acc_skip (es := x.es) (hs := lists rs) (i := i) (.inr (HLK.out.trans hls)))
          clear hki hls
          go_wp2_with fail
          go_roundw
          case rel => exact ⟨k + 1, os, by omega, by go_num, HOW.out, HRO.out, HAL.out, HS.out.trans HAC.out, by omega, hbf⟩
          case measure => simp [RowKit.intOf]; omega
        | false =>
          rw [hls] at c2 tr0 hbe hbf gr' HOW HRO HRS
          have hno := Lib.hid (show ¬ (k = i ∨ lostK x.es k = true) from fun h => h.elim hki fun h => by rw [HLK.out, hls] at h; cases h)
          clear hki hls
          have HAV := Lib.hid fun W => avail_c r.A r.l.length r.c W
          by_cases hl : r.l = []
          · have HZ := Lib.hid (show acc x.es (lists rs) i N = none from acc_stays (acc_lack hno.out (by rw [HHK.out]; exact hl)) N (by omega))
            have d0 : decide (0 < r.l.length) = false := by rw [hl]; rfl
            rw [d0] at HAV
            clear hl d0
            go_wp2_with (go_at_call 38; (with_reducible refine (HAV.out _).mono ?_); rintro e w1 ⟨rfl, rfl⟩)
            go_ret2
            exact ⟨⟨none, 0, [], by rw [HZ.out]; rfl, own_nil _ _ _, fun y hy => by rw [HZ.out] at hy; cases hy⟩, bt hb0 hbf⟩
          · have h8 : r.l.length = 8 := by have := hadK_ok HD.out k; rw [HHK.out] at this; exact this.resolve_left hl
            have HT := Lib.hid (show acc x.es (lists rs) i (k + 1) = some (xall 8 (lists (os ++ [r]))) from by
              rw [acc_take hno.out (by rw [HHK.out]; exact hl) HAC.out, HHK.out, lists_append]
              show _ = some (xall 8 (lists os ++ [r.l]))
              rw [xall_append HAL.out (AllLen.cons h8 (AllLen.nil 8))]
              exact congrArg (fun y => some (zx _ y)) (xall_one h8).symm)
            have HAL2 := Lib.hid (show AllLen 8 (lists (os ++ [r])) by rw [lists_append]; exact HAL.out.append (AllLen.cons h8 (AllLen.nil 8)))
            have d0 : decide (0 < r.l.length) = true := by rw [h8]; rfl
            rw [d0] at HAV
            have hv1 := vals_length os
            have lw := hbf.size
            clear hl d0 h8
            go_upto_region 8 with (go_at_call 38; (with_reducible refine (HAV.out _).mono ?_); rintro e w1 ⟨rfl, rfl⟩)
            clear tr0 hbe c0 c1 c2 gr
            generalize w6.alloc (.cells #[.int .i64 u.st, .int .i64 u.sm, .bool false] 54) = w7 at *
            have HON := Lib.hid (HOW.out.alloc (.cells #[r.v] 31))
            go_wp2_with (at_builtin
                         refine wpList_appV _ rfl (.tmp 34) (.tmp 39) _ _ rfl w0.heap.size 31 tv _ (vals os) rfl HON.out _ [r.v] rfl (srcV_one w7 Try.underlying27 _ rfl _) (by rw [hv1]; unfold maxLen; simp; omega) (by rw [hv1]; simp; omega) (by simp; omega) ?_
                         intro v2 w2 hown3 hg3 hat3)
            have hbw := (hbf.alloc hbf.size (.cells #[r.v] 31)).grown hg3 (by simp; omega) (fun q hq => (World.ownsRow.lt HOW.out q hq).1)
            have hb7 : Below w0.heap.size w7 w2 := ((Below.refl _ w7).alloc lw (.cells #[r.v] 31)).grown hg3 (by simp; omega) (fun q hq => (World.ownsRow.lt HOW.out q hq).1)
            go_roundw
            case rel => exact ⟨k + 1, os ++ [r], by omega, by go_num, by rw [vals_append]; exact hown3, ((HRO.out.append (fun q hq => by rw [List.mem_singleton] at hq; rw [hq]; exact HRS.out)).below hb7), HAL2.out, HT.out, by rw [List.length_append]; simp; omega, hbw⟩
            case measure => simp [RowKit.intOf]; omega
    · have j1 : ¬ (k : Int) < (N : Int) := by omega
      obtain rfl : k = N := by omega
      obtain ⟨X, cx, hv, -, -, hs1, -⟩ := hown.form
      rw [vals_length] at hv
      subst hv
      have HXA := Lib.hid (show Calls Try.prog 47 #[.slice X os.length cx, .int .i64 8] w6 fun e w' => Ans w6.heap.size (xall 8 (lists os)) e w' ∧ Below w6.heap.size w6 w' from par.all_ok 8 X cx os w6 hs1 (hro.more hbr.size) (by omega) (by omega) hal)
      have HAC := Lib.hid hac
      have lw := hbr.size
      have lw0 := hb0.size
      clear hown hro hal hac hs1
      go_wp2_with (go_at_call 47; (with_reducible refine HXA.out.mono ?_); rintro e w8 ⟨⟨v, rfl, hov⟩, hb8⟩)
      obtain ⟨Y, cy, hv, h1, h2, h3, h4⟩ := id hov.form
      subst hv
      go_ret2
      exact ⟨⟨Y, cy, _, by rw [HAC.out]; rfl, hov.less (by omega), fun y hy => by rw [HAC.out] at hy; exact Option.some.inj hy⟩, bt hb0 (bt hbr hb8)⟩
/-- What find answers: what is known, and whether something is. -/
def FndZ (base : Nat) (L : List UInt8) (e : Ending) (w' : World) : Prop := ∃ (X : Option Addr) (c : Nat), e = .returned (.tuple #[.slice X L.length c, .bool (!L.isEmpty)]) ∧ Own w' base 5 (.slice X L.length c) L
theorem fnd_none {base : Nat} {L : List UInt8} {w' : World} (h : L = []) : FndZ base L (.returned (.tuple #[.slice none 0 0, .bool false])) w' := by
  subst h
  exact ⟨none, 0, rfl, own_nil _ _ _⟩
set_option maxRecDepth 100000 in
set_option maxHeartbeats 8000000 in
theorem find_c (x : tbl.TV) (N : Nat) (A : Option Addr) (c n : Nat) (rs : List Row) (i : Nat) (w : World) (hN : x.es.length = N) (hx : x.In w w.heap.size) (hA : SlV w w.heap.size A (vals rs)) (hR : Rws w w.heap.size rs) (hn : rs.length = n) (hNn : N = n) (hn1 : n ≤ 1048576) (hd : HadOk n (lists rs)) (hi : i < n) :
    Calls Try.prog 30 #[.agg #[.slice x.A N x.c], .slice A n c, .int .i64 i] w fun e w' => FndZ w.heap.size (known n x.es (lists rs) i) e w' ∧ Below w.heap.size w w' := by
  subst hNn
  have TB := c1_new w (.slice x.A N x.c) 26
  have hb0 := bl w (.cells #[.slice x.A N x.c] 26)
  have lT : w.heap.size < (w.alloc (.cells #[.slice x.A N x.c] 26)).heap.size := by simp
  have HX := Lib.hid (hx.next hb0)
  have HA := Lib.hid (hA.next hb0)
  have HR := Lib.hid (hR.next hb0)
  have HD := Lib.hid hd
  have HRB := Lib.hid fun W (hW : Below w.heap.size w W) => rebuild_c x N A c N rs i W hN (hx.next hW) (hA.next hW) (hR.next hW) hn rfl hn1 hd hi
  have HN := Lib.hid hN
  have HL := Lib.hid hn
  have H1 := Lib.hid hn1
  clear hx hA hR hN hn hd hn1
  go_enter Try.func30, Try.ntmps30
  go_upto_region 1 with fail
  generalize (w.alloc (.cells #[.slice x.A N x.c] 26)) = w0 at *
  obtain ⟨b1, off, u, hA1, hb1, c0, c1, c2, -, e1⟩ := tbl.ent_at HX.out.h (show i < x.es.length by have := HN.out; omega)
  obtain ⟨b2, o2, r, hA2, hb2, gr, hrs, -, -, r1⟩ := row_at HA.out HR.out (show i < rs.length by have := HL.out; omega)
  subst hA2
  have HLK := Lib.hid (lostK_get e1)
  have HSK := Lib.hid (sumK_get e1)
  have HHK := Lib.hid (hadK_get r1)
  rw [hA1] at TB HRB
  rw [hA1]
  have t0 := TB.c0
  have i1 : (i : Int) < (N : Int) := by omega
  clear e1 r1 hA1
  cases hls : u.ls with
  | true =>
    rw [hls] at c2
    have HK := Lib.hid (known_lost (n := N) (hs := lists rs) (HLK.out.trans hls))
    clear hls
    go_wp2_with fail
    go_ret2
    exact ⟨fnd_none HK.out, hb0⟩
  | false =>
    rw [hls] at c2
    have HLF := Lib.hid (HLK.out.trans hls)
    clear hls
    have HAV := Lib.hid fun W => avail_c r.A r.l.length r.c W
    by_cases hl : r.l = []
    case neg =>
      have h8 : r.l.length = 8 := by have := hadK_ok HD.out i; rw [HHK.out] at this; exact this.resolve_left hl
      have HK := Lib.hid (show known N x.es (lists rs) i = r.l from by rw [known_had HLF.out (by rw [HHK.out]; exact hl), HHK.out])
      have HCL := Lib.hid (pck.clone_any r.A r.c w0.heap.size r.l.length r.l w0 rfl hrs (by omega))
      have d0 : decide (0 < r.l.length) = true := by rw [h8]; rfl
      have HNE := Lib.hid (show (!r.l.isEmpty) = true by cases h : r.l; exact absurd h hl; rfl)
      rw [d0] at HAV
      have lw := hb0.size
      clear hl d0 h8
      go_wp2_with (first
        | (go_at_call 38; (with_reducible refine (HAV.out _).mono ?_); rintro e w1 ⟨rfl, rfl⟩)
        | (go_at_call 39; (with_reducible refine HCL.out.mono ?_); rintro e w2 ⟨⟨v, rfl, hov⟩, hb9⟩))
      obtain ⟨Y, cy, hv, -, -, -, -⟩ := id hov.form
      subst hv
      go_ret2
      refine ⟨?_, bt hb0 hb9⟩
      rw [HK.out]
      exact ⟨Y, cy, by rw [HNE.out]; rfl, hov.less lw⟩
    case pos =>
      have d0 : decide (0 < r.l.length) = false := by rw [hl]; rfl
      have HHN := Lib.hid (show hadK (lists rs) i = [] by rw [HHK.out]; exact hl)
      rw [d0] at HAV
      have lw := hb0.size
      clear hl d0
      go_upto_region 6 with (first
        | (go_at_call 38; (with_reducible refine (HAV.out _).mono ?_); rintro e w1 ⟨rfl, rfl⟩)
        | (go_at_call 40; (with_reducible refine (HRB.out _ hb0).mono ?_); rintro e w1 ⟨⟨Y, cy, L, rfl, hov, hol⟩, hbq⟩))
      have t1 := kst hbq lT t0
      have c1' := kst hbq hb1 c1
      have hw1 := bt hb0 hbq
      have HOV := Lib.hid hov
      clear gr hrs t0 c0 c1 c2 HAV HRB TB hov
      cases hac : acc x.es (lists rs) i N with
      | none =>
        have HK := Lib.hid (known_none HLF.out HHN.out hac)
        clear hac hol
        go_quiet (fail)
        go_wp2
        exact bodyPost_ret (v := .tuple #[.slice none 0 0, .bool false]) (by simp [results, Try.results30, go_sem]) rfl ⟨fnd_none HK.out, below_dn hw1 _⟩
      | some y =>
        obtain rfl := hol y hac
        have h8 := acc_length HD.out i N _ hac
        have HK := Lib.hid (known_some HLF.out HHN.out hac)
        rw [h8] at HOV ⊢
        obtain ⟨Y', y', hv, h1, h2, hsl, -⟩ := id HOV.out.form
        simp only [Value.slice.injEq] at hv
        obtain ⟨rfl, -, rfl⟩ := hv
        obtain ⟨S, hS⟩ : ∃ S : Int, S = ((crc.sum L : Nat) : Int) := ⟨_, rfl⟩
        have HF := Lib.hid (show ∀ m, Calls Try.prog 41 #[.slice Y (8 : Nat) cy] (w1.drewN m) fun e w' => e = .returned (.int .i64 S) ∧ ∃ m, w' = w1.drewN m from fun m => by
          have h9 := crc.of_any Y cy _ L (w1.drewN m) (hsl.below (below_dn (Below.refl _ _) m)) (by omega)
          rw [h8, ← hS] at h9
          exact h9.mono fun e w' h => ⟨h.1, m, h.2.symm⟩)
        rw [HSK.out, ← hS] at HK
        have H8 := Lib.hid h8
        clear hsl h1 h2 hS hac hol h8
        by_cases hsm : S = u.sm
        · have i2 : (S != u.sm) = false := by rw [hsm]; exact bne_self_eq_false _
          rw [if_pos hsm] at HK
          clear hsm
          go_quiet (exact HF.out _)
          go_wp2
          refine bodyPost_ret (v := .tuple #[.slice Y (8 : Nat) cy, .bool true]) (by simp [results, Try.results30, go_sem]) rfl ⟨?_, below_dn hw1 _⟩
          rw [HK.out]
          refine ⟨Y, cy, ?_, ?_⟩
          · rw [H8.out]
            cases hL : L
            · have := H8.out; rw [hL] at this; cases this
            · rfl
          · rw [H8.out]
            exact (HOV.out.less lw).below (below_dn (Below.refl _ _) _)
        · have i2 : (S != u.sm) = true := bne_iff_ne.2 hsm
          rw [if_neg hsm] at HK
          clear hsm
          go_quiet (exact HF.out _)
          go_wp2
          exact bodyPost_ret (v := .tuple #[.slice none 0 0, .bool false]) (by simp [results, Try.results30, go_sem]) rfl ⟨fnd_none HK.out, below_dn hw1 _⟩
end Go.Proofs.Ytajjmllolaajoaa.zon
