/-
  What the laws of package ring ask of its functions. Conditions: none (a list of conditions, 'Crg').
  Plain facts of the laws' example of package ring. Conditions: none.
  The laws' example of package ring. Conditions: 'Crg'.
-/
import Derived.Test.YtalmimmcfjolkaaDoorGRa
import Derived.Test.YtalmimmcfjolkaaDoorGAu
import Derived.Test.YtalmimmcfjolkaaDoorAnF
namespace Go.Proofs.YtalmimmcfjolkaaDoor.rng
open Go.RowKit Go.Lib
open Go.Proofs.YtalmimmcfjolkaaDoor.gmt (Ok)
open Go.Proofs.YtalmimmcfjolkaaDoor.anc (AV)

/-- Whose a slot is, as it is told. -/
def whoE (l s : Int) (ts : List Txd) : Value := match whoN l s 0 ts with
  | some (i, k) => .tuple #[.int .i64 i, .int .i64 k, .bool true]
  | none => .tuple #[.int .i64 0, .int .i64 0, .bool false]
/-- What is asked of package ring, in every world behind w. -/
structure Crg (w : World) : Prop where
  check : ∀ (c : Bool) (z d s l a : Int) (x : AV) (t : XV) (n : Nat) (W : World), Below w.heap.size w W → Ok z d s l a → x.In W W.heap.size → x.lab.size ≤ 4294967295 → t.In W W.heap.size → t.ts.length = n → n ≤ 1048576 → TShort 1048576 t.ts → (c = true ↔ anc.Good z d s l x.d ∧ LogOk z d l x.pos x.seq 0 (tds t.ts)) → Calls Tryd.prog 10 #[.agg #[.int .i64 z, .int .i64 d, .int .i64 s, .int .i64 l, .int .i64 a], .agg #[.int .i64 x.gen, .int .i64 x.ep, .int .i64 x.pos, .int .i64 x.seq, .int .i64 x.last, .string x.lab, .slice x.HA x.hs.length x.hc], .slice t.A n t.c] W fun e w' => e = .returned (.int .i64 (if c = true then 0 else 1)) ∧ Below W.heap.size W w'
  used : ∀ (t : XV) (n : Nat) (W : World), Below w.heap.size w W → t.In W W.heap.size → t.ts.length = n → n ≤ 1048576 → Calls Tryd.prog 13 #[.slice t.A n t.c] W fun e w' => e = .returned (.int .i64 (usedN (tds t.ts))) ∧ Below W.heap.size W w'
  next : ∀ (z d s l a : Int) (x : AV) (t : XV) (n : Nat) (W : World), Below w.heap.size w W → Ok z d s l a → x.In W W.heap.size → x.lab.size ≤ 4294967295 → t.In W W.heap.size → t.ts.length = n → n ≤ 1048576 → TShort 1048576 t.ts → anc.Good z d s l x.d → LogOk z d l x.pos x.seq 0 (tds t.ts) → x.seq + n ≤ 4294967295 → Calls Tryd.prog 12 #[.agg #[.int .i64 z, .int .i64 d, .int .i64 s, .int .i64 l, .int .i64 a], .agg #[.int .i64 x.gen, .int .i64 x.ep, .int .i64 x.pos, .int .i64 x.seq, .int .i64 x.last, .string x.lab, .slice x.HA x.hs.length x.hc], .slice t.A n t.c] W fun e w' => e = .returned (.tuple #[.int .i64 ((x.pos + usedN (tds t.ts)) % l), .int .i64 (x.seq + n), .int .i64 0]) ∧ Below W.heap.size W w'
  who : ∀ (z d s l a : Int) (sl : Int) (t : XV) (n : Nat) (W : World), Below w.heap.size w W → Ok z d s l a → 0 ≤ sl → sl ≤ l - 1 → t.In W W.heap.size → t.ts.length = n → n ≤ 1048576 → Calls Tryd.prog 11 #[.agg #[.int .i64 z, .int .i64 d, .int .i64 s, .int .i64 l, .int .i64 a], .slice t.A n t.c, .int .i64 sl] W fun e w' => e = .returned (whoE l sl (tds t.ts)) ∧ Below W.heap.size W w'
  need : ∀ (z d s l a : Int) (A : Option Addr) (c n : Nat) (ys : List Int) (W : World), Below w.heap.size w W → Ok z d s l a → SlV W W.heap.size A (ints ys) → ys.length = n → n ≤ c → c ≤ maxLen → LbasOk z d ys → Calls Tryd.prog 16 #[.agg #[.int .i64 z, .int .i64 d, .int .i64 s, .int .i64 l, .int .i64 a], .slice A n c] W fun e w' => e = .returned (.tuple #[.int .i64 (needN d ys), .int .i64 0]) ∧ Below W.heap.size W w'
theorem Crg.more {w w' : World} (k : Crg w) (hb : Below w.heap.size w w') : Crg w' where
  check := fun c z d s l a x t n W hW => k.check c z d s l a x t n W (bt hb hW)
  used := fun t n W hW => k.used t n W (bt hb hW)
  next := fun z d s l a x t n W hW => k.next z d s l a x t n W (bt hb hW)
  who := fun z d s l a sl t n W hW => k.who z d s l a sl t n W (bt hb hW)
  need := fun z d s l a A c n ys W hW => k.need z d s l a A c n ys W (bt hb hW)
end Go.Proofs.YtalmimmcfjolkaaDoor.rng

namespace Go.Proofs.YtalmimmcfjolkaaDoor.rng
open Go.RowKit Go.Lib
open Go.Proofs.YtalmimmcfjolkaaDoor.gmt (Ok)

theorem ok1 : Ok 1 1 0 14 1 := by unfold Ok; omega
def wkL : List Txd := [⟨1, 0, 2, imsX 1 1 (tabB 1) 7 0 1⟩, ⟨2, 2, 3, imsX 1 1 (tabB 1) 7 1 2⟩]
theorem wk_log : logX 1 1 14 (tabB 1) 7 1 0 0 0 [0, 1] = wkL := by
  have c0 : cntX 0 = 1 := by decide
  have c1 : cntX 1 = 2 := by decide
  simp [logX, c0, c1, wkL]
theorem wk_logOk : LogOk 1 1 14 0 1 0 wkL := by
  have h := logX_ok (z := 1) (d := 1) (l := 14) (tb := tabB 1) (by decide) (by decide) (tabB_told (by decide)) 7 1 [0, 1] 0 0 0 (by decide)
  rw [wk_log] at h
  exact h
theorem wk_used : usedN wkL = 5 := by simp [usedN, wkL, useN]
theorem wk_who : whoE 14 3 wkL = .tuple #[.int .i64 1, .int .i64 1, .bool true] := by
  have h : whoN 14 3 0 wkL = some (1, 1) := by simp [whoN, wkL, has]
  unfold whoE
  rw [h]
  rfl
theorem wk_need : needN 1 [0] = 4 := by simp [needN, zr]
theorem wk_lbas : LbasOk 1 1 [0] := ⟨fun x hx => by obtain rfl := List.mem_singleton.1 hx; omega, by simp⟩
theorem wk_no : ¬ LogOk 1 1 14 0 1 0 [⟨0, 0, 0, []⟩] := fun h => absurd h.1.1 (by decide)
/-- Images of the laws' log are few and short. -/
theorem imgX_short {z d : Int} {tb : List UInt8} {fill : UInt8} {i k m : Nat} (h : tb.length ≤ m) (h8 : 8 ≤ m) : (imgX z d tb fill i k).2.2.length ≤ m := by
  unfold imgX
  split
  · exact h
  · exact h8
theorem tabB_len {d : Int} (h : 0 ≤ d ∧ d ≤ 4) : (tabB d).length ≤ 45 := by
  have := (tabB_told h.1).1
  omega
theorem logX_short {z d l : Int} {fill : UInt8} {sq : Int} (hd : 0 ≤ d ∧ d ≤ 4) (ys : List Int) : ∀ (i : Nat) (pos used : Int), ∀ x ∈ logX z d l (tabB d) fill sq i pos used ys, x.ims.length ≤ 5 ∧ ∀ y ∈ x.ims, y.2.2.length ≤ 45 := by
  induction ys with
  | nil => intro i pos used x hx; cases hx
  | cons y t ih =>
    intro i pos used x hx
    unfold logX at hx
    split at hx
    · cases hx
    · rcases List.mem_cons.1 hx with rfl | hx
      · refine ⟨by show (imsX _ _ _ _ _ _).length ≤ 5; rw [imsX_length]; exact (cntX_le y).2, fun u hu => ?_⟩
        obtain ⟨k, -, rfl⟩ := List.mem_map.1 hu
        exact imgX_short (tabB_len hd) (by decide)
      · exact ih _ _ _ x hx
theorem short_of {ts : List TxR} {z d l : Int} {fill : UInt8} {sq pos : Int} {ys : List Int} (hd : 0 ≤ d ∧ d ≤ 4) (h : tds ts = logX z d l (tabB d) fill sq 0 pos 0 ys) : TShort 45 ts := by
  intro r hr
  have h1 : r.d ∈ logX z d l (tabB d) fill sq 0 pos 0 ys := by rw [← h]; exact List.mem_map_of_mem hr
  obtain ⟨h2, h3⟩ := logX_short hd ys 0 pos 0 r.d h1
  refine ⟨?_, fun x hx => h3 x.d (List.mem_map_of_mem hx)⟩
  have h4 : (img.ids r.rs).length ≤ 5 := h2
  rw [img.ids_length] at h4
  omega
theorem TShort.more {m k : Nat} {ts : List TxR} (h : TShort m ts) (hm : m ≤ k) : TShort k ts := fun r hr => ⟨Nat.le_trans (h r hr).1 hm, fun x hx => Nat.le_trans ((h r hr).2 x hx) hm⟩
end Go.Proofs.YtalmimmcfjolkaaDoor.rng

namespace Go.Proofs.YtalmimmcfjolkaaDoor.rng
open Go.RowKit Go.Lib
open Go.Proofs.YtalmimmcfjolkaaDoor.gmt (Ok)
open Go.Proofs.YtalmimmcfjolkaaDoor.anc (AV AC ac_new bl kal kst ks bm ka)
open Go.Proofs.YtalmimmcfjolkaaDoor.tbl (G5 g5_new)

set_option maxRecDepth 100000 in
set_option maxHeartbeats 8000000 in
theorem wk_ring (w : World) (hc : Crg w) : Calls Tryd.prog 14 #[] w fun e w' => e = .returned (.bool true) ∧ Below w.heap.size w w' := by
  have HC := Lib.hid hc
  have HS := Lib.hid fun W => tbl.some_one W
  have HF := Lib.hid (show ∀ W, Calls Tryd.prog 28 #[.agg #[.int .i64 1, .int .i64 1, .int .i64 0, .int .i64 14, .int .i64 1], .string ⟨#[]⟩] W fun e w' => (∃ x : AV, e = .returned (.agg #[.int .i64 x.gen, .int .i64 x.ep, .int .i64 x.pos, .int .i64 x.seq, .int .i64 x.last, .string x.lab, .slice x.HA x.hs.length x.hc]) ∧ x.d = anc.firstA 1 1 ⟨#[]⟩ ∧ x.In w' w'.heap.size) ∧ Below W.heap.size W w' from fun W => by
    refine (anc.rfirst_any 1 1 0 14 1 ⟨#[]⟩ W ok1).mono ?_
    rintro e w' ⟨⟨y, rfl, hyd, hyo⟩, hb⟩
    exact ⟨⟨y, rfl, hyd, AV.Own.inn hyo⟩, hb⟩)
  clear hc
  go_enter Tryd.func14, Tryd.ntmps14
  go_upto_region 2 with (go_at_call 15; (with_reducible refine (HS.out _).mono ?_); rintro e w1 ⟨rfl, hb1⟩)
  have GG := g5_new w1 1 1 0 14 1
  have hw := kal hb1 (.cells #[.int .i64 1, .int .i64 1, .int .i64 0, .int .i64 14, .int .i64 1] 23)
  have lg : w1.heap.size < (w1.alloc (.cells #[.int .i64 1, .int .i64 1, .int .i64 0, .int .i64 14, .int .i64 1] 23)).heap.size := by simp
  clear hb1
  generalize w1.heap.size = gg at *
  generalize w1.alloc (.cells #[.int .i64 1, .int .i64 1, .int .i64 0, .int .i64 14, .int .i64 1] 23) = w2 at *
  obtain ⟨g0, g1, g2, g3, g4⟩ := id GG
  go_upto_region 3 with (go_at_call 28; (with_reducible refine (HF.out _).mono ?_); rintro e w3 ⟨⟨x, rfl, hxd, hxi⟩, hb3⟩)
  have FF := ac_new w3 x
  have lx : w3.heap.size < (w3.alloc (.cells #[.int .i64 x.gen, .int .i64 x.ep, .int .i64 x.pos, .int .i64 x.seq, .int .i64 x.last, .string x.lab, .slice x.HA x.hs.length x.hc] 26)).heap.size := by simp
  have hb4 := kal hb3 (.cells #[.int .i64 x.gen, .int .i64 x.ep, .int .i64 x.pos, .int .i64 x.seq, .int .i64 x.last, .string x.lab, .slice x.HA x.hs.length x.hc] 26)
  have hxi4 := hxi.next (bl w3 (.cells #[.int .i64 x.gen, .int .i64 x.ep, .int .i64 x.pos, .int .i64 x.seq, .int .i64 x.last, .string x.lab, .slice x.HA x.hs.length x.hc] 26))
  have G4 := GG.keep hb4 lg
  have lg4 := Nat.lt_of_lt_of_le lg hb4.size
  have hw4 := bt hw hb4
  clear hb3 hb4 hxi GG lg hw g0 g1 g2 g3 g4
  generalize w3.heap.size = gx at *
  generalize w3.alloc (.cells #[.int .i64 x.gen, .int .i64 x.ep, .int .i64 x.pos, .int .i64 x.seq, .int .i64 x.last, .string x.lab, .slice x.HA x.hs.length x.hc] 26) = w4 at *
  have hp0 : x.pos = 0 := congrArg anc.Anc.pos hxd
  have hq1 : x.seq = 1 := congrArg anc.Anc.seq hxd
  have hlab : x.lab = ⟨#[]⟩ := congrArg anc.Anc.lab hxd
  have hgood : anc.Good 1 1 0 14 x.d := by rw [hxd]; exact anc.first_good ok1 (by decide)
  have HL := Lib.hid (show ∀ W, Below w4.heap.size w4 W → Calls Tryd.prog 9 #[.agg #[.int .i64 1, .int .i64 1, .int .i64 0, .int .i64 14, .int .i64 1], .agg #[.int .i64 x.gen, .int .i64 x.ep, .int .i64 x.pos, .int .i64 x.seq, .int .i64 x.last, .string x.lab, .slice x.HA x.hs.length x.hc], .slice (some ⟨W.heap.size, 0, none⟩) 2 2, .int .u8 7] (W.alloc (.cells #[.int .i64 0, .int .i64 1] 3)) fun e w' => (∃ (A : Option Addr) (c : Nat) (ts : List TxR), e = .returned (.slice A 2 c) ∧ tds ts = wkL ∧ ts.length = 2 ∧ XV.In w' w'.heap.size ⟨A, c, ts⟩) ∧ Below W.heap.size W w' from fun W hW => by
    have h9 := log_c 1 1 0 14 1 x.gen x.ep x.pos x.seq x.last x.lab x.HA x.hs.length x.hc (some ⟨W.heap.size, 0, none⟩) 2 [0, 1] 2 7 (W.alloc (.cells #[.int .i64 0, .int .i64 1] 3)) ok1 (SlV.of_block (heap_alloc_new W _) rfl (by simp)) rfl (by omega) (by omega) (by omega) (by omega)
    refine h9.mono ?_
    rintro e w' ⟨⟨v, ts, rfl, hts, ho⟩, hb⟩
    rw [hp0, hq1, show UInt8.ofNat (7 : Int).toNat = 7 from rfl, wk_log] at hts
    obtain ⟨A, c, hv, hin⟩ := ownT_in ho
    have hl : ts.length = 2 := by rw [← tds_length, hts]; rfl
    rw [hl] at hv
    exact ⟨⟨A, c, ts, by rw [hv], hts, hl, hin⟩, bt (bl W _) hb⟩)
  have HM := Lib.hid (show ∀ W, Below w4.heap.size w4 W → G5 W gg 1 1 0 14 1 ∧ AC W gx x from fun W hW => ⟨G4.keep hW lg4, FF.keep hW lx⟩)
  have HG := Lib.hid hgood
  have HPS := Lib.hid (And.intro hp0 (And.intro hq1 hlab))
  clear hxd hp0 hq1 hlab hgood
  obtain ⟨g0, g1, g2, g3, g4⟩ := id G4
  obtain ⟨x0, x1, x2, x3, x4, x5, x6⟩ := id FF
  go_upto_region 4 with (go_at_call 9; (with_reducible refine (HL.out _ (Below.refl _ _)).mono ?_); rintro e w5 ⟨⟨A, c, ts, rfl, hts, htl, hti⟩, hb5⟩; (have hb45 := hb5); (clear g0 g1 g2 g3 g4 x0 x1 x2 x3 x4 x5 x6); (obtain ⟨⟨g0, g1, g2, g3, g4⟩, ⟨x0, x1, x2, x3, x4, x5, x6⟩⟩ := HM.out _ hb5))
  have hx5 := hxi4.next hb5
  have HSH := Lib.hid (show TShort 1048576 ts from (short_of (z := 1) (d := 1) (l := 14) (fill := 7) (sq := 1) (pos := 0) (ys := [0, 1]) (by decide) (by rw [hts, wk_log])).more (by decide))
  have HTS := Lib.hid hts
  have HTL := Lib.hid htl
  have hw5 := bt hw4 hb5
  clear hts htl hb5 HL G4 FF hxi4 hw4
  have HNX := Lib.hid (show ∀ W, Below w5.heap.size w5 W → Calls Tryd.prog 12 #[.agg #[.int .i64 1, .int .i64 1, .int .i64 0, .int .i64 14, .int .i64 1], .agg #[.int .i64 x.gen, .int .i64 x.ep, .int .i64 x.pos, .int .i64 x.seq, .int .i64 x.last, .string x.lab, .slice x.HA x.hs.length x.hc], .slice A 2 c] W fun e w' => e = .returned (.tuple #[.int .i64 5, .int .i64 3, .int .i64 0]) ∧ Below W.heap.size W w' from fun W hW => by
    have h9 := HC.out.next 1 1 0 14 1 x ⟨A, c, ts⟩ 2 W (bt hw5 hW) ok1 (hx5.next hW) (by rw [HPS.out.2.2]; decide) (hti.next hW) HTL.out (by omega) HSH.out HG.out (by rw [HPS.out.1, HPS.out.2.1, HTS.out]; exact wk_logOk) (by have := HPS.out.2.1; omega)
    have e1 : (x.pos + usedN (tds ts)) % 14 = 5 := by rw [HPS.out.1, HTS.out, wk_used]; rfl
    have e2 : x.seq + ((2 : Nat) : Int) = 3 := by rw [HPS.out.2.1]; rfl
    simp only [e1, e2] at h9
    exact h9)
  have HWH := Lib.hid (show ∀ W, Below w5.heap.size w5 W → Calls Tryd.prog 11 #[.agg #[.int .i64 1, .int .i64 1, .int .i64 0, .int .i64 14, .int .i64 1], .slice A 2 c, .int .i64 3] W fun e w' => e = .returned (.tuple #[.int .i64 1, .int .i64 1, .bool true]) ∧ Below W.heap.size W w' from fun W hW => by
    have h9 := HC.out.who 1 1 0 14 1 3 ⟨A, c, ts⟩ 2 W (bt hw5 hW) ok1 (by decide) (by decide) (hti.next hW) HTL.out (by omega)
    rw [HTS.out, wk_who] at h9
    exact h9)
  have HND := Lib.hid (show ∀ W, Below w5.heap.size w5 W → Calls Tryd.prog 16 #[.agg #[.int .i64 1, .int .i64 1, .int .i64 0, .int .i64 14, .int .i64 1], .slice (some ⟨W.heap.size, 0, none⟩) 1 1] (W.alloc (.cells #[.int .i64 0] 3)) fun e w' => e = .returned (.tuple #[.int .i64 4, .int .i64 0]) ∧ Below W.heap.size W w' from fun W hW => by
    have h9 := HC.out.need 1 1 0 14 1 (some ⟨W.heap.size, 0, none⟩) 1 1 [0] (W.alloc (.cells #[.int .i64 0] 3)) (bt hw5 (kal hW _)) ok1 (SlV.of_block (heap_alloc_new W _) rfl (by simp)) rfl (Nat.le_refl _) (by decide) wk_lbas
    rw [wk_need] at h9
    refine h9.mono ?_
    rintro e w' ⟨rfl, hb⟩
    exact ⟨rfl, bt (bl W _) hb⟩)
  have HCK := Lib.hid (show ∀ W, Below w5.heap.size w5 W → Calls Tryd.prog 10 #[.agg #[.int .i64 1, .int .i64 1, .int .i64 0, .int .i64 14, .int .i64 1], .agg #[.int .i64 x.gen, .int .i64 x.ep, .int .i64 x.pos, .int .i64 x.seq, .int .i64 x.last, .string x.lab, .slice x.HA x.hs.length x.hc], .slice A 2 c] W fun e w' => e = .returned (.int .i64 0) ∧ Below W.heap.size W w' from fun W hW => HC.out.check true 1 1 0 14 1 x ⟨A, c, ts⟩ 2 W (bt hw5 hW) ok1 (hx5.next hW) (by rw [HPS.out.2.2]; decide) (hti.next hW) HTL.out (by omega) HSH.out (iff_of_true rfl ⟨HG.out, by rw [HPS.out.1, HPS.out.2.1, HTS.out]; exact wk_logOk⟩))
  have HUS := Lib.hid (show ∀ W, Below w5.heap.size w5 W → Calls Tryd.prog 13 #[.slice A 2 c] W fun e w' => e = .returned (.int .i64 5) ∧ Below W.heap.size W w' from fun W hW => by
    have h9 := HC.out.used ⟨A, c, ts⟩ 2 W (bt hw5 hW) (hti.next hW) HTL.out (by omega)
    rw [HTS.out, wk_used] at h9
    exact h9)
  have HCZ := Lib.hid (show ∀ W, Below w5.heap.size w5 W → Calls Tryd.prog 10 #[.agg #[.int .i64 1, .int .i64 1, .int .i64 0, .int .i64 14, .int .i64 1], .agg #[.int .i64 x.gen, .int .i64 x.ep, .int .i64 x.pos, .int .i64 x.seq, .int .i64 x.last, .string x.lab, .slice x.HA x.hs.length x.hc], .slice (some ⟨W.heap.size, 0, none⟩) 1 1] (W.alloc (.cells #[.int .i64 0, .int .i64 0, .int .i64 0, .slice none 0 0] 40)) fun e w' => e = .returned (.int .i64 1) ∧ Below W.heap.size W w' from fun W hW => by
    have h9 := HC.out.check false 1 1 0 14 1 x ⟨some ⟨W.heap.size, 0, none⟩, 1, [⟨0, 0, 0, none, 0, []⟩]⟩ 1 (W.alloc (.cells #[.int .i64 0, .int .i64 0, .int .i64 0, .slice none 0 0] 40)) (bt hw5 (kal hW _)) ok1 (hx5.next (kal hW _)) (by rw [HPS.out.2.2]; decide) ⟨SlV.of_block (heap_alloc_new W _) rfl (by simp), fun r hr => by
      obtain rfl := List.mem_singleton.1 hr
      exact ⟨SlV.nil _ _ _, img.IIn.nil _ _, Nat.le_refl _, Nat.zero_le _⟩, Nat.le_refl _, show 1 ≤ maxLen by decide⟩ rfl (by omega) (fun r hr => by
      obtain rfl := List.mem_singleton.1 hr
      exact ⟨Nat.zero_le _, fun x hx => by cases hx⟩) (iff_of_false Bool.false_ne_true fun h => by
      have := h.2
      rw [HPS.out.1, HPS.out.2.1] at this
      exact wk_no this)
    refine h9.mono ?_
    rintro e w' ⟨rfl, hb⟩
    exact ⟨rfl, bt (bl W _) hb⟩)
  have HM5 := Lib.hid (show ∀ W, Below w5.heap.size w5 W → G5 W gg 1 1 0 14 1 ∧ AC W gx x from fun W hW => HM.out W (bt hb45 hW))
  have hbZ := Below.refl w5.heap.size w5
  go_wp2_with (first
    | (go_at_call 12; (with_reducible refine (HNX.out _ hbZ).mono ?_); rintro e w6 ⟨rfl, hb6⟩; (replace hbZ := bt hbZ hb6); (clear g0 g1 g2 g3 g4 x0 x1 x2 x3 x4 x5 x6); (obtain ⟨⟨g0, g1, g2, g3, g4⟩, ⟨x0, x1, x2, x3, x4, x5, x6⟩⟩ := HM5.out _ hbZ))
    | (go_at_call 11; (with_reducible refine (HWH.out _ hbZ).mono ?_); rintro e w7 ⟨rfl, hb7⟩; (replace hbZ := bt hbZ hb7); (clear g0 g1 g2 g3 g4 x0 x1 x2 x3 x4 x5 x6); (obtain ⟨⟨g0, g1, g2, g3, g4⟩, ⟨x0, x1, x2, x3, x4, x5, x6⟩⟩ := HM5.out _ hbZ))
    | (go_at_call 16; (with_reducible refine (HND.out _ hbZ).mono ?_); rintro e w8 ⟨rfl, hb8⟩; (replace hbZ := bt hbZ hb8); (clear g0 g1 g2 g3 g4 x0 x1 x2 x3 x4 x5 x6); (obtain ⟨⟨g0, g1, g2, g3, g4⟩, ⟨x0, x1, x2, x3, x4, x5, x6⟩⟩ := HM5.out _ hbZ))
    | (go_at_call 10; (with_reducible refine (HCK.out _ hbZ).mono ?_); rintro e w9 ⟨rfl, hb9⟩; (replace hbZ := bt hbZ hb9); (clear g0 g1 g2 g3 g4 x0 x1 x2 x3 x4 x5 x6); (obtain ⟨⟨g0, g1, g2, g3, g4⟩, ⟨x0, x1, x2, x3, x4, x5, x6⟩⟩ := HM5.out _ hbZ))
    | (go_at_call 13; (with_reducible refine (HUS.out _ hbZ).mono ?_); rintro e w10 ⟨rfl, hb10⟩; (replace hbZ := bt hbZ hb10); (clear g0 g1 g2 g3 g4 x0 x1 x2 x3 x4 x5 x6); (obtain ⟨⟨g0, g1, g2, g3, g4⟩, ⟨x0, x1, x2, x3, x4, x5, x6⟩⟩ := HM5.out _ hbZ))
    | (go_at_call 10; (with_reducible refine (HCZ.out _ hbZ).mono ?_); rintro e w11 ⟨rfl, hb11⟩; (replace hbZ := bt hbZ hb11); (clear g0 g1 g2 g3 g4 x0 x1 x2 x3 x4 x5 x6); (obtain ⟨⟨g0, g1, g2, g3, g4⟩, ⟨x0, x1, x2, x3, x4, x5, x6⟩⟩ := HM5.out _ hbZ)))
  go_ret
  exact ⟨rfl, bt hw5 hbZ⟩
end Go.Proofs.YtalmimmcfjolkaaDoor.rng
