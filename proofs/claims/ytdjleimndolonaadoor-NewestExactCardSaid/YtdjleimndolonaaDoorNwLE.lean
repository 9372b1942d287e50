/-
  The law NewestExact. Conditions: 'Cts'.
-/
import Derived.Test.YtdjleimndolonaaDoorNwLC
import Derived.Test.YtdjleimndolonaaDoorNwH
namespace Go.Proofs.YtdjleimndolonaaDoor.nwt
open Go.RowKit Go.Lib
open Go.Proofs.YtdjleimndolonaaDoor.gmt (Ok five_new rgeo_at)
open Go.Proofs.YtdjleimndolonaaDoor.anc (bl kal kst ks bm ka Anc noAnc AV noAV noAV_own encA RdQ ac_new AC G5 g5_new sev_new heavy_any HeavyA light right_p anchor_any Sev)
open Go.Proofs.YtdjleimndolonaaDoor.sel (Lies enc)

theorem heavy_row (b : Bool) (A : Option Addr) (n c : Nat) (rs : List GotR) (w W : World) (hW : Below w.heap.size w W) (hn : rs.length = n) (hA : SlV w w.heap.size A (gvs rs)) (hR : GIn w w.heap.size rs) (hb : b = true ↔ HeavyG (gds rs)) :
    Calls Tryd.prog 7 #[.slice A n c] W fun e w' => e = .returned (.bool b) ∧ Below W.heap.size W w' :=
  (heavyG_any b A n c rs W hn (hA.next hW) (hR.next hW) hb).mono fun _ _ ⟨h, k⟩ => ⟨h, k ▸ Below.refl _ _⟩
theorem heavy_one (b : Bool) (e : Int) (X : Option Addr) (q y : Nat) (bs : List UInt8) (w W : World) (hW : Below w.heap.size w W) (hq : bs.length = q) (hqy : q ≤ y) (hy : y ≤ maxLen) (hX : Sl w w.heap.size X bs) (hb : b = true ↔ HeavyG [(e, bs)]) :
    Calls Tryd.prog 7 #[.slice (some ⟨W.heap.size, 0, none⟩) 1 1] (W.alloc (.cells #[.int .i64 e, .slice X q y] 28)) fun e w' => e = .returned (.bool b) ∧ Below W.heap.size W w' := by
  have hb1 := bl W (.cells #[.int .i64 e, .slice X q y] 28)
  refine (heavy_row b (some ⟨W.heap.size, 0, none⟩) 1 1 [⟨e, X, y, bs⟩] (W.alloc (.cells #[.int .i64 e, .slice X q y] 28)) _ (Below.refl _ _) rfl (SlV.of_block (heap_alloc_new W (.cells #[.int .i64 e, .slice X q y] 28)) (by show [_, _] = [_, Value.slice X bs.length y]; rw [hq]) (by simp)) (fun r hr => by
    obtain rfl := List.mem_singleton.1 hr
    exact ⟨(hX.next hW).next hb1, by show bs.length ≤ y; omega, hy⟩) hb).mono ?_
  rintro e' w' ⟨h, hb2⟩
  exact ⟨h, bt hb1 hb2⟩
/-- A cell's bytes and an error: the bytes are known where there is none. -/
def CelR (q : Nat) (l : List UInt8) (ce : Int) (e' : Ending) (w' : World) : Prop := ∃ (Z : Option Addr) (v : Nat), e' = .returned (.tuple #[.slice Z q v, .int .i64 ce]) ∧ (ce = 0 → Lies w' Z v l)
theorem says_ex (z d s l a e addr : Int) (X : Option Addr) (q y : Nat) (bs : List UInt8) (w : World) (hc : Cts w) (hq : bs.length = q) (hqy : q ≤ y) (hy : y ≤ maxLen) (hX : Sl w w.heap.size X bs) :
    ∃ (S : Anc) (ok : Bool), (∀ W, Below w.heap.size w W → Calls Tryd.prog 10 #[.agg #[.int .i64 z, .int .i64 d, .int .i64 s, .int .i64 l, .int .i64 a], .agg #[.int .i64 e, .slice X q y], .int .i64 addr] W fun e' w' => RdQ W.heap.size S ok e' w' ∧ Below W.heap.size W w') ∧ (Ok z d s l a → S = (sayO z d s l e bs addr).getD noAnc ∧ ok = (sayO z d s l e bs addr).isSome) ∧ (¬ Ok z d s l a → S = noAnc ∧ ok = false) := by
  by_cases ho : Ok z d s l a
  · exact ⟨_, _, fun W hW => hc.says z d s l a e addr X q y bs W hW ho hq hqy hy (hX.next hW), fun _ => ⟨rfl, rfl⟩, fun h => absurd ho h⟩
  · exact ⟨_, _, fun W hW => hc.says_no z d s l a e addr X q y bs W hW ho hq hqy hy (hX.next hW), fun h => absurd h ho, fun _ => ⟨rfl, rfl⟩⟩
theorem pick_ex (z d s l a : Int) (g : GV) (n : Nat) (w w4 : World) (hc : Cts w) (h4 : Below w.heap.size w w4) (hn : g.rs.length = n) (hg : g.In w4 w4.heap.size) :
    ∃ (P : Anc) (pi pe : Int), (∀ W, Below w4.heap.size w4 W → Calls Tryd.prog 11 #[.agg #[.int .i64 z, .int .i64 d, .int .i64 s, .int .i64 l, .int .i64 a], g.v] W fun e' w' => PickR W.heap.size P pi pe e' w' ∧ Below W.heap.size W w') ∧ (¬ Ok z d s l a → P = noAnc ∧ pi = 0 ∧ pe = 1) ∧ (Ok z d s l a → (n : Int) ≠ a → P = noAnc ∧ pi = 0 ∧ pe = 2) ∧ (Ok z d s l a → (n : Int) = a → P = ancOf (newN (sayAt z d s l (gds g.rs)) n) ∧ pi = idxOf (newN (sayAt z d s l (gds g.rs)) n) ∧ pe = errOf (newN (sayAt z d s l (gds g.rs)) n)) := by
  subst hn
  by_cases ho : Ok z d s l a
  · by_cases hn : (g.rs.length : Int) = a
    · exact ⟨_, _, _, fun W hW => hc.pick z d s l a g.A g.rs.length g.c g.rs W (bt h4 hW) ho rfl hg.l.1 hg.l.2 hn (hg.h.next hW) (hg.i.next hW), fun h => absurd ho h, fun _ h => absurd hn h, fun _ _ => ⟨rfl, rfl, rfl⟩⟩
    · exact ⟨_, _, _, fun W hW => hc.pick_len z d s l a g.A g.rs.length g.c g.rs W (bt h4 hW) ho rfl hg.l.1 hg.l.2 hn (hg.h.next hW) (hg.i.next hW), fun h => absurd ho h, fun _ _ => ⟨rfl, rfl, rfl⟩, fun _ h => absurd h hn⟩
  · exact ⟨_, _, _, fun W hW => hc.pick_geo z d s l a g.A g.rs.length g.c g.rs W (bt h4 hW) ho rfl hg.l.1 hg.l.2 (hg.h.next hW) (hg.i.next hW), fun _ => ⟨rfl, rfl, rfl⟩, fun h => absurd h ho, fun h => absurd h ho⟩
theorem cell_ex (z d s l a i : Int) (x : AV) (w : World) (hc : Cts w) (hx : x.In w w.heap.size) (hs : x.lab.size ≤ 4294967296) :
    ∃ (q : Nat) (cl : List UInt8) (ce : Int), (∀ W, Below w.heap.size w W → Calls Tryd.prog 12 #[.agg #[.int .i64 z, .int .i64 d, .int .i64 s, .int .i64 l, .int .i64 a], x.v, .int .i64 i] W fun e' w' => CelR q cl ce e' w' ∧ Below W.heap.size W w') ∧ (Ok z d s l a ∧ anc.Good z d s l x.d ∧ 0 ≤ i ∧ i < a → ce = 0 ∧ q = (encA x.d).length + 11 ∧ cl = enc i.toNat x.gen.toNat (encA x.d)) ∧ (¬ (Ok z d s l a ∧ anc.Good z d s l x.d ∧ 0 ≤ i ∧ i < a) → ce = 1 ∧ q = 0) := by
  by_cases h : Ok z d s l a ∧ anc.Good z d s l x.d ∧ 0 ≤ i ∧ i < a
  · refine ⟨_, _, 0, fun W hW => (hc.cell z d s l a i x W hW h.1 (hx.next hW) h.2.1 h.2.2.1 h.2.2.2).mono ?_, fun _ => ⟨rfl, rfl, rfl⟩, fun k => absurd h k⟩
    rintro e' w' ⟨⟨Z, v, rfl, ho⟩, hb⟩
    exact ⟨⟨Z, v, rfl, fun _ => own_ly ho⟩, hb⟩
  · refine ⟨0, [], 1, fun W hW => (hc.cell_no z d s l a i x W hW h (hx.next hW) hs).mono ?_, fun k => absurd k h, fun _ => ⟨rfl, rfl⟩⟩
    rintro e' w' ⟨⟨Z, v, rfl⟩, hb⟩
    exact ⟨⟨Z, v, rfl, fun k => absurd k (by decide)⟩, hb⟩
set_option maxRecDepth 100000 in
set_option maxHeartbeats 8000000 in
theorem ne_heavy (z d s l a : Int) (A : Option Addr) (n c : Nat) (rs : List GotR) (e : Int) (X : Option Addr) (q y : Nat) (bs : List UInt8) (addr : Int) (x : AV) (i : Int) (w : World) (hn : rs.length = n) (hA : SlV w w.heap.size A (gvs rs)) (hR : GIn w w.heap.size rs) (hq : bs.length = q) (hqy : q ≤ y) (hy : y ≤ maxLen) (hX : Sl w w.heap.size X bs) (hx : x.In w w.heap.size) (hh : HeavyG (gds rs) ∨ HeavyG [(e, bs)] ∨ HeavyA x.d) :
    Calls Tryd.prog 3 #[.agg #[.int .i64 z, .int .i64 d, .int .i64 s, .int .i64 l, .int .i64 a], .slice A n c, .agg #[.int .i64 e, .slice X q y], .int .i64 addr, x.v, .int .i64 i] w fun e w' => e = .returned (.bool true) ∧ Below w.heap.size w w' := by
  by_cases h1 : HeavyG (gds rs)
  · have cH := fun W (hW : Below w.heap.size w W) => heavy_row true A n c rs w W hW hn hA hR (iff_of_true rfl h1)
    clear hh hA hR hX hx h1
    unfold AV.v
    have GG := ((g5_new w z d s l a).keep (bl (w.alloc (.cells #[.int .i64 z, .int .i64 d, .int .i64 s, .int .i64 l, .int .i64 a] 23)) (.cells #[.int .i64 e, .slice X q y] 28)) (by simp)).keep (bl ((w.alloc (.cells #[.int .i64 z, .int .i64 d, .int .i64 s, .int .i64 l, .int .i64 a] 23)).alloc (.cells #[.int .i64 e, .slice X q y] 28)) (.cells #[.int .i64 x.gen, .int .i64 x.ep, .int .i64 x.pos, .int .i64 x.seq, .int .i64 x.last, .string x.lab, .slice x.HA x.hs.length x.hc] 31)) (by simp; omega)
    have XX := (gotC_new (w.alloc (.cells #[.int .i64 z, .int .i64 d, .int .i64 s, .int .i64 l, .int .i64 a] 23)) (.int .i64 e) (.slice X q y) 28).keep (bl ((w.alloc (.cells #[.int .i64 z, .int .i64 d, .int .i64 s, .int .i64 l, .int .i64 a] 23)).alloc (.cells #[.int .i64 e, .slice X q y] 28)) (.cells #[.int .i64 x.gen, .int .i64 x.ep, .int .i64 x.pos, .int .i64 x.seq, .int .i64 x.last, .string x.lab, .slice x.HA x.hs.length x.hc] 31)) (by simp)
    have FF := ac_new ((w.alloc (.cells #[.int .i64 z, .int .i64 d, .int .i64 s, .int .i64 l, .int .i64 a] 23)).alloc (.cells #[.int .i64 e, .slice X q y] 28)) x
    have hb0 := kal (kal (bl w (.cells #[.int .i64 z, .int .i64 d, .int .i64 s, .int .i64 l, .int .i64 a] 23)) (.cells #[.int .i64 e, .slice X q y] 28)) (.cells #[.int .i64 x.gen, .int .i64 x.ep, .int .i64 x.pos, .int .i64 x.seq, .int .i64 x.last, .string x.lab, .slice x.HA x.hs.length x.hc] 31)
    rw [show (w.alloc (.cells #[.int .i64 z, .int .i64 d, .int .i64 s, .int .i64 l, .int .i64 a] 23)).heap.size = w.heap.size + 1 by simp] at XX
    rw [show ((w.alloc (.cells #[.int .i64 z, .int .i64 d, .int .i64 s, .int .i64 l, .int .i64 a] 23)).alloc (.cells #[.int .i64 e, .slice X q y] 28)).heap.size = w.heap.size + 2 by simp] at FF
    have l1 : w.heap.size + 2 < (((w.alloc (.cells #[.int .i64 z, .int .i64 d, .int .i64 s, .int .i64 l, .int .i64 a] 23)).alloc (.cells #[.int .i64 e, .slice X q y] 28)).alloc (.cells #[.int .i64 x.gen, .int .i64 x.ep, .int .i64 x.pos, .int .i64 x.seq, .int .i64 x.last, .string x.lab, .slice x.HA x.hs.length x.hc] 31)).heap.size := by simp
    go_enter Tryd.func3, Tryd.ntmps3
    go_upto_region 1 with fail
    generalize (((w.alloc (.cells #[.int .i64 z, .int .i64 d, .int .i64 s, .int .i64 l, .int .i64 a] 23)).alloc (.cells #[.int .i64 e, .slice X q y] 28)).alloc (.cells #[.int .i64 x.gen, .int .i64 x.ep, .int .i64 x.pos, .int .i64 x.seq, .int .i64 x.last, .string x.lab, .slice x.HA x.hs.length x.hc] 31)) = w0 at *
    obtain ⟨c0, c1, c2, c3, c4, c5, c6⟩ := id FF
    obtain ⟨g0, g1, g2, g3, g4⟩ := id GG
    obtain ⟨x0, x1, -, -⟩ := id XX
    go_wp2_with (go_at_call 7; (with_reducible refine (cH _ hb0).mono ?_); rintro e wq ⟨rfl, hbq⟩; replace FF := FF.keep hbq (by omega); replace GG := GG.keep hbq (by omega); replace XX := XX.keep hbq (by omega); replace l1 := Nat.lt_of_lt_of_le l1 hbq.size; clear c0 c1 c2 c3 c4 c5 c6 g0 g1 g2 g3 g4 x0 x1; obtain ⟨c0, c1, c2, c3, c4, c5, c6⟩ := id FF; obtain ⟨g0, g1, g2, g3, g4⟩ := id GG; obtain ⟨x0, x1, -, -⟩ := id XX; replace hb0 := bt hb0 hbq; clear hbq)
    go_ret
    exact ⟨rfl, hb0⟩
  have cH := fun W (hW : Below w.heap.size w W) => heavy_row false A n c rs w W hW hn hA hR (iff_of_false Bool.false_ne_true h1)
  by_cases h2 : HeavyG [(e, bs)]
  · have cO := fun W (hW : Below w.heap.size w W) => heavy_one true e X q y bs w W hW hq hqy hy hX (iff_of_true rfl h2)
    clear hh hA hR hX hx h1 h2
    unfold AV.v
    have GG := ((g5_new w z d s l a).keep (bl (w.alloc (.cells #[.int .i64 z, .int .i64 d, .int .i64 s, .int .i64 l, .int .i64 a] 23)) (.cells #[.int .i64 e, .slice X q y] 28)) (by simp)).keep (bl ((w.alloc (.cells #[.int .i64 z, .int .i64 d, .int .i64 s, .int .i64 l, .int .i64 a] 23)).alloc (.cells #[.int .i64 e, .slice X q y] 28)) (.cells #[.int .i64 x.gen, .int .i64 x.ep, .int .i64 x.pos, .int .i64 x.seq, .int .i64 x.last, .string x.lab, .slice x.HA x.hs.length x.hc] 31)) (by simp; omega)
    have XX := (gotC_new (w.alloc (.cells #[.int .i64 z, .int .i64 d, .int .i64 s, .int .i64 l, .int .i64 a] 23)) (.int .i64 e) (.slice X q y) 28).keep (bl ((w.alloc (.cells #[.int .i64 z, .int .i64 d, .int .i64 s, .int .i64 l, .int .i64 a] 23)).alloc (.cells #[.int .i64 e, .slice X q y] 28)) (.cells #[.int .i64 x.gen, .int .i64 x.ep, .int .i64 x.pos, .int .i64 x.seq, .int .i64 x.last, .string x.lab, .slice x.HA x.hs.length x.hc] 31)) (by simp)
    have FF := ac_new ((w.alloc (.cells #[.int .i64 z, .int .i64 d, .int .i64 s, .int .i64 l, .int .i64 a] 23)).alloc (.cells #[.int .i64 e, .slice X q y] 28)) x
    have hb0 := kal (kal (bl w (.cells #[.int .i64 z, .int .i64 d, .int .i64 s, .int .i64 l, .int .i64 a] 23)) (.cells #[.int .i64 e, .slice X q y] 28)) (.cells #[.int .i64 x.gen, .int .i64 x.ep, .int .i64 x.pos, .int .i64 x.seq, .int .i64 x.last, .string x.lab, .slice x.HA x.hs.length x.hc] 31)
    rw [show (w.alloc (.cells #[.int .i64 z, .int .i64 d, .int .i64 s, .int .i64 l, .int .i64 a] 23)).heap.size = w.heap.size + 1 by simp] at XX
    rw [show ((w.alloc (.cells #[.int .i64 z, .int .i64 d, .int .i64 s, .int .i64 l, .int .i64 a] 23)).alloc (.cells #[.int .i64 e, .slice X q y] 28)).heap.size = w.heap.size + 2 by simp] at FF
    have l1 : w.heap.size + 2 < (((w.alloc (.cells #[.int .i64 z, .int .i64 d, .int .i64 s, .int .i64 l, .int .i64 a] 23)).alloc (.cells #[.int .i64 e, .slice X q y] 28)).alloc (.cells #[.int .i64 x.gen, .int .i64 x.ep, .int .i64 x.pos, .int .i64 x.seq, .int .i64 x.last, .string x.lab, .slice x.HA x.hs.length x.hc] 31)).heap.size := by simp
    go_enter Tryd.func3, Tryd.ntmps3
    go_upto_region 1 with fail
    generalize (((w.alloc (.cells #[.int .i64 z, .int .i64 d, .int .i64 s, .int .i64 l, .int .i64 a] 23)).alloc (.cells #[.int .i64 e, .slice X q y] 28)).alloc (.cells #[.int .i64 x.gen, .int .i64 x.ep, .int .i64 x.pos, .int .i64 x.seq, .int .i64 x.last, .string x.lab, .slice x.HA x.hs.length x.hc] 31)) = w0 at *
    obtain ⟨c0, c1, c2, c3, c4, c5, c6⟩ := id FF
    obtain ⟨g0, g1, g2, g3, g4⟩ := id GG
    obtain ⟨x0, x1, -, -⟩ := id XX
    go_wp2_with (first
      | (go_at_call 7; (with_reducible refine (cH _ hb0).mono ?_); rintro e wq ⟨rfl, hbq⟩; replace FF := FF.keep hbq (by omega); replace GG := GG.keep hbq (by omega); replace XX := XX.keep hbq (by omega); replace l1 := Nat.lt_of_lt_of_le l1 hbq.size; clear c0 c1 c2 c3 c4 c5 c6 g0 g1 g2 g3 g4 x0 x1; obtain ⟨c0, c1, c2, c3, c4, c5, c6⟩ := id FF; obtain ⟨g0, g1, g2, g3, g4⟩ := id GG; obtain ⟨x0, x1, -, -⟩ := id XX; replace hb0 := bt hb0 hbq; clear hbq)
      | (go_at_call 7; (with_reducible refine (cO _ hb0).mono ?_); rintro e wq ⟨rfl, hbq⟩; replace FF := FF.keep hbq (by omega); replace GG := GG.keep hbq (by omega); replace XX := XX.keep hbq (by omega); replace l1 := Nat.lt_of_lt_of_le l1 hbq.size; clear c0 c1 c2 c3 c4 c5 c6 g0 g1 g2 g3 g4 x0 x1; obtain ⟨c0, c1, c2, c3, c4, c5, c6⟩ := id FF; obtain ⟨g0, g1, g2, g3, g4⟩ := id GG; obtain ⟨x0, x1, -, -⟩ := id XX; replace hb0 := bt hb0 hbq; clear hbq))
    go_ret
    exact ⟨rfl, hb0⟩
  have cO := fun W (hW : Below w.heap.size w W) => heavy_one false e X q y bs w W hW hq hqy hy hX (iff_of_false Bool.false_ne_true h2)
  have h3 : HeavyA x.d := (hh.resolve_left h1).resolve_left h2
  have cX := fun W (hW : Below w.heap.size w W) => heavy_any true x W (hx.next hW) (iff_of_true rfl h3)
  unfold AV.v at cX
  clear hh hA hR hX hx h1 h2 h3
  unfold AV.v
  have GG := ((g5_new w z d s l a).keep (bl (w.alloc (.cells #[.int .i64 z, .int .i64 d, .int .i64 s, .int .i64 l, .int .i64 a] 23)) (.cells #[.int .i64 e, .slice X q y] 28)) (by simp)).keep (bl ((w.alloc (.cells #[.int .i64 z, .int .i64 d, .int .i64 s, .int .i64 l, .int .i64 a] 23)).alloc (.cells #[.int .i64 e, .slice X q y] 28)) (.cells #[.int .i64 x.gen, .int .i64 x.ep, .int .i64 x.pos, .int .i64 x.seq, .int .i64 x.last, .string x.lab, .slice x.HA x.hs.length x.hc] 31)) (by simp; omega)
  have XX := (gotC_new (w.alloc (.cells #[.int .i64 z, .int .i64 d, .int .i64 s, .int .i64 l, .int .i64 a] 23)) (.int .i64 e) (.slice X q y) 28).keep (bl ((w.alloc (.cells #[.int .i64 z, .int .i64 d, .int .i64 s, .int .i64 l, .int .i64 a] 23)).alloc (.cells #[.int .i64 e, .slice X q y] 28)) (.cells #[.int .i64 x.gen, .int .i64 x.ep, .int .i64 x.pos, .int .i64 x.seq, .int .i64 x.last, .string x.lab, .slice x.HA x.hs.length x.hc] 31)) (by simp)
  have FF := ac_new ((w.alloc (.cells #[.int .i64 z, .int .i64 d, .int .i64 s, .int .i64 l, .int .i64 a] 23)).alloc (.cells #[.int .i64 e, .slice X q y] 28)) x
  have hb0 := kal (kal (bl w (.cells #[.int .i64 z, .int .i64 d, .int .i64 s, .int .i64 l, .int .i64 a] 23)) (.cells #[.int .i64 e, .slice X q y] 28)) (.cells #[.int .i64 x.gen, .int .i64 x.ep, .int .i64 x.pos, .int .i64 x.seq, .int .i64 x.last, .string x.lab, .slice x.HA x.hs.length x.hc] 31)
  rw [show (w.alloc (.cells #[.int .i64 z, .int .i64 d, .int .i64 s, .int .i64 l, .int .i64 a] 23)).heap.size = w.heap.size + 1 by simp] at XX
  rw [show ((w.alloc (.cells #[.int .i64 z, .int .i64 d, .int .i64 s, .int .i64 l, .int .i64 a] 23)).alloc (.cells #[.int .i64 e, .slice X q y] 28)).heap.size = w.heap.size + 2 by simp] at FF
  have l1 : w.heap.size + 2 < (((w.alloc (.cells #[.int .i64 z, .int .i64 d, .int .i64 s, .int .i64 l, .int .i64 a] 23)).alloc (.cells #[.int .i64 e, .slice X q y] 28)).alloc (.cells #[.int .i64 x.gen, .int .i64 x.ep, .int .i64 x.pos, .int .i64 x.seq, .int .i64 x.last, .string x.lab, .slice x.HA x.hs.length x.hc] 31)).heap.size := by simp
  go_enter Tryd.func3, Tryd.ntmps3
  go_upto_region 1 with fail
  generalize (((w.alloc (.cells #[.int .i64 z, .int .i64 d, .int .i64 s, .int .i64 l, .int .i64 a] 23)).alloc (.cells #[.int .i64 e, .slice X q y] 28)).alloc (.cells #[.int .i64 x.gen, .int .i64 x.ep, .int .i64 x.pos, .int .i64 x.seq, .int .i64 x.last, .string x.lab, .slice x.HA x.hs.length x.hc] 31)) = w0 at *
  obtain ⟨c0, c1, c2, c3, c4, c5, c6⟩ := id FF
  obtain ⟨g0, g1, g2, g3, g4⟩ := id GG
  obtain ⟨x0, x1, -, -⟩ := id XX
  go_wp2_with (first
    | (go_at_call 7; (with_reducible refine (cH _ hb0).mono ?_); rintro e wq ⟨rfl, hbq⟩; replace FF := FF.keep hbq (by omega); replace GG := GG.keep hbq (by omega); replace XX := XX.keep hbq (by omega); replace l1 := Nat.lt_of_lt_of_le l1 hbq.size; clear c0 c1 c2 c3 c4 c5 c6 g0 g1 g2 g3 g4 x0 x1; obtain ⟨c0, c1, c2, c3, c4, c5, c6⟩ := id FF; obtain ⟨g0, g1, g2, g3, g4⟩ := id GG; obtain ⟨x0, x1, -, -⟩ := id XX; replace hb0 := bt hb0 hbq; clear hbq)
    | (go_at_call 7; (with_reducible refine (cO _ hb0).mono ?_); rintro e wq ⟨rfl, hbq⟩; replace FF := FF.keep hbq (by omega); replace GG := GG.keep hbq (by omega); replace XX := XX.keep hbq (by omega); replace l1 := Nat.lt_of_lt_of_le l1 hbq.size; clear c0 c1 c2 c3 c4 c5 c6 g0 g1 g2 g3 g4 x0 x1; obtain ⟨c0, c1, c2, c3, c4, c5, c6⟩ := id FF; obtain ⟨g0, g1, g2, g3, g4⟩ := id GG; obtain ⟨x0, x1, -, -⟩ := id XX; replace hb0 := bt hb0 hbq; clear hbq)
    | (go_at_call 8; (with_reducible refine (cX _ hb0).mono ?_); rintro e wq ⟨rfl, hbq⟩; replace FF := FF.keep hbq (by omega); replace GG := GG.keep hbq (by omega); replace XX := XX.keep hbq (by omega); replace l1 := Nat.lt_of_lt_of_le l1 hbq.size; clear c0 c1 c2 c3 c4 c5 c6 g0 g1 g2 g3 g4 x0 x1; obtain ⟨c0, c1, c2, c3, c4, c5, c6⟩ := id FF; obtain ⟨g0, g1, g2, g3, g4⟩ := id GG; obtain ⟨x0, x1, -, -⟩ := id XX; replace hb0 := bt hb0 hbq; clear hbq))
  go_ret
  exact ⟨rfl, hb0⟩
end Go.Proofs.YtdjleimndolonaaDoor.nwt
