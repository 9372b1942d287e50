/-
  The law AnchorBack, both anchors right; and the law whole. Conditions: 'ValidOk', 'CloneOk', 'Tabs'.
-/
import Derived.Test.YtkpbfhjpmhgmoaaDoorAnLC
import Derived.Test.YtkpbfhjpmhgmoaaDoorAnLD
namespace Go.Proofs.YtkpbfhjpmhgmoaaDoor.anc
open Go.RowKit Go.Lib
open Go.Proofs.YtkpbfhjpmhgmoaaDoor.gmt (Ok five_new)
open Go.Proofs.YtkpbfhjpmhgmoaaDoor.lbl (encL readL labE lab_len ValidOk CloneOk Tabs)

/-- What a block holds, found backwards through the worlds; a whole struct stored in a region that draws. -/
theorem blk_new {W : World} {o : Obj} {k : Nat} (h : k = W.heap.size) : (W.alloc o).heap[k]? = some o := by subst h; exact heap_alloc_new W o
theorem blk_old {W : World} {o v : Obj} {k : Nat} (h : W.heap[k]? = some v) : (W.alloc o).heap[k]? = some v := by rw [heap_alloc_old W o (Array.getElem?_eq_some_iff.1 h).1]; exact h
theorem blk_next {W W' : World} {v : Obj} {k : Nat} (hb : Below W.heap.size W W') (h : W.heap[k]? = some v) : W'.heap[k]? = some v := (hb.block k (Array.getElem?_eq_some_iff.1 h).1).trans h
theorem blk_grown {W W' : World} {v : Obj} {k : Nat} {r : Option Nat} (hg : W.grownBy W' r) (hr : some k ≠ r) (h : W.heap[k]? = some v) : W'.heap[k]? = some v := (hg.block k (Array.getElem?_eq_some_iff.1 h).1 hr).trans h
theorem below_row {B g : Nat} {a W : World} (h : Below B a W) (hg : B ≤ g) (cs : Array Value) : Below B a (W.setRow g cs) :=
  h.trans ⟨rfl, rfl, rfl, by simp [World.setRow], fun k hk => setRow_other W g k cs (by omega)⟩
theorem below_set7 {B g : Nat} {a W : World} {v0 v1 v2 v3 v4 v5 v6 : Value} (h : Below B a W) (hg : B ≤ g) : Below B a (((((((W.setCell ⟨g, 0, none⟩ v0).setCell ⟨g, 1, none⟩ v1).setCell ⟨g, 2, none⟩ v2).setCell ⟨g, 3, none⟩ v3).setCell ⟨g, 4, none⟩ v4).setCell ⟨g, 5, none⟩ v5).setCell ⟨g, 6, none⟩ v6) := (((((((h.setCell (p := ⟨g, 0, none⟩) hg v0).setCell (p := ⟨g, 1, none⟩) hg v1).setCell (p := ⟨g, 2, none⟩) hg v2).setCell (p := ⟨g, 3, none⟩) hg v3).setCell (p := ⟨g, 4, none⟩) hg v4).setCell (p := ⟨g, 5, none⟩) hg v5).setCell (p := ⟨g, 6, none⟩) hg v6)
theorem step_store {P : Program} (w : World) {ops : Array Oper} {o : Oper} {a : Act} {K : Act → World → Prop} {Q : Exit → Act → World → Prop} {E : Prop} (hgd : o.guard = none) (ty : TypeId) (x y : Operand) (ho : o.op = .store ty x y)
    (g : Nat) (cells : Array Value) (hx : a.eval x = .pointer (some ⟨g, 0, none⟩)) (hy : a.eval y = .agg cells)
    (t : TypeId) (old : Array Value) (hg : w.heap[g]? = some (.cells old t (0, 0))) (hi : (P.info? ty).map (·.size) = some cells.size)
    (hold : old.size = cells.size) (h1 : cells.all (·.oneCell') = true)
    (h : K (a.put o.dst undef) (w.setRow g cells)) : if Region.wanted o (yielded ops a.tmps) = true then Oper.wp P o a w K Q else E := by
  have hw : Region.wanted o (yielded ops a.tmps) = true := by simp [Region.wanted, hgd]
  rw [if_pos hw]
  exact wp_store_row ty x y ho g cells hx hy t old hg hi hold h1 h

theorem blk_drew {W : World} {v : Obj} {k : Nat} (h : W.heap[k]? = some v) : W.drew.heap[k]? = some v := h
theorem src_zero {W : World} {u : Value} {g : Nat} {t : TypeId} {fr : Nat × Nat} (hu : u = .slice (some ⟨g, 0, none⟩) 1 1) (hg : W.heap[g]? = some (.cells #[.int .u8 0] t fr)) : Src Tryd.prog 1 27 u [(0 : UInt8)].length (cells8 [0]) W := by
  subst hu
  exact src_at Tryd.underlying27 0 0 rfl t g fr hg
theorem sev_drew {W : World} {g : Nat} {a0 a1 a2 a3 a4 a5 a6 : Value} (h : Sev W g a0 a1 a2 a3 a4 a5 a6) : Sev W.drew g a0 a1 a2 a3 a4 a5 a6 := h.keep (B := g + 1) (below_dr (Below.refl _ _)) (Nat.lt_succ_self _)
theorem sev_alloc {W : World} {g : Nat} {a0 a1 a2 a3 a4 a5 a6 : Value} (h : Sev W g a0 a1 a2 a3 a4 a5 a6) (o : Obj) : Sev (W.alloc o) g a0 a1 a2 a3 a4 a5 a6 := by
  have hg : g < W.heap.size := World.block_lt_of_cell? W _ h.c0
  exact h.keep (bl W o) hg
theorem sev_next {W W' : World} {g : Nat} {a0 a1 a2 a3 a4 a5 a6 : Value} (h : Sev W g a0 a1 a2 a3 a4 a5 a6) (hb : Below W.heap.size W W') : Sev W' g a0 a1 a2 a3 a4 a5 a6 := h.keep hb (World.block_lt_of_cell? W _ h.c0)
theorem sev_grown {W W' : World} {g : Nat} {r : Option Nat} {a0 a1 a2 a3 a4 a5 a6 : Value} (h : Sev W g a0 a1 a2 a3 a4 a5 a6) (hg : W.grownBy W' r) (hr : some g ≠ r) : Sev W' g a0 a1 a2 a3 a4 a5 a6 := by
  have hb : W'.heap[g]? = W.heap[g]? := hg.block g (World.block_lt_of_cell? W _ h.c0) hr
  constructor
  all_goals first | exact (World.cell?_of_block (a := ⟨g, _, none⟩) hb).trans h.c0 | exact (World.cell?_of_block (a := ⟨g, _, none⟩) hb).trans h.c1 | exact (World.cell?_of_block (a := ⟨g, _, none⟩) hb).trans h.c2 | exact (World.cell?_of_block (a := ⟨g, _, none⟩) hb).trans h.c3 | exact (World.cell?_of_block (a := ⟨g, _, none⟩) hb).trans h.c4 | exact (World.cell?_of_block (a := ⟨g, _, none⟩) hb).trans h.c5 | exact (World.cell?_of_block (a := ⟨g, _, none⟩) hb).trans h.c6 | exact (World.frozen?_of_block (a := ⟨g, _, none⟩) hb).trans h.f0 | exact (World.frozen?_of_block (a := ⟨g, _, none⟩) hb).trans h.f1 | exact (World.frozen?_of_block (a := ⟨g, _, none⟩) hb).trans h.f2 | exact (World.frozen?_of_block (a := ⟨g, _, none⟩) hb).trans h.f3 | exact (World.frozen?_of_block (a := ⟨g, _, none⟩) hb).trans h.f4 | exact (World.frozen?_of_block (a := ⟨g, _, none⟩) hb).trans h.f5 | exact (World.frozen?_of_block (a := ⟨g, _, none⟩) hb).trans h.f6
/-- Seven zero cells, just laid. -/
def Zer (W : World) (g : Nat) : Prop := Sev W g (.int .i64 0) (.int .i64 0) (.int .i64 0) (.int .i64 0) (.int .i64 0) (.string ⟨#[]⟩) (.slice none 0 0)
theorem zer_new (w : World) : Zer (w.alloc (.cells #[.int .i64 0, .int .i64 0, .int .i64 0, .int .i64 0, .int .i64 0, .string ⟨#[]⟩, .slice none 0 0] 26)) w.heap.size := sev_new w _ _ _ _ _ _ _ _
theorem zer_at {w : World} {g : Nat} (h : g = w.heap.size) : Zer (w.alloc (.cells #[.int .i64 0, .int .i64 0, .int .i64 0, .int .i64 0, .int .i64 0, .string ⟨#[]⟩, .slice none 0 0] 26)) g := by subst h; exact zer_new w
theorem Zer.dr {W : World} {g : Nat} (h : Zer W g) : Zer W.drew g := sev_drew h
theorem Zer.al {W : World} {g : Nat} (h : Zer W g) (o : Obj) : Zer (W.alloc o) g := sev_alloc h o
theorem Zer.nx {W W' : World} {g : Nat} (h : Zer W g) (hb : Below W.heap.size W W') : Zer W' g := sev_next h hb
theorem Zer.gr {W W' : World} {g : Nat} {r : Option Nat} (h : Zer W g) (hg : W.grownBy W' r) (hr : some g ≠ r) : Zer W' g := sev_grown h hg hr

set_option maxRecDepth 100000 in
set_option maxHeartbeats 8000000 in
theorem ab_both (hV : ValidOk) (hC : CloneOk) (c : Bool) (q q2 k : Nat) (z d s l a : Int) (x y : AV) (cut : Int) (w : World) (hT : Tabs w) (hx : x.In w w.heap.size) (hy : y.In w w.heap.size) (hh : ¬ HeavyA x.d) (hk : ¬ HeavyA y.d) (ho : Ok z d s l a) (hg : Good z d s l x.d) (hg2 : Good z d s l y.d)
    (hq : (encA x.d).length = q) (hq2 : (encA y.d).length = q2) (hqm : q ≤ 96) (hkq : k < q) (hK : (IntKind.u64.wrap cut).tmod (q : Int) = (k : Int)) (hc : decide (x.d = y.d) = c) :
    Calls Tryd.prog 4 #[.agg #[.int .i64 z, .int .i64 d, .int .i64 s, .int .i64 l, .int .i64 a], x.v, y.v, .int .i64 cut] w fun e w' => e = .returned (.bool true) ∧ Below w.heap.size w w' := by
  have HT := Lib.hid hT
  have cH := fun W (hW : Below w.heap.size w W) => heavy_any false x W (hx.next hW) (iff_of_false Bool.false_ne_true hh)
  have cK := fun W (hW : Below w.heap.size w W) => heavy_any false y W (hy.next hW) (iff_of_false Bool.false_ne_true hk)
  have HB := Lib.hid (show ∀ W, Below w.heap.size w W → Calls Tryd.prog 12 #[.agg #[.int .i64 z, .int .i64 d, .int .i64 s, .int .i64 l, .int .i64 a], x.v] W fun e w' => PutQ W.heap.size q (encA x.d) e w' ∧ Below W.heap.size W w' from fun W hW => by
    have := bytes_yes hV z d s l a x W (tn HT.out hW) ho (hx.next hW) hg
    rwa [hq] at this)
  have HD := Lib.hid (show ∀ W, Below w.heap.size w W → Calls Tryd.prog 12 #[.agg #[.int .i64 z, .int .i64 d, .int .i64 s, .int .i64 l, .int .i64 a], y.v] W fun e w' => PutQ W.heap.size q2 (encA y.d) e w' ∧ Below W.heap.size W w' from fun W hW => by
    have := bytes_yes hV z d s l a y W (tn HT.out hW) ho (hy.next hW) hg2
    rwa [hq2] at this)
  have HR := Lib.hid (show ∀ (W : World) (A : Option Addr) (n : Nat), Below w.heap.size w W → Sl W W.heap.size A (encA x.d) → q ≤ n → n ≤ maxLen → Calls Tryd.prog 13 #[.agg #[.int .i64 z, .int .i64 d, .int .i64 s, .int .i64 l, .int .i64 a], .slice A q n] W fun e w' => AnsA W.heap.size x.d 0 e w' ∧ Below W.heap.size W w' from fun W A n hW h1 h2 h3 =>
    read_yes hV z d s l a A n q _ x.d W (tn HT.out hW) ho hq h1 h2 h3 (by omega) hg rfl)
  have HRC := Lib.hid (show ∀ (W : World) (A : Option Addr) (n : Nat), Below w.heap.size w W → Sl W W.heap.size A (encA x.d) → q ≤ n → n ≤ maxLen → Calls Tryd.prog 13 #[.agg #[.int .i64 z, .int .i64 d, .int .i64 s, .int .i64 l, .int .i64 a], .slice A k n] W fun e w' => AnsA W.heap.size noAnc 4 e w' ∧ Below W.heap.size W w' from fun W A n hW h1 h2 h3 =>
    read_not hV z d s l a A n k ((encA x.d).take k) W (tn HT.out hW) ho (by rw [List.length_take]; omega) (lbl.Sl.take h1 k) (by omega) h3 (by omega) fun v hv => cut_none ho hg hv (by omega))
  have HRM := Lib.hid (show ∀ (W : World) (A : Option Addr) (n : Nat), Below w.heap.size w W → Sl W W.heap.size A (encA x.d ++ [0]) → q + 1 ≤ n → n ≤ maxLen → Calls Tryd.prog 13 #[.agg #[.int .i64 z, .int .i64 d, .int .i64 s, .int .i64 l, .int .i64 a], .slice A (q + 1) n] W fun e w' => AnsA W.heap.size noAnc 4 e w' ∧ Below W.heap.size W w' from fun W A n hW h1 h2 h3 =>
    read_not hV z d s l a A n (q + 1) _ W (tn HT.out hW) ho (by rw [List.length_append, hq]; rfl) h1 h2 h3 (by omega) fun v hv => more_none ho hg hv)
  have HX := Lib.hid hx
  have HY := Lib.hid hy
  have HQ := Lib.hid hq
  have HQ2 := Lib.hid hq2
  have HSH := Lib.hid (show ∀ (u : AV), u.d = x.d → u.hs.length ≤ 1048576 ∧ HShort 1048576 u.hs from fun u hu => by
    obtain ⟨h1, h2, -⟩ := short_of ho hg hu
    exact ⟨h1, h2⟩)
  have HEN := Lib.hid (show decide (encA x.d = encA y.d) = c by
    rw [← hc]
    exact decide_eq_decide.2 (good_enc ho hg hg2))
  have HC := Lib.hid hc
  unfold AV.v
  have GG := ((g5_new w z d s l a).keep (bl (w.alloc (.cells #[.int .i64 z, .int .i64 d, .int .i64 s, .int .i64 l, .int .i64 a] 23)) (.cells #[.int .i64 x.gen, .int .i64 x.ep, .int .i64 x.pos, .int .i64 x.seq, .int .i64 x.last, .string x.lab, .slice x.HA x.hs.length x.hc] 26)) (by simp)).keep (bl ((w.alloc (.cells #[.int .i64 z, .int .i64 d, .int .i64 s, .int .i64 l, .int .i64 a] 23)).alloc (.cells #[.int .i64 x.gen, .int .i64 x.ep, .int .i64 x.pos, .int .i64 x.seq, .int .i64 x.last, .string x.lab, .slice x.HA x.hs.length x.hc] 26)) (.cells #[.int .i64 y.gen, .int .i64 y.ep, .int .i64 y.pos, .int .i64 y.seq, .int .i64 y.last, .string y.lab, .slice y.HA y.hs.length y.hc] 26)) (by simp; omega)
  have FF := (ac_new (w.alloc (.cells #[.int .i64 z, .int .i64 d, .int .i64 s, .int .i64 l, .int .i64 a] 23)) x).keep (bl ((w.alloc (.cells #[.int .i64 z, .int .i64 d, .int .i64 s, .int .i64 l, .int .i64 a] 23)).alloc (.cells #[.int .i64 x.gen, .int .i64 x.ep, .int .i64 x.pos, .int .i64 x.seq, .int .i64 x.last, .string x.lab, .slice x.HA x.hs.length x.hc] 26)) (.cells #[.int .i64 y.gen, .int .i64 y.ep, .int .i64 y.pos, .int .i64 y.seq, .int .i64 y.last, .string y.lab, .slice y.HA y.hs.length y.hc] 26)) (by simp)
  have FB := ac_new ((w.alloc (.cells #[.int .i64 z, .int .i64 d, .int .i64 s, .int .i64 l, .int .i64 a] 23)).alloc (.cells #[.int .i64 x.gen, .int .i64 x.ep, .int .i64 x.pos, .int .i64 x.seq, .int .i64 x.last, .string x.lab, .slice x.HA x.hs.length x.hc] 26)) y
  have hb0 := kal (kal (bl w (.cells #[.int .i64 z, .int .i64 d, .int .i64 s, .int .i64 l, .int .i64 a] 23)) (.cells #[.int .i64 x.gen, .int .i64 x.ep, .int .i64 x.pos, .int .i64 x.seq, .int .i64 x.last, .string x.lab, .slice x.HA x.hs.length x.hc] 26)) (.cells #[.int .i64 y.gen, .int .i64 y.ep, .int .i64 y.pos, .int .i64 y.seq, .int .i64 y.last, .string y.lab, .slice y.HA y.hs.length y.hc] 26)
  rw [show (w.alloc (.cells #[.int .i64 z, .int .i64 d, .int .i64 s, .int .i64 l, .int .i64 a] 23)).heap.size = w.heap.size + 1 by simp] at FF
  rw [show ((w.alloc (.cells #[.int .i64 z, .int .i64 d, .int .i64 s, .int .i64 l, .int .i64 a] 23)).alloc (.cells #[.int .i64 x.gen, .int .i64 x.ep, .int .i64 x.pos, .int .i64 x.seq, .int .i64 x.last, .string x.lab, .slice x.HA x.hs.length x.hc] 26)).heap.size = w.heap.size + 2 by simp] at FB
  have l1 : w.heap.size + 2 < (((w.alloc (.cells #[.int .i64 z, .int .i64 d, .int .i64 s, .int .i64 l, .int .i64 a] 23)).alloc (.cells #[.int .i64 x.gen, .int .i64 x.ep, .int .i64 x.pos, .int .i64 x.seq, .int .i64 x.last, .string x.lab, .slice x.HA x.hs.length x.hc] 26)).alloc (.cells #[.int .i64 y.gen, .int .i64 y.ep, .int .i64 y.pos, .int .i64 y.seq, .int .i64 y.last, .string y.lab, .slice y.HA y.hs.length y.hc] 26)).heap.size := by simp
  unfold AV.v at cH cK HB HD
  clear hx hy hh hk hT hg hg2 ho hq hq2 hc
  go_enter Tryd.func4, Tryd.ntmps4
  go_upto_region 1 with fail
  generalize ((w.alloc (.cells #[.int .i64 z, .int .i64 d, .int .i64 s, .int .i64 l, .int .i64 a] 23)).alloc (.cells #[.int .i64 x.gen, .int .i64 x.ep, .int .i64 x.pos, .int .i64 x.seq, .int .i64 x.last, .string x.lab, .slice x.HA x.hs.length x.hc] 26)).alloc (.cells #[.int .i64 y.gen, .int .i64 y.ep, .int .i64 y.pos, .int .i64 y.seq, .int .i64 y.last, .string y.lab, .slice y.HA y.hs.length y.hc] 26) = w0 at *
  obtain ⟨c0, c1, c2, c3, c4, c5, c6⟩ := id FF; obtain ⟨b0, b1, b2, b3, b4, b5, b6⟩ := id FB
  obtain ⟨g0, g1, g2, g3, g4⟩ := id GG
  go_upto_region 5 with (first
    | (go_at_call 9; (with_reducible refine (cH _ hb0).mono ?_); rintro e wq ⟨rfl, hbq⟩; replace FF := FF.keep hbq (by omega); replace FB := FB.keep hbq (by omega); replace GG := GG.keep hbq (by omega); replace l1 := Nat.lt_of_lt_of_le l1 hbq.size; clear c0 c1 c2 c3 c4 c5 c6 b0 b1 b2 b3 b4 b5 b6 g0 g1 g2 g3 g4; obtain ⟨c0, c1, c2, c3, c4, c5, c6⟩ := id FF; obtain ⟨b0, b1, b2, b3, b4, b5, b6⟩ := id FB; obtain ⟨g0, g1, g2, g3, g4⟩ := id GG; replace hb0 := bt hb0 hbq; clear hbq)
    | (go_at_call 9; (with_reducible refine (cK _ hb0).mono ?_); rintro e wq ⟨rfl, hbq⟩; replace FF := FF.keep hbq (by omega); replace FB := FB.keep hbq (by omega); replace GG := GG.keep hbq (by omega); replace l1 := Nat.lt_of_lt_of_le l1 hbq.size; clear c0 c1 c2 c3 c4 c5 c6 b0 b1 b2 b3 b4 b5 b6 g0 g1 g2 g3 g4; obtain ⟨c0, c1, c2, c3, c4, c5, c6⟩ := id FF; obtain ⟨b0, b1, b2, b3, b4, b5, b6⟩ := id FB; obtain ⟨g0, g1, g2, g3, g4⟩ := id GG; replace hb0 := bt hb0 hbq; clear hbq)
    | (go_at_call 12; (with_reducible refine (HB.out _ hb0).mono ?_); rintro e wB ⟨⟨X5, y5, rfl, -, p5⟩, hbq⟩; obtain ⟨X5', y5', hv5, k5, m5, s5, -⟩ := p5.form; simp only [Value.slice.injEq] at hv5; obtain ⟨rfl, -, rfl⟩ := hv5; replace FF := FF.keep hbq (by omega); replace FB := FB.keep hbq (by omega); replace GG := GG.keep hbq (by omega); replace l1 := Nat.lt_of_lt_of_le l1 hbq.size; clear c0 c1 c2 c3 c4 c5 c6 b0 b1 b2 b3 b4 b5 b6 g0 g1 g2 g3 g4; obtain ⟨c0, c1, c2, c3, c4, c5, c6⟩ := id FF; obtain ⟨b0, b1, b2, b3, b4, b5, b6⟩ := id FB; obtain ⟨g0, g1, g2, g3, g4⟩ := id GG; replace hb0 := bt hb0 hbq; clear hbq)
    | (go_at_call 12; (with_reducible refine (HD.out _ hb0).mono ?_); rintro e wD ⟨⟨X6, y6, rfl, -, p6⟩, hbq⟩; obtain ⟨X6', y6', hv6, k6, m6, s6, -⟩ := p6.form; simp only [Value.slice.injEq] at hv6; obtain ⟨rfl, -, rfl⟩ := hv6; have s5 := s5.next hbq; replace FF := FF.keep hbq (by omega); replace FB := FB.keep hbq (by omega); replace GG := GG.keep hbq (by omega); replace l1 := Nat.lt_of_lt_of_le l1 hbq.size; clear c0 c1 c2 c3 c4 c5 c6 b0 b1 b2 b3 b4 b5 b6 g0 g1 g2 g3 g4; obtain ⟨c0, c1, c2, c3, c4, c5, c6⟩ := id FF; obtain ⟨b0, b1, b2, b3, b4, b5, b6⟩ := id FB; obtain ⟨g0, g1, g2, g3, g4⟩ := id GG; replace hb0 := bt hb0 hbq; clear hbq))
  clear HB HD cH cK p5 p6
  rw [HQ.out] at k5
  rw [HQ2.out] at k6
  have q0 : ¬ (q : Int) = 0 := by omega
  have q1 : ((q : Int) == 0) = false := beq_eq_false_iff_ne.2 q0
  have q2' : ¬ (96 : Int) < (q : Int) := by omega
  have HQ3 := Lib.hid (show decide ((96 : Int) < (q : Int)) = false from decide_eq_false q2')
  obtain ⟨bX, oX, rfl, -, -⟩ := s5 (by rw [HQ.out]; omega)
  go_upto_region 8 with (go_at_call 13; (with_reducible refine (HR.out _ _ _ hb0 s5 k5 m5).mono ?_); rintro e wR ⟨⟨u, heu, hud, huo⟩, hbq⟩; rw [AV.v] at heu; subst heu; have s5 := s5.next hbq; have s6 := s6.next hbq; replace FF := FF.keep hbq (by omega); replace FB := FB.keep hbq (by omega); replace GG := GG.keep hbq (by omega); replace l1 := Nat.lt_of_lt_of_le l1 hbq.size; clear c0 c1 c2 c3 c4 c5 c6 b0 b1 b2 b3 b4 b5 b6 g0 g1 g2 g3 g4; obtain ⟨c0, c1, c2, c3, c4, c5, c6⟩ := id FF; obtain ⟨b0, b1, b2, b3, b4, b5, b6⟩ := id FB; obtain ⟨g0, g1, g2, g3, g4⟩ := id GG; replace hb0 := bt hb0 hbq; clear hbq)
  have hx6 := bl wR (.cells #[.int .i64 u.gen, .int .i64 u.ep, .int .i64 u.pos, .int .i64 u.seq, .int .i64 u.last, .string u.lab, .slice u.HA u.hs.length u.hc] 26)
  have FU := ac_new wR u
  have lU : wR.heap.size < (wR.alloc (.cells #[.int .i64 u.gen, .int .i64 u.ep, .int .i64 u.pos, .int .i64 u.seq, .int .i64 u.last, .string u.lab, .slice u.HA u.hs.length u.hc] 26)).heap.size := by simp
  have HUO := Lib.hid (AV.Own.inn (OwnH.below huo hx6))
  have HUD := Lib.hid hud
  have s5n := s5.next hx6
  have s6n := s6.next hx6
  replace FF := FF.keep hx6 (by omega)
  replace FB := FB.keep hx6 l1
  replace GG := GG.keep hx6 (by omega)
  replace hb0 := bt hb0 hx6
  obtain ⟨gu, hgu⟩ : ∃ g, g = wR.heap.size := ⟨_, rfl⟩
  rw [← hgu] at FU lU ⊢
  replace l1 : w.heap.size + 2 < (wR.alloc (.cells #[.int .i64 u.gen, .int .i64 u.ep, .int .i64 u.pos, .int .i64 u.seq, .int .i64 u.last, .string u.lab, .slice u.HA u.hs.length u.hc] 26)).heap.size := Nat.lt_of_lt_of_le l1 hx6.size
  clear c0 c1 c2 c3 c4 c5 c6 b0 b1 b2 b3 b4 b5 b6 g0 g1 g2 g3 g4
  clear huo hud hx6 hgu HR s5 s6
  generalize wR.alloc (.cells #[.int .i64 u.gen, .int .i64 u.ep, .int .i64 u.pos, .int .i64 u.seq, .int .i64 u.last, .string u.lab, .slice u.HA u.hs.length u.hc] 26) = w4 at *
  have HA1 := Lib.hid (show ∀ W, Below w4.heap.size w4 W → Calls Tryd.prog 16 #[u.v, x.v] W fun e w' => e = .returned (.bool true) ∧ Below W.heap.size W w' from fun W hW => by
    have h := anchor_any u x W (HUO.out.next hW) (HX.out.next (bt hb0 hW)) (HSH.out u HUD.out).1 (HSH.out u HUD.out).2
    rwa [decide_eq_true HUD.out] at h)
  have HA2 := Lib.hid (show ∀ W, Below w4.heap.size w4 W → Calls Tryd.prog 22 #[.slice (some ⟨bX, oX, none⟩) q y5, .slice X6 q2 y6] W fun e w' => e = .returned (.bool c) ∧ Below W.heap.size W w' from fun W hW => by
    have h := keep_any (some ⟨bX, oX, none⟩) X6 y5 y6 _ _ (encA x.d) (encA y.d) W (s5n.next hW) (s6n.next hW) (Nat.le_refl _) (Nat.le_refl _) (by rw [HQ.out]; omega)
    rwa [HEN.out, HQ.out, HQ2.out] at h)
  have HA3 := Lib.hid (show ∀ W, Below w4.heap.size w4 W → Calls Tryd.prog 16 #[x.v, y.v] W fun e w' => e = .returned (.bool c) ∧ Below W.heap.size W w' from fun W hW => by
    have h := anchor_any x y W (HX.out.next (bt hb0 hW)) (HY.out.next (bt hb0 hW)) (HSH.out x rfl).1 (HSH.out x rfl).2
    rwa [HC.out] at h)
  unfold AV.v at HA1 HA3
  go_cut [94] from 68 to 94 (fun v wx => v = .bool false ∧ Below w4.heap.size w4 wx)
  case first =>
    have HF := Lib.hid (show ∀ W, Below w4.heap.size w4 W → W.cell? ⟨w.heap.size + 1, 0, none⟩ = some (.int .i64 x.gen) ∧ W.cell? ⟨w.heap.size + 1, 1, none⟩ = some (.int .i64 x.ep) ∧ W.cell? ⟨w.heap.size + 1, 2, none⟩ = some (.int .i64 x.pos) ∧ W.cell? ⟨w.heap.size + 1, 3, none⟩ = some (.int .i64 x.seq) ∧ W.cell? ⟨w.heap.size + 1, 4, none⟩ = some (.int .i64 x.last) ∧ W.cell? ⟨w.heap.size + 1, 5, none⟩ = some (.string x.lab) ∧ W.cell? ⟨w.heap.size + 1, 6, none⟩ = some (.slice x.HA x.hs.length x.hc) ∧ W.cell? ⟨w.heap.size + 2, 0, none⟩ = some (.int .i64 y.gen) ∧ W.cell? ⟨w.heap.size + 2, 1, none⟩ = some (.int .i64 y.ep) ∧ W.cell? ⟨w.heap.size + 2, 2, none⟩ = some (.int .i64 y.pos) ∧ W.cell? ⟨w.heap.size + 2, 3, none⟩ = some (.int .i64 y.seq) ∧ W.cell? ⟨w.heap.size + 2, 4, none⟩ = some (.int .i64 y.last) ∧ W.cell? ⟨w.heap.size + 2, 5, none⟩ = some (.string y.lab) ∧ W.cell? ⟨w.heap.size + 2, 6, none⟩ = some (.slice y.HA y.hs.length y.hc) ∧ W.cell? ⟨gu, 0, none⟩ = some (.int .i64 u.gen) ∧ W.cell? ⟨gu, 1, none⟩ = some (.int .i64 u.ep) ∧ W.cell? ⟨gu, 2, none⟩ = some (.int .i64 u.pos) ∧ W.cell? ⟨gu, 3, none⟩ = some (.int .i64 u.seq) ∧ W.cell? ⟨gu, 4, none⟩ = some (.int .i64 u.last) ∧ W.cell? ⟨gu, 5, none⟩ = some (.string u.lab) ∧ W.cell? ⟨gu, 6, none⟩ = some (.slice u.HA u.hs.length u.hc) ∧ Below w4.heap.size w4 W from fun W h => by
      obtain ⟨c0, c1, c2, c3, c4, c5, c6⟩ := id FF
      obtain ⟨b0, b1, b2, b3, b4, b5, b6⟩ := id FB
      obtain ⟨u0, u1, u2, u3, u4, u5, u6⟩ := id FU
      exact ⟨kst h (by omega) c0, kst h (by omega) c1, kst h (by omega) c2, kst h (by omega) c3, kst h (by omega) c4, kst h (by omega) c5, kst h (by omega) c6, kst h (by omega) b0, kst h (by omega) b1, kst h (by omega) b2, kst h (by omega) b3, kst h (by omega) b4, kst h (by omega) b5, kst h (by omega) b6, kst h (by omega) u0, kst h (by omega) u1, kst h (by omega) u2, kst h (by omega) u3, kst h (by omega) u4, kst h (by omega) u5, kst h (by omega) u6, h⟩)
    clear FF FB FU GG s5n s6n HQ HQ2 HRC HRM HSH HEN HX HY HC
    cases c
    · skip
      go_region_held3 (fun W => W.cell? ⟨w.heap.size + 1, 0, none⟩ = some (.int .i64 x.gen) ∧ W.cell? ⟨w.heap.size + 1, 1, none⟩ = some (.int .i64 x.ep) ∧ W.cell? ⟨w.heap.size + 1, 2, none⟩ = some (.int .i64 x.pos) ∧ W.cell? ⟨w.heap.size + 1, 3, none⟩ = some (.int .i64 x.seq) ∧ W.cell? ⟨w.heap.size + 1, 4, none⟩ = some (.int .i64 x.last) ∧ W.cell? ⟨w.heap.size + 1, 5, none⟩ = some (.string x.lab) ∧ W.cell? ⟨w.heap.size + 1, 6, none⟩ = some (.slice x.HA x.hs.length x.hc) ∧ W.cell? ⟨w.heap.size + 2, 0, none⟩ = some (.int .i64 y.gen) ∧ W.cell? ⟨w.heap.size + 2, 1, none⟩ = some (.int .i64 y.ep) ∧ W.cell? ⟨w.heap.size + 2, 2, none⟩ = some (.int .i64 y.pos) ∧ W.cell? ⟨w.heap.size + 2, 3, none⟩ = some (.int .i64 y.seq) ∧ W.cell? ⟨w.heap.size + 2, 4, none⟩ = some (.int .i64 y.last) ∧ W.cell? ⟨w.heap.size + 2, 5, none⟩ = some (.string y.lab) ∧ W.cell? ⟨w.heap.size + 2, 6, none⟩ = some (.slice y.HA y.hs.length y.hc) ∧ W.cell? ⟨gu, 0, none⟩ = some (.int .i64 u.gen) ∧ W.cell? ⟨gu, 1, none⟩ = some (.int .i64 u.ep) ∧ W.cell? ⟨gu, 2, none⟩ = some (.int .i64 u.pos) ∧ W.cell? ⟨gu, 3, none⟩ = some (.int .i64 u.seq) ∧ W.cell? ⟨gu, 4, none⟩ = some (.int .i64 u.last) ∧ W.cell? ⟨gu, 5, none⟩ = some (.string u.lab) ∧ W.cell? ⟨gu, 6, none⟩ = some (.slice u.HA u.hs.length u.hc) ∧ Below w4.heap.size w4 W)
        ((first
          | exact HF.out _ (below_dr (Below.refl _ _))
          | exact HF.out _ hb3
          | exact HF.out _ hb2
          | exact HF.out _ hb1
          | fail))
        (first
          | (go_at_call 16; (with_reducible refine (HA1.out _ (below_dr (Below.refl _ _))).mono ?_); rintro e wq1 ⟨rfl, hbq⟩; have hb1 := bt (below_dr (Below.refl w4.heap.size w4)) hbq; clear hbq)
          | (go_at_call 22; (with_reducible refine (HA2.out _ hb1).mono ?_); rintro e wq2 ⟨rfl, hbq⟩; have hb2 := bt hb1 hbq; clear hbq)
          | (go_at_call 16; (with_reducible refine (HA3.out _ hb2).mono ?_); rintro e wq3 ⟨rfl, hbq⟩; have hb3 := bt hb2 hbq; clear hbq)
          | fail)
      all_goals (go_wp2_with fail; go_meet)
      all_goals exact ⟨congrArg Value.bool HQ3.out, hb3⟩
    · skip
      go_region_held3 (fun W => W.cell? ⟨w.heap.size + 1, 0, none⟩ = some (.int .i64 x.gen) ∧ W.cell? ⟨w.heap.size + 1, 1, none⟩ = some (.int .i64 x.ep) ∧ W.cell? ⟨w.heap.size + 1, 2, none⟩ = some (.int .i64 x.pos) ∧ W.cell? ⟨w.heap.size + 1, 3, none⟩ = some (.int .i64 x.seq) ∧ W.cell? ⟨w.heap.size + 1, 4, none⟩ = some (.int .i64 x.last) ∧ W.cell? ⟨w.heap.size + 1, 5, none⟩ = some (.string x.lab) ∧ W.cell? ⟨w.heap.size + 1, 6, none⟩ = some (.slice x.HA x.hs.length x.hc) ∧ W.cell? ⟨w.heap.size + 2, 0, none⟩ = some (.int .i64 y.gen) ∧ W.cell? ⟨w.heap.size + 2, 1, none⟩ = some (.int .i64 y.ep) ∧ W.cell? ⟨w.heap.size + 2, 2, none⟩ = some (.int .i64 y.pos) ∧ W.cell? ⟨w.heap.size + 2, 3, none⟩ = some (.int .i64 y.seq) ∧ W.cell? ⟨w.heap.size + 2, 4, none⟩ = some (.int .i64 y.last) ∧ W.cell? ⟨w.heap.size + 2, 5, none⟩ = some (.string y.lab) ∧ W.cell? ⟨w.heap.size + 2, 6, none⟩ = some (.slice y.HA y.hs.length y.hc) ∧ W.cell? ⟨gu, 0, none⟩ = some (.int .i64 u.gen) ∧ W.cell? ⟨gu, 1, none⟩ = some (.int .i64 u.ep) ∧ W.cell? ⟨gu, 2, none⟩ = some (.int .i64 u.pos) ∧ W.cell? ⟨gu, 3, none⟩ = some (.int .i64 u.seq) ∧ W.cell? ⟨gu, 4, none⟩ = some (.int .i64 u.last) ∧ W.cell? ⟨gu, 5, none⟩ = some (.string u.lab) ∧ W.cell? ⟨gu, 6, none⟩ = some (.slice u.HA u.hs.length u.hc) ∧ Below w4.heap.size w4 W)
        ((first
          | exact HF.out _ (below_dr (Below.refl _ _))
          | exact HF.out _ hb3
          | exact HF.out _ hb2
          | exact HF.out _ hb1
          | fail))
        (first
          | (go_at_call 16; (with_reducible refine (HA1.out _ (below_dr (Below.refl _ _))).mono ?_); rintro e wq1 ⟨rfl, hbq⟩; have hb1 := bt (below_dr (Below.refl w4.heap.size w4)) hbq; clear hbq)
          | (go_at_call 22; (with_reducible refine (HA2.out _ hb1).mono ?_); rintro e wq2 ⟨rfl, hbq⟩; have hb2 := bt hb1 hbq; clear hbq)
          | (go_at_call 16; (with_reducible refine (HA3.out _ hb2).mono ?_); rintro e wq3 ⟨rfl, hbq⟩; have hb3 := bt hb2 hbq; clear hbq)
          | fail)
      all_goals (go_wp2_with fail; go_meet)
      all_goals exact ⟨congrArg Value.bool HQ3.out, hb3⟩
  case rest =>
    obtain ⟨w5, rfl⟩ : ∃ x, x = wc := ⟨wc, rfl⟩
    obtain ⟨rfl, hb5⟩ := hcut
    have GG5 := GG.keep hb5 (by omega)
    have s55 := s5n.next hb5
    have l5 := hb5.size
    have hb05 := bt hb0 hb5
    clear FF FB FU GG s5n s6n HA1 HA2 HA3 hb5
    go_upto_region 10 with fail
    obtain ⟨w5', hw5⟩ : ∃ x, x = w5 := ⟨w5, rfl⟩
    go_cut [16] from 96 to 108 (fun v wx => v = .int .i64 4 ∧ Below w5.heap.size w5 wx)
    case first =>
      obtain ⟨g0, g1, g2, g3, g4⟩ := id GG5
      have HF := Lib.hid (show ∀ W, Below w5.heap.size w5 W → W.cell? ⟨w.heap.size, 0, none⟩ = some (.int .i64 z) ∧ W.cell? ⟨w.heap.size, 1, none⟩ = some (.int .i64 d) ∧ W.cell? ⟨w.heap.size, 2, none⟩ = some (.int .i64 s) ∧ W.cell? ⟨w.heap.size, 3, none⟩ = some (.int .i64 l) ∧ W.cell? ⟨w.heap.size, 4, none⟩ = some (.int .i64 a) ∧ Below w5.heap.size w5 W from fun W h => ⟨kst h (by omega) g0, kst h (by omega) g1, kst h (by omega) g2, kst h (by omega) g3, kst h (by omega) g4, h⟩)
      have HR2 := Lib.hid (show ∀ W, Below w5.heap.size w5 W → Calls Tryd.prog 13 #[.agg #[.int .i64 z, .int .i64 d, .int .i64 s, .int .i64 l, .int .i64 a], .slice (some ⟨bX, oX, none⟩) k y5] W fun e w' => AnsA W.heap.size noAnc 4 e w' ∧ Below W.heap.size W w' from fun W hW => HRC.out W _ _ (bt hb05 hW) (s55.next hW) k5 m5)
      have wq : IntKind.u64.wrap (q : Int) = q := IntWalk.u64_in _ (by omega)
      have wk1 : IntKind.u64.wrap (k : Int) = k := IntWalk.u64_in _ (by omega)
      have wk2 : IntKind.i64.wrap (k : Int) = k := IntWalk.i64_in _ (by omega)
      have b1' : (0 : Int) ≤ (k : Int) := by omega
      have b2' : (k : Int) ≤ (y5 : Int) := by omega
      have b3' : (k : Int) ≤ (q : Int) := by omega
      have b4' : ((k : Int)).toNat = k := by omega
      have q0i : ((q : Int) == 0) = false := beq_eq_false_iff_ne.2 q0
      have q0n : ¬ q = 0 := by omega
      have q0b : (q == 0) = false := beq_eq_false_iff_ne.2 q0n
      clear g0 g1 g2 g3 g4 GG5 s55
      go_region_held3 (fun W => W.cell? ⟨w.heap.size, 0, none⟩ = some (.int .i64 z) ∧ W.cell? ⟨w.heap.size, 1, none⟩ = some (.int .i64 d) ∧ W.cell? ⟨w.heap.size, 2, none⟩ = some (.int .i64 s) ∧ W.cell? ⟨w.heap.size, 3, none⟩ = some (.int .i64 l) ∧ W.cell? ⟨w.heap.size, 4, none⟩ = some (.int .i64 a) ∧ Below w5.heap.size w5 W)
        ((refine HF.out _ ?_; first
          | with_reducible exact below_set7 (below_dr hb1) (Nat.le_refl _)
          | with_reducible exact below_set7 hb1 (Nat.le_refl _)
          | with_reducible exact hb1
          | with_reducible exact below_dr hb1
          | with_reducible exact kal (below_dr hb1) _
          | with_reducible exact kal hb1 _
          | with_reducible exact below_dr (bl w5 _)
          | with_reducible exact bl w5 _
          | with_reducible exact below_dr (Below.refl _ _)
          | with_reducible exact Below.refl _ _
          | fail))
        (first
          | (go_at_call 13; (with_reducible refine (HR2.out _ (below_dr (Below.refl _ _))).mono ?_); rintro e wq1 ⟨⟨u1, heu, -, -⟩, hbq⟩; rw [AV.v] at heu; subst heu; have hb1 := bt (below_dr (Below.refl w5.heap.size w5)) hbq; clear hbq)
          | (go_at_call 13; (with_reducible refine (HR2.out _ (below_dr (bl w5 _))).mono ?_); rintro e wq1 ⟨⟨u1, heu, -, -⟩, hbq⟩; rw [AV.v] at heu; subst heu; have hb1 := bt (below_dr (bl w5 _)) hbq; obtain ⟨z0, z1, z2, z3, z4, z5, z6, f0, f1, f2, f3, f4, f5, f6⟩ := (sev_new w5 (.int .i64 0) (.int .i64 0) (.int .i64 0) (.int .i64 0) (.int .i64 0) (.string ⟨#[]⟩) (.slice none 0 0) 26).keep (B := (w5.alloc (.cells #[.int .i64 0, .int .i64 0, .int .i64 0, .int .i64 0, .int .i64 0, .string ⟨#[]⟩, .slice none 0 0] 26)).heap.size) (below_dr (Below.refl _ _)) (by simp) |>.keep hbq (by simp); clear hbq)
          | fail)
      all_goals (go_wp2_with fail; go_meet)
      all_goals (refine ⟨rfl, ?_⟩; first | with_reducible exact below_set7 (below_dr hb1) (Nat.le_refl _) | with_reducible exact below_set7 hb1 (Nat.le_refl _) | with_reducible exact kal hb1 _ | with_reducible exact kal (below_dr hb1) _)
    case rest =>
      obtain ⟨w6, rfl⟩ : ∃ x, x = wc := ⟨wc, rfl⟩
      obtain ⟨rfl, hb6⟩ := hcut
      have GG6 := GG5.keep hb6 (by omega)
      have s66 := s55.next hb6
      have hb06 := bt hb05 hb6
      have l6 : w.heap.size + 2 < w6.heap.size := by have := hb6.size; omega
      clear GG5 s55 hb6 HRC
      go_upto_region 11 with fail
      go_cut [18] from 110 to 117 (fun v wx => v = .int .i64 4 ∧ Below w6.heap.size w6 wx)
      case first =>
        obtain ⟨g0, g1, g2, g3, g4⟩ := id GG6
        have HF := Lib.hid (show ∀ W, Below w6.heap.size w6 W → W.cell? ⟨w.heap.size, 0, none⟩ = some (.int .i64 z) ∧ W.cell? ⟨w.heap.size, 1, none⟩ = some (.int .i64 d) ∧ W.cell? ⟨w.heap.size, 2, none⟩ = some (.int .i64 s) ∧ W.cell? ⟨w.heap.size, 3, none⟩ = some (.int .i64 l) ∧ W.cell? ⟨w.heap.size, 4, none⟩ = some (.int .i64 a) ∧ Below w6.heap.size w6 W from fun W h => ⟨kst h (by omega) g0, kst h (by omega) g1, kst h (by omega) g2, kst h (by omega) g3, kst h (by omega) g4, h⟩)
        have HT2 := Lib.hid (show ∀ W, Below w6.heap.size w6 W → Calls Tryd.prog 24 #[.slice (some ⟨bX, oX, none⟩) q y5] W fun e w' => One W.heap.size (encA x.d) e w' ∧ Below W.heap.size W w' ∧ Below w6.heap.size w6 w' ∧ w6.heap.size ≤ W.heap.size from fun W hW => by
          have h := twin_any (some ⟨bX, oX, none⟩) y5 _ (encA x.d) W (s66.next hW) (by rw [HQ.out]; omega)
          rw [HQ.out] at h
          exact h.mono fun e w' h => ⟨h.1, h.2, bt hW h.2, hW.size⟩)
        have HR3 := Lib.hid (show ∀ (W : World) (A : Option Addr) (n : Nat), Below w6.heap.size w6 W → Sl W W.heap.size A (encA x.d ++ [0]) → q + 1 ≤ n → n ≤ maxLen → Calls Tryd.prog 13 #[.agg #[.int .i64 z, .int .i64 d, .int .i64 s, .int .i64 l, .int .i64 a], .slice A (q + 1) n] W fun e w' => AnsA W.heap.size noAnc 4 e w' ∧ Below W.heap.size W w' ∧ Below w6.heap.size w6 w' from fun W A n hW h1 h2 h3 =>
          (HRM.out W A n (bt hb06 hW) h1 h2 h3).mono fun e w' h => ⟨h.1, h.2, bt hW h.2⟩)
        have HSZ := Lib.hid (show ∀ (W : World) (o : Obj), (W.alloc o).heap.size = W.heap.size + 1 from fun W o => by simp)
        have HQM := Lib.hid (show (encA x.d ++ [0]).length = q + 1 by rw [List.length_append, HQ.out]; rfl)
        clear g0 g1 g2 g3 g4 GG6 s66 HRM
        go_region_held3 (fun W => W.cell? ⟨w.heap.size, 0, none⟩ = some (.int .i64 z) ∧ W.cell? ⟨w.heap.size, 1, none⟩ = some (.int .i64 d) ∧ W.cell? ⟨w.heap.size, 2, none⟩ = some (.int .i64 s) ∧ W.cell? ⟨w.heap.size, 3, none⟩ = some (.int .i64 l) ∧ W.cell? ⟨w.heap.size, 4, none⟩ = some (.int .i64 a) ∧ Below w6.heap.size w6 W)
          ((refine HF.out _ ?_; first
          | (with_reducible refine below_set7 hb ?_; omega)
          | (with_reducible refine below_set7 (below_dr hb) ?_; omega)
          | (first | with_reducible exact hb | with_reducible exact below_dr hb | with_reducible exact kal hb _ | with_reducible exact below_dr (kal hb _) | with_reducible exact kal (kal hb _) _ | with_reducible exact below_dr (kal (kal hb _) _) | with_reducible exact bl w6 _ | with_reducible exact below_dr (bl w6 _) | with_reducible exact kal (bl w6 _) _ | with_reducible exact below_dr (kal (bl w6 _) _) | with_reducible exact below_dr (Below.refl _ _) | with_reducible exact Below.refl _ _ | fail)))
          (first
            | (go_at_call 24; (with_reducible refine (HT2.out _ ?_).mono ?_); (focus (first | with_reducible exact hb | with_reducible exact below_dr hb | with_reducible exact kal hb _ | with_reducible exact below_dr (kal hb _) | with_reducible exact kal (kal hb _) _ | with_reducible exact below_dr (kal (kal hb _) _) | with_reducible exact bl w6 _ | with_reducible exact below_dr (bl w6 _) | with_reducible exact kal (bl w6 _) _ | with_reducible exact below_dr (kal (bl w6 _) _) | with_reducible exact below_dr (Below.refl _ _) | with_reducible exact Below.refl _ _ | fail)); rintro e w1 ⟨⟨v2, rfl, o2⟩, hbq, hb, hle⟩; have hs1 := hb.size; (first | (have hzn : Zer w1 (w6.heap.size) := ?_; rotate_left; (focus (refine Zer.nx ?_ hbq; (first | with_reducible exact hz | with_reducible exact hz.dr | with_reducible exact hz.al _ | with_reducible exact (hz.al _).dr | (with_reducible refine zer_at ?_; (first | rfl | (simp; done))) | (with_reducible refine (zer_at ?_).dr; (first | rfl | (simp; done))) | (with_reducible refine (zer_at ?_).al _; (first | rfl | (simp; done))) | (with_reducible refine ((zer_at ?_).al _).dr; (first | rfl | (simp; done))) | fail); done))) | (have hzn : Zer w1 (w6.heap.size + 1) := ?_; rotate_left; (focus (refine Zer.nx ?_ hbq; (first | with_reducible exact hz | with_reducible exact hz.dr | with_reducible exact hz.al _ | with_reducible exact (hz.al _).dr | (with_reducible refine zer_at ?_; (first | rfl | (simp; done))) | (with_reducible refine (zer_at ?_).dr; (first | rfl | (simp; done))) | (with_reducible refine (zer_at ?_).al _; (first | rfl | (simp; done))) | (with_reducible refine ((zer_at ?_).al _).dr; (first | rfl | (simp; done))) | fail); done))) | have hzn := True.intro); have hz := hzn; clear hzn)
            | (refine step_app8 _ rfl (.tmp 112) (.tmp 113) _ _ rfl w6.heap.size 5 t8 v2 (encA x.d) rfl ?_ _ [0] rfl ?_ ?_ ?_ ?_; (focus (first | with_reducible exact o2.less hle | with_reducible exact (o2.less hle).drew | with_reducible exact (o2.less hle).alloc _ | with_reducible exact ((o2.less hle).alloc _).drew | with_reducible exact ((o2.less hle).alloc _).alloc _ | with_reducible exact (((o2.less hle).alloc _).alloc _).drew | fail)); (focus (first | exact src_zero (u := .slice (some ⟨w1.heap.size, 0, none⟩) 1 1) rfl (blk_new rfl) | exact src_zero (u := .slice (some ⟨w1.heap.size, 0, none⟩) 1 1) rfl (blk_old (blk_new rfl)) | exact src_zero (u := .slice (some ⟨w1.heap.size + 1, 0, none⟩) 1 1) rfl (blk_new (HSZ.out _ _).symm) | exact src_zero (u := .slice (some ⟨w6.heap.size, 0, none⟩) 1 1) rfl (blk_next hbq (blk_drew (blk_new rfl))) | exact src_zero (u := .slice (some ⟨w6.heap.size, 0, none⟩) 1 1) rfl (blk_old (blk_next hbq (blk_drew (blk_new rfl)))) | exact src_zero (u := .slice (some ⟨w6.heap.size, 0, none⟩) 1 1) rfl (blk_next hbq (blk_drew (blk_old (blk_new rfl)))) | exact src_zero (u := .slice (some ⟨w6.heap.size, 0, none⟩) 1 1) rfl (blk_old (blk_next hbq (blk_drew (blk_old (blk_new rfl))))) | exact src_zero (u := .slice (some ⟨w6.heap.size + 1, 0, none⟩) 1 1) rfl (blk_next hbq (blk_drew (blk_new (HSZ.out _ _).symm))) | exact src_zero (u := .slice (some ⟨w6.heap.size + 1, 0, none⟩) 1 1) rfl (blk_old (blk_next hbq (blk_drew (blk_new (HSZ.out _ _).symm)))) | fail)); (focus (rw [HQ.out]; show q + 1 ≤ 140737488355328; omega)); (focus (refine Below.size (B := w6.heap.size) (w := w6) ?_; (first | with_reducible exact hb | with_reducible exact below_dr hb | with_reducible exact kal hb _ | with_reducible exact below_dr (kal hb _) | with_reducible exact kal (kal hb _) _ | with_reducible exact below_dr (kal (kal hb _) _) | with_reducible exact bl w6 _ | with_reducible exact below_dr (bl w6 _) | with_reducible exact kal (bl w6 _) _ | with_reducible exact below_dr (kal (bl w6 _) _) | with_reducible exact below_dr (Below.refl _ _) | with_reducible exact Below.refl _ _ | fail))); intro v4 w4 o4 hg4 hat4; have hbn : Below w6.heap.size w6 w4 := (by refine Below.grown ?_ hg4 ?_ ?_; (focus (first | with_reducible exact hb | with_reducible exact below_dr hb | with_reducible exact kal hb _ | with_reducible exact below_dr (kal hb _) | with_reducible exact kal (kal hb _) _ | with_reducible exact below_dr (kal (kal hb _) _) | with_reducible exact bl w6 _ | with_reducible exact below_dr (bl w6 _) | with_reducible exact kal (bl w6 _) _ | with_reducible exact below_dr (kal (bl w6 _) _) | with_reducible exact below_dr (Below.refl _ _) | with_reducible exact Below.refl _ _ | fail)); (focus (refine Below.size (B := w6.heap.size) (w := w6) ?_; (first | with_reducible exact hb | with_reducible exact below_dr hb | with_reducible exact kal hb _ | with_reducible exact below_dr (kal hb _) | with_reducible exact kal (kal hb _) _ | with_reducible exact below_dr (kal (kal hb _) _) | with_reducible exact bl w6 _ | with_reducible exact below_dr (bl w6 _) | with_reducible exact kal (bl w6 _) _ | with_reducible exact below_dr (kal (bl w6 _) _) | with_reducible exact below_dr (Below.refl _ _) | with_reducible exact Below.refl _ _ | fail))); (focus (intro k hk; exact Nat.le_trans hle (World.ownsRow.lt o2 k hk).1))); clear hb; have hb := hbn; clear hbn; have hs4 := hb.size; (first | (have hzn : Zer w4 (w6.heap.size) := ?_; rotate_left; (focus (refine Zer.gr ?_ hg4 ?_; (focus ((first | with_reducible exact hz | with_reducible exact hz.dr | with_reducible exact hz.al _ | with_reducible exact (hz.al _).dr | (with_reducible refine zer_at ?_; (first | rfl | (simp; done))) | (with_reducible refine (zer_at ?_).dr; (first | rfl | (simp; done))) | (with_reducible refine (zer_at ?_).al _; (first | rfl | (simp; done))) | (with_reducible refine ((zer_at ?_).al _).dr; (first | rfl | (simp; done))) | fail))); (focus (intro e; have h1 := (World.ownsRow.lt o2 _ e.symm).1; have h2 := (World.ownsRow.lt o2 _ e.symm).2; first | omega | (simp at h1; done) | (simp at h1; omega) | (simp at h2; done) | (simp at h1 h2; omega))); done))) | (have hzn : Zer w4 (w6.heap.size + 1) := ?_; rotate_left; (focus (refine Zer.gr ?_ hg4 ?_; (focus ((first | with_reducible exact hz | with_reducible exact hz.dr | with_reducible exact hz.al _ | with_reducible exact (hz.al _).dr | (with_reducible refine zer_at ?_; (first | rfl | (simp; done))) | (with_reducible refine (zer_at ?_).dr; (first | rfl | (simp; done))) | (with_reducible refine (zer_at ?_).al _; (first | rfl | (simp; done))) | (with_reducible refine ((zer_at ?_).al _).dr; (first | rfl | (simp; done))) | fail))); (focus (intro e; have h1 := (World.ownsRow.lt o2 _ e.symm).1; have h2 := (World.ownsRow.lt o2 _ e.symm).2; first | omega | (simp at h1; done) | (simp at h1; omega) | (simp at h2; done) | (simp at h1 h2; omega))); done))) | (have hzn : Zer w4 (w1.heap.size) := ?_; rotate_left; (focus (refine Zer.gr ?_ hg4 ?_; (focus ((first | with_reducible exact hz | with_reducible exact hz.dr | with_reducible exact hz.al _ | with_reducible exact (hz.al _).dr | (with_reducible refine zer_at ?_; (first | rfl | (simp; done))) | (with_reducible refine (zer_at ?_).dr; (first | rfl | (simp; done))) | (with_reducible refine (zer_at ?_).al _; (first | rfl | (simp; done))) | (with_reducible refine ((zer_at ?_).al _).dr; (first | rfl | (simp; done))) | fail))); (focus (intro e; have h1 := (World.ownsRow.lt o2 _ e.symm).1; have h2 := (World.ownsRow.lt o2 _ e.symm).2; first | omega | (simp at h1; done) | (simp at h1; omega) | (simp at h2; done) | (simp at h1 h2; omega))); done))) | (have hzn : Zer w4 (w1.heap.size + 1) := ?_; rotate_left; (focus (refine Zer.gr ?_ hg4 ?_; (focus ((first | with_reducible exact hz | with_reducible exact hz.dr | with_reducible exact hz.al _ | with_reducible exact (hz.al _).dr | (with_reducible refine zer_at ?_; (first | rfl | (simp; done))) | (with_reducible refine (zer_at ?_).dr; (first | rfl | (simp; done))) | (with_reducible refine (zer_at ?_).al _; (first | rfl | (simp; done))) | (with_reducible refine ((zer_at ?_).al _).dr; (first | rfl | (simp; done))) | fail))); (focus (intro e; have h1 := (World.ownsRow.lt o2 _ e.symm).1; have h2 := (World.ownsRow.lt o2 _ e.symm).2; first | omega | (simp at h1; done) | (simp at h1; omega) | (simp at h2; done) | (simp at h1 h2; omega))); done))) | have hzn := True.intro); clear hz; have hz := hzn; clear hzn; obtain ⟨X4, y4, rfl, o4'⟩ := own_q o4 HQM.out; obtain ⟨X4', y4', hv4, k4, m4, s4, -⟩ := o4'.form; simp only [Value.slice.injEq] at hv4; obtain ⟨rfl, -, rfl⟩ := hv4; rw [HQM.out] at k4)
            | (go_at_call 13; (with_reducible refine (HR3.out _ _ _ ?_ ?_ k4 m4).mono ?_); (focus (first | with_reducible exact hb | with_reducible exact below_dr hb | with_reducible exact kal hb _ | with_reducible exact below_dr (kal hb _) | with_reducible exact kal (kal hb _) _ | with_reducible exact below_dr (kal (kal hb _) _) | with_reducible exact bl w6 _ | with_reducible exact below_dr (bl w6 _) | with_reducible exact kal (bl w6 _) _ | with_reducible exact below_dr (kal (bl w6 _) _) | with_reducible exact below_dr (Below.refl _ _) | with_reducible exact Below.refl _ _ | fail)); (focus (first | with_reducible exact s4 | with_reducible exact s4.next (bl w4 _) | with_reducible exact s4.next (below_dr (bl w4 _)) | with_reducible exact s4.next (below_dr (Below.refl _ _)) | fail)); rintro e w7 ⟨⟨u1, heu, -, -⟩, hbr, hbn⟩; rw [AV.v] at heu; subst heu; clear hb; have hb := hbn; clear hbn; (first | (have hzn : Zer w7 (w6.heap.size) := ?_; rotate_left; (focus (refine Zer.nx ?_ hbr; (first | with_reducible exact hz | with_reducible exact hz.dr | with_reducible exact hz.al _ | with_reducible exact (hz.al _).dr | (with_reducible refine zer_at ?_; (first | rfl | (simp; done))) | (with_reducible refine (zer_at ?_).dr; (first | rfl | (simp; done))) | (with_reducible refine (zer_at ?_).al _; (first | rfl | (simp; done))) | (with_reducible refine ((zer_at ?_).al _).dr; (first | rfl | (simp; done))) | fail); done))) | (have hzn : Zer w7 (w6.heap.size + 1) := ?_; rotate_left; (focus (refine Zer.nx ?_ hbr; (first | with_reducible exact hz | with_reducible exact hz.dr | with_reducible exact hz.al _ | with_reducible exact (hz.al _).dr | (with_reducible refine zer_at ?_; (first | rfl | (simp; done))) | (with_reducible refine (zer_at ?_).dr; (first | rfl | (simp; done))) | (with_reducible refine (zer_at ?_).al _; (first | rfl | (simp; done))) | (with_reducible refine ((zer_at ?_).al _).dr; (first | rfl | (simp; done))) | fail); done))) | (have hzn : Zer w7 (w1.heap.size) := ?_; rotate_left; (focus (refine Zer.nx ?_ hbr; (first | with_reducible exact hz | with_reducible exact hz.dr | with_reducible exact hz.al _ | with_reducible exact (hz.al _).dr | (with_reducible refine zer_at ?_; (first | rfl | (simp; done))) | (with_reducible refine (zer_at ?_).dr; (first | rfl | (simp; done))) | (with_reducible refine (zer_at ?_).al _; (first | rfl | (simp; done))) | (with_reducible refine ((zer_at ?_).al _).dr; (first | rfl | (simp; done))) | fail); done))) | (have hzn : Zer w7 (w1.heap.size + 1) := ?_; rotate_left; (focus (refine Zer.nx ?_ hbr; (first | with_reducible exact hz | with_reducible exact hz.dr | with_reducible exact hz.al _ | with_reducible exact (hz.al _).dr | (with_reducible refine zer_at ?_; (first | rfl | (simp; done))) | (with_reducible refine (zer_at ?_).dr; (first | rfl | (simp; done))) | (with_reducible refine (zer_at ?_).al _; (first | rfl | (simp; done))) | (with_reducible refine ((zer_at ?_).al _).dr; (first | rfl | (simp; done))) | fail); done))) | (have hzn : Zer w7 (w4.heap.size) := ?_; rotate_left; (focus (refine Zer.nx ?_ hbr; (first | with_reducible exact hz | with_reducible exact hz.dr | with_reducible exact hz.al _ | with_reducible exact (hz.al _).dr | (with_reducible refine zer_at ?_; (first | rfl | (simp; done))) | (with_reducible refine (zer_at ?_).dr; (first | rfl | (simp; done))) | (with_reducible refine (zer_at ?_).al _; (first | rfl | (simp; done))) | (with_reducible refine ((zer_at ?_).al _).dr; (first | rfl | (simp; done))) | fail); done))) | have hzn := True.intro); clear hz; (try obtain ⟨z0, z1, z2, z3, z4, z5, z6, f0, f1, f2, f3, f4, f5, f6⟩ := hzn); (try clear hzn))
            | fail)
        all_goals (go_wp2_with fail; go_meet)
        all_goals (refine ⟨rfl, ?_⟩; first | (with_reducible refine below_set7 hb ?_; omega) | (with_reducible refine below_set7 (below_dr hb) ?_; omega) | (first | with_reducible exact hb | with_reducible exact below_dr hb | with_reducible exact kal hb _ | with_reducible exact below_dr (kal hb _) | with_reducible exact kal (kal hb _) _ | with_reducible exact below_dr (kal (kal hb _) _) | with_reducible exact bl w6 _ | with_reducible exact below_dr (bl w6 _) | with_reducible exact kal (bl w6 _) _ | with_reducible exact below_dr (kal (bl w6 _) _) | with_reducible exact below_dr (Below.refl _ _) | with_reducible exact Below.refl _ _ | fail))
      case rest =>
        obtain ⟨w7, rfl⟩ : ∃ x, x = wc := ⟨wc, rfl⟩
        obtain ⟨rfl, hb7⟩ := hcut
        have hb07 := bt hb06 hb7
        go_wp2_with (go_at_call 17; (with_reducible refine (wk_anc hV hC _ (tn HT.out hb07)).mono ?_); rintro e wz ⟨rfl, hbz⟩)
        go_ret
        exact ⟨rfl, bt hb07 hbz⟩
end Go.Proofs.YtkpbfhjpmhgmoaaDoor.anc
