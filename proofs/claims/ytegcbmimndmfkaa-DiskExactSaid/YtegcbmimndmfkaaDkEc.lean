/-
  The document's disk: Read. Conditions: a valid disk; a cell's address.
-/
import Derived.Test.YtegcbmimndmfkaaDkEb
import Derived.Test.YtegcbmimndmfkaaDkKm
namespace Go.Proofs.Ytegcbmimndmfkaa.dsk
open Go.RowKit Go.Lib

theorem lastW_app (xs ys : List Wri) (a : Int) : lastW (xs ++ ys) a = match lastW ys a with
    | some b => some b
    | none => lastW xs a := by
  induction xs with
  | nil =>
    rw [List.nil_append]
    cases lastW ys a <;> rfl
  | cons x xs ih =>
    rw [List.cons_append, lastW, ih, lastW]
    cases lastW ys a with
    | some b => rfl
    | none => rfl
theorem lastW_drop {ws : List Wri} {k : Nat} {x : Wri} (h : ws[k]? = some x) (a : Int) (hn : lastW (ws.drop (k + 1)) a = none) : lastW (ws.drop k) a = if x.addr = a then some x.bs else none := by
  obtain ⟨hk, rfl⟩ := List.getElem?_eq_some_iff.1 h
  rw [List.drop_eq_getElem_cons hk, lastW, hn]
theorem lastW_hit {ws : List Wri} {k : Nat} {b : List UInt8} {a : Int} (h : lastW (ws.drop k) a = some b) : lastW ws a = some b := by
  have e := lastW_app (ws.take k) (ws.drop k) a
  rw [List.take_append_drop, h] at e
  exact e
/-- Two cells of a block. -/
structure TwoC (W : World) (g : Nat) (a b : Value) : Prop where
  c0 : W.cell? ⟨g, 0, none⟩ = some a
  c1 : W.cell? ⟨g, 1, none⟩ = some b
  f0 : W.frozen? ⟨g, 0, none⟩ = false
  f1 : W.frozen? ⟨g, 1, none⟩ = false
section
variable {W W' : World} {gr : Nat} {a b : Value}
theorem twoC_new (w : World) (a b : Value) (t : TypeId) : TwoC (w.alloc (.cells #[a, b] t)) w.heap.size a b :=
  ⟨(two_new w a b t).1, (two_new w a b t).2, World.frozen?_alloc_new _ _ _ _, World.frozen?_alloc_new _ _ _ _⟩
theorem TwoC.keep {B : Nat} (h : TwoC W gr a b) (hb : Below B W W') (hg : gr < B) : TwoC W' gr a b :=
  ⟨(hb.cell (p := ⟨gr, 0, none⟩) hg).trans h.c0, (hb.cell (p := ⟨gr, 1, none⟩) hg).trans h.c1, (hb.frozen (p := ⟨gr, 0, none⟩) hg).trans h.f0, (hb.frozen (p := ⟨gr, 1, none⟩) hg).trans h.f1⟩
theorem TwoC.grown {row : Option Nat} (h : TwoC W gr a b) (hg : W.grownBy W' row) (hne : some gr ≠ row) : TwoC W' gr a b := by
  have hf : ∀ o v, W.cell? ⟨gr, o, none⟩ = some v → W.frozen? ⟨gr, o, none⟩ = false → W'.frozen? ⟨gr, o, none⟩ = false := fun o v hc hz =>
    (World.frozen?_of_block (a := ⟨gr, o, none⟩) (hg.block gr (World.block_lt_of_cell? W ⟨gr, o, none⟩ hc) hne)).trans hz
  exact ⟨hg.cell h.c0 hne, hg.cell h.c1 hne, hf 0 _ h.c0 h.f0, hf 1 _ h.c1 h.f1⟩
theorem TwoC.put (h : TwoC W gr a b) (ha : ∀ x, a ≠ by8 x) (hb : ∀ x, b ≠ by8 x) (x y : Value) :
    ((W.setCell ⟨gr, 0, none⟩ x).setCell ⟨gr, 1, none⟩ y).cell? ⟨gr, 0, none⟩ = some x ∧ ((W.setCell ⟨gr, 0, none⟩ x).setCell ⟨gr, 1, none⟩ y).cell? ⟨gr, 1, none⟩ = some y ∧
    ((W.setCell ⟨gr, 0, none⟩ x).setCell ⟨gr, 1, none⟩ y).heap.size = W.heap.size ∧ (∀ B, B ≤ gr → Below B W ((W.setCell ⟨gr, 0, none⟩ x).setCell ⟨gr, 1, none⟩ y)) ∧
    (∀ B r, RIn W B r → RIn ((W.setCell ⟨gr, 0, none⟩ x).setCell ⟨gr, 1, none⟩ y) B r) ∧
    (∀ base g z, RefD W base g z → gr ≠ g → (Value.slice z.CA z.cs.length z.cc).ownBlock ≠ some gr → (Value.slice z.WA z.ws.length z.wc).ownBlock ≠ some gr → RefD ((W.setCell ⟨gr, 0, none⟩ x).setCell ⟨gr, 1, none⟩ y) base g z) := by
  have e1 : (W.setCell ⟨gr, 0, none⟩ x).cell? ⟨gr, 1, none⟩ = some b := by
    rw [World.cell?_setCell_other _ _ _ _ (fun k => by cases k)]; exact h.c1
  refine ⟨?_, World.cell?_setCell_same _ _ _ e1, by simp, fun B hB => ((Below.refl B W).setCell (p := ⟨gr, 0, none⟩) hB _).setCell (p := ⟨gr, 1, none⟩) hB _, fun B r hr => rin_set (rin_set hr h.c0 ha _) e1 hb _, fun base g z hz hne n1 n2 => ?_⟩
  · rw [World.cell?_setCell_other _ _ _ _ (fun k => by cases k)]
    exact World.cell?_setCell_same _ _ _ h.c0
  · exact (hz.apart (fun e => hne e.symm) n1 n2 h.c0 ha _).apart (fun e => hne e.symm) n1 n2 e1 hb _
end
theorem own_lt {w : World} {base : Nat} {y : DV} (o : y.Own w base) : (Value.slice y.CA y.cs.length y.cc).ownBlock ≠ some w.heap.size ∧ (Value.slice y.WA y.ws.length y.wc).ownBlock ≠ some w.heap.size :=
  ⟨fun e => by have := (World.ownsRow.lt o.oc _ e).2; omega, fun e => by have := (World.ownsRow.lt o.ow _ e).2; omega⟩
set_option maxHeartbeats 2000000 in
theorem rread_dead (y : DV) (a : Int) (base g : Nat) (w : World) (h : RefD w base g y) (hl : y.left = 0) :
    Calls Try.prog 22 #[.pointer (some ⟨g, 0, none⟩), .int .i64 a] w fun e w' => e = .returned (.agg #[.int .i64 8, .slice none 0 0]) ∧ RefD w' base g y ∧ Below base w w' := by
  have hbase : base ≤ w.heap.size := Nat.le_of_lt (Nat.lt_of_le_of_lt h.lo h.hi)
  have X := twoC_new w (.int .i64 0) (.slice none 0 0) 43
  have b0 := bl w (.cells #[.int .i64 0, .slice none 0 0] 43)
  have h1 := h.below b0
  have hc := own_lt h.o
  have hn : w.heap.size ≠ g := by have := h.hi; omega
  clear h
  go_enter Try.func22, Try.ntmps22
  go_upto_region 1 with fail
  generalize w.alloc (.cells #[.int .i64 0, .slice none 0 0] 43) = w0 at *
  have cR := rreq_dead y base g w0 h1 hl
  have HH := Lib.hid h1
  obtain ⟨x0, x1, x2, x3⟩ := id X
  clear h1
  go_wp2_with (first | (go_at_call 42; (with_reducible refine cR.mono ?_); rintro e w1 ⟨rfl, rfl⟩))
  obtain ⟨p0, p1, p2, p3, p4, p5⟩ := X.put (int_no8 _) (slice_no8 _ _ _) (.int .i64 8) (.slice none 0 0)
  refine bodyPost_ret (v := .agg #[.int .i64 8, .slice none 0 0]) (by simp [results, Try.results22, go_sem, p0, p1]) rfl ⟨rfl, p5 _ _ _ HH.out hn hc.1 hc.2, (b0.mono hbase).trans (p3 _ hbase)⟩
set_option maxHeartbeats 4000000 in
theorem rread_ok (y : DV) (a : Int) (base g : Nat) (w : World) (h : RefD w base g y) (hv : Valid y.d) (hl : ¬ y.left = 0) (a0 : 0 ≤ a) (a1 : a < y.cs.length) :
    Calls Try.prog 22 #[.pointer (some ⟨g, 0, none⟩), .int .i64 a] w fun e w' => (∃ r : Row, e = .returned (.agg #[.int .i64 (content y.d a).2, .slice r.A r.l.length r.c]) ∧ r.l = (content y.d a).1 ∧ RIn w' w'.heap.size r) ∧
      RefD w' base g ⟨y.CA, y.cc, y.cs, y.WA, y.wc, y.ws, min (y.reqs + 1) 1048576, less y.left⟩ ∧ Below base w w' := by
  have hn : y.ws.length ≤ 2000 := by have h1 := hv.1.1.2.2; rwa [show y.d.cache.length = y.ws.length from wds_length _] at h1
  have hbase : base ≤ w.heap.size := Nat.le_of_lt (Nat.lt_of_le_of_lt h.lo h.hi)
  have hok : ∀ (k : Nat) (c : CellR), y.cs[k]? = some c → c.b.l.length ≤ 200 := fun k c e => (hv.2.1 c.d (by show c.d ∈ cds y.cs; exact List.mem_map_of_mem (List.mem_of_getElem? e))).2.2.1
  have hws : ∀ u ∈ y.ws, u.b.l.length ≤ 200 := fun u hu => (ws_short hv hu).2.2
  obtain ⟨ka, hka⟩ : ∃ ka : Nat, a = ka := ⟨a.toNat, by omega⟩
  have X := twoC_new w (.int .i64 0) (.slice none 0 0) 43
  have b0 := bl w (.cells #[.int .i64 0, .slice none 0 0] 43)
  have h1 := h.below b0
  have hc := own_lt h.o
  have hne : w.heap.size ≠ g := by have := h.hi; omega
  have hl0 : w.heap.size < (w.alloc (.cells #[.int .i64 0, .slice none 0 0] 43)).heap.size := by simp
  have V1 := hv.1.2.1
  have V2 := hv.1.2.2.1
  have V3 := hv.1.2.2.2.1
  have V4 := hv.1.2.2.2.2
  clear h hv
  subst hka
  go_enter Try.func22, Try.ntmps22
  go_upto_region 1 with fail
  generalize w.alloc (.cells #[.int .i64 0, .slice none 0 0] 43) = w0 at *
  have cR := rreq_ok y base g w0 h1 hl V1 V2 V3 V4
  clear h1 V1 V2 V3 V4
  go_upto_region 3 with (first | (go_at_call 42; (with_reducible refine cR.mono ?_); rintro e w1 ⟨rfl, h2, b2, -, hg⟩))
  clear cR
  have X1 := X.grown hg (fun e => hne (Option.some.inj e))
  have B1 : Below base w w1 := (b0.mono hbase).trans b2
  have L1 := Nat.lt_of_lt_of_le hl0 hg.size
  obtain ⟨c0, c1, c2, c3, f0, f1, f2, f3⟩ := id h2.r
  obtain ⟨x0, x1, x2, x3⟩ := id X1
  have HH := Lib.hid h2
  have HX := Lib.hid X1
  have HW := Lib.hid hws
  have HO := Lib.hid hok
  have HC := Lib.hid hc
  clear X X1 h2 hws hok hc hg b2 b0
  go_wp2_with fail
  go_loopw [5] (fun i w' => ∃ k : Nat, k ≤ y.ws.length ∧ i = .int .i64 ((k : Int) - 1) ∧ lastW ((wds y.ws).drop k) (ka : Int) = none ∧ w' = w1) (fun i _ => (RowKit.intOf i + 1).toNat)
  case atStart => exact ⟨y.ws.length, Nat.le_refl _, rfl, by rw [List.drop_eq_nil_of_le (by rw [wds_length]; exact Nat.le_refl _)]; rfl, rfl⟩
  case round =>
    obtain ⟨k, hk, rfl, hp, rfl⟩ := hrel
    have hP := Lib.hid hp
    clear hp
    obtain rfl | ⟨m, rfl⟩ : k = 0 ∨ ∃ m, k = m + 1 := by
      cases k with
      | zero => exact .inl rfl
      | succ m => exact .inr ⟨m, rfl⟩
    · have i1 : (((0 : Nat) : Int) - 1) = -1 := by omega
      rw [i1]
      have i2 : (ka : Int) < (y.cs.length : Int) := a1
      obtain ⟨bc, oc, u, ec, hbc, u0, u1, u2, um, -, -, eu, ud⟩ := cell_at HH.out.o.in.hc HH.out.o.in.ci (show ka < y.cs.length by omega)
      dsimp only at ec
      rw [ec] at c0
      have hct : content y.d ka = if u.st = 0 then (u.b.l, 0) else ([], 6) := by
        unfold content
        rw [show y.d.cache = wds y.ws from rfl, show lastW (wds y.ws) (ka : Int) = none from hP.out]
        dsimp only
        rw [show y.d.cells[(ka : Int).toNat]? = some u.d from ud]
        rfl
      have ub := HO.out ka u eu
      clear ud eu
      by_cases hs : u.st = 0
      · have n1 : (u.st != 0) = false := by rw [hs]; rfl
        rw [if_pos hs] at hct
        have HT := Lib.hid hct
        have cT := twin_q um (by omega)
        rw [hs] at u0
        clear um hct
        go_wp2_with (first | (go_at_call 29; (with_reducible refine cT.mono ?_); rintro e wT ⟨⟨rT, rfl, lT, IT⟩, hbT⟩; have lH := Lib.hid lT; clear lT; have XT := HX.out.keep hbT L1; obtain ⟨z0, z1, z2, z3⟩ := id XT))
        obtain ⟨p0, p1, p2, p3, p4, p5⟩ := XT.put (int_no8 _) (slice_no8 _ _ _) (.int .i64 0) (.slice rT.A rT.l.length rT.c)
        have I4 := p4 _ _ IT
        rw [← p2] at I4
        refine bodyPost_ret (v := .agg #[.int .i64 0, .slice rT.A rT.l.length rT.c]) (by simp [results, Try.results22, go_sem, p0, p1]) rfl ⟨⟨rT, by rw [HT.out], by rw [HT.out]; exact lH.out, I4⟩, p5 _ _ _ (HH.out.below hbT) hne HC.out.1 HC.out.2, (bm B1 hbase hbT).trans (p3 _ hbase)⟩
      · have n1 : (u.st != 0) = true := bne_iff_ne.2 hs
        rw [if_neg hs] at hct
        have HT := Lib.hid hct
        clear um hct hs
        go_wp2_with fail
        obtain ⟨p0, p1, p2, p3, p4, p5⟩ := HX.out.put (int_no8 _) (slice_no8 _ _ _) (.int .i64 6) (.slice none 0 0)
        refine bodyPost_ret (v := .agg #[.int .i64 6, .slice none 0 0]) (by simp [results, Try.results22, go_sem, p0, p1]) rfl ⟨⟨⟨none, 0, []⟩, by rw [HT.out]; rfl, by rw [HT.out], zrow_in _ _⟩, p5 _ _ _ HH.out hne HC.out.1 HC.out.2, B1.trans (p3 _ hbase)⟩
    · have i1 : (((m + 1 : Nat) : Int) - 1) = (m : Int) := by omega
      rw [i1]
      have i2 : (0 : Int) ≤ (m : Int) := by omega
      have i3 : (m : Int) < (y.ws.length : Int) := by omega
      clear i1
      obtain ⟨bw, ow, u, ew, hbw, u0, u1, um, ui, uk, ud⟩ := write_at HH.out.o.in.hw HH.out.o.in.wi (show m < y.ws.length by omega)
      dsimp only at ew
      rw [ew] at c1
      have ub := HW.out u ui
      have hd := lastW_drop ud (ka : Int) hP.out
      clear ud uk ui
      by_cases ha : u.addr = (ka : Int)
      · rw [if_pos (show u.d.addr = (ka : Int) from ha)] at hd
        have hct : content y.d ka = (u.b.l, 0) := by
          unfold content
          rw [show y.d.cache = wds y.ws from rfl, lastW_hit hd]
          rfl
        have HT := Lib.hid hct
        have cT := twin_q um (by omega)
        rw [ha] at u0
        clear um hct hd ha hP
        go_wp2_with (first | (go_at_call 29; (with_reducible refine cT.mono ?_); rintro e wT ⟨⟨rT, rfl, lT, IT⟩, hbT⟩; have lH := Lib.hid lT; clear lT; have XT := HX.out.keep hbT L1; obtain ⟨z0, z1, z2, z3⟩ := id XT))
        obtain ⟨p0, p1, p2, p3, p4, p5⟩ := XT.put (int_no8 _) (slice_no8 _ _ _) (.int .i64 0) (.slice rT.A rT.l.length rT.c)
        have I4 := p4 _ _ IT
        rw [← p2] at I4
        refine bodyPost_ret (v := .agg #[.int .i64 0, .slice rT.A rT.l.length rT.c]) (by simp [results, Try.results22, go_sem, p0, p1]) rfl ⟨⟨rT, by rw [HT.out], by rw [HT.out]; exact lH.out, I4⟩, p5 _ _ _ (HH.out.below hbT) hne HC.out.1 HC.out.2, (bm B1 hbase hbT).trans (p3 _ hbase)⟩
      · rw [if_neg (show ¬ u.d.addr = (ka : Int) from ha)] at hd
        have n1 : (u.addr == (ka : Int)) = false := beq_eq_false_iff_ne.2 ha
        have HD := Lib.hid hd
        clear um hd ha hP
        go_wp2_with fail
        go_roundw
        case rel => exact ⟨m, by omega, by go_num, HD.out, trivial⟩
        case measure => simp [RowKit.intOf]
end Go.Proofs.Ytegcbmimndmfkaa.dsk
