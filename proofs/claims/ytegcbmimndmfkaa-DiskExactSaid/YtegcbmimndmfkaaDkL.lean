/-
  Package disk: Read. No condition.
-/
import Derived.Test.YtegcbmimndmfkaaDkH
import Derived.Test.YtegcbmimndmfkaaDkJ
namespace Go.Proofs.Ytegcbmimndmfkaa.dsk
open Go.RowKit Go.Lib

def N8 (v : Value) : Prop := ∀ x, v ≠ by8 x
theorem N8.i (k : Int) : N8 (.int .i64 k) := int_no8 k
theorem N8.s (A : Option Addr) (n c : Nat) : N8 (.slice A n c) := slice_no8 A n c
/-- Four cells of a block stored over. -/
theorem set4 {W : World} {g : Nat} {a b c d : Value} (R : Four W g a b c d) (n : N8 a ∧ N8 b ∧ N8 c ∧ N8 d) (v0 v1 v2 v3 : Value) :
    Four ((((W.setCell ⟨g, 0, none⟩ v0).setCell ⟨g, 1, none⟩ v1).setCell ⟨g, 2, none⟩ v2).setCell ⟨g, 3, none⟩ v3) g v0 v1 v2 v3 ∧
    ((((W.setCell ⟨g, 0, none⟩ v0).setCell ⟨g, 1, none⟩ v1).setCell ⟨g, 2, none⟩ v2).setCell ⟨g, 3, none⟩ v3).heap.size = W.heap.size ∧
    (∀ B, B ≤ g → Below B W ((((W.setCell ⟨g, 0, none⟩ v0).setCell ⟨g, 1, none⟩ v1).setCell ⟨g, 2, none⟩ v2).setCell ⟨g, 3, none⟩ v3)) ∧
    (∀ B r, RIn W B r → RIn ((((W.setCell ⟨g, 0, none⟩ v0).setCell ⟨g, 1, none⟩ v1).setCell ⟨g, 2, none⟩ v2).setCell ⟨g, 3, none⟩ v3) B r) ∧
    (∀ base y, g < base → DV.Own W base y → DV.Own ((((W.setCell ⟨g, 0, none⟩ v0).setCell ⟨g, 1, none⟩ v1).setCell ⟨g, 2, none⟩ v2).setCell ⟨g, 3, none⟩ v3) base y) :=
  ⟨(((R.set0 v0).set1 v1).set2 v2).set3 v3, by simp, fun B hB => (((Below.refl B W).setCell (p := ⟨g, 0, none⟩) hB _).setCell (p := ⟨g, 1, none⟩) hB _ |>.setCell (p := ⟨g, 2, none⟩) hB _).setCell (p := ⟨g, 3, none⟩) hB _,
   fun B r h => rin_set (rin_set (rin_set (rin_set h R.c0 n.1 v0) (R.set0 v0).c1 n.2.1 v1) ((R.set0 v0).set1 v1).c2 n.2.2.1 v2) (((R.set0 v0).set1 v1).set2 v2).c3 n.2.2.2 v3,
   fun base y hg h => (((h.set hg R.c0 n.1 v0).set hg (R.set0 v0).c1 n.2.1 v1).set hg ((R.set0 v0).set1 v1).c2 n.2.2.1 v2).set hg (((R.set0 v0).set1 v1).set2 v2).c3 n.2.2.2 v3⟩
def zdv : DV := ⟨none, 0, [], none, 0, [], 0, 0⟩
theorem zdv_in (w : World) (B : Nat) : zdv.In w B := ⟨fun h => absurd h (by simp [zdv, cvs]), fun h => absurd h (by simp [zdv, wvs]), CIn.nil _ _, WIn.nil _ _, ⟨Nat.le_refl _, Nat.zero_le _⟩, ⟨Nat.le_refl _, Nat.zero_le _⟩⟩
theorem zdv_own (w : World) (base : Nat) : zdv.Own w base := ⟨World.ownsRow_nil _ _ _ _, World.ownsRow_nil _ _ _ _, CIn.nil _ _, WIn.nil _ _⟩
theorem zdv_d : zdv.d = noDsk := rfl

/-- What a call answers: a disk, bytes, an error. -/
def Rd (base : Nat) (ans : Dsk × List UInt8 × Int) (e : Ending) (w' : World) : Prop := ∃ (y : DV) (r : Row), e = .returned (.tuple #[y.v, r.v, .int .i64 ans.2.2]) ∧ y.d = ans.1 ∧ r.l = ans.2.1 ∧ y.Own w' base ∧ RIn w' w'.heap.size r
def Wd (base : Nat) (ans : Dsk × Int) (e : Ending) (w' : World) : Prop := ∃ y : DV, e = .returned (.tuple #[y.v, .int .i64 ans.2]) ∧ y.d = ans.1 ∧ y.Own w' base

set_option maxHeartbeats 4000000 in
theorem read_arg (d : DV) (a : Int) (w : World) (hd : d.In w w.heap.size) (h : ¬ (Valid d.d ∧ HasC d.d a)) :
    Calls Try.prog 12 #[d.v, .int .i64 a] w fun e w' => Rd w.heap.size (noDsk, [], 1) e w' ∧ Below w.heap.size w w' := by
  have cK := fun (W : World) (hb : Below w.heap.size w W) => check_at d W (hd.next hb)
  have cH := fun (W : World) => has_cell d a W
  by_cases hv : Valid d.d
  · have hh : ¬ HasC d.d a := fun k => h ⟨hv, k⟩
    have e1 : errV d.d = 0 := if_pos hv
    rw [e1] at cK
    rw [decide_eq_false hh] at cH
    clear h hv hh hd e1
    have P0 := four_new w (.slice d.CA d.cs.length d.cc) (.slice d.WA d.ws.length d.wc) (.int .i64 d.reqs) (.int .i64 d.left) 25
    have B0 := bl w (.cells #[.slice d.CA d.cs.length d.cc, .slice d.WA d.ws.length d.wc, .int .i64 d.reqs, .int .i64 d.left] 25)
    have L0 : (w.alloc (.cells #[.slice d.CA d.cs.length d.cc, .slice d.WA d.ws.length d.wc, .int .i64 d.reqs, .int .i64 d.left] 25)).heap.size = w.heap.size + 1 := by simp
    unfold DV.v at cK cH ⊢
    go_enter Try.func12, Try.ntmps12
    go_wp2_with fail
    generalize w.alloc (.cells #[.slice d.CA d.cs.length d.cc, .slice d.WA d.ws.length d.wc, .int .i64 d.reqs, .int .i64 d.left] 25) = w0 at *
    have Q0 := four_new w0 (.slice none 0 0) (.slice none 0 0) (.int .i64 0) (.int .i64 0) 25
    have P1 := P0.alloc (by omega) (.cells #[.slice none 0 0, .slice none 0 0, .int .i64 0, .int .i64 0] 25)
    have B1 := kal B0 (.cells #[.slice none 0 0, .slice none 0 0, .int .i64 0, .int .i64 0] 25)
    have L1 : (w0.alloc (.cells #[.slice none 0 0, .slice none 0 0, .int .i64 0, .int .i64 0] 25)).heap.size = w.heap.size + 2 := by simp [L0]
    generalize w0.alloc (.cells #[.slice none 0 0, .slice none 0 0, .int .i64 0, .int .i64 0] 25) = w1 at *
    rw [L0] at Q0
    clear P0 B0 L0 w0
    obtain ⟨c0, c1, c2, c3, -, -, -, -⟩ := id P1
    have hlo : w.heap.size ≤ w.heap.size + 1 := by omega
    go_wp2_with (first | (go_at_call 19; (with_reducible refine (cK _ B1).mono ?_); rintro e w2 ⟨rfl, hb2⟩; have B2 := bt B1 hb2; have S2 := hb2.size; have P2 := P1.keep hb2 (by omega); have Q2 := Q0.keep hb2 (by omega); obtain ⟨p20, p21, p22, p23, -, -, -, -⟩ := id P2; obtain ⟨q20, q21, q22, q23, f20, f21, f22, f23⟩ := id Q2) | (go_at_call 32; (with_reducible refine (cH _).mono ?_); rintro e w3 ⟨rfl, hb3⟩; have B3 := bt B2 hb3; have S3 := hb3.size; have P3 := P2.keep hb3 (by omega); have Q3 := Q2.keep hb3 (by omega); obtain ⟨p30, p31, p32, p33, -, -, -, -⟩ := id P3; obtain ⟨q30, q31, q32, q33, f30, f31, f32, f33⟩ := id Q3))
    have k4 := set4 Q3 ⟨N8.s _ _ _, N8.s _ _ _, N8.i _, N8.i _⟩ (.slice none 0 0) (.slice none 0 0) (.int .i64 0) (.int .i64 0)
    refine bodyPost_ret (v := .tuple #[.agg #[.slice none 0 0, .slice none 0 0, .int .i64 0, .int .i64 0], .slice none 0 0, .int .i64 1]) (by simp [results, Try.results12, go_sem, k4.1.c0, k4.1.c1, k4.1.c2, k4.1.c3]) rfl ⟨⟨zdv, zrow, rfl, rfl, rfl, zdv_own _ _, zrow_in _ _⟩, B3.trans (k4.2.2.1 _ hlo)⟩
  · have e1 : errV d.d = 1 := if_neg hv
    rw [e1] at cK
    clear h hv hd e1
    have P0 := four_new w (.slice d.CA d.cs.length d.cc) (.slice d.WA d.ws.length d.wc) (.int .i64 d.reqs) (.int .i64 d.left) 25
    have B0 := bl w (.cells #[.slice d.CA d.cs.length d.cc, .slice d.WA d.ws.length d.wc, .int .i64 d.reqs, .int .i64 d.left] 25)
    have L0 : (w.alloc (.cells #[.slice d.CA d.cs.length d.cc, .slice d.WA d.ws.length d.wc, .int .i64 d.reqs, .int .i64 d.left] 25)).heap.size = w.heap.size + 1 := by simp
    unfold DV.v at cK cH ⊢
    go_enter Try.func12, Try.ntmps12
    go_wp2_with fail
    generalize w.alloc (.cells #[.slice d.CA d.cs.length d.cc, .slice d.WA d.ws.length d.wc, .int .i64 d.reqs, .int .i64 d.left] 25) = w0 at *
    have Q0 := four_new w0 (.slice none 0 0) (.slice none 0 0) (.int .i64 0) (.int .i64 0) 25
    have P1 := P0.alloc (by omega) (.cells #[.slice none 0 0, .slice none 0 0, .int .i64 0, .int .i64 0] 25)
    have B1 := kal B0 (.cells #[.slice none 0 0, .slice none 0 0, .int .i64 0, .int .i64 0] 25)
    have L1 : (w0.alloc (.cells #[.slice none 0 0, .slice none 0 0, .int .i64 0, .int .i64 0] 25)).heap.size = w.heap.size + 2 := by simp [L0]
    generalize w0.alloc (.cells #[.slice none 0 0, .slice none 0 0, .int .i64 0, .int .i64 0] 25) = w1 at *
    rw [L0] at Q0
    clear P0 B0 L0 w0
    obtain ⟨c0, c1, c2, c3, -, -, -, -⟩ := id P1
    have hlo : w.heap.size ≤ w.heap.size + 1 := by omega
    go_wp2_with (first | (go_at_call 19; (with_reducible refine (cK _ B1).mono ?_); rintro e w2 ⟨rfl, hb2⟩; have B2 := bt B1 hb2; have S2 := hb2.size; have P2 := P1.keep hb2 (by omega); have Q2 := Q0.keep hb2 (by omega); obtain ⟨p20, p21, p22, p23, -, -, -, -⟩ := id P2; obtain ⟨q20, q21, q22, q23, f20, f21, f22, f23⟩ := id Q2))
    have k4 := set4 Q2 ⟨N8.s _ _ _, N8.s _ _ _, N8.i _, N8.i _⟩ (.slice none 0 0) (.slice none 0 0) (.int .i64 0) (.int .i64 0)
    refine bodyPost_ret (v := .tuple #[.agg #[.slice none 0 0, .slice none 0 0, .int .i64 0, .int .i64 0], .slice none 0 0, .int .i64 1]) (by simp [results, Try.results12, go_sem, k4.1.c0, k4.1.c1, k4.1.c2, k4.1.c3]) rfl ⟨⟨zdv, zrow, rfl, rfl, rfl, zdv_own _ _, zrow_in _ _⟩, B2.trans (k4.2.2.1 _ hlo)⟩
set_option maxHeartbeats 4000000 in
theorem read_dead (d : DV) (a : Int) (w : World) (hd : d.In w w.heap.size) (hv : Valid d.d) (hh : HasC d.d a) (hl : d.left = 0) :
    Calls Try.prog 12 #[d.v, .int .i64 a] w fun e w' => Rd w.heap.size (d.d, [], 8) e w' ∧ Below w.heap.size w w' := by
  have hf := hv.fit
  have cK := fun (W : World) (hb : Below w.heap.size w W) => check_at d W (hd.next hb)
  have cH := fun (W : World) => has_cell d a W
  rw [show errV d.d = 0 from if_pos hv] at cK
  rw [decide_eq_true hh] at cH
  have cR := fun (W : World) (hb : Below w.heap.size w W) => request_dead d W (hd.next hb) hf hl
  clear hv hh hd hf hl
  unfold DV.v at cR
  have P0 := four_new w (.slice d.CA d.cs.length d.cc) (.slice d.WA d.ws.length d.wc) (.int .i64 d.reqs) (.int .i64 d.left) 25
  have B0 := bl w (.cells #[.slice d.CA d.cs.length d.cc, .slice d.WA d.ws.length d.wc, .int .i64 d.reqs, .int .i64 d.left] 25)
  have L0 : (w.alloc (.cells #[.slice d.CA d.cs.length d.cc, .slice d.WA d.ws.length d.wc, .int .i64 d.reqs, .int .i64 d.left] 25)).heap.size = w.heap.size + 1 := by simp
  unfold DV.v at cK cH ⊢
  go_enter Try.func12, Try.ntmps12
  go_wp2_with fail
  generalize w.alloc (.cells #[.slice d.CA d.cs.length d.cc, .slice d.WA d.ws.length d.wc, .int .i64 d.reqs, .int .i64 d.left] 25) = w0 at *
  have Q0 := four_new w0 (.slice none 0 0) (.slice none 0 0) (.int .i64 0) (.int .i64 0) 25
  have P1 := P0.alloc (by omega) (.cells #[.slice none 0 0, .slice none 0 0, .int .i64 0, .int .i64 0] 25)
  have B1 := kal B0 (.cells #[.slice none 0 0, .slice none 0 0, .int .i64 0, .int .i64 0] 25)
  have L1 : (w0.alloc (.cells #[.slice none 0 0, .slice none 0 0, .int .i64 0, .int .i64 0] 25)).heap.size = w.heap.size + 2 := by simp [L0]
  generalize w0.alloc (.cells #[.slice none 0 0, .slice none 0 0, .int .i64 0, .int .i64 0] 25) = w1 at *
  rw [L0] at Q0
  clear P0 B0 L0 w0
  obtain ⟨c0, c1, c2, c3, -, -, -, -⟩ := id P1
  have hlo : w.heap.size ≤ w.heap.size + 1 := by omega
  go_upto_region 4 with (first | (go_at_call 19; (with_reducible refine (cK _ B1).mono ?_); rintro e w2 ⟨rfl, hb2⟩; have B2 := bt B1 hb2; have S2 := hb2.size; have P2 := P1.keep hb2 (by omega); have Q2 := Q0.keep hb2 (by omega); obtain ⟨p20, p21, p22, p23, -, -, -, -⟩ := id P2; obtain ⟨q20, q21, q22, q23, f20, f21, f22, f23⟩ := id Q2) | (go_at_call 32; (with_reducible refine (cH _).mono ?_); rintro e w3 ⟨rfl, hb3⟩; have B3 := bt B2 hb3; have S3 := hb3.size; have P3 := P2.keep hb3 (by omega); have Q3 := Q2.keep hb3 (by omega); obtain ⟨p30, p31, p32, p33, -, -, -, -⟩ := id P3; obtain ⟨q30, q31, q32, q33, f30, f31, f32, f33⟩ := id Q3) | (go_at_call 33; (with_reducible refine (cR _ B3).mono ?_); rintro e w4 ⟨⟨⟨yA, yc, ys, zA, zc, zs, yq, yl⟩, rfl, hyd, hyo, hyf⟩, hb4⟩; dsimp only at hyf ⊢; subst hyf; have B4 := bt B3 hb4; have S4 := hb4.size; have P4 := P3.keep hb4 (by omega); have Q4 := Q3.keep hb4 (by omega); obtain ⟨p40, p41, p42, p43, -, -, -, -⟩ := id P4; obtain ⟨q40, q41, q42, q43, f40, f41, f42, f43⟩ := id Q4))
  have k5 := set4 Q4 ⟨N8.s _ _ _, N8.s _ _ _, N8.i _, N8.i _⟩ (.slice yA ys.length yc) (.slice zA zs.length zs.length) (.int .i64 yq) (.int .i64 yl)
  generalize (((w4.setCell ⟨w.heap.size + 1, 0, none⟩ (.slice yA ys.length yc)).setCell ⟨w.heap.size + 1, 1, none⟩ (.slice zA zs.length zs.length)).setCell ⟨w.heap.size + 1, 2, none⟩ (.int .i64 yq)).setCell ⟨w.heap.size + 1, 3, none⟩ (.int .i64 yl) = w5 at *
  obtain ⟨R5, s5, b5, r5, o5⟩ := k5
  obtain ⟨t0, t1, t2, t3, g0, g1, g2, g3⟩ := id R5
  have hy5 := o5 _ _ (by omega) hyo
  go_wp2_with fail
  have k6 := set4 R5 ⟨N8.s _ _ _, N8.s _ _ _, N8.i _, N8.i _⟩ (.slice yA ys.length yc) (.slice zA zs.length zs.length) (.int .i64 yq) (.int .i64 yl)
  have hy6 := k6.2.2.2.2 _ _ (by omega) hy5
  refine bodyPost_ret (v := .tuple #[.agg #[.slice yA ys.length yc, .slice zA zs.length zs.length, .int .i64 yq, .int .i64 yl], .slice none 0 0, .int .i64 8]) (by simp [results, Try.results12, go_sem, k6.1.c0, k6.1.c1, k6.1.c2, k6.1.c3]) rfl ⟨⟨⟨yA, yc, ys, zA, zs.length, zs, yq, yl⟩, zrow, rfl, hyd, rfl, hy6.less (by omega), zrow_in _ _⟩, (B4.trans (b5 _ hlo)).trans (k6.2.2.1 _ hlo)⟩
set_option maxHeartbeats 4000000 in
theorem read_ok (d : DV) (a : Int) (w : World) (hd : d.In w w.heap.size) (hv : Valid d.d) (hh : HasC d.d a) (hl : ¬ d.left = 0) :
    Calls Try.prog 12 #[d.v, .int .i64 a] w fun e w' => Rd w.heap.size (req d.d, content d.d a) e w' ∧ Below w.heap.size w w' := by
  have hf := hv.fit
  have cK := fun (W : World) (hb : Below w.heap.size w W) => check_at d W (hd.next hb)
  have cH := fun (W : World) => has_cell d a W
  rw [show errV d.d = 0 from if_pos hv] at cK
  rw [decide_eq_true hh] at cH
  have cR := fun (W : World) (hb : Below w.heap.size w W) => request_ok d W (hd.next hb) hf hl
  have hcl : d.d.cells.length = d.cs.length := cds_length _
  have cT := fun (W : World) (hb : Below w.heap.size w W) => contents_at d a W (hd.next hb) hf hh.1 (by have := hh.2; omega)
  clear hv hh hd hf hl hcl
  unfold DV.v at cR cT
  generalize content d.d a = ct at *
  have P0 := four_new w (.slice d.CA d.cs.length d.cc) (.slice d.WA d.ws.length d.wc) (.int .i64 d.reqs) (.int .i64 d.left) 25
  have B0 := bl w (.cells #[.slice d.CA d.cs.length d.cc, .slice d.WA d.ws.length d.wc, .int .i64 d.reqs, .int .i64 d.left] 25)
  have L0 : (w.alloc (.cells #[.slice d.CA d.cs.length d.cc, .slice d.WA d.ws.length d.wc, .int .i64 d.reqs, .int .i64 d.left] 25)).heap.size = w.heap.size + 1 := by simp
  unfold DV.v at cK cH ⊢
  go_enter Try.func12, Try.ntmps12
  go_wp2_with fail
  generalize w.alloc (.cells #[.slice d.CA d.cs.length d.cc, .slice d.WA d.ws.length d.wc, .int .i64 d.reqs, .int .i64 d.left] 25) = w0 at *
  have Q0 := four_new w0 (.slice none 0 0) (.slice none 0 0) (.int .i64 0) (.int .i64 0) 25
  have P1 := P0.alloc (by omega) (.cells #[.slice none 0 0, .slice none 0 0, .int .i64 0, .int .i64 0] 25)
  have B1 := kal B0 (.cells #[.slice none 0 0, .slice none 0 0, .int .i64 0, .int .i64 0] 25)
  have L1 : (w0.alloc (.cells #[.slice none 0 0, .slice none 0 0, .int .i64 0, .int .i64 0] 25)).heap.size = w.heap.size + 2 := by simp [L0]
  generalize w0.alloc (.cells #[.slice none 0 0, .slice none 0 0, .int .i64 0, .int .i64 0] 25) = w1 at *
  rw [L0] at Q0
  clear P0 B0 L0 w0
  obtain ⟨c0, c1, c2, c3, -, -, -, -⟩ := id P1
  have hlo : w.heap.size ≤ w.heap.size + 1 := by omega
  go_upto_region 4 with (first | (go_at_call 19; (with_reducible refine (cK _ B1).mono ?_); rintro e w2 ⟨rfl, hb2⟩; have B2 := bt B1 hb2; have S2 := hb2.size; have P2 := P1.keep hb2 (by omega); have Q2 := Q0.keep hb2 (by omega); obtain ⟨p20, p21, p22, p23, -, -, -, -⟩ := id P2; obtain ⟨q20, q21, q22, q23, f20, f21, f22, f23⟩ := id Q2) | (go_at_call 32; (with_reducible refine (cH _).mono ?_); rintro e w3 ⟨rfl, hb3⟩; have B3 := bt B2 hb3; have S3 := hb3.size; have P3 := P2.keep hb3 (by omega); have Q3 := Q2.keep hb3 (by omega); obtain ⟨p30, p31, p32, p33, -, -, -, -⟩ := id P3; obtain ⟨q30, q31, q32, q33, f30, f31, f32, f33⟩ := id Q3) | (go_at_call 33; (with_reducible refine (cR _ B3).mono ?_); rintro e w4 ⟨⟨⟨yA, yc, ys, zA, zc, zs, yq, yl⟩, rfl, hyd, hyo, hyf⟩, hb4⟩; dsimp only at hyf ⊢; subst hyf; have B4 := bt B3 hb4; have S4 := hb4.size; have P4 := P3.keep hb4 (by omega); have Q4 := Q3.keep hb4 (by omega); obtain ⟨p40, p41, p42, p43, -, -, -, -⟩ := id P4; obtain ⟨q40, q41, q42, q43, f40, f41, f42, f43⟩ := id Q4))
  have k5 := set4 Q4 ⟨N8.s _ _ _, N8.s _ _ _, N8.i _, N8.i _⟩ (.slice yA ys.length yc) (.slice zA zs.length zs.length) (.int .i64 yq) (.int .i64 yl)
  generalize (((w4.setCell ⟨w.heap.size + 1, 0, none⟩ (.slice yA ys.length yc)).setCell ⟨w.heap.size + 1, 1, none⟩ (.slice zA zs.length zs.length)).setCell ⟨w.heap.size + 1, 2, none⟩ (.int .i64 yq)).setCell ⟨w.heap.size + 1, 3, none⟩ (.int .i64 yl) = w5 at *
  obtain ⟨R5, s5, b5, r5, o5⟩ := k5
  obtain ⟨t0, t1, t2, t3, g0, g1, g2, g3⟩ := id R5
  have hy5 := o5 _ _ (by omega) hyo
  have B5 := B4.trans (b5 _ hlo)
  have P5 := P4.keep (b5 (w.heap.size + 1) (Nat.le_refl _)) (by omega)
  obtain ⟨p50, p51, p52, p53, -, -, -, -⟩ := id P5
  go_wp2_with (first | (go_at_call 34; (with_reducible refine (cT _ B5).mono ?_); rintro e w6 ⟨⟨r, rfl, hrl, hri⟩, hb6⟩; have B6 := bt B5 hb6; have S6 := hb6.size; have R6 := R5.keep hb6 (by omega); obtain ⟨u0, u1, u2, u3, v0, v1, v2, v3⟩ := id R6))
  have k6 := set4 R6 ⟨N8.s _ _ _, N8.s _ _ _, N8.i _, N8.i _⟩ (.slice yA ys.length yc) (.slice zA zs.length zs.length) (.int .i64 yq) (.int .i64 yl)
  have hy6 := k6.2.2.2.2 _ _ (by omega) (hy5.below hb6)
  refine bodyPost_ret (v := .tuple #[.agg #[.slice yA ys.length yc, .slice zA zs.length zs.length, .int .i64 yq, .int .i64 yl], r.v, .int .i64 ct.2]) (by simp [results, Try.results12, go_sem, k6.1.c0, k6.1.c1, k6.1.c2, k6.1.c3]) rfl ⟨⟨⟨yA, yc, ys, zA, zs.length, zs, yq, yl⟩, r, rfl, hyd, hrl, hy6.less (by omega), by rw [k6.2.1]; exact k6.2.2.2.1 _ _ hri⟩, B6.trans (k6.2.2.1 _ hlo)⟩
theorem read_at (d : DV) (a : Int) (w : World) (hd : d.In w w.heap.size) :
    Calls Try.prog 12 #[d.v, .int .i64 a] w fun e w' => Rd w.heap.size (readA d.d a) e w' ∧ Below w.heap.size w w' := by
  unfold readA
  by_cases h : Valid d.d ∧ HasC d.d a
  · rw [if_neg (not_not_intro h)]
    by_cases hl : d.left = 0
    · rw [if_pos (show d.d.left = 0 from hl)]
      exact read_dead d a w hd h.1 h.2 hl
    · rw [if_neg (show ¬ d.d.left = 0 from hl)]
      exact read_ok d a w hd h.1 h.2 hl
  · rw [if_pos h]
    exact read_arg d a w hd h
end Go.Proofs.Ytegcbmimndmfkaa.dsk
