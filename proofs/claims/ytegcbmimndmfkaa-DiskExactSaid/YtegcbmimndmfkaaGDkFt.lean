/-
  Package disk: Fault. No condition.
  Package disk: Fault, the faults that write bytes; whole. No condition.
-/
import Derived.Test.YtegcbmimndmfkaaDkX
namespace Go.Proofs.Ytegcbmimndmfkaa.dsk
open Go.RowKit Go.Lib
open Go.Proofs.Ytegcbmimndmfkaa.pck (clone_any)

/-- What a fault answers: the cells are turned at one place. -/
def turnC (d : Dsk) (a : Int) (f : Cel → Cel) : Dsk := ⟨d.cells.modify a.toNat f, d.cache, d.reqs, d.left⟩
noncomputable def faultF (d : Dsk) (kind fr bit bits : Int) : Option (Cel → Cel) :=
  if kind = 11 then some (fun c => if c.st = 0 then ⟨1, c.bs, c.old⟩ else c)
  else if kind = 12 then some (fun c => ⟨2, c.bs, c.old⟩)
  else if kind = 13 ∧ 0 ≤ bit ∧ 0 ≤ bits then some (fun c => ⟨c.st, flipd c.bs bit bits, c.old⟩)
  else if kind = 14 then some (fun c => ⟨c.st, c.old, c.old⟩)
  else if kind = 15 ∧ HasC d fr then some (fun c => ⟨c.st, (d.cells[fr.toNat]?.map Cel.bs).getD [], c.old⟩)
  else none
noncomputable def faultA (d : Dsk) (kind a fr bit bits : Int) : Dsk × Int :=
  if ¬ (Valid d ∧ HasC d a) then (noDsk, 1) else if d.cache ≠ [] then (noDsk, 9) else match faultF d kind fr bit bits with
    | none => (noDsk, 1)
    | some f => (turnC d a f, 0)
theorem modify_same {α : Type} (f : α → α) (l : List α) (k : Nat) (x : α) (h : l[k]? = some x) (hx : f x = x) : l.modify k f = l := by
  apply List.ext_getElem?
  intro j
  rw [List.getElem?_modify]
  by_cases hj : k = j
  · subst hj
    rw [h]
    show some (if k = k then f x else x) = some x
    rw [if_pos rfl, hx]
  · cases l[j]? with
    | none => rfl
    | some c => show some (if k = j then f c else c) = some c; rw [if_neg hj]
theorem modify_at {α : Type} (f g : α → α) (l : List α) (k : Nat) (x : α) (h : l[k]? = some x) (hx : f x = g x) : l.modify k f = l.modify k g := by
  apply List.ext_getElem?
  intro j
  rw [List.getElem?_modify, List.getElem?_modify]
  by_cases hj : k = j
  · subst hj
    rw [h]
    show some (if k = k then f x else x) = some (if k = k then g x else x)
    rw [if_pos rfl, if_pos rfl, hx]
  · cases l[j]? with
    | none => rfl
    | some c => show some (if k = j then f c else c) = some (if k = j then g c else c); rw [if_neg hj, if_neg hj]

set_option maxHeartbeats 4000000 in
theorem fault_arg (d : DV) (kind a fr bit bits : Int) (w : World) (hd : d.In w w.heap.size) (h : ¬ (Valid d.d ∧ HasC d.d a)) :
    Calls Try.prog 16 #[d.v, .int .i64 kind, .int .i64 a, .int .i64 fr, .int .i64 bit, .int .i64 bits] w fun e w' => Wd w.heap.size (noDsk, 1) e w' ∧ Below w.heap.size w w' := by
  have cK := fun (W : World) (hb : Below w.heap.size w W) => check_at d W (hd.next hb)
  have cH := fun (W : World) => has_cell d a W
  by_cases hv : Valid d.d
  · have e1 : errV d.d = 0 := if_pos hv
    have hh : ¬ HasC d.d a := fun k => h ⟨hv, k⟩
    rw [e1] at cK
    rw [decide_eq_false hh] at cH
    clear hv hd e1 h hh
    have P0 := four_new w (.slice d.CA d.cs.length d.cc) (.slice d.WA d.ws.length d.wc) (.int .i64 d.reqs) (.int .i64 d.left) 25
    have B0 := bl w (.cells #[.slice d.CA d.cs.length d.cc, .slice d.WA d.ws.length d.wc, .int .i64 d.reqs, .int .i64 d.left] 25)
    have L0 : (w.alloc (.cells #[.slice d.CA d.cs.length d.cc, .slice d.WA d.ws.length d.wc, .int .i64 d.reqs, .int .i64 d.left] 25)).heap.size = w.heap.size + 1 := by simp
    unfold DV.v at cK cH ⊢
    go_enter Try.func16, Try.ntmps16
    go_wp2_with fail
    generalize w.alloc (.cells #[.slice d.CA d.cs.length d.cc, .slice d.WA d.ws.length d.wc, .int .i64 d.reqs, .int .i64 d.left] 25) = w0 at *
    have Q0 := four_new w0 (.slice none 0 0) (.slice none 0 0) (.int .i64 0) (.int .i64 0) 25
    have P1 := P0.alloc (by omega) (.cells #[.slice none 0 0, .slice none 0 0, .int .i64 0, .int .i64 0] 25)
    have B1 := kal B0 (.cells #[.slice none 0 0, .slice none 0 0, .int .i64 0, .int .i64 0] 25)
    have L1 : (w0.alloc (.cells #[.slice none 0 0, .slice none 0 0, .int .i64 0, .int .i64 0] 25)).heap.size = w.heap.size + 2 := by simp [L0]
    generalize w0.alloc (.cells #[.slice none 0 0, .slice none 0 0, .int .i64 0, .int .i64 0] 25) = w1 at *
    rw [L0] at Q0
    clear P0 B0 L0 w0
    obtain ⟨c0, c1, c2, c3, -, -, -, -⟩ := id P1
    have hlo : w.heap.size ≤ w.heap.size + 1 := by omega
    go_wp2_with (first | (go_at_call 19; (with_reducible refine (cK _ B1).mono ?_); rintro e w2 ⟨rfl, hb2⟩; have B2 := bt B1 hb2; have S2 := hb2.size; have P2 := P1.keep hb2 (by omega); have Q2 := Q0.keep hb2 (by omega); obtain ⟨p20, p21, p22, p23, -, -, -, -⟩ := id P2; obtain ⟨q20, q21, q22, q23, f20, f21, f22, f23⟩ := id Q2) | (go_at_call 32; (with_reducible refine (cH _).mono ?_); rintro e w3 ⟨rfl, hb3⟩; have B3 := bt B2 hb3; have S3 := hb3.size; have P3 := P2.keep hb3 (by omega); have Q3 := Q2.keep hb3 (by omega); obtain ⟨p30, p31, p32, p33, -, -, -, -⟩ := id P3; obtain ⟨q30, q31, q32, q33, f30, f31, f32, f33⟩ := id Q3))
    have k4 := set4 Q3 ⟨N8.s _ _ _, N8.s _ _ _, N8.i _, N8.i _⟩ (.slice none 0 0) (.slice none 0 0) (.int .i64 0) (.int .i64 0)
    refine bodyPost_ret (v := .tuple #[.agg #[.slice none 0 0, .slice none 0 0, .int .i64 0, .int .i64 0], .int .i64 1]) (by simp [results, Try.results16, go_sem, k4.1.c0, k4.1.c1, k4.1.c2, k4.1.c3]) rfl ⟨⟨zdv, rfl, rfl, zdv_own _ _⟩, B3.trans (k4.2.2.1 _ hlo)⟩
  · have e1 : errV d.d = 1 := if_neg hv
    rw [e1] at cK
    clear hv hd e1 h
    have P0 := four_new w (.slice d.CA d.cs.length d.cc) (.slice d.WA d.ws.length d.wc) (.int .i64 d.reqs) (.int .i64 d.left) 25
    have B0 := bl w (.cells #[.slice d.CA d.cs.length d.cc, .slice d.WA d.ws.length d.wc, .int .i64 d.reqs, .int .i64 d.left] 25)
    have L0 : (w.alloc (.cells #[.slice d.CA d.cs.length d.cc, .slice d.WA d.ws.length d.wc, .int .i64 d.reqs, .int .i64 d.left] 25)).heap.size = w.heap.size + 1 := by simp
    unfold DV.v at cK cH ⊢
    go_enter Try.func16, Try.ntmps16
    go_wp2_with fail
    generalize w.alloc (.cells #[.slice d.CA d.cs.length d.cc, .slice d.WA d.ws.length d.wc, .int .i64 d.reqs, .int .i64 d.left] 25) = w0 at *
    have Q0 := four_new w0 (.slice none 0 0) (.slice none 0 0) (.int .i64 0) (.int .i64 0) 25
    have P1 := P0.alloc (by omega) (.cells #[.slice none 0 0, .slice none 0 0, .int .i64 0, .int .i64 0] 25)
    have B1 := kal B0 (.cells #[.slice none 0 0, .slice none 0 0, .int .i64 0, .int .i64 0] 25)
    have L1 : (w0.alloc (.cells #[.slice none 0 0, .slice none 0 0, .int .i64 0, .int .i64 0] 25)).heap.size = w.heap.size + 2 := by simp [L0]
    generalize w0.alloc (.cells #[.slice none 0 0, .slice none 0 0, .int .i64 0, .int .i64 0] 25) = w1 at *
    rw [L0] at Q0
    clear P0 B0 L0 w0
    obtain ⟨c0, c1, c2, c3, -, -, -, -⟩ := id P1
    have hlo : w.heap.size ≤ w.heap.size + 1 := by omega
    go_wp2_with (first | (go_at_call 19; (with_reducible refine (cK _ B1).mono ?_); rintro e w2 ⟨rfl, hb2⟩; have B2 := bt B1 hb2; have S2 := hb2.size; have P2 := P1.keep hb2 (by omega); have Q2 := Q0.keep hb2 (by omega); obtain ⟨p20, p21, p22, p23, -, -, -, -⟩ := id P2; obtain ⟨q20, q21, q22, q23, f20, f21, f22, f23⟩ := id Q2))
    have k4 := set4 Q2 ⟨N8.s _ _ _, N8.s _ _ _, N8.i _, N8.i _⟩ (.slice none 0 0) (.slice none 0 0) (.int .i64 0) (.int .i64 0)
    refine bodyPost_ret (v := .tuple #[.agg #[.slice none 0 0, .slice none 0 0, .int .i64 0, .int .i64 0], .int .i64 1]) (by simp [results, Try.results16, go_sem, k4.1.c0, k4.1.c1, k4.1.c2, k4.1.c3]) rfl ⟨⟨zdv, rfl, rfl, zdv_own _ _⟩, B2.trans (k4.2.2.1 _ hlo)⟩
set_option maxHeartbeats 4000000 in
theorem fault_place (d : DV) (kind a fr bit bits : Int) (w : World) (hd : d.In w w.heap.size) (hv : Valid d.d) (hh : HasC d.d a) (hc : 0 < d.ws.length) :
    Calls Try.prog 16 #[d.v, .int .i64 kind, .int .i64 a, .int .i64 fr, .int .i64 bit, .int .i64 bits] w fun e w' => Wd w.heap.size (noDsk, 9) e w' ∧ Below w.heap.size w w' := by
  have cK := fun (W : World) (hb : Below w.heap.size w W) => check_at d W (hd.next hb)
  have cH := fun (W : World) => has_cell d a W
  rw [show errV d.d = 0 from if_pos hv] at cK
  rw [decide_eq_true hh] at cH
  have hc2 : 0 < (d.ws.length : Int) := by omega
  clear hv hd hh hc
  have P0 := four_new w (.slice d.CA d.cs.length d.cc) (.slice d.WA d.ws.length d.wc) (.int .i64 d.reqs) (.int .i64 d.left) 25
  have B0 := bl w (.cells #[.slice d.CA d.cs.length d.cc, .slice d.WA d.ws.length d.wc, .int .i64 d.reqs, .int .i64 d.left] 25)
  have L0 : (w.alloc (.cells #[.slice d.CA d.cs.length d.cc, .slice d.WA d.ws.length d.wc, .int .i64 d.reqs, .int .i64 d.left] 25)).heap.size = w.heap.size + 1 := by simp
  unfold DV.v at cK cH ⊢
  go_enter Try.func16, Try.ntmps16
  go_wp2_with fail
  generalize w.alloc (.cells #[.slice d.CA d.cs.length d.cc, .slice d.WA d.ws.length d.wc, .int .i64 d.reqs, .int .i64 d.left] 25) = w0 at *
  have Q0 := four_new w0 (.slice none 0 0) (.slice none 0 0) (.int .i64 0) (.int .i64 0) 25
  have P1 := P0.alloc (by omega) (.cells #[.slice none 0 0, .slice none 0 0, .int .i64 0, .int .i64 0] 25)
  have B1 := kal B0 (.cells #[.slice none 0 0, .slice none 0 0, .int .i64 0, .int .i64 0] 25)
  have L1 : (w0.alloc (.cells #[.slice none 0 0, .slice none 0 0, .int .i64 0, .int .i64 0] 25)).heap.size = w.heap.size + 2 := by simp [L0]
  generalize w0.alloc (.cells #[.slice none 0 0, .slice none 0 0, .int .i64 0, .int .i64 0] 25) = w1 at *
  rw [L0] at Q0
  clear P0 B0 L0 w0
  obtain ⟨c0, c1, c2, c3, -, -, -, -⟩ := id P1
  have hlo : w.heap.size ≤ w.heap.size + 1 := by omega
  go_wp2_with (first | (go_at_call 19; (with_reducible refine (cK _ B1).mono ?_); rintro e w2 ⟨rfl, hb2⟩; have B2 := bt B1 hb2; have S2 := hb2.size; have P2 := P1.keep hb2 (by omega); have Q2 := Q0.keep hb2 (by omega); obtain ⟨p20, p21, p22, p23, -, -, -, -⟩ := id P2; obtain ⟨q20, q21, q22, q23, f20, f21, f22, f23⟩ := id Q2) | (go_at_call 32; (with_reducible refine (cH _).mono ?_); rintro e w3 ⟨rfl, hb3⟩; have B3 := bt B2 hb3; have S3 := hb3.size; have P3 := P2.keep hb3 (by omega); have Q3 := Q2.keep hb3 (by omega); obtain ⟨p30, p31, p32, p33, -, -, -, -⟩ := id P3; obtain ⟨q30, q31, q32, q33, f30, f31, f32, f33⟩ := id Q3))
  have k4 := set4 Q3 ⟨N8.s _ _ _, N8.s _ _ _, N8.i _, N8.i _⟩ (.slice none 0 0) (.slice none 0 0) (.int .i64 0) (.int .i64 0)
  refine bodyPost_ret (v := .tuple #[.agg #[.slice none 0 0, .slice none 0 0, .int .i64 0, .int .i64 0], .int .i64 9]) (by simp [results, Try.results16, go_sem, k4.1.c0, k4.1.c1, k4.1.c2, k4.1.c3]) rfl ⟨⟨zdv, rfl, rfl, zdv_own _ _⟩, B3.trans (k4.2.2.1 _ hlo)⟩
set_option maxHeartbeats 4000000 in
theorem fault_latent (d : DV) (a fr bit bits : Int) (w : World) (hd : d.In w w.heap.size) (hv : Valid d.d) (hh : HasC d.d a) (hc : d.ws.length = 0) :
    Calls Try.prog 16 #[d.v, .int .i64 11, .int .i64 a, .int .i64 fr, .int .i64 bit, .int .i64 bits] w fun e w' => Wd w.heap.size (turnC d.d a (fun c => if c.st = 0 then ⟨1, c.bs, c.old⟩ else c), 0) e w' ∧ Below w.heap.size w w' := by
  have hf := hv.fit
  have cK := fun (W : World) (hb : Below w.heap.size w W) => check_at d W (hd.next hb)
  have cH := fun (W : World) => has_cell d a W
  rw [show errV d.d = 0 from if_pos hv] at cK
  rw [decide_eq_true hh] at cH
  have cR := fun (W : World) (hb : Below w.heap.size w W) => clone_fit d W (hd.next hb) hf
  obtain ⟨k, hk⟩ : ∃ k : Nat, a = k := ⟨a.toNat, by have := hh.1; omega⟩
  have hkl : k < d.cs.length := by have h1 := hh.2; have h2 : d.d.cells.length = d.cs.length := cds_length _; omega
  have hs5 : ∀ c ∈ cds d.cs, c.bs.length ≤ 200 ∧ c.old.length ≤ 200 := fun c hc => by have := hv.2.1 c hc; exact ⟨this.2.2.1, this.2.2.2⟩
  have hn0 : ¬ (0 < (d.ws.length : Int)) := by rw [hc]; simp
  clear hv hh hd hf hc
  unfold DV.v at cR
  rw [hk] at cH ⊢
  have P0 := four_new w (.slice d.CA d.cs.length d.cc) (.slice d.WA d.ws.length d.wc) (.int .i64 d.reqs) (.int .i64 d.left) 25
  have B0 := bl w (.cells #[.slice d.CA d.cs.length d.cc, .slice d.WA d.ws.length d.wc, .int .i64 d.reqs, .int .i64 d.left] 25)
  have L0 : (w.alloc (.cells #[.slice d.CA d.cs.length d.cc, .slice d.WA d.ws.length d.wc, .int .i64 d.reqs, .int .i64 d.left] 25)).heap.size = w.heap.size + 1 := by simp
  unfold DV.v at cK cH ⊢
  go_enter Try.func16, Try.ntmps16
  go_wp2_with fail
  generalize w.alloc (.cells #[.slice d.CA d.cs.length d.cc, .slice d.WA d.ws.length d.wc, .int .i64 d.reqs, .int .i64 d.left] 25) = w0 at *
  have Q0 := four_new w0 (.slice none 0 0) (.slice none 0 0) (.int .i64 0) (.int .i64 0) 25
  have P1 := P0.alloc (by omega) (.cells #[.slice none 0 0, .slice none 0 0, .int .i64 0, .int .i64 0] 25)
  have B1 := kal B0 (.cells #[.slice none 0 0, .slice none 0 0, .int .i64 0, .int .i64 0] 25)
  have L1 : (w0.alloc (.cells #[.slice none 0 0, .slice none 0 0, .int .i64 0, .int .i64 0] 25)).heap.size = w.heap.size + 2 := by simp [L0]
  generalize w0.alloc (.cells #[.slice none 0 0, .slice none 0 0, .int .i64 0, .int .i64 0] 25) = w1 at *
  rw [L0] at Q0
  clear P0 B0 L0 w0
  obtain ⟨c0, c1, c2, c3, -, -, -, -⟩ := id P1
  have hlo : w.heap.size ≤ w.heap.size + 1 := by omega
  go_upto_region 6 with (first | (go_at_call 19; (with_reducible refine (cK _ B1).mono ?_); rintro e w2 ⟨rfl, hb2⟩; have B2 := bt B1 hb2; have S2 := hb2.size; have P2 := P1.keep hb2 (by omega); have Q2 := Q0.keep hb2 (by omega); obtain ⟨p20, p21, p22, p23, -, -, -, -⟩ := id P2; obtain ⟨q20, q21, q22, q23, f20, f21, f22, f23⟩ := id Q2) | (go_at_call 32; (with_reducible refine (cH _).mono ?_); rintro e w3 ⟨rfl, hb3⟩; have B3 := bt B2 hb3; have S3 := hb3.size; have P3 := P2.keep hb3 (by omega); have Q3 := Q2.keep hb3 (by omega); obtain ⟨p30, p31, p32, p33, -, -, -, -⟩ := id P3; obtain ⟨q30, q31, q32, q33, f30, f31, f32, f33⟩ := id Q3) | (go_at_call 37; (with_reducible refine (cR _ B3).mono ?_); rintro e w4 ⟨⟨⟨yA, yc, ys, zA, zc, zs, yq, yl⟩, rfl, hyd, hyo, hyf⟩, hb4⟩; dsimp only at hyf ⊢; subst hyf; have B4 := bt B3 hb4; have S4 := hb4.size; have P4 := P3.keep hb4 (by omega); have Q4 := Q3.keep hb4 (by omega); obtain ⟨p40, p41, p42, p43, -, -, -, -⟩ := id P4; obtain ⟨q40, q41, q42, q43, f40, f41, f42, f43⟩ := id Q4))
  have hyl : ys.length = d.cs.length := by have := congrArg (fun x => x.cells.length) hyd; simpa [DV.d, cds] using this
  obtain ⟨gC, hgC⟩ := hyo.block (show 0 < ys.length by omega)
  dsimp only at hgC
  subst hgC
  have H5 := heap_alloc_new w4 (.cells #[.slice (some ⟨gC, 0, none⟩) ys.length yc, .slice zA zs.length zs.length, .int .i64 yq, .int .i64 yl] 25)
  have R5 := four_new w4 (.slice (some ⟨gC, 0, none⟩) ys.length yc) (.slice zA zs.length zs.length) (.int .i64 yq) (.int .i64 yl) 25
  have Q5 := Q4.alloc (by omega) (.cells #[.slice (some ⟨gC, 0, none⟩) ys.length yc, .slice zA zs.length zs.length, .int .i64 yq, .int .i64 yl] 25)
  have P5 := P4.alloc (by omega) (.cells #[.slice (some ⟨gC, 0, none⟩) ys.length yc, .slice zA zs.length zs.length, .int .i64 yq, .int .i64 yl] 25)
  have o5 := hyo.below (bl w4 (.cells #[.slice (some ⟨gC, 0, none⟩) ys.length yc, .slice zA zs.length zs.length, .int .i64 yq, .int .i64 yl] 25))
  have B5 := kal B4 (.cells #[.slice (some ⟨gC, 0, none⟩) ys.length yc, .slice zA zs.length zs.length, .int .i64 yq, .int .i64 yl] 25)
  have S5 : (w4.alloc (.cells #[.slice (some ⟨gC, 0, none⟩) ys.length yc, .slice zA zs.length zs.length, .int .i64 yq, .int .i64 yl] 25)).heap.size = w4.heap.size + 1 := by simp
  generalize w4.alloc (.cells #[.slice (some ⟨gC, 0, none⟩) ys.length yc, .slice zA zs.length zs.length, .int .i64 yq, .int .i64 yl] 25) = w5 at *
  obtain ⟨t0, t1, t2, t3, g0, g1, g2, g3⟩ := id R5
  obtain ⟨s0, s1, s2, s3, h0, h1, h2, h3⟩ := id Q5
  have hneC : gC ≠ w4.heap.size := fun e => owns_ne o5.oc H5 disk_cell (by rw [e]; rfl)
  obtain ⟨r, er, d0, d1, d2, f0, f1, f2, lo, hi, m1, m2, e2⟩ := o5.at (g := gC) (k := k) rfl (by show k < ys.length; omega)
  dsimp only at er e2
  have i1 : (k : Int) < (ys.length : Int) := by omega
  have e1 : cds ys = cds d.cs := congrArg Dsk.cells hyd
  have E1 := Lib.hid e1
  have E2 : Hid (wds zs = wds d.ws) := congrArg Dsk.cache hyd
  have E3 : Hid (yq = d.reqs) := congrArg Dsk.reqs hyd
  have E4 : Hid (yl = d.left) := congrArg Dsk.left hyd
  have m5 := (hs5 r.d (by rw [← e1]; exact List.mem_of_getElem? e2))
  have ER := Lib.hid er
  have EC := Lib.hid e2
  have hky : k < ys.length := by omega
  clear hyd e1 er e2 hs5 hyl
  by_cases hs : r.st = 0
  · rw [hs] at d0
    have o6 := o5.st (g := gC) (k := k) rfl hky 1
    have R6 := R5.apart (g' := gC) (o := k * 3) hneC.symm (.int .i64 1)
    have Q6 := Q5.apart (g' := gC) (o := k * 3) (show w.heap.size + 1 ≠ gC by omega) (.int .i64 1)
    have B6 := B5.setCell (p := ⟨gC, k * 3, none⟩) (show w.heap.size ≤ gC by omega) (.int .i64 1)
    go_upto_region 19 with fail
    generalize w5.setCell ⟨gC, k * 3, none⟩ (.int .i64 1) = w9 at *
    clear t0 t1 t2 t3 g0 g1 g2 g3 s0 s1 s2 s3 h0 h1 h2 h3
    obtain ⟨t0, t1, t2, t3, g0, g1, g2, g3⟩ := id R6
    obtain ⟨s0, s1, s2, s3, h0, h1, h2, h3⟩ := id Q6
    go_wp2_with fail
    have k4 := set4 Q6 ⟨N8.s _ _ _, N8.s _ _ _, N8.i _, N8.i _⟩ (.slice (some ⟨gC, 0, none⟩) ys.length yc) (.slice zA zs.length zs.length) (.int .i64 yq) (.int .i64 yl)
    have hy8 := k4.2.2.2.2 _ _ (by omega) o6
    refine bodyPost_ret (v := .tuple #[.agg #[.slice (some ⟨gC, 0, none⟩) ys.length yc, .slice zA zs.length zs.length, .int .i64 yq, .int .i64 yl], .int .i64 0]) (by simp [results, Try.results16, go_sem, k4.1.c0, k4.1.c1, k4.1.c2, k4.1.c3]) rfl ⟨⟨⟨some ⟨gC, 0, none⟩, yc, ys.modify k fun r => ⟨1, r.b, r.o⟩, zA, zs.length, zs, yq, yl⟩, by simp [DV.v], ?_, hy8.less (by omega)⟩, B6.trans (k4.2.2.1 _ hlo)⟩
    show (⟨cds (ys.modify k fun r => ⟨1, r.b, r.o⟩), wds zs, yq, yl⟩ : Dsk) = _
    show (⟨cds (ys.modify k _), wds zs, yq, yl⟩ : Dsk) = ⟨(cds d.cs).modify k (fun c => if c.st = 0 then ⟨1, c.bs, c.old⟩ else c), wds d.ws, d.reqs, d.left⟩
    rw [cds_modify (f' := fun c => ⟨1, c.bs, c.old⟩) (fun _ => rfl), ← E1.out, ← E2.out, ← E3.out, ← E4.out, modify_at (fun c => ⟨1, c.bs, c.old⟩) (fun c => if c.st = 0 then ⟨1, c.bs, c.old⟩ else c) (cds ys) k r.d EC.out ((if_pos (show r.d.st = 0 from hs)).symm)]
  · have n1 : (r.st == 0) = false := beq_eq_false_iff_ne.2 hs
    go_upto_region 19 with fail
    go_wp2_with fail
    have k4 := set4 Q5 ⟨N8.s _ _ _, N8.s _ _ _, N8.i _, N8.i _⟩ (.slice (some ⟨gC, 0, none⟩) ys.length yc) (.slice zA zs.length zs.length) (.int .i64 yq) (.int .i64 yl)
    have hy8 := k4.2.2.2.2 _ _ (by omega) o5
    refine bodyPost_ret (v := .tuple #[.agg #[.slice (some ⟨gC, 0, none⟩) ys.length yc, .slice zA zs.length zs.length, .int .i64 yq, .int .i64 yl], .int .i64 0]) (by simp [results, Try.results16, go_sem, k4.1.c0, k4.1.c1, k4.1.c2, k4.1.c3]) rfl ⟨⟨⟨some ⟨gC, 0, none⟩, yc, ys, zA, zs.length, zs, yq, yl⟩, by simp [DV.v], ?_, hy8.less (by omega)⟩, B5.trans (k4.2.2.1 _ hlo)⟩
    show (⟨cds ys, wds zs, yq, yl⟩ : Dsk) = ⟨(cds d.cs).modify k (fun c => if c.st = 0 then ⟨1, c.bs, c.old⟩ else c), wds d.ws, d.reqs, d.left⟩
    rw [← E1.out, ← E2.out, ← E3.out, ← E4.out, modify_same (fun c => if c.st = 0 then ⟨1, c.bs, c.old⟩ else c) (cds ys) k r.d EC.out (if_neg (show ¬ r.d.st = 0 from hs))]
set_option maxHeartbeats 4000000 in
theorem fault_sticky (d : DV) (a fr bit bits : Int) (w : World) (hd : d.In w w.heap.size) (hv : Valid d.d) (hh : HasC d.d a) (hc : d.ws.length = 0) :
    Calls Try.prog 16 #[d.v, .int .i64 12, .int .i64 a, .int .i64 fr, .int .i64 bit, .int .i64 bits] w fun e w' => Wd w.heap.size (turnC d.d a (fun c => ⟨2, c.bs, c.old⟩), 0) e w' ∧ Below w.heap.size w w' := by
  have hf := hv.fit
  have cK := fun (W : World) (hb : Below w.heap.size w W) => check_at d W (hd.next hb)
  have cH := fun (W : World) => has_cell d a W
  rw [show errV d.d = 0 from if_pos hv] at cK
  rw [decide_eq_true hh] at cH
  have cR := fun (W : World) (hb : Below w.heap.size w W) => clone_fit d W (hd.next hb) hf
  obtain ⟨k, hk⟩ : ∃ k : Nat, a = k := ⟨a.toNat, by have := hh.1; omega⟩
  have hkl : k < d.cs.length := by have h1 := hh.2; have h2 : d.d.cells.length = d.cs.length := cds_length _; omega
  have hs5 : ∀ c ∈ cds d.cs, c.bs.length ≤ 200 ∧ c.old.length ≤ 200 := fun c hc => by have := hv.2.1 c hc; exact ⟨this.2.2.1, this.2.2.2⟩
  have hn0 : ¬ (0 < (d.ws.length : Int)) := by rw [hc]; simp
  clear hv hh hd hf hc
  unfold DV.v at cR
  rw [hk] at cH ⊢
  have P0 := four_new w (.slice d.CA d.cs.length d.cc) (.slice d.WA d.ws.length d.wc) (.int .i64 d.reqs) (.int .i64 d.left) 25
  have B0 := bl w (.cells #[.slice d.CA d.cs.length d.cc, .slice d.WA d.ws.length d.wc, .int .i64 d.reqs, .int .i64 d.left] 25)
  have L0 : (w.alloc (.cells #[.slice d.CA d.cs.length d.cc, .slice d.WA d.ws.length d.wc, .int .i64 d.reqs, .int .i64 d.left] 25)).heap.size = w.heap.size + 1 := by simp
  unfold DV.v at cK cH ⊢
  go_enter Try.func16, Try.ntmps16
  go_wp2_with fail
  generalize w.alloc (.cells #[.slice d.CA d.cs.length d.cc, .slice d.WA d.ws.length d.wc, .int .i64 d.reqs, .int .i64 d.left] 25) = w0 at *
  have Q0 := four_new w0 (.slice none 0 0) (.slice none 0 0) (.int .i64 0) (.int .i64 0) 25
  have P1 := P0.alloc (by omega) (.cells #[.slice none 0 0, .slice none 0 0, .int .i64 0, .int .i64 0] 25)
  have B1 := kal B0 (.cells #[.slice none 0 0, .slice none 0 0, .int .i64 0, .int .i64 0] 25)
  have L1 : (w0.alloc (.cells #[.slice none 0 0, .slice none 0 0, .int .i64 0, .int .i64 0] 25)).heap.size = w.heap.size + 2 := by simp [L0]
  generalize w0.alloc (.cells #[.slice none 0 0, .slice none 0 0, .int .i64 0, .int .i64 0] 25) = w1 at *
  rw [L0] at Q0
  clear P0 B0 L0 w0
  obtain ⟨c0, c1, c2, c3, -, -, -, -⟩ := id P1
  have hlo : w.heap.size ≤ w.heap.size + 1 := by omega
  go_upto_region 6 with (first | (go_at_call 19; (with_reducible refine (cK _ B1).mono ?_); rintro e w2 ⟨rfl, hb2⟩; have B2 := bt B1 hb2; have S2 := hb2.size; have P2 := P1.keep hb2 (by omega); have Q2 := Q0.keep hb2 (by omega); obtain ⟨p20, p21, p22, p23, -, -, -, -⟩ := id P2; obtain ⟨q20, q21, q22, q23, f20, f21, f22, f23⟩ := id Q2) | (go_at_call 32; (with_reducible refine (cH _).mono ?_); rintro e w3 ⟨rfl, hb3⟩; have B3 := bt B2 hb3; have S3 := hb3.size; have P3 := P2.keep hb3 (by omega); have Q3 := Q2.keep hb3 (by omega); obtain ⟨p30, p31, p32, p33, -, -, -, -⟩ := id P3; obtain ⟨q30, q31, q32, q33, f30, f31, f32, f33⟩ := id Q3) | (go_at_call 37; (with_reducible refine (cR _ B3).mono ?_); rintro e w4 ⟨⟨⟨yA, yc, ys, zA, zc, zs, yq, yl⟩, rfl, hyd, hyo, hyf⟩, hb4⟩; dsimp only at hyf ⊢; subst hyf; have B4 := bt B3 hb4; have S4 := hb4.size; have P4 := P3.keep hb4 (by omega); have Q4 := Q3.keep hb4 (by omega); obtain ⟨p40, p41, p42, p43, -, -, -, -⟩ := id P4; obtain ⟨q40, q41, q42, q43, f40, f41, f42, f43⟩ := id Q4))
  have hyl : ys.length = d.cs.length := by have := congrArg (fun x => x.cells.length) hyd; simpa [DV.d, cds] using this
  obtain ⟨gC, hgC⟩ := hyo.block (show 0 < ys.length by omega)
  dsimp only at hgC
  subst hgC
  have H5 := heap_alloc_new w4 (.cells #[.slice (some ⟨gC, 0, none⟩) ys.length yc, .slice zA zs.length zs.length, .int .i64 yq, .int .i64 yl] 25)
  have R5 := four_new w4 (.slice (some ⟨gC, 0, none⟩) ys.length yc) (.slice zA zs.length zs.length) (.int .i64 yq) (.int .i64 yl) 25
  have Q5 := Q4.alloc (by omega) (.cells #[.slice (some ⟨gC, 0, none⟩) ys.length yc, .slice zA zs.length zs.length, .int .i64 yq, .int .i64 yl] 25)
  have P5 := P4.alloc (by omega) (.cells #[.slice (some ⟨gC, 0, none⟩) ys.length yc, .slice zA zs.length zs.length, .int .i64 yq, .int .i64 yl] 25)
  have o5 := hyo.below (bl w4 (.cells #[.slice (some ⟨gC, 0, none⟩) ys.length yc, .slice zA zs.length zs.length, .int .i64 yq, .int .i64 yl] 25))
  have B5 := kal B4 (.cells #[.slice (some ⟨gC, 0, none⟩) ys.length yc, .slice zA zs.length zs.length, .int .i64 yq, .int .i64 yl] 25)
  have S5 : (w4.alloc (.cells #[.slice (some ⟨gC, 0, none⟩) ys.length yc, .slice zA zs.length zs.length, .int .i64 yq, .int .i64 yl] 25)).heap.size = w4.heap.size + 1 := by simp
  generalize w4.alloc (.cells #[.slice (some ⟨gC, 0, none⟩) ys.length yc, .slice zA zs.length zs.length, .int .i64 yq, .int .i64 yl] 25) = w5 at *
  obtain ⟨t0, t1, t2, t3, g0, g1, g2, g3⟩ := id R5
  obtain ⟨s0, s1, s2, s3, h0, h1, h2, h3⟩ := id Q5
  have hneC : gC ≠ w4.heap.size := fun e => owns_ne o5.oc H5 disk_cell (by rw [e]; rfl)
  obtain ⟨r, er, d0, d1, d2, f0, f1, f2, lo, hi, m1, m2, e2⟩ := o5.at (g := gC) (k := k) rfl (by show k < ys.length; omega)
  dsimp only at er e2
  have i1 : (k : Int) < (ys.length : Int) := by omega
  have e1 : cds ys = cds d.cs := congrArg Dsk.cells hyd
  have E1 := Lib.hid e1
  have E2 : Hid (wds zs = wds d.ws) := congrArg Dsk.cache hyd
  have E3 : Hid (yq = d.reqs) := congrArg Dsk.reqs hyd
  have E4 : Hid (yl = d.left) := congrArg Dsk.left hyd
  have m5 := (hs5 r.d (by rw [← e1]; exact List.mem_of_getElem? e2))
  have ER := Lib.hid er
  have EC := Lib.hid e2
  have hky : k < ys.length := by omega
  clear hyd e1 er e2 hs5 hyl
  have o6 := o5.st (g := gC) (k := k) rfl hky 2
  have R6 := R5.apart (g' := gC) (o := k * 3) hneC.symm (.int .i64 2)
  have Q6 := Q5.apart (g' := gC) (o := k * 3) (show w.heap.size + 1 ≠ gC by omega) (.int .i64 2)
  have B6 := B5.setCell (p := ⟨gC, k * 3, none⟩) (show w.heap.size ≤ gC by omega) (.int .i64 2)
  go_upto_region 19 with fail
  generalize w5.setCell ⟨gC, k * 3, none⟩ (.int .i64 2) = w9 at *
  clear t0 t1 t2 t3 g0 g1 g2 g3 s0 s1 s2 s3 h0 h1 h2 h3
  obtain ⟨t0, t1, t2, t3, g0, g1, g2, g3⟩ := id R6
  obtain ⟨s0, s1, s2, s3, h0, h1, h2, h3⟩ := id Q6
  go_wp2_with fail
  have k4 := set4 Q6 ⟨N8.s _ _ _, N8.s _ _ _, N8.i _, N8.i _⟩ (.slice (some ⟨gC, 0, none⟩) ys.length yc) (.slice zA zs.length zs.length) (.int .i64 yq) (.int .i64 yl)
  have hy8 := k4.2.2.2.2 _ _ (by omega) o6
  refine bodyPost_ret (v := .tuple #[.agg #[.slice (some ⟨gC, 0, none⟩) ys.length yc, .slice zA zs.length zs.length, .int .i64 yq, .int .i64 yl], .int .i64 0]) (by simp [results, Try.results16, go_sem, k4.1.c0, k4.1.c1, k4.1.c2, k4.1.c3]) rfl ⟨⟨⟨some ⟨gC, 0, none⟩, yc, ys.modify k fun r => ⟨2, r.b, r.o⟩, zA, zs.length, zs, yq, yl⟩, by simp [DV.v], ?_, hy8.less (by omega)⟩, B6.trans (k4.2.2.1 _ hlo)⟩
  show (⟨cds (ys.modify k fun r => ⟨2, r.b, r.o⟩), wds zs, yq, yl⟩ : Dsk) = _
  show (⟨cds (ys.modify k _), wds zs, yq, yl⟩ : Dsk) = ⟨(cds d.cs).modify k (fun c => ⟨2, c.bs, c.old⟩), wds d.ws, d.reqs, d.left⟩
  rw [cds_modify (f' := fun c => ⟨2, c.bs, c.old⟩) (fun _ => rfl), ← E1.out, ← E2.out, ← E3.out, ← E4.out, modify_at (fun c => ⟨2, c.bs, c.old⟩) (fun c => ⟨2, c.bs, c.old⟩) (cds ys) k r.d EC.out (rfl)]
end Go.Proofs.Ytegcbmimndmfkaa.dsk

namespace Go.Proofs.Ytegcbmimndmfkaa.dsk
open Go.RowKit Go.Lib
open Go.Proofs.Ytegcbmimndmfkaa.pck (clone_any)

set_option maxHeartbeats 4000000 in
theorem fault_flip (d : DV) (a fr bit bits : Int) (w : World) (hd : d.In w w.heap.size) (hv : Valid d.d) (hh : HasC d.d a) (hc : d.ws.length = 0) (hb0 : 0 ≤ bit) (hb1 : 0 ≤ bits) :
    Calls Try.prog 16 #[d.v, .int .i64 13, .int .i64 a, .int .i64 fr, .int .i64 bit, .int .i64 bits] w fun e w' => Wd w.heap.size (turnC d.d a (fun c => ⟨c.st, flipd c.bs bit bits, c.old⟩), 0) e w' ∧ Below w.heap.size w w' := by
  have hf := hv.fit
  have cK := fun (W : World) (hb : Below w.heap.size w W) => check_at d W (hd.next hb)
  have cH := fun (W : World) => has_cell d a W
  rw [show errV d.d = 0 from if_pos hv] at cK
  rw [decide_eq_true hh] at cH
  have cR := fun (W : World) (hb : Below w.heap.size w W) => clone_fit d W (hd.next hb) hf
  obtain ⟨k, hk⟩ : ∃ k : Nat, a = k := ⟨a.toNat, by have := hh.1; omega⟩
  have hkl : k < d.cs.length := by have h1 := hh.2; have h2 : d.d.cells.length = d.cs.length := cds_length _; omega
  have hs5 : ∀ c ∈ cds d.cs, c.bs.length ≤ 200 ∧ c.old.length ≤ 200 := fun c hc => by have := hv.2.1 c hc; exact ⟨this.2.2.1, this.2.2.2⟩
  have hn0 : ¬ (0 < (d.ws.length : Int)) := by rw [hc]; simp
  clear hv hh hd hf hc
  unfold DV.v at cR
  rw [hk] at cH ⊢
  have P0 := four_new w (.slice d.CA d.cs.length d.cc) (.slice d.WA d.ws.length d.wc) (.int .i64 d.reqs) (.int .i64 d.left) 25
  have B0 := bl w (.cells #[.slice d.CA d.cs.length d.cc, .slice d.WA d.ws.length d.wc, .int .i64 d.reqs, .int .i64 d.left] 25)
  have L0 : (w.alloc (.cells #[.slice d.CA d.cs.length d.cc, .slice d.WA d.ws.length d.wc, .int .i64 d.reqs, .int .i64 d.left] 25)).heap.size = w.heap.size + 1 := by simp
  unfold DV.v at cK cH ⊢
  go_enter Try.func16, Try.ntmps16
  go_wp2_with fail
  generalize w.alloc (.cells #[.slice d.CA d.cs.length d.cc, .slice d.WA d.ws.length d.wc, .int .i64 d.reqs, .int .i64 d.left] 25) = w0 at *
  have Q0 := four_new w0 (.slice none 0 0) (.slice none 0 0) (.int .i64 0) (.int .i64 0) 25
  have P1 := P0.alloc (by omega) (.cells #[.slice none 0 0, .slice none 0 0, .int .i64 0, .int .i64 0] 25)
  have B1 := kal B0 (.cells #[.slice none 0 0, .slice none 0 0, .int .i64 0, .int .i64 0] 25)
  have L1 : (w0.alloc (.cells #[.slice none 0 0, .slice none 0 0, .int .i64 0, .int .i64 0] 25)).heap.size = w.heap.size + 2 := by simp [L0]
  generalize w0.alloc (.cells #[.slice none 0 0, .slice none 0 0, .int .i64 0, .int .i64 0] 25) = w1 at *
  rw [L0] at Q0
  clear P0 B0 L0 w0
  obtain ⟨c0, c1, c2, c3, -, -, -, -⟩ := id P1
  have hlo : w.heap.size ≤ w.heap.size + 1 := by omega
  go_upto_region 6 with (first | (go_at_call 19; (with_reducible refine (cK _ B1).mono ?_); rintro e w2 ⟨rfl, hb2⟩; have B2 := bt B1 hb2; have S2 := hb2.size; have P2 := P1.keep hb2 (by omega); have Q2 := Q0.keep hb2 (by omega); obtain ⟨p20, p21, p22, p23, -, -, -, -⟩ := id P2; obtain ⟨q20, q21, q22, q23, f20, f21, f22, f23⟩ := id Q2) | (go_at_call 32; (with_reducible refine (cH _).mono ?_); rintro e w3 ⟨rfl, hb3⟩; have B3 := bt B2 hb3; have S3 := hb3.size; have P3 := P2.keep hb3 (by omega); have Q3 := Q2.keep hb3 (by omega); obtain ⟨p30, p31, p32, p33, -, -, -, -⟩ := id P3; obtain ⟨q30, q31, q32, q33, f30, f31, f32, f33⟩ := id Q3) | (go_at_call 37; (with_reducible refine (cR _ B3).mono ?_); rintro e w4 ⟨⟨⟨yA, yc, ys, zA, zc, zs, yq, yl⟩, rfl, hyd, hyo, hyf⟩, hb4⟩; dsimp only at hyf ⊢; subst hyf; have B4 := bt B3 hb4; have S4 := hb4.size; have P4 := P3.keep hb4 (by omega); have Q4 := Q3.keep hb4 (by omega); obtain ⟨p40, p41, p42, p43, -, -, -, -⟩ := id P4; obtain ⟨q40, q41, q42, q43, f40, f41, f42, f43⟩ := id Q4))
  have hyl : ys.length = d.cs.length := by have := congrArg (fun x => x.cells.length) hyd; simpa [DV.d, cds] using this
  obtain ⟨gC, hgC⟩ := hyo.block (show 0 < ys.length by omega)
  dsimp only at hgC
  subst hgC
  have H5 := heap_alloc_new w4 (.cells #[.slice (some ⟨gC, 0, none⟩) ys.length yc, .slice zA zs.length zs.length, .int .i64 yq, .int .i64 yl] 25)
  have R5 := four_new w4 (.slice (some ⟨gC, 0, none⟩) ys.length yc) (.slice zA zs.length zs.length) (.int .i64 yq) (.int .i64 yl) 25
  have Q5 := Q4.alloc (by omega) (.cells #[.slice (some ⟨gC, 0, none⟩) ys.length yc, .slice zA zs.length zs.length, .int .i64 yq, .int .i64 yl] 25)
  have P5 := P4.alloc (by omega) (.cells #[.slice (some ⟨gC, 0, none⟩) ys.length yc, .slice zA zs.length zs.length, .int .i64 yq, .int .i64 yl] 25)
  have o5 := hyo.below (bl w4 (.cells #[.slice (some ⟨gC, 0, none⟩) ys.length yc, .slice zA zs.length zs.length, .int .i64 yq, .int .i64 yl] 25))
  have B5 := kal B4 (.cells #[.slice (some ⟨gC, 0, none⟩) ys.length yc, .slice zA zs.length zs.length, .int .i64 yq, .int .i64 yl] 25)
  have S5 : (w4.alloc (.cells #[.slice (some ⟨gC, 0, none⟩) ys.length yc, .slice zA zs.length zs.length, .int .i64 yq, .int .i64 yl] 25)).heap.size = w4.heap.size + 1 := by simp
  generalize w4.alloc (.cells #[.slice (some ⟨gC, 0, none⟩) ys.length yc, .slice zA zs.length zs.length, .int .i64 yq, .int .i64 yl] 25) = w5 at *
  obtain ⟨t0, t1, t2, t3, g0, g1, g2, g3⟩ := id R5
  obtain ⟨s0, s1, s2, s3, h0, h1, h2, h3⟩ := id Q5
  have hneC : gC ≠ w4.heap.size := fun e => owns_ne o5.oc H5 disk_cell (by rw [e]; rfl)
  obtain ⟨r, er, d0, d1, d2, f0, f1, f2, lo, hi, m1, m2, e2⟩ := o5.at (g := gC) (k := k) rfl (by show k < ys.length; omega)
  dsimp only at er e2
  have i1 : (k : Int) < (ys.length : Int) := by omega
  have e1 : cds ys = cds d.cs := congrArg Dsk.cells hyd
  have E1 := Lib.hid e1
  have E2 : Hid (wds zs = wds d.ws) := congrArg Dsk.cache hyd
  have E3 : Hid (yq = d.reqs) := congrArg Dsk.reqs hyd
  have E4 : Hid (yl = d.left) := congrArg Dsk.left hyd
  have m5 := (hs5 r.d (by rw [← e1]; exact List.mem_of_getElem? e2))
  have ER := Lib.hid er
  have EC := Lib.hid e2
  have hky : k < ys.length := by omega
  clear hyd e1 er e2 hs5 hyl
  have m6 : r.b.l.length ≤ 1048576 := Nat.le_trans m5.1 (by decide)
  have cF := flip_c r.b bit bits w5 m1 m6
  go_wp2_with (go_at_call 38; (with_reducible refine cF.mono ?_); rintro e w6 ⟨⟨⟨Xb, xb, lb⟩, rfl, hrl, hll, hnb, -⟩, hb6⟩; unfold Row.v; dsimp only at hrl hll ⊢; have HL := Lib.hid hrl; clear hrl hll; have x1 := (R5.keep hb6 (by omega)); obtain ⟨tt0, tt1, tt2, tt3, gg0, gg1, gg2, gg3⟩ := id x1; obtain ⟨q', -, dd0, dd1, dd2, ff0, ff1, ff2, -, -, -, -, -⟩ := (o5.below hb6).at (g := gC) (k := k) rfl hky; have x2 := (Q5.keep hb6 (by omega)); obtain ⟨ss0, ss1, ss2, ss3, hh0, hh1, hh2, hh3⟩ := id x2; have nw := (show w.heap.size + 1 ≠ gC by omega))
  have o6 : DV.Own (w6.setCell ⟨gC, k * 3 + 1, none⟩ (.slice Xb lb.length xb)) w3.heap.size _ := (o5.below hb6).b (g := gC) (k := k) rfl hky (b := ⟨Xb, xb, lb⟩) hnb
  have R6 := (R5.keep hb6 (by omega)).apart (g' := gC) (o := k * 3 + 1) hneC.symm (.slice Xb lb.length xb)
  have Q6 := (Q5.keep hb6 (by omega)).apart (g' := gC) (o := k * 3 + 1) (show w.heap.size + 1 ≠ gC by omega) (.slice Xb lb.length xb)
  have B6 := (bt B5 hb6).setCell (p := ⟨gC, k * 3 + 1, none⟩) (show w.heap.size ≤ gC by omega) (.slice Xb lb.length xb)
  generalize w6.setCell ⟨gC, k * 3 + 1, none⟩ (.slice Xb lb.length xb) = w9 at *
  have k4 := set4 Q6 ⟨N8.s _ _ _, N8.s _ _ _, N8.i _, N8.i _⟩ (.slice (some ⟨gC, 0, none⟩) ys.length yc) (.slice zA zs.length zs.length) (.int .i64 yq) (.int .i64 yl)
  have hy8 := k4.2.2.2.2 _ _ (by omega) o6
  refine bodyPost_ret (v := .tuple #[.agg #[.slice (some ⟨gC, 0, none⟩) ys.length yc, .slice zA zs.length zs.length, .int .i64 yq, .int .i64 yl], .int .i64 0]) (by simp [results, Try.results16, go_sem, k4.1.c0, k4.1.c1, k4.1.c2, k4.1.c3]) rfl ⟨⟨⟨some ⟨gC, 0, none⟩, yc, ys.modify k fun q0 => ⟨q0.st, ⟨Xb, xb, lb⟩, q0.o⟩, zA, zs.length, zs, yq, yl⟩, by simp [DV.v], ?_, hy8.less (by omega)⟩, B6.trans (k4.2.2.1 _ hlo)⟩
  show (⟨cds (ys.modify k fun q0 => ⟨q0.st, ⟨Xb, xb, lb⟩, q0.o⟩), wds zs, yq, yl⟩ : Dsk) = _
  show (⟨cds (ys.modify k _), wds zs, yq, yl⟩ : Dsk) = ⟨(cds d.cs).modify k (fun c => ⟨c.st, flipd c.bs bit bits, c.old⟩), wds d.ws, d.reqs, d.left⟩
  rw [cds_modify (f' := fun c => ⟨c.st, lb, c.old⟩) (fun _ => rfl), ← E1.out, ← E2.out, ← E3.out, ← E4.out, modify_at (fun c => ⟨c.st, lb, c.old⟩) (fun c => ⟨c.st, flipd c.bs bit bits, c.old⟩) (cds ys) k r.d EC.out (by show (⟨r.st, lb, r.o.l⟩ : Cel) = ⟨r.st, flipd r.b.l bit bits, r.o.l⟩; rw [HL.out])]
set_option maxHeartbeats 4000000 in
theorem fault_stale (d : DV) (a fr bit bits : Int) (w : World) (hd : d.In w w.heap.size) (hv : Valid d.d) (hh : HasC d.d a) (hc : d.ws.length = 0) :
    Calls Try.prog 16 #[d.v, .int .i64 14, .int .i64 a, .int .i64 fr, .int .i64 bit, .int .i64 bits] w fun e w' => Wd w.heap.size (turnC d.d a (fun c => ⟨c.st, c.old, c.old⟩), 0) e w' ∧ Below w.heap.size w w' := by
  have hf := hv.fit
  have cK := fun (W : World) (hb : Below w.heap.size w W) => check_at d W (hd.next hb)
  have cH := fun (W : World) => has_cell d a W
  rw [show errV d.d = 0 from if_pos hv] at cK
  rw [decide_eq_true hh] at cH
  have cR := fun (W : World) (hb : Below w.heap.size w W) => clone_fit d W (hd.next hb) hf
  obtain ⟨k, hk⟩ : ∃ k : Nat, a = k := ⟨a.toNat, by have := hh.1; omega⟩
  have hkl : k < d.cs.length := by have h1 := hh.2; have h2 : d.d.cells.length = d.cs.length := cds_length _; omega
  have hs5 : ∀ c ∈ cds d.cs, c.bs.length ≤ 200 ∧ c.old.length ≤ 200 := fun c hc => by have := hv.2.1 c hc; exact ⟨this.2.2.1, this.2.2.2⟩
  have hn0 : ¬ (0 < (d.ws.length : Int)) := by rw [hc]; simp
  clear hv hh hd hf hc
  unfold DV.v at cR
  rw [hk] at cH ⊢
  have P0 := four_new w (.slice d.CA d.cs.length d.cc) (.slice d.WA d.ws.length d.wc) (.int .i64 d.reqs) (.int .i64 d.left) 25
  have B0 := bl w (.cells #[.slice d.CA d.cs.length d.cc, .slice d.WA d.ws.length d.wc, .int .i64 d.reqs, .int .i64 d.left] 25)
  have L0 : (w.alloc (.cells #[.slice d.CA d.cs.length d.cc, .slice d.WA d.ws.length d.wc, .int .i64 d.reqs, .int .i64 d.left] 25)).heap.size = w.heap.size + 1 := by simp
  unfold DV.v at cK cH ⊢
  go_enter Try.func16, Try.ntmps16
  go_wp2_with fail
  generalize w.alloc (.cells #[.slice d.CA d.cs.length d.cc, .slice d.WA d.ws.length d.wc, .int .i64 d.reqs, .int .i64 d.left] 25) = w0 at *
  have Q0 := four_new w0 (.slice none 0 0) (.slice none 0 0) (.int .i64 0) (.int .i64 0) 25
  have P1 := P0.alloc (by omega) (.cells #[.slice none 0 0, .slice none 0 0, .int .i64 0, .int .i64 0] 25)
  have B1 := kal B0 (.cells #[.slice none 0 0, .slice none 0 0, .int .i64 0, .int .i64 0] 25)
  have L1 : (w0.alloc (.cells #[.slice none 0 0, .slice none 0 0, .int .i64 0, .int .i64 0] 25)).heap.size = w.heap.size + 2 := by simp [L0]
  generalize w0.alloc (.cells #[.slice none 0 0, .slice none 0 0, .int .i64 0, .int .i64 0] 25) = w1 at *
  rw [L0] at Q0
  clear P0 B0 L0 w0
  obtain ⟨c0, c1, c2, c3, -, -, -, -⟩ := id P1
  have hlo : w.heap.size ≤ w.heap.size + 1 := by omega
  go_upto_region 6 with (first | (go_at_call 19; (with_reducible refine (cK _ B1).mono ?_); rintro e w2 ⟨rfl, hb2⟩; have B2 := bt B1 hb2; have S2 := hb2.size; have P2 := P1.keep hb2 (by omega); have Q2 := Q0.keep hb2 (by omega); obtain ⟨p20, p21, p22, p23, -, -, -, -⟩ := id P2; obtain ⟨q20, q21, q22, q23, f20, f21, f22, f23⟩ := id Q2) | (go_at_call 32; (with_reducible refine (cH _).mono ?_); rintro e w3 ⟨rfl, hb3⟩; have B3 := bt B2 hb3; have S3 := hb3.size; have P3 := P2.keep hb3 (by omega); have Q3 := Q2.keep hb3 (by omega); obtain ⟨p30, p31, p32, p33, -, -, -, -⟩ := id P3; obtain ⟨q30, q31, q32, q33, f30, f31, f32, f33⟩ := id Q3) | (go_at_call 37; (with_reducible refine (cR _ B3).mono ?_); rintro e w4 ⟨⟨⟨yA, yc, ys, zA, zc, zs, yq, yl⟩, rfl, hyd, hyo, hyf⟩, hb4⟩; dsimp only at hyf ⊢; subst hyf; have B4 := bt B3 hb4; have S4 := hb4.size; have P4 := P3.keep hb4 (by omega); have Q4 := Q3.keep hb4 (by omega); obtain ⟨p40, p41, p42, p43, -, -, -, -⟩ := id P4; obtain ⟨q40, q41, q42, q43, f40, f41, f42, f43⟩ := id Q4))
  have hyl : ys.length = d.cs.length := by have := congrArg (fun x => x.cells.length) hyd; simpa [DV.d, cds] using this
  obtain ⟨gC, hgC⟩ := hyo.block (show 0 < ys.length by omega)
  dsimp only at hgC
  subst hgC
  have H5 := heap_alloc_new w4 (.cells #[.slice (some ⟨gC, 0, none⟩) ys.length yc, .slice zA zs.length zs.length, .int .i64 yq, .int .i64 yl] 25)
  have R5 := four_new w4 (.slice (some ⟨gC, 0, none⟩) ys.length yc) (.slice zA zs.length zs.length) (.int .i64 yq) (.int .i64 yl) 25
  have Q5 := Q4.alloc (by omega) (.cells #[.slice (some ⟨gC, 0, none⟩) ys.length yc, .slice zA zs.length zs.length, .int .i64 yq, .int .i64 yl] 25)
  have P5 := P4.alloc (by omega) (.cells #[.slice (some ⟨gC, 0, none⟩) ys.length yc, .slice zA zs.length zs.length, .int .i64 yq, .int .i64 yl] 25)
  have o5 := hyo.below (bl w4 (.cells #[.slice (some ⟨gC, 0, none⟩) ys.length yc, .slice zA zs.length zs.length, .int .i64 yq, .int .i64 yl] 25))
  have B5 := kal B4 (.cells #[.slice (some ⟨gC, 0, none⟩) ys.length yc, .slice zA zs.length zs.length, .int .i64 yq, .int .i64 yl] 25)
  have S5 : (w4.alloc (.cells #[.slice (some ⟨gC, 0, none⟩) ys.length yc, .slice zA zs.length zs.length, .int .i64 yq, .int .i64 yl] 25)).heap.size = w4.heap.size + 1 := by simp
  generalize w4.alloc (.cells #[.slice (some ⟨gC, 0, none⟩) ys.length yc, .slice zA zs.length zs.length, .int .i64 yq, .int .i64 yl] 25) = w5 at *
  obtain ⟨t0, t1, t2, t3, g0, g1, g2, g3⟩ := id R5
  obtain ⟨s0, s1, s2, s3, h0, h1, h2, h3⟩ := id Q5
  have hneC : gC ≠ w4.heap.size := fun e => owns_ne o5.oc H5 disk_cell (by rw [e]; rfl)
  obtain ⟨r, er, d0, d1, d2, f0, f1, f2, lo, hi, m1, m2, e2⟩ := o5.at (g := gC) (k := k) rfl (by show k < ys.length; omega)
  dsimp only at er e2
  have i1 : (k : Int) < (ys.length : Int) := by omega
  have e1 : cds ys = cds d.cs := congrArg Dsk.cells hyd
  have E1 := Lib.hid e1
  have E2 : Hid (wds zs = wds d.ws) := congrArg Dsk.cache hyd
  have E3 : Hid (yq = d.reqs) := congrArg Dsk.reqs hyd
  have E4 : Hid (yl = d.left) := congrArg Dsk.left hyd
  have m5 := (hs5 r.d (by rw [← e1]; exact List.mem_of_getElem? e2))
  have ER := Lib.hid er
  have EC := Lib.hid e2
  have hky : k < ys.length := by omega
  clear hyd e1 er e2 hs5 hyl
  have m6 : r.o.l.length ≤ 200 := m5.2
  have cC := clone_any r.o.A r.o.c _ r.o.l.length r.o.l w5 rfl m2.1 (by omega)
  go_wp2_with (go_at_call 35; (with_reducible refine cC.mono ?_); rintro e w6 ⟨⟨v6, rfl, ho6⟩, hb6⟩; obtain ⟨Xb, xb, rfl, -, -, -, -⟩ := id ho6.form; have hnb := own_rin (r := ⟨Xb, xb, r.o.l⟩) ho6; have x1 := (R5.keep hb6 (by omega)); obtain ⟨tt0, tt1, tt2, tt3, gg0, gg1, gg2, gg3⟩ := id x1; obtain ⟨q', -, dd0, dd1, dd2, ff0, ff1, ff2, -, -, -, -, -⟩ := (o5.below hb6).at (g := gC) (k := k) rfl hky; have x2 := (Q5.keep hb6 (by omega)); obtain ⟨ss0, ss1, ss2, ss3, hh0, hh1, hh2, hh3⟩ := id x2; have nw := (show w.heap.size + 1 ≠ gC by omega))
  have o6 : DV.Own (w6.setCell ⟨gC, k * 3 + 1, none⟩ (.slice Xb r.o.l.length xb)) w3.heap.size _ := (o5.below hb6).b (g := gC) (k := k) rfl hky (b := ⟨Xb, xb, r.o.l⟩) hnb
  have R6 := (R5.keep hb6 (by omega)).apart (g' := gC) (o := k * 3 + 1) hneC.symm (.slice Xb r.o.l.length xb)
  have Q6 := (Q5.keep hb6 (by omega)).apart (g' := gC) (o := k * 3 + 1) (show w.heap.size + 1 ≠ gC by omega) (.slice Xb r.o.l.length xb)
  have B6 := (bt B5 hb6).setCell (p := ⟨gC, k * 3 + 1, none⟩) (show w.heap.size ≤ gC by omega) (.slice Xb r.o.l.length xb)
  generalize w6.setCell ⟨gC, k * 3 + 1, none⟩ (.slice Xb r.o.l.length xb) = w9 at *
  have k4 := set4 Q6 ⟨N8.s _ _ _, N8.s _ _ _, N8.i _, N8.i _⟩ (.slice (some ⟨gC, 0, none⟩) ys.length yc) (.slice zA zs.length zs.length) (.int .i64 yq) (.int .i64 yl)
  have hy8 := k4.2.2.2.2 _ _ (by omega) o6
  refine bodyPost_ret (v := .tuple #[.agg #[.slice (some ⟨gC, 0, none⟩) ys.length yc, .slice zA zs.length zs.length, .int .i64 yq, .int .i64 yl], .int .i64 0]) (by simp [results, Try.results16, go_sem, k4.1.c0, k4.1.c1, k4.1.c2, k4.1.c3]) rfl ⟨⟨⟨some ⟨gC, 0, none⟩, yc, ys.modify k fun q0 => ⟨q0.st, ⟨Xb, xb, r.o.l⟩, q0.o⟩, zA, zs.length, zs, yq, yl⟩, by simp [DV.v], ?_, hy8.less (by omega)⟩, B6.trans (k4.2.2.1 _ hlo)⟩
  show (⟨cds (ys.modify k fun q0 => ⟨q0.st, ⟨Xb, xb, r.o.l⟩, q0.o⟩), wds zs, yq, yl⟩ : Dsk) = _
  show (⟨cds (ys.modify k _), wds zs, yq, yl⟩ : Dsk) = ⟨(cds d.cs).modify k (fun c => ⟨c.st, c.old, c.old⟩), wds d.ws, d.reqs, d.left⟩
  rw [cds_modify (f' := fun c => ⟨c.st, r.o.l, c.old⟩) (fun _ => rfl), ← E1.out, ← E2.out, ← E3.out, ← E4.out, modify_at (fun c => ⟨c.st, r.o.l, c.old⟩) (fun c => ⟨c.st, c.old, c.old⟩) (cds ys) k r.d EC.out (by show (⟨r.st, r.o.l, r.o.l⟩ : Cel) = ⟨r.st, r.o.l, r.o.l⟩; rfl)]
set_option maxHeartbeats 4000000 in
theorem fault_move (d : DV) (a fr bit bits : Int) (w : World) (hd : d.In w w.heap.size) (hv : Valid d.d) (hh : HasC d.d a) (hc : d.ws.length = 0) (hfr : HasC d.d fr) :
    Calls Try.prog 16 #[d.v, .int .i64 15, .int .i64 a, .int .i64 fr, .int .i64 bit, .int .i64 bits] w fun e w' => Wd w.heap.size (turnC d.d a (fun c => ⟨c.st, (d.d.cells[fr.toNat]?.map Cel.bs).getD [], c.old⟩), 0) e w' ∧ Below w.heap.size w w' := by
  obtain ⟨j, hj⟩ : ∃ j : Nat, fr = j := ⟨fr.toNat, by have := hfr.1; omega⟩
  have hjl : j < d.cs.length := by have h1 := hfr.2; have h2 : d.d.cells.length = d.cs.length := cds_length _; omega
  have hs6 : ∀ c ∈ cds d.cs, c.bs.length ≤ 200 ∧ c.old.length ≤ 200 := fun c hc => by have := hv.2.1 c hc; exact ⟨this.2.2.1, this.2.2.2⟩
  clear hfr
  have hf := hv.fit
  have cK := fun (W : World) (hb : Below w.heap.size w W) => check_at d W (hd.next hb)
  have cH := fun (W : World) => has_cell d a W
  rw [show errV d.d = 0 from if_pos hv] at cK
  rw [decide_eq_true hh] at cH
  have cR := fun (W : World) (hb : Below w.heap.size w W) => clone_fit d W (hd.next hb) hf
  obtain ⟨k, hk⟩ : ∃ k : Nat, a = k := ⟨a.toNat, by have := hh.1; omega⟩
  have hkl : k < d.cs.length := by have h1 := hh.2; have h2 : d.d.cells.length = d.cs.length := cds_length _; omega
  have hs5 : ∀ c ∈ cds d.cs, c.bs.length ≤ 200 ∧ c.old.length ≤ 200 := fun c hc => by have := hv.2.1 c hc; exact ⟨this.2.2.1, this.2.2.2⟩
  have hn0 : ¬ (0 < (d.ws.length : Int)) := by rw [hc]; simp
  clear hv hh hd hf hc
  unfold DV.v at cR
  rw [hk] at cH ⊢
  have P0 := four_new w (.slice d.CA d.cs.length d.cc) (.slice d.WA d.ws.length d.wc) (.int .i64 d.reqs) (.int .i64 d.left) 25
  have B0 := bl w (.cells #[.slice d.CA d.cs.length d.cc, .slice d.WA d.ws.length d.wc, .int .i64 d.reqs, .int .i64 d.left] 25)
  have L0 : (w.alloc (.cells #[.slice d.CA d.cs.length d.cc, .slice d.WA d.ws.length d.wc, .int .i64 d.reqs, .int .i64 d.left] 25)).heap.size = w.heap.size + 1 := by simp
  unfold DV.v at cK cH ⊢
  go_enter Try.func16, Try.ntmps16
  go_wp2_with fail
  generalize w.alloc (.cells #[.slice d.CA d.cs.length d.cc, .slice d.WA d.ws.length d.wc, .int .i64 d.reqs, .int .i64 d.left] 25) = w0 at *
  have Q0 := four_new w0 (.slice none 0 0) (.slice none 0 0) (.int .i64 0) (.int .i64 0) 25
  have P1 := P0.alloc (by omega) (.cells #[.slice none 0 0, .slice none 0 0, .int .i64 0, .int .i64 0] 25)
  have B1 := kal B0 (.cells #[.slice none 0 0, .slice none 0 0, .int .i64 0, .int .i64 0] 25)
  have L1 : (w0.alloc (.cells #[.slice none 0 0, .slice none 0 0, .int .i64 0, .int .i64 0] 25)).heap.size = w.heap.size + 2 := by simp [L0]
  generalize w0.alloc (.cells #[.slice none 0 0, .slice none 0 0, .int .i64 0, .int .i64 0] 25) = w1 at *
  rw [L0] at Q0
  clear P0 B0 L0 w0
  obtain ⟨c0, c1, c2, c3, -, -, -, -⟩ := id P1
  have hlo : w.heap.size ≤ w.heap.size + 1 := by omega
  go_upto_region 6 with (first | (go_at_call 19; (with_reducible refine (cK _ B1).mono ?_); rintro e w2 ⟨rfl, hb2⟩; have B2 := bt B1 hb2; have S2 := hb2.size; have P2 := P1.keep hb2 (by omega); have Q2 := Q0.keep hb2 (by omega); obtain ⟨p20, p21, p22, p23, -, -, -, -⟩ := id P2; obtain ⟨q20, q21, q22, q23, f20, f21, f22, f23⟩ := id Q2) | (go_at_call 32; (with_reducible refine (cH _).mono ?_); rintro e w3 ⟨rfl, hb3⟩; have B3 := bt B2 hb3; have S3 := hb3.size; have P3 := P2.keep hb3 (by omega); have Q3 := Q2.keep hb3 (by omega); obtain ⟨p30, p31, p32, p33, -, -, -, -⟩ := id P3; obtain ⟨q30, q31, q32, q33, f30, f31, f32, f33⟩ := id Q3) | (go_at_call 37; (with_reducible refine (cR _ B3).mono ?_); rintro e w4 ⟨⟨⟨yA, yc, ys, zA, zc, zs, yq, yl⟩, rfl, hyd, hyo, hyf⟩, hb4⟩; dsimp only at hyf ⊢; subst hyf; have B4 := bt B3 hb4; have S4 := hb4.size; have P4 := P3.keep hb4 (by omega); have Q4 := Q3.keep hb4 (by omega); obtain ⟨p40, p41, p42, p43, -, -, -, -⟩ := id P4; obtain ⟨q40, q41, q42, q43, f40, f41, f42, f43⟩ := id Q4))
  have hyl : ys.length = d.cs.length := by have := congrArg (fun x => x.cells.length) hyd; simpa [DV.d, cds] using this
  obtain ⟨gC, hgC⟩ := hyo.block (show 0 < ys.length by omega)
  dsimp only at hgC
  subst hgC
  have H5 := heap_alloc_new w4 (.cells #[.slice (some ⟨gC, 0, none⟩) ys.length yc, .slice zA zs.length zs.length, .int .i64 yq, .int .i64 yl] 25)
  have R5 := four_new w4 (.slice (some ⟨gC, 0, none⟩) ys.length yc) (.slice zA zs.length zs.length) (.int .i64 yq) (.int .i64 yl) 25
  have Q5 := Q4.alloc (by omega) (.cells #[.slice (some ⟨gC, 0, none⟩) ys.length yc, .slice zA zs.length zs.length, .int .i64 yq, .int .i64 yl] 25)
  have P5 := P4.alloc (by omega) (.cells #[.slice (some ⟨gC, 0, none⟩) ys.length yc, .slice zA zs.length zs.length, .int .i64 yq, .int .i64 yl] 25)
  have o5 := hyo.below (bl w4 (.cells #[.slice (some ⟨gC, 0, none⟩) ys.length yc, .slice zA zs.length zs.length, .int .i64 yq, .int .i64 yl] 25))
  have B5 := kal B4 (.cells #[.slice (some ⟨gC, 0, none⟩) ys.length yc, .slice zA zs.length zs.length, .int .i64 yq, .int .i64 yl] 25)
  have S5 : (w4.alloc (.cells #[.slice (some ⟨gC, 0, none⟩) ys.length yc, .slice zA zs.length zs.length, .int .i64 yq, .int .i64 yl] 25)).heap.size = w4.heap.size + 1 := by simp
  generalize w4.alloc (.cells #[.slice (some ⟨gC, 0, none⟩) ys.length yc, .slice zA zs.length zs.length, .int .i64 yq, .int .i64 yl] 25) = w5 at *
  obtain ⟨t0, t1, t2, t3, g0, g1, g2, g3⟩ := id R5
  obtain ⟨s0, s1, s2, s3, h0, h1, h2, h3⟩ := id Q5
  have hneC : gC ≠ w4.heap.size := fun e => owns_ne o5.oc H5 disk_cell (by rw [e]; rfl)
  obtain ⟨r, er, d0, d1, d2, f0, f1, f2, lo, hi, m1, m2, e2⟩ := o5.at (g := gC) (k := k) rfl (by show k < ys.length; omega)
  dsimp only at er e2
  have i1 : (k : Int) < (ys.length : Int) := by omega
  have e1 : cds ys = cds d.cs := congrArg Dsk.cells hyd
  have E1 := Lib.hid e1
  have E2 : Hid (wds zs = wds d.ws) := congrArg Dsk.cache hyd
  have E3 : Hid (yq = d.reqs) := congrArg Dsk.reqs hyd
  have E4 : Hid (yl = d.left) := congrArg Dsk.left hyd
  have m5 := (hs5 r.d (by rw [← e1]; exact List.mem_of_getElem? e2))
  have ER := Lib.hid er
  have EC := Lib.hid e2
  have hky : k < ys.length := by omega
  clear hyd e1 er e2 hs5 hyl
  have hjy : j < ys.length := by have := congrArg List.length E1.out; rw [cds_length, cds_length] at this; omega
  have i2 : (j : Int) < (ys.length : Int) := by omega
  obtain ⟨r2, er2, x0, x1, x2, -, -, -, -, -, n1, n2, e22⟩ := o5.at (g := gC) (k := j) rfl hjy
  dsimp only at er2 e22
  have EJ := Lib.hid e22
  have m6 : r2.b.l.length ≤ 200 := (hs6 r2.d (by rw [← E1.out]; exact List.mem_of_getElem? e22)).1
  clear er2 e22 hs6 hjl
  have cF := has_cell ⟨some ⟨gC, 0, none⟩, yc, ys, zA, zs.length, zs, yq, yl⟩ (j : Int) w5
  have hhj : HasC (DV.d ⟨some ⟨gC, 0, none⟩, yc, ys, zA, zs.length, zs, yq, yl⟩) (j : Int) := ⟨by omega, by show (j : Int) < ((cds ys).length : Int); rw [cds_length]; exact i2⟩
  rw [decide_eq_true hhj] at cF
  unfold DV.v at cF
  dsimp only at cF
  clear hhj
  have cC := fun (W : World) (hW : Below w5.heap.size w5 W) => clone_any r2.b.A r2.b.c _ r2.b.l.length r2.b.l W rfl (n1.next hW).1 (by omega)
  go_wp2_with (first | (go_at_call 32; (with_reducible refine cF.mono ?_); rintro e w5' ⟨rfl, hb5'⟩; have s5' := hb5'.size; have y1 := (R5.keep hb5' (by omega)); obtain ⟨yt0, yt1, yt2, yt3, -, -, -, -⟩ := id y1; have xb1 : w5'.cell? ⟨gC, j * 3 + 1, none⟩ = some (.slice r2.b.A r2.b.l.length r2.b.c) := ks hb5' hi x1) | (go_at_call 35; (with_reducible refine (cC _ hb5').mono ?_); rintro e w6 ⟨⟨v6, rfl, ho6⟩, hb6'⟩; obtain ⟨Xb, xb, rfl, -, -, -, -⟩ := id ho6.form; have hnb := own_rin (r := ⟨Xb, xb, r2.b.l⟩) ho6; have hb6 := bt hb5' hb6'; have x1 := (R5.keep hb6 (by omega)); obtain ⟨tt0, tt1, tt2, tt3, gg0, gg1, gg2, gg3⟩ := id x1; obtain ⟨q', -, dd0, dd1, dd2, ff0, ff1, ff2, -, -, -, -, -⟩ := (o5.below hb6).at (g := gC) (k := k) rfl hky; have x2 := (Q5.keep hb6 (by omega)); obtain ⟨ss0, ss1, ss2, ss3, hh0, hh1, hh2, hh3⟩ := id x2; have nw := (show w.heap.size + 1 ≠ gC by omega)))
  have o6 : DV.Own (w6.setCell ⟨gC, k * 3 + 1, none⟩ (.slice Xb r2.b.l.length xb)) w3.heap.size _ := (o5.below hb6).b (g := gC) (k := k) rfl hky (b := ⟨Xb, xb, r2.b.l⟩) hnb
  have R6 := (R5.keep hb6 (by omega)).apart (g' := gC) (o := k * 3 + 1) hneC.symm (.slice Xb r2.b.l.length xb)
  have Q6 := (Q5.keep hb6 (by omega)).apart (g' := gC) (o := k * 3 + 1) (show w.heap.size + 1 ≠ gC by omega) (.slice Xb r2.b.l.length xb)
  have B6 := (bt B5 hb6).setCell (p := ⟨gC, k * 3 + 1, none⟩) (show w.heap.size ≤ gC by omega) (.slice Xb r2.b.l.length xb)
  generalize w6.setCell ⟨gC, k * 3 + 1, none⟩ (.slice Xb r2.b.l.length xb) = w9 at *
  have k4 := set4 Q6 ⟨N8.s _ _ _, N8.s _ _ _, N8.i _, N8.i _⟩ (.slice (some ⟨gC, 0, none⟩) ys.length yc) (.slice zA zs.length zs.length) (.int .i64 yq) (.int .i64 yl)
  have hy8 := k4.2.2.2.2 _ _ (by omega) o6
  refine bodyPost_ret (v := .tuple #[.agg #[.slice (some ⟨gC, 0, none⟩) ys.length yc, .slice zA zs.length zs.length, .int .i64 yq, .int .i64 yl], .int .i64 0]) (by simp [results, Try.results16, go_sem, k4.1.c0, k4.1.c1, k4.1.c2, k4.1.c3]) rfl ⟨⟨⟨some ⟨gC, 0, none⟩, yc, ys.modify k fun q0 => ⟨q0.st, ⟨Xb, xb, r2.b.l⟩, q0.o⟩, zA, zs.length, zs, yq, yl⟩, by simp [DV.v], ?_, hy8.less (by omega)⟩, B6.trans (k4.2.2.1 _ hlo)⟩
  show (⟨cds (ys.modify k fun q0 => ⟨q0.st, ⟨Xb, xb, r2.b.l⟩, q0.o⟩), wds zs, yq, yl⟩ : Dsk) = _
  show (⟨cds (ys.modify k _), wds zs, yq, yl⟩ : Dsk) = ⟨(cds d.cs).modify k (fun c => ⟨c.st, (d.d.cells[fr.toNat]?.map Cel.bs).getD [], c.old⟩), wds d.ws, d.reqs, d.left⟩
  rw [cds_modify (f' := fun c => ⟨c.st, r2.b.l, c.old⟩) (fun _ => rfl), ← E1.out, ← E2.out, ← E3.out, ← E4.out, modify_at (fun c => ⟨c.st, r2.b.l, c.old⟩) (fun c => ⟨c.st, (d.d.cells[fr.toNat]?.map Cel.bs).getD [], c.old⟩) (cds ys) k r.d EC.out (by rw [show d.d.cells = cds d.cs from rfl, ← E1.out, show fr.toNat = j by rw [hj]; rfl, EJ.out]; rfl)]
set_option maxHeartbeats 4000000 in
theorem fault_other (d : DV) (kind a fr bit bits : Int) (w : World) (hd : d.In w w.heap.size) (hv : Valid d.d) (hh : HasC d.d a) (hc : d.ws.length = 0) (k1 : kind ≠ 11) (k2 : kind ≠ 12) (k3 : kind ≠ 13) (k4 : kind ≠ 14) (k5 : kind ≠ 15) :
    Calls Try.prog 16 #[d.v, .int .i64 kind, .int .i64 a, .int .i64 fr, .int .i64 bit, .int .i64 bits] w fun e w' => Wd w.heap.size (noDsk, 1) e w' ∧ Below w.heap.size w w' := by
  have j1 : (kind == 11) = false := beq_eq_false_iff_ne.2 k1
  have j2 : (kind == 12) = false := beq_eq_false_iff_ne.2 k2
  have j3 : (kind == 13) = false := beq_eq_false_iff_ne.2 k3
  have j4 : (kind == 14) = false := beq_eq_false_iff_ne.2 k4
  have j5 : (kind == 15) = false := beq_eq_false_iff_ne.2 k5
  clear k1 k2 k3 k4 k5
  have hf := hv.fit
  have cK := fun (W : World) (hb : Below w.heap.size w W) => check_at d W (hd.next hb)
  have cH := fun (W : World) => has_cell d a W
  rw [show errV d.d = 0 from if_pos hv] at cK
  rw [decide_eq_true hh] at cH
  have cR := fun (W : World) (hb : Below w.heap.size w W) => clone_fit d W (hd.next hb) hf
  obtain ⟨k, hk⟩ : ∃ k : Nat, a = k := ⟨a.toNat, by have := hh.1; omega⟩
  have hkl : k < d.cs.length := by have h1 := hh.2; have h2 : d.d.cells.length = d.cs.length := cds_length _; omega
  have hs5 : ∀ c ∈ cds d.cs, c.bs.length ≤ 200 ∧ c.old.length ≤ 200 := fun c hc => by have := hv.2.1 c hc; exact ⟨this.2.2.1, this.2.2.2⟩
  have hn0 : ¬ (0 < (d.ws.length : Int)) := by rw [hc]; simp
  clear hv hh hd hf hc
  unfold DV.v at cR
  rw [hk] at cH ⊢
  have P0 := four_new w (.slice d.CA d.cs.length d.cc) (.slice d.WA d.ws.length d.wc) (.int .i64 d.reqs) (.int .i64 d.left) 25
  have B0 := bl w (.cells #[.slice d.CA d.cs.length d.cc, .slice d.WA d.ws.length d.wc, .int .i64 d.reqs, .int .i64 d.left] 25)
  have L0 : (w.alloc (.cells #[.slice d.CA d.cs.length d.cc, .slice d.WA d.ws.length d.wc, .int .i64 d.reqs, .int .i64 d.left] 25)).heap.size = w.heap.size + 1 := by simp
  unfold DV.v at cK cH ⊢
  go_enter Try.func16, Try.ntmps16
  go_wp2_with fail
  generalize w.alloc (.cells #[.slice d.CA d.cs.length d.cc, .slice d.WA d.ws.length d.wc, .int .i64 d.reqs, .int .i64 d.left] 25) = w0 at *
  have Q0 := four_new w0 (.slice none 0 0) (.slice none 0 0) (.int .i64 0) (.int .i64 0) 25
  have P1 := P0.alloc (by omega) (.cells #[.slice none 0 0, .slice none 0 0, .int .i64 0, .int .i64 0] 25)
  have B1 := kal B0 (.cells #[.slice none 0 0, .slice none 0 0, .int .i64 0, .int .i64 0] 25)
  have L1 : (w0.alloc (.cells #[.slice none 0 0, .slice none 0 0, .int .i64 0, .int .i64 0] 25)).heap.size = w.heap.size + 2 := by simp [L0]
  generalize w0.alloc (.cells #[.slice none 0 0, .slice none 0 0, .int .i64 0, .int .i64 0] 25) = w1 at *
  rw [L0] at Q0
  clear P0 B0 L0 w0
  obtain ⟨c0, c1, c2, c3, -, -, -, -⟩ := id P1
  have hlo : w.heap.size ≤ w.heap.size + 1 := by omega
  go_upto_region 6 with (first | (go_at_call 19; (with_reducible refine (cK _ B1).mono ?_); rintro e w2 ⟨rfl, hb2⟩; have B2 := bt B1 hb2; have S2 := hb2.size; have P2 := P1.keep hb2 (by omega); have Q2 := Q0.keep hb2 (by omega); obtain ⟨p20, p21, p22, p23, -, -, -, -⟩ := id P2; obtain ⟨q20, q21, q22, q23, f20, f21, f22, f23⟩ := id Q2) | (go_at_call 32; (with_reducible refine (cH _).mono ?_); rintro e w3 ⟨rfl, hb3⟩; have B3 := bt B2 hb3; have S3 := hb3.size; have P3 := P2.keep hb3 (by omega); have Q3 := Q2.keep hb3 (by omega); obtain ⟨p30, p31, p32, p33, -, -, -, -⟩ := id P3; obtain ⟨q30, q31, q32, q33, f30, f31, f32, f33⟩ := id Q3) | (go_at_call 37; (with_reducible refine (cR _ B3).mono ?_); rintro e w4 ⟨⟨⟨yA, yc, ys, zA, zc, zs, yq, yl⟩, rfl, hyd, hyo, hyf⟩, hb4⟩; dsimp only at hyf ⊢; subst hyf; have B4 := bt B3 hb4; have S4 := hb4.size; have P4 := P3.keep hb4 (by omega); have Q4 := Q3.keep hb4 (by omega); obtain ⟨p40, p41, p42, p43, -, -, -, -⟩ := id P4; obtain ⟨q40, q41, q42, q43, f40, f41, f42, f43⟩ := id Q4))
  have hyl : ys.length = d.cs.length := by have := congrArg (fun x => x.cells.length) hyd; simpa [DV.d, cds] using this
  obtain ⟨gC, hgC⟩ := hyo.block (show 0 < ys.length by omega)
  dsimp only at hgC
  subst hgC
  have H5 := heap_alloc_new w4 (.cells #[.slice (some ⟨gC, 0, none⟩) ys.length yc, .slice zA zs.length zs.length, .int .i64 yq, .int .i64 yl] 25)
  have R5 := four_new w4 (.slice (some ⟨gC, 0, none⟩) ys.length yc) (.slice zA zs.length zs.length) (.int .i64 yq) (.int .i64 yl) 25
  have Q5 := Q4.alloc (by omega) (.cells #[.slice (some ⟨gC, 0, none⟩) ys.length yc, .slice zA zs.length zs.length, .int .i64 yq, .int .i64 yl] 25)
  have P5 := P4.alloc (by omega) (.cells #[.slice (some ⟨gC, 0, none⟩) ys.length yc, .slice zA zs.length zs.length, .int .i64 yq, .int .i64 yl] 25)
  have o5 := hyo.below (bl w4 (.cells #[.slice (some ⟨gC, 0, none⟩) ys.length yc, .slice zA zs.length zs.length, .int .i64 yq, .int .i64 yl] 25))
  have B5 := kal B4 (.cells #[.slice (some ⟨gC, 0, none⟩) ys.length yc, .slice zA zs.length zs.length, .int .i64 yq, .int .i64 yl] 25)
  have S5 : (w4.alloc (.cells #[.slice (some ⟨gC, 0, none⟩) ys.length yc, .slice zA zs.length zs.length, .int .i64 yq, .int .i64 yl] 25)).heap.size = w4.heap.size + 1 := by simp
  generalize w4.alloc (.cells #[.slice (some ⟨gC, 0, none⟩) ys.length yc, .slice zA zs.length zs.length, .int .i64 yq, .int .i64 yl] 25) = w5 at *
  obtain ⟨t0, t1, t2, t3, g0, g1, g2, g3⟩ := id R5
  obtain ⟨s0, s1, s2, s3, h0, h1, h2, h3⟩ := id Q5
  have hneC : gC ≠ w4.heap.size := fun e => owns_ne o5.oc H5 disk_cell (by rw [e]; rfl)
  obtain ⟨r, er, d0, d1, d2, f0, f1, f2, lo, hi, m1, m2, e2⟩ := o5.at (g := gC) (k := k) rfl (by show k < ys.length; omega)
  dsimp only at er e2
  have i1 : (k : Int) < (ys.length : Int) := by omega
  have e1 : cds ys = cds d.cs := congrArg Dsk.cells hyd
  have E1 := Lib.hid e1
  have E2 : Hid (wds zs = wds d.ws) := congrArg Dsk.cache hyd
  have E3 : Hid (yq = d.reqs) := congrArg Dsk.reqs hyd
  have E4 : Hid (yl = d.left) := congrArg Dsk.left hyd
  have m5 := (hs5 r.d (by rw [← e1]; exact List.mem_of_getElem? e2))
  have ER := Lib.hid er
  have EC := Lib.hid e2
  have hky : k < ys.length := by omega
  clear hyd e1 er e2 hs5 hyl
  clear ER EC E1 E2 E3 E4 m1 m2 m5
  go_wp2_with fail
  have k4 := set4 Q5 ⟨N8.s _ _ _, N8.s _ _ _, N8.i _, N8.i _⟩ (.slice none 0 0) (.slice none 0 0) (.int .i64 0) (.int .i64 0)
  refine bodyPost_ret (v := .tuple #[.agg #[.slice none 0 0, .slice none 0 0, .int .i64 0, .int .i64 0], .int .i64 1]) (by simp [results, Try.results16, go_sem, k4.1.c0, k4.1.c1, k4.1.c2, k4.1.c3]) rfl ⟨⟨zdv, rfl, rfl, zdv_own _ _⟩, B5.trans (k4.2.2.1 _ hlo)⟩
set_option maxHeartbeats 4000000 in
theorem fault_bit (d : DV) (a fr bit bits : Int) (w : World) (hd : d.In w w.heap.size) (hv : Valid d.d) (hh : HasC d.d a) (hc : d.ws.length = 0) (hb0 : bit < 0) :
    Calls Try.prog 16 #[d.v, .int .i64 13, .int .i64 a, .int .i64 fr, .int .i64 bit, .int .i64 bits] w fun e w' => Wd w.heap.size (noDsk, 1) e w' ∧ Below w.heap.size w w' := by
  have hb2 : ¬ 0 ≤ bit := by omega
  have hf := hv.fit
  have cK := fun (W : World) (hb : Below w.heap.size w W) => check_at d W (hd.next hb)
  have cH := fun (W : World) => has_cell d a W
  rw [show errV d.d = 0 from if_pos hv] at cK
  rw [decide_eq_true hh] at cH
  have cR := fun (W : World) (hb : Below w.heap.size w W) => clone_fit d W (hd.next hb) hf
  obtain ⟨k, hk⟩ : ∃ k : Nat, a = k := ⟨a.toNat, by have := hh.1; omega⟩
  have hkl : k < d.cs.length := by have h1 := hh.2; have h2 : d.d.cells.length = d.cs.length := cds_length _; omega
  have hs5 : ∀ c ∈ cds d.cs, c.bs.length ≤ 200 ∧ c.old.length ≤ 200 := fun c hc => by have := hv.2.1 c hc; exact ⟨this.2.2.1, this.2.2.2⟩
  have hn0 : ¬ (0 < (d.ws.length : Int)) := by rw [hc]; simp
  clear hv hh hd hf hc
  unfold DV.v at cR
  rw [hk] at cH ⊢
  have P0 := four_new w (.slice d.CA d.cs.length d.cc) (.slice d.WA d.ws.length d.wc) (.int .i64 d.reqs) (.int .i64 d.left) 25
  have B0 := bl w (.cells #[.slice d.CA d.cs.length d.cc, .slice d.WA d.ws.length d.wc, .int .i64 d.reqs, .int .i64 d.left] 25)
  have L0 : (w.alloc (.cells #[.slice d.CA d.cs.length d.cc, .slice d.WA d.ws.length d.wc, .int .i64 d.reqs, .int .i64 d.left] 25)).heap.size = w.heap.size + 1 := by simp
  unfold DV.v at cK cH ⊢
  go_enter Try.func16, Try.ntmps16
  go_wp2_with fail
  generalize w.alloc (.cells #[.slice d.CA d.cs.length d.cc, .slice d.WA d.ws.length d.wc, .int .i64 d.reqs, .int .i64 d.left] 25) = w0 at *
  have Q0 := four_new w0 (.slice none 0 0) (.slice none 0 0) (.int .i64 0) (.int .i64 0) 25
  have P1 := P0.alloc (by omega) (.cells #[.slice none 0 0, .slice none 0 0, .int .i64 0, .int .i64 0] 25)
  have B1 := kal B0 (.cells #[.slice none 0 0, .slice none 0 0, .int .i64 0, .int .i64 0] 25)
  have L1 : (w0.alloc (.cells #[.slice none 0 0, .slice none 0 0, .int .i64 0, .int .i64 0] 25)).heap.size = w.heap.size + 2 := by simp [L0]
  generalize w0.alloc (.cells #[.slice none 0 0, .slice none 0 0, .int .i64 0, .int .i64 0] 25) = w1 at *
  rw [L0] at Q0
  clear P0 B0 L0 w0
  obtain ⟨c0, c1, c2, c3, -, -, -, -⟩ := id P1
  have hlo : w.heap.size ≤ w.heap.size + 1 := by omega
  go_upto_region 6 with (first | (go_at_call 19; (with_reducible refine (cK _ B1).mono ?_); rintro e w2 ⟨rfl, hb2⟩; have B2 := bt B1 hb2; have S2 := hb2.size; have P2 := P1.keep hb2 (by omega); have Q2 := Q0.keep hb2 (by omega); obtain ⟨p20, p21, p22, p23, -, -, -, -⟩ := id P2; obtain ⟨q20, q21, q22, q23, f20, f21, f22, f23⟩ := id Q2) | (go_at_call 32; (with_reducible refine (cH _).mono ?_); rintro e w3 ⟨rfl, hb3⟩; have B3 := bt B2 hb3; have S3 := hb3.size; have P3 := P2.keep hb3 (by omega); have Q3 := Q2.keep hb3 (by omega); obtain ⟨p30, p31, p32, p33, -, -, -, -⟩ := id P3; obtain ⟨q30, q31, q32, q33, f30, f31, f32, f33⟩ := id Q3) | (go_at_call 37; (with_reducible refine (cR _ B3).mono ?_); rintro e w4 ⟨⟨⟨yA, yc, ys, zA, zc, zs, yq, yl⟩, rfl, hyd, hyo, hyf⟩, hb4⟩; dsimp only at hyf ⊢; subst hyf; have B4 := bt B3 hb4; have S4 := hb4.size; have P4 := P3.keep hb4 (by omega); have Q4 := Q3.keep hb4 (by omega); obtain ⟨p40, p41, p42, p43, -, -, -, -⟩ := id P4; obtain ⟨q40, q41, q42, q43, f40, f41, f42, f43⟩ := id Q4))
  have hyl : ys.length = d.cs.length := by have := congrArg (fun x => x.cells.length) hyd; simpa [DV.d, cds] using this
  obtain ⟨gC, hgC⟩ := hyo.block (show 0 < ys.length by omega)
  dsimp only at hgC
  subst hgC
  have H5 := heap_alloc_new w4 (.cells #[.slice (some ⟨gC, 0, none⟩) ys.length yc, .slice zA zs.length zs.length, .int .i64 yq, .int .i64 yl] 25)
  have R5 := four_new w4 (.slice (some ⟨gC, 0, none⟩) ys.length yc) (.slice zA zs.length zs.length) (.int .i64 yq) (.int .i64 yl) 25
  have Q5 := Q4.alloc (by omega) (.cells #[.slice (some ⟨gC, 0, none⟩) ys.length yc, .slice zA zs.length zs.length, .int .i64 yq, .int .i64 yl] 25)
  have P5 := P4.alloc (by omega) (.cells #[.slice (some ⟨gC, 0, none⟩) ys.length yc, .slice zA zs.length zs.length, .int .i64 yq, .int .i64 yl] 25)
  have o5 := hyo.below (bl w4 (.cells #[.slice (some ⟨gC, 0, none⟩) ys.length yc, .slice zA zs.length zs.length, .int .i64 yq, .int .i64 yl] 25))
  have B5 := kal B4 (.cells #[.slice (some ⟨gC, 0, none⟩) ys.length yc, .slice zA zs.length zs.length, .int .i64 yq, .int .i64 yl] 25)
  have S5 : (w4.alloc (.cells #[.slice (some ⟨gC, 0, none⟩) ys.length yc, .slice zA zs.length zs.length, .int .i64 yq, .int .i64 yl] 25)).heap.size = w4.heap.size + 1 := by simp
  generalize w4.alloc (.cells #[.slice (some ⟨gC, 0, none⟩) ys.length yc, .slice zA zs.length zs.length, .int .i64 yq, .int .i64 yl] 25) = w5 at *
  obtain ⟨t0, t1, t2, t3, g0, g1, g2, g3⟩ := id R5
  obtain ⟨s0, s1, s2, s3, h0, h1, h2, h3⟩ := id Q5
  have hneC : gC ≠ w4.heap.size := fun e => owns_ne o5.oc H5 disk_cell (by rw [e]; rfl)
  obtain ⟨r, er, d0, d1, d2, f0, f1, f2, lo, hi, m1, m2, e2⟩ := o5.at (g := gC) (k := k) rfl (by show k < ys.length; omega)
  dsimp only at er e2
  have i1 : (k : Int) < (ys.length : Int) := by omega
  have e1 : cds ys = cds d.cs := congrArg Dsk.cells hyd
  have E1 := Lib.hid e1
  have E2 : Hid (wds zs = wds d.ws) := congrArg Dsk.cache hyd
  have E3 : Hid (yq = d.reqs) := congrArg Dsk.reqs hyd
  have E4 : Hid (yl = d.left) := congrArg Dsk.left hyd
  have m5 := (hs5 r.d (by rw [← e1]; exact List.mem_of_getElem? e2))
  have ER := Lib.hid er
  have EC := Lib.hid e2
  have hky : k < ys.length := by omega
  clear hyd e1 er e2 hs5 hyl
  clear ER EC E1 E2 E3 E4 m1 m2 m5
  go_wp2_with fail
  have k4 := set4 Q5 ⟨N8.s _ _ _, N8.s _ _ _, N8.i _, N8.i _⟩ (.slice none 0 0) (.slice none 0 0) (.int .i64 0) (.int .i64 0)
  refine bodyPost_ret (v := .tuple #[.agg #[.slice none 0 0, .slice none 0 0, .int .i64 0, .int .i64 0], .int .i64 1]) (by simp [results, Try.results16, go_sem, k4.1.c0, k4.1.c1, k4.1.c2, k4.1.c3]) rfl ⟨⟨zdv, rfl, rfl, zdv_own _ _⟩, B5.trans (k4.2.2.1 _ hlo)⟩
set_option maxHeartbeats 4000000 in
theorem fault_bits (d : DV) (a fr bit bits : Int) (w : World) (hd : d.In w w.heap.size) (hv : Valid d.d) (hh : HasC d.d a) (hc : d.ws.length = 0) (hb0 : 0 ≤ bit) (hb1 : bits < 0) :
    Calls Try.prog 16 #[d.v, .int .i64 13, .int .i64 a, .int .i64 fr, .int .i64 bit, .int .i64 bits] w fun e w' => Wd w.heap.size (noDsk, 1) e w' ∧ Below w.heap.size w w' := by
  have hb2 : ¬ 0 ≤ bits := by omega
  have hf := hv.fit
  have cK := fun (W : World) (hb : Below w.heap.size w W) => check_at d W (hd.next hb)
  have cH := fun (W : World) => has_cell d a W
  rw [show errV d.d = 0 from if_pos hv] at cK
  rw [decide_eq_true hh] at cH
  have cR := fun (W : World) (hb : Below w.heap.size w W) => clone_fit d W (hd.next hb) hf
  obtain ⟨k, hk⟩ : ∃ k : Nat, a = k := ⟨a.toNat, by have := hh.1; omega⟩
  have hkl : k < d.cs.length := by have h1 := hh.2; have h2 : d.d.cells.length = d.cs.length := cds_length _; omega
  have hs5 : ∀ c ∈ cds d.cs, c.bs.length ≤ 200 ∧ c.old.length ≤ 200 := fun c hc => by have := hv.2.1 c hc; exact ⟨this.2.2.1, this.2.2.2⟩
  have hn0 : ¬ (0 < (d.ws.length : Int)) := by rw [hc]; simp
  clear hv hh hd hf hc
  unfold DV.v at cR
  rw [hk] at cH ⊢
  have P0 := four_new w (.slice d.CA d.cs.length d.cc) (.slice d.WA d.ws.length d.wc) (.int .i64 d.reqs) (.int .i64 d.left) 25
  have B0 := bl w (.cells #[.slice d.CA d.cs.length d.cc, .slice d.WA d.ws.length d.wc, .int .i64 d.reqs, .int .i64 d.left] 25)
  have L0 : (w.alloc (.cells #[.slice d.CA d.cs.length d.cc, .slice d.WA d.ws.length d.wc, .int .i64 d.reqs, .int .i64 d.left] 25)).heap.size = w.heap.size + 1 := by simp
  unfold DV.v at cK cH ⊢
  go_enter Try.func16, Try.ntmps16
  go_wp2_with fail
  generalize w.alloc (.cells #[.slice d.CA d.cs.length d.cc, .slice d.WA d.ws.length d.wc, .int .i64 d.reqs, .int .i64 d.left] 25) = w0 at *
  have Q0 := four_new w0 (.slice none 0 0) (.slice none 0 0) (.int .i64 0) (.int .i64 0) 25
  have P1 := P0.alloc (by omega) (.cells #[.slice none 0 0, .slice none 0 0, .int .i64 0, .int .i64 0] 25)
  have B1 := kal B0 (.cells #[.slice none 0 0, .slice none 0 0, .int .i64 0, .int .i64 0] 25)
  have L1 : (w0.alloc (.cells #[.slice none 0 0, .slice none 0 0, .int .i64 0, .int .i64 0] 25)).heap.size = w.heap.size + 2 := by simp [L0]
  generalize w0.alloc (.cells #[.slice none 0 0, .slice none 0 0, .int .i64 0, .int .i64 0] 25) = w1 at *
  rw [L0] at Q0
  clear P0 B0 L0 w0
  obtain ⟨c0, c1, c2, c3, -, -, -, -⟩ := id P1
  have hlo : w.heap.size ≤ w.heap.size + 1 := by omega
  go_upto_region 6 with (first | (go_at_call 19; (with_reducible refine (cK _ B1).mono ?_); rintro e w2 ⟨rfl, hb2⟩; have B2 := bt B1 hb2; have S2 := hb2.size; have P2 := P1.keep hb2 (by omega); have Q2 := Q0.keep hb2 (by omega); obtain ⟨p20, p21, p22, p23, -, -, -, -⟩ := id P2; obtain ⟨q20, q21, q22, q23, f20, f21, f22, f23⟩ := id Q2) | (go_at_call 32; (with_reducible refine (cH _).mono ?_); rintro e w3 ⟨rfl, hb3⟩; have B3 := bt B2 hb3; have S3 := hb3.size; have P3 := P2.keep hb3 (by omega); have Q3 := Q2.keep hb3 (by omega); obtain ⟨p30, p31, p32, p33, -, -, -, -⟩ := id P3; obtain ⟨q30, q31, q32, q33, f30, f31, f32, f33⟩ := id Q3) | (go_at_call 37; (with_reducible refine (cR _ B3).mono ?_); rintro e w4 ⟨⟨⟨yA, yc, ys, zA, zc, zs, yq, yl⟩, rfl, hyd, hyo, hyf⟩, hb4⟩; dsimp only at hyf ⊢; subst hyf; have B4 := bt B3 hb4; have S4 := hb4.size; have P4 := P3.keep hb4 (by omega); have Q4 := Q3.keep hb4 (by omega); obtain ⟨p40, p41, p42, p43, -, -, -, -⟩ := id P4; obtain ⟨q40, q41, q42, q43, f40, f41, f42, f43⟩ := id Q4))
  have hyl : ys.length = d.cs.length := by have := congrArg (fun x => x.cells.length) hyd; simpa [DV.d, cds] using this
  obtain ⟨gC, hgC⟩ := hyo.block (show 0 < ys.length by omega)
  dsimp only at hgC
  subst hgC
  have H5 := heap_alloc_new w4 (.cells #[.slice (some ⟨gC, 0, none⟩) ys.length yc, .slice zA zs.length zs.length, .int .i64 yq, .int .i64 yl] 25)
  have R5 := four_new w4 (.slice (some ⟨gC, 0, none⟩) ys.length yc) (.slice zA zs.length zs.length) (.int .i64 yq) (.int .i64 yl) 25
  have Q5 := Q4.alloc (by omega) (.cells #[.slice (some ⟨gC, 0, none⟩) ys.length yc, .slice zA zs.length zs.length, .int .i64 yq, .int .i64 yl] 25)
  have P5 := P4.alloc (by omega) (.cells #[.slice (some ⟨gC, 0, none⟩) ys.length yc, .slice zA zs.length zs.length, .int .i64 yq, .int .i64 yl] 25)
  have o5 := hyo.below (bl w4 (.cells #[.slice (some ⟨gC, 0, none⟩) ys.length yc, .slice zA zs.length zs.length, .int .i64 yq, .int .i64 yl] 25))
  have B5 := kal B4 (.cells #[.slice (some ⟨gC, 0, none⟩) ys.length yc, .slice zA zs.length zs.length, .int .i64 yq, .int .i64 yl] 25)
  have S5 : (w4.alloc (.cells #[.slice (some ⟨gC, 0, none⟩) ys.length yc, .slice zA zs.length zs.length, .int .i64 yq, .int .i64 yl] 25)).heap.size = w4.heap.size + 1 := by simp
  generalize w4.alloc (.cells #[.slice (some ⟨gC, 0, none⟩) ys.length yc, .slice zA zs.length zs.length, .int .i64 yq, .int .i64 yl] 25) = w5 at *
  obtain ⟨t0, t1, t2, t3, g0, g1, g2, g3⟩ := id R5
  obtain ⟨s0, s1, s2, s3, h0, h1, h2, h3⟩ := id Q5
  have hneC : gC ≠ w4.heap.size := fun e => owns_ne o5.oc H5 disk_cell (by rw [e]; rfl)
  obtain ⟨r, er, d0, d1, d2, f0, f1, f2, lo, hi, m1, m2, e2⟩ := o5.at (g := gC) (k := k) rfl (by show k < ys.length; omega)
  dsimp only at er e2
  have i1 : (k : Int) < (ys.length : Int) := by omega
  have e1 : cds ys = cds d.cs := congrArg Dsk.cells hyd
  have E1 := Lib.hid e1
  have E2 : Hid (wds zs = wds d.ws) := congrArg Dsk.cache hyd
  have E3 : Hid (yq = d.reqs) := congrArg Dsk.reqs hyd
  have E4 : Hid (yl = d.left) := congrArg Dsk.left hyd
  have m5 := (hs5 r.d (by rw [← e1]; exact List.mem_of_getElem? e2))
  have ER := Lib.hid er
  have EC := Lib.hid e2
  have hky : k < ys.length := by omega
  clear hyd e1 er e2 hs5 hyl
  clear ER EC E1 E2 E3 E4 m1 m2 m5
  go_wp2_with fail
  have k4 := set4 Q5 ⟨N8.s _ _ _, N8.s _ _ _, N8.i _, N8.i _⟩ (.slice none 0 0) (.slice none 0 0) (.int .i64 0) (.int .i64 0)
  refine bodyPost_ret (v := .tuple #[.agg #[.slice none 0 0, .slice none 0 0, .int .i64 0, .int .i64 0], .int .i64 1]) (by simp [results, Try.results16, go_sem, k4.1.c0, k4.1.c1, k4.1.c2, k4.1.c3]) rfl ⟨⟨zdv, rfl, rfl, zdv_own _ _⟩, B5.trans (k4.2.2.1 _ hlo)⟩
set_option maxHeartbeats 4000000 in
theorem fault_far (d : DV) (a fr bit bits : Int) (w : World) (hd : d.In w w.heap.size) (hv : Valid d.d) (hh : HasC d.d a) (hc : d.ws.length = 0) (hfr : ¬ HasC d.d fr) :
    Calls Try.prog 16 #[d.v, .int .i64 15, .int .i64 a, .int .i64 fr, .int .i64 bit, .int .i64 bits] w fun e w' => Wd w.heap.size (noDsk, 1) e w' ∧ Below w.heap.size w w' := by
  have hf := hv.fit
  have cK := fun (W : World) (hb : Below w.heap.size w W) => check_at d W (hd.next hb)
  have cH := fun (W : World) => has_cell d a W
  rw [show errV d.d = 0 from if_pos hv] at cK
  rw [decide_eq_true hh] at cH
  have cR := fun (W : World) (hb : Below w.heap.size w W) => clone_fit d W (hd.next hb) hf
  obtain ⟨k, hk⟩ : ∃ k : Nat, a = k := ⟨a.toNat, by have := hh.1; omega⟩
  have hkl : k < d.cs.length := by have h1 := hh.2; have h2 : d.d.cells.length = d.cs.length := cds_length _; omega
  have hs5 : ∀ c ∈ cds d.cs, c.bs.length ≤ 200 ∧ c.old.length ≤ 200 := fun c hc => by have := hv.2.1 c hc; exact ⟨this.2.2.1, this.2.2.2⟩
  have hn0 : ¬ (0 < (d.ws.length : Int)) := by rw [hc]; simp
  clear hv hh hd hf hc
  unfold DV.v at cR
  rw [hk] at cH ⊢
  have P0 := four_new w (.slice d.CA d.cs.length d.cc) (.slice d.WA d.ws.length d.wc) (.int .i64 d.reqs) (.int .i64 d.left) 25
  have B0 := bl w (.cells #[.slice d.CA d.cs.length d.cc, .slice d.WA d.ws.length d.wc, .int .i64 d.reqs, .int .i64 d.left] 25)
  have L0 : (w.alloc (.cells #[.slice d.CA d.cs.length d.cc, .slice d.WA d.ws.length d.wc, .int .i64 d.reqs, .int .i64 d.left] 25)).heap.size = w.heap.size + 1 := by simp
  unfold DV.v at cK cH ⊢
  go_enter Try.func16, Try.ntmps16
  go_wp2_with fail
  generalize w.alloc (.cells #[.slice d.CA d.cs.length d.cc, .slice d.WA d.ws.length d.wc, .int .i64 d.reqs, .int .i64 d.left] 25) = w0 at *
  have Q0 := four_new w0 (.slice none 0 0) (.slice none 0 0) (.int .i64 0) (.int .i64 0) 25
  have P1 := P0.alloc (by omega) (.cells #[.slice none 0 0, .slice none 0 0, .int .i64 0, .int .i64 0] 25)
  have B1 := kal B0 (.cells #[.slice none 0 0, .slice none 0 0, .int .i64 0, .int .i64 0] 25)
  have L1 : (w0.alloc (.cells #[.slice none 0 0, .slice none 0 0, .int .i64 0, .int .i64 0] 25)).heap.size = w.heap.size + 2 := by simp [L0]
  generalize w0.alloc (.cells #[.slice none 0 0, .slice none 0 0, .int .i64 0, .int .i64 0] 25) = w1 at *
  rw [L0] at Q0
  clear P0 B0 L0 w0
  obtain ⟨c0, c1, c2, c3, -, -, -, -⟩ := id P1
  have hlo : w.heap.size ≤ w.heap.size + 1 := by omega
  go_upto_region 6 with (first | (go_at_call 19; (with_reducible refine (cK _ B1).mono ?_); rintro e w2 ⟨rfl, hb2⟩; have B2 := bt B1 hb2; have S2 := hb2.size; have P2 := P1.keep hb2 (by omega); have Q2 := Q0.keep hb2 (by omega); obtain ⟨p20, p21, p22, p23, -, -, -, -⟩ := id P2; obtain ⟨q20, q21, q22, q23, f20, f21, f22, f23⟩ := id Q2) | (go_at_call 32; (with_reducible refine (cH _).mono ?_); rintro e w3 ⟨rfl, hb3⟩; have B3 := bt B2 hb3; have S3 := hb3.size; have P3 := P2.keep hb3 (by omega); have Q3 := Q2.keep hb3 (by omega); obtain ⟨p30, p31, p32, p33, -, -, -, -⟩ := id P3; obtain ⟨q30, q31, q32, q33, f30, f31, f32, f33⟩ := id Q3) | (go_at_call 37; (with_reducible refine (cR _ B3).mono ?_); rintro e w4 ⟨⟨⟨yA, yc, ys, zA, zc, zs, yq, yl⟩, rfl, hyd, hyo, hyf⟩, hb4⟩; dsimp only at hyf ⊢; subst hyf; have B4 := bt B3 hb4; have S4 := hb4.size; have P4 := P3.keep hb4 (by omega); have Q4 := Q3.keep hb4 (by omega); obtain ⟨p40, p41, p42, p43, -, -, -, -⟩ := id P4; obtain ⟨q40, q41, q42, q43, f40, f41, f42, f43⟩ := id Q4))
  have hyl : ys.length = d.cs.length := by have := congrArg (fun x => x.cells.length) hyd; simpa [DV.d, cds] using this
  obtain ⟨gC, hgC⟩ := hyo.block (show 0 < ys.length by omega)
  dsimp only at hgC
  subst hgC
  have H5 := heap_alloc_new w4 (.cells #[.slice (some ⟨gC, 0, none⟩) ys.length yc, .slice zA zs.length zs.length, .int .i64 yq, .int .i64 yl] 25)
  have R5 := four_new w4 (.slice (some ⟨gC, 0, none⟩) ys.length yc) (.slice zA zs.length zs.length) (.int .i64 yq) (.int .i64 yl) 25
  have Q5 := Q4.alloc (by omega) (.cells #[.slice (some ⟨gC, 0, none⟩) ys.length yc, .slice zA zs.length zs.length, .int .i64 yq, .int .i64 yl] 25)
  have P5 := P4.alloc (by omega) (.cells #[.slice (some ⟨gC, 0, none⟩) ys.length yc, .slice zA zs.length zs.length, .int .i64 yq, .int .i64 yl] 25)
  have o5 := hyo.below (bl w4 (.cells #[.slice (some ⟨gC, 0, none⟩) ys.length yc, .slice zA zs.length zs.length, .int .i64 yq, .int .i64 yl] 25))
  have B5 := kal B4 (.cells #[.slice (some ⟨gC, 0, none⟩) ys.length yc, .slice zA zs.length zs.length, .int .i64 yq, .int .i64 yl] 25)
  have S5 : (w4.alloc (.cells #[.slice (some ⟨gC, 0, none⟩) ys.length yc, .slice zA zs.length zs.length, .int .i64 yq, .int .i64 yl] 25)).heap.size = w4.heap.size + 1 := by simp
  generalize w4.alloc (.cells #[.slice (some ⟨gC, 0, none⟩) ys.length yc, .slice zA zs.length zs.length, .int .i64 yq, .int .i64 yl] 25) = w5 at *
  obtain ⟨t0, t1, t2, t3, g0, g1, g2, g3⟩ := id R5
  obtain ⟨s0, s1, s2, s3, h0, h1, h2, h3⟩ := id Q5
  have hneC : gC ≠ w4.heap.size := fun e => owns_ne o5.oc H5 disk_cell (by rw [e]; rfl)
  obtain ⟨r, er, d0, d1, d2, f0, f1, f2, lo, hi, m1, m2, e2⟩ := o5.at (g := gC) (k := k) rfl (by show k < ys.length; omega)
  dsimp only at er e2
  have i1 : (k : Int) < (ys.length : Int) := by omega
  have e1 : cds ys = cds d.cs := congrArg Dsk.cells hyd
  have E1 := Lib.hid e1
  have E2 : Hid (wds zs = wds d.ws) := congrArg Dsk.cache hyd
  have E3 : Hid (yq = d.reqs) := congrArg Dsk.reqs hyd
  have E4 : Hid (yl = d.left) := congrArg Dsk.left hyd
  have m5 := (hs5 r.d (by rw [← e1]; exact List.mem_of_getElem? e2))
  have ER := Lib.hid er
  have EC := Lib.hid e2
  have hky : k < ys.length := by omega
  clear hyd e1 er e2 hs5 hyl
  have hhj : ¬ HasC (DV.d ⟨some ⟨gC, 0, none⟩, yc, ys, zA, zs.length, zs, yq, yl⟩) fr := fun h => hfr ⟨h.1, by have h2 := h.2; show fr < ((cds d.cs).length : Int); rw [← E1.out]; exact h2⟩
  have cF := has_cell ⟨some ⟨gC, 0, none⟩, yc, ys, zA, zs.length, zs, yq, yl⟩ fr w5
  rw [decide_eq_false hhj] at cF
  unfold DV.v at cF
  dsimp only at cF
  clear hhj hfr
  clear ER EC E1 E2 E3 E4 m1 m2 m5
  go_wp2_with (go_at_call 32; (with_reducible refine cF.mono ?_); rintro e w6 ⟨rfl, hb6⟩; have Q6 := (Q5.keep hb6 (by omega)); obtain ⟨ss0, ss1, ss2, ss3, hh0, hh1, hh2, hh3⟩ := id Q6; have B6 := bt B5 hb6)
  have k4 := set4 Q6 ⟨N8.s _ _ _, N8.s _ _ _, N8.i _, N8.i _⟩ (.slice none 0 0) (.slice none 0 0) (.int .i64 0) (.int .i64 0)
  refine bodyPost_ret (v := .tuple #[.agg #[.slice none 0 0, .slice none 0 0, .int .i64 0, .int .i64 0], .int .i64 1]) (by simp [results, Try.results16, go_sem, k4.1.c0, k4.1.c1, k4.1.c2, k4.1.c3]) rfl ⟨⟨zdv, rfl, rfl, zdv_own _ _⟩, B6.trans (k4.2.2.1 _ hlo)⟩
theorem fault_at (d : DV) (kind a fr bit bits : Int) (w : World) (hd : d.In w w.heap.size) :
    Calls Try.prog 16 #[d.v, .int .i64 kind, .int .i64 a, .int .i64 fr, .int .i64 bit, .int .i64 bits] w fun e w' => Wd w.heap.size (faultA d.d kind a fr bit bits) e w' ∧ Below w.heap.size w w' := by
  unfold faultA
  by_cases h : Valid d.d ∧ HasC d.d a
  · rw [if_neg (not_not_intro h)]
    obtain ⟨hv, hh⟩ := h
    by_cases hc : d.ws.length = 0
    · have hc2 : d.d.cache = [] := by
        have : d.ws = [] := List.eq_nil_of_length_eq_zero hc
        show wds d.ws = []
        rw [this]; rfl
      rw [if_neg (not_not_intro hc2)]
      unfold faultF
      by_cases k1 : kind = 11
      · subst k1
        rw [if_pos rfl]
        exact fault_latent d a fr bit bits w hd hv hh hc
      rw [if_neg k1]
      by_cases k2 : kind = 12
      · subst k2
        rw [if_pos rfl]
        exact fault_sticky d a fr bit bits w hd hv hh hc
      rw [if_neg k2]
      by_cases k3 : kind = 13
      · subst k3
        by_cases hb0 : 0 ≤ bit
        · by_cases hb1 : 0 ≤ bits
          · rw [if_pos ⟨rfl, hb0, hb1⟩]
            exact fault_flip d a fr bit bits w hd hv hh hc hb0 hb1
          · rw [if_neg (fun k => hb1 k.2.2), if_neg (by decide), if_neg (fun k => absurd k.1 (by decide))]
            exact fault_bits d a fr bit bits w hd hv hh hc hb0 (by omega)
        · rw [if_neg (fun k => hb0 k.2.1), if_neg (by decide), if_neg (fun k => absurd k.1 (by decide))]
          exact fault_bit d a fr bit bits w hd hv hh hc (by omega)
      rw [if_neg (fun k => k3 k.1)]
      by_cases k4 : kind = 14
      · subst k4
        rw [if_pos rfl]
        exact fault_stale d a fr bit bits w hd hv hh hc
      rw [if_neg k4]
      by_cases k5 : kind = 15
      · subst k5
        by_cases hfr : HasC d.d fr
        · rw [if_pos ⟨rfl, hfr⟩]
          exact fault_move d a fr bit bits w hd hv hh hc hfr
        · rw [if_neg (fun k => hfr k.2)]
          exact fault_far d a fr bit bits w hd hv hh hc hfr
      rw [if_neg (fun k => k5 k.1)]
      exact fault_other d kind a fr bit bits w hd hv hh hc k1 k2 k3 k4 k5
    · rw [if_pos (fun k => hc (by have := congrArg List.length k; rw [show d.d.cache = wds d.ws from rfl, wds_length] at this; exact this))]
      exact fault_place d kind a fr bit bits w hd hv hh (by omega)
  · rw [if_pos h]
    exact fault_arg d kind a fr bit bits w hd h
end Go.Proofs.Ytegcbmimndmfkaa.dsk
