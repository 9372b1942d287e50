/-
  Package disk: Write. No condition.
-/
import Derived.Test.YtegcbmimndmfkaaDkL
namespace Go.Proofs.Ytegcbmimndmfkaa.dsk
open Go.RowKit Go.Lib
open Go.Proofs.Ytegcbmimndmfkaa.pck (clone_any)

theorem Four.grown {W W' : World} {g : Nat} {a b c d : Value} {row : Option Nat} (h : Four W g a b c d) (hg : W.grownBy W' row) (hne : some g ≠ row) : Four W' g a b c d := by
  have hf : ∀ o v, W.cell? ⟨g, o, none⟩ = some v → W.frozen? ⟨g, o, none⟩ = false → W'.frozen? ⟨g, o, none⟩ = false := fun o v hc hz =>
    (World.frozen?_of_block (a := ⟨g, o, none⟩) (hg.block g (World.block_lt_of_cell? W ⟨g, o, none⟩ hc) hne)).trans hz
  exact ⟨hg.cell h.c0 hne, hg.cell h.c1 hne, hg.cell h.c2 hne, hg.cell h.c3 hne, hf 0 _ h.c0 h.f0, hf 1 _ h.c1 h.f1, hf 2 _ h.c2 h.f2, hf 3 _ h.c3 h.f3⟩
/-- No byte lies in a row of writes that has no room: so byte strings stay where it grows. -/
theorem rin_grown {w w' : World} {base n : Nat} {A : Option Addr} {r : Row} {ws : List WriR} (h : RIn w w.heap.size r) (how : w.ownsRow base 72 2 (.slice A n n) n (wvs ws)) (hg : w.grownBy w' (Value.slice A n n).ownBlock) : RIn w' w'.heap.size r := by
  refine ⟨fun hl => ?_, h.2⟩
  obtain ⟨b, off, e, hb, hc⟩ := h.1 hl
  refine ⟨b, off, e, Nat.lt_of_lt_of_le hb hg.size, fun j hj => hg.cell (hc j hj) (fun hk => ?_)⟩
  have hcj := hc j hj
  rcases how.2 with ⟨e1, _⟩ | ⟨g, cap, cur, e1, _, hgg, _, _, hsz, htk⟩
  · rw [e1] at hk; cases hk
  · simp only [Value.slice.injEq] at e1
    obtain ⟨rfl, -, rfl⟩ := e1
    simp only [Value.ownBlock, Option.some.injEq] at hk
    subst hk
    rw [cell_of_row w b (off + j) cur _ _ hgg] at hcj
    have hm : by8 r.l[j] ∈ wvs ws := by
      rw [← htk, List.take_of_length_le (by rw [Array.length_toList, hsz]; exact Nat.le_refl _)]
      exact Array.mem_toList_iff.2 (Array.mem_of_getElem? hcj)
    exact wvs_no8 ws _ hm _ rfl

theorem owns_ne {w : World} {base k n g : Nat} {e t : TypeId} {v : Value} {xs : List Value} {cs : Array Value} {f : Nat × Nat} (h : w.ownsRow base e k v n xs) (hg : w.heap[g]? = some (.cells cs t f)) (ht : t ≠ e) : v.ownBlock ≠ some g := by
  intro hk
  rcases h.2 with ⟨rfl, _⟩ | ⟨g', cap, cur, rfl, _, hgg, _⟩
  · cases hk
  · simp only [Value.ownBlock, Option.some.injEq] at hk
    subst hk
    rw [hg] at hgg
    simp only [Option.some.injEq, Obj.cells.injEq] at hgg
    exact ht hgg.2.1
theorem disk_write : 25 ≠ 72 := by decide
theorem disk_cell : 25 ≠ 64 := by decide

set_option maxHeartbeats 4000000 in
theorem write_arg (d : DV) (a : Int) (b : Row) (w : World) (hd : d.In w w.heap.size) (_hb : RIn w w.heap.size b) (h : ¬ (Valid d.d ∧ HasC d.d a ∧ b.l.length ≤ 200)) :
    Calls Try.prog 13 #[d.v, .int .i64 a, .slice b.A b.l.length b.c] w fun e w' => Wd w.heap.size (noDsk, 1) e w' ∧ Below w.heap.size w w' := by
  have cK := fun (W : World) (hb : Below w.heap.size w W) => check_at d W (hd.next hb)
  have cH := fun (W : World) => has_cell d a W
  by_cases hv : Valid d.d
  · have e1 : errV d.d = 0 := if_pos hv
    rw [e1] at cK
    by_cases hh : HasC d.d a
    · have hl2 : 200 < (b.l.length : Int) := by
        rcases Nat.lt_or_ge 200 b.l.length with k | k
        · omega
        · exact absurd ⟨hv, hh, k⟩ h
      rw [decide_eq_true hh] at cH
      clear h hv hh hd e1
      have P0 := four_new w (.slice d.CA d.cs.length d.cc) (.slice d.WA d.ws.length d.wc) (.int .i64 d.reqs) (.int .i64 d.left) 25
      have B0 := bl w (.cells #[.slice d.CA d.cs.length d.cc, .slice d.WA d.ws.length d.wc, .int .i64 d.reqs, .int .i64 d.left] 25)
      have L0 : (w.alloc (.cells #[.slice d.CA d.cs.length d.cc, .slice d.WA d.ws.length d.wc, .int .i64 d.reqs, .int .i64 d.left] 25)).heap.size = w.heap.size + 1 := by simp
      unfold DV.v at cK cH ⊢
      go_enter Try.func13, Try.ntmps13
      go_wp2_with fail
      generalize w.alloc (.cells #[.slice d.CA d.cs.length d.cc, .slice d.WA d.ws.length d.wc, .int .i64 d.reqs, .int .i64 d.left] 25) = w0 at *
      have Q0 := four_new w0 (.slice none 0 0) (.slice none 0 0) (.int .i64 0) (.int .i64 0) 25
      have P1 := P0.alloc (by omega) (.cells #[.slice none 0 0, .slice none 0 0, .int .i64 0, .int .i64 0] 25)
      have B1 := kal B0 (.cells #[.slice none 0 0, .slice none 0 0, .int .i64 0, .int .i64 0] 25)
      have L1 : (w0.alloc (.cells #[.slice none 0 0, .slice none 0 0, .int .i64 0, .int .i64 0] 25)).heap.size = w.heap.size + 2 := by simp [L0]
      generalize w0.alloc (.cells #[.slice none 0 0, .slice none 0 0, .int .i64 0, .int .i64 0] 25) = w1 at *
      rw [L0] at Q0
      clear P0 B0 L0 w0
      obtain ⟨c0, c1, c2, c3, -, -, -, -⟩ := id P1
      have hlo : w.heap.size ≤ w.heap.size + 1 := by omega
      go_wp2_with (first | (go_at_call 19; (with_reducible refine (cK _ B1).mono ?_); rintro e w2 ⟨rfl, hb2⟩; have B2 := bt B1 hb2; have S2 := hb2.size; have P2 := P1.keep hb2 (by omega); have Q2 := Q0.keep hb2 (by omega); obtain ⟨p20, p21, p22, p23, -, -, -, -⟩ := id P2; obtain ⟨q20, q21, q22, q23, f20, f21, f22, f23⟩ := id Q2) | (go_at_call 32; (with_reducible refine (cH _).mono ?_); rintro e w3 ⟨rfl, hb3⟩; have B3 := bt B2 hb3; have S3 := hb3.size; have P3 := P2.keep hb3 (by omega); have Q3 := Q2.keep hb3 (by omega); obtain ⟨p30, p31, p32, p33, -, -, -, -⟩ := id P3; obtain ⟨q30, q31, q32, q33, f30, f31, f32, f33⟩ := id Q3))
      have k4 := set4 Q3 ⟨N8.s _ _ _, N8.s _ _ _, N8.i _, N8.i _⟩ (.slice none 0 0) (.slice none 0 0) (.int .i64 0) (.int .i64 0)
      refine bodyPost_ret (v := .tuple #[.agg #[.slice none 0 0, .slice none 0 0, .int .i64 0, .int .i64 0], .int .i64 1]) (by simp [results, Try.results13, go_sem, k4.1.c0, k4.1.c1, k4.1.c2, k4.1.c3]) rfl ⟨⟨zdv, rfl, rfl, zdv_own _ _⟩, B3.trans (k4.2.2.1 _ hlo)⟩
    · rw [decide_eq_false hh] at cH
      clear h hv hh hd e1
      have P0 := four_new w (.slice d.CA d.cs.length d.cc) (.slice d.WA d.ws.length d.wc) (.int .i64 d.reqs) (.int .i64 d.left) 25
      have B0 := bl w (.cells #[.slice d.CA d.cs.length d.cc, .slice d.WA d.ws.length d.wc, .int .i64 d.reqs, .int .i64 d.left] 25)
      have L0 : (w.alloc (.cells #[.slice d.CA d.cs.length d.cc, .slice d.WA d.ws.length d.wc, .int .i64 d.reqs, .int .i64 d.left] 25)).heap.size = w.heap.size + 1 := by simp
      unfold DV.v at cK cH ⊢
      go_enter Try.func13, Try.ntmps13
      go_wp2_with fail
      generalize w.alloc (.cells #[.slice d.CA d.cs.length d.cc, .slice d.WA d.ws.length d.wc, .int .i64 d.reqs, .int .i64 d.left] 25) = w0 at *
      have Q0 := four_new w0 (.slice none 0 0) (.slice none 0 0) (.int .i64 0) (.int .i64 0) 25
      have P1 := P0.alloc (by omega) (.cells #[.slice none 0 0, .slice none 0 0, .int .i64 0, .int .i64 0] 25)
      have B1 := kal B0 (.cells #[.slice none 0 0, .slice none 0 0, .int .i64 0, .int .i64 0] 25)
      have L1 : (w0.alloc (.cells #[.slice none 0 0, .slice none 0 0, .int .i64 0, .int .i64 0] 25)).heap.size = w.heap.size + 2 := by simp [L0]
      generalize w0.alloc (.cells #[.slice none 0 0, .slice none 0 0, .int .i64 0, .int .i64 0] 25) = w1 at *
      rw [L0] at Q0
      clear P0 B0 L0 w0
      obtain ⟨c0, c1, c2, c3, -, -, -, -⟩ := id P1
      have hlo : w.heap.size ≤ w.heap.size + 1 := by omega
      go_wp2_with (first | (go_at_call 19; (with_reducible refine (cK _ B1).mono ?_); rintro e w2 ⟨rfl, hb2⟩; have B2 := bt B1 hb2; have S2 := hb2.size; have P2 := P1.keep hb2 (by omega); have Q2 := Q0.keep hb2 (by omega); obtain ⟨p20, p21, p22, p23, -, -, -, -⟩ := id P2; obtain ⟨q20, q21, q22, q23, f20, f21, f22, f23⟩ := id Q2) | (go_at_call 32; (with_reducible refine (cH _).mono ?_); rintro e w3 ⟨rfl, hb3⟩; have B3 := bt B2 hb3; have S3 := hb3.size; have P3 := P2.keep hb3 (by omega); have Q3 := Q2.keep hb3 (by omega); obtain ⟨p30, p31, p32, p33, -, -, -, -⟩ := id P3; obtain ⟨q30, q31, q32, q33, f30, f31, f32, f33⟩ := id Q3))
      have k4 := set4 Q3 ⟨N8.s _ _ _, N8.s _ _ _, N8.i _, N8.i _⟩ (.slice none 0 0) (.slice none 0 0) (.int .i64 0) (.int .i64 0)
      refine bodyPost_ret (v := .tuple #[.agg #[.slice none 0 0, .slice none 0 0, .int .i64 0, .int .i64 0], .int .i64 1]) (by simp [results, Try.results13, go_sem, k4.1.c0, k4.1.c1, k4.1.c2, k4.1.c3]) rfl ⟨⟨zdv, rfl, rfl, zdv_own _ _⟩, B3.trans (k4.2.2.1 _ hlo)⟩
  · have e1 : errV d.d = 1 := if_neg hv
    rw [e1] at cK
    clear h hv hd e1
    have P0 := four_new w (.slice d.CA d.cs.length d.cc) (.slice d.WA d.ws.length d.wc) (.int .i64 d.reqs) (.int .i64 d.left) 25
    have B0 := bl w (.cells #[.slice d.CA d.cs.length d.cc, .slice d.WA d.ws.length d.wc, .int .i64 d.reqs, .int .i64 d.left] 25)
    have L0 : (w.alloc (.cells #[.slice d.CA d.cs.length d.cc, .slice d.WA d.ws.length d.wc, .int .i64 d.reqs, .int .i64 d.left] 25)).heap.size = w.heap.size + 1 := by simp
    unfold DV.v at cK cH ⊢
    go_enter Try.func13, Try.ntmps13
    go_wp2_with fail
    generalize w.alloc (.cells #[.slice d.CA d.cs.length d.cc, .slice d.WA d.ws.length d.wc, .int .i64 d.reqs, .int .i64 d.left] 25) = w0 at *
    have Q0 := four_new w0 (.slice none 0 0) (.slice none 0 0) (.int .i64 0) (.int .i64 0) 25
    have P1 := P0.alloc (by omega) (.cells #[.slice none 0 0, .slice none 0 0, .int .i64 0, .int .i64 0] 25)
    have B1 := kal B0 (.cells #[.slice none 0 0, .slice none 0 0, .int .i64 0, .int .i64 0] 25)
    have L1 : (w0.alloc (.cells #[.slice none 0 0, .slice none 0 0, .int .i64 0, .int .i64 0] 25)).heap.size = w.heap.size + 2 := by simp [L0]
    generalize w0.alloc (.cells #[.slice none 0 0, .slice none 0 0, .int .i64 0, .int .i64 0] 25) = w1 at *
    rw [L0] at Q0
    clear P0 B0 L0 w0
    obtain ⟨c0, c1, c2, c3, -, -, -, -⟩ := id P1
    have hlo : w.heap.size ≤ w.heap.size + 1 := by omega
    go_wp2_with (first | (go_at_call 19; (with_reducible refine (cK _ B1).mono ?_); rintro e w2 ⟨rfl, hb2⟩; have B2 := bt B1 hb2; have S2 := hb2.size; have P2 := P1.keep hb2 (by omega); have Q2 := Q0.keep hb2 (by omega); obtain ⟨p20, p21, p22, p23, -, -, -, -⟩ := id P2; obtain ⟨q20, q21, q22, q23, f20, f21, f22, f23⟩ := id Q2))
    have k4 := set4 Q2 ⟨N8.s _ _ _, N8.s _ _ _, N8.i _, N8.i _⟩ (.slice none 0 0) (.slice none 0 0) (.int .i64 0) (.int .i64 0)
    refine bodyPost_ret (v := .tuple #[.agg #[.slice none 0 0, .slice none 0 0, .int .i64 0, .int .i64 0], .int .i64 1]) (by simp [results, Try.results13, go_sem, k4.1.c0, k4.1.c1, k4.1.c2, k4.1.c3]) rfl ⟨⟨zdv, rfl, rfl, zdv_own _ _⟩, B2.trans (k4.2.2.1 _ hlo)⟩
set_option maxHeartbeats 4000000 in
theorem write_dead (d : DV) (a : Int) (b : Row) (w : World) (hd : d.In w w.heap.size) (_hb : RIn w w.heap.size b) (hv : Valid d.d) (hh : HasC d.d a) (hbl : b.l.length ≤ 200) (hl : d.left = 0) :
    Calls Try.prog 13 #[d.v, .int .i64 a, .slice b.A b.l.length b.c] w fun e w' => Wd w.heap.size (d.d, 8) e w' ∧ Below w.heap.size w w' := by
  have hf := hv.fit
  have cK := fun (W : World) (hb : Below w.heap.size w W) => check_at d W (hd.next hb)
  have cH := fun (W : World) => has_cell d a W
  rw [show errV d.d = 0 from if_pos hv] at cK
  rw [decide_eq_true hh] at cH
  have hl2 : ¬ (200 < (b.l.length : Int)) := by omega
  have cR := fun (W : World) (hb : Below w.heap.size w W) => request_dead d W (hd.next hb) hf hl
  clear hv hh hd hf hl
  unfold DV.v at cR
  have P0 := four_new w (.slice d.CA d.cs.length d.cc) (.slice d.WA d.ws.length d.wc) (.int .i64 d.reqs) (.int .i64 d.left) 25
  have B0 := bl w (.cells #[.slice d.CA d.cs.length d.cc, .slice d.WA d.ws.length d.wc, .int .i64 d.reqs, .int .i64 d.left] 25)
  have L0 : (w.alloc (.cells #[.slice d.CA d.cs.length d.cc, .slice d.WA d.ws.length d.wc, .int .i64 d.reqs, .int .i64 d.left] 25)).heap.size = w.heap.size + 1 := by simp
  unfold DV.v at cK cH ⊢
  go_enter Try.func13, Try.ntmps13
  go_wp2_with fail
  generalize w.alloc (.cells #[.slice d.CA d.cs.length d.cc, .slice d.WA d.ws.length d.wc, .int .i64 d.reqs, .int .i64 d.left] 25) = w0 at *
  have Q0 := four_new w0 (.slice none 0 0) (.slice none 0 0) (.int .i64 0) (.int .i64 0) 25
  have P1 := P0.alloc (by omega) (.cells #[.slice none 0 0, .slice none 0 0, .int .i64 0, .int .i64 0] 25)
  have B1 := kal B0 (.cells #[.slice none 0 0, .slice none 0 0, .int .i64 0, .int .i64 0] 25)
  have L1 : (w0.alloc (.cells #[.slice none 0 0, .slice none 0 0, .int .i64 0, .int .i64 0] 25)).heap.size = w.heap.size + 2 := by simp [L0]
  generalize w0.alloc (.cells #[.slice none 0 0, .slice none 0 0, .int .i64 0, .int .i64 0] 25) = w1 at *
  rw [L0] at Q0
  clear P0 B0 L0 w0
  obtain ⟨c0, c1, c2, c3, -, -, -, -⟩ := id P1
  have hlo : w.heap.size ≤ w.heap.size + 1 := by omega
  go_upto_region 5 with (first | (go_at_call 19; (with_reducible refine (cK _ B1).mono ?_); rintro e w2 ⟨rfl, hb2⟩; have B2 := bt B1 hb2; have S2 := hb2.size; have P2 := P1.keep hb2 (by omega); have Q2 := Q0.keep hb2 (by omega); obtain ⟨p20, p21, p22, p23, -, -, -, -⟩ := id P2; obtain ⟨q20, q21, q22, q23, f20, f21, f22, f23⟩ := id Q2) | (go_at_call 32; (with_reducible refine (cH _).mono ?_); rintro e w3 ⟨rfl, hb3⟩; have B3 := bt B2 hb3; have S3 := hb3.size; have P3 := P2.keep hb3 (by omega); have Q3 := Q2.keep hb3 (by omega); obtain ⟨p30, p31, p32, p33, -, -, -, -⟩ := id P3; obtain ⟨q30, q31, q32, q33, f30, f31, f32, f33⟩ := id Q3) | (go_at_call 33; (with_reducible refine (cR _ B3).mono ?_); rintro e w4 ⟨⟨⟨yA, yc, ys, zA, zc, zs, yq, yl⟩, rfl, hyd, hyo, hyf⟩, hb4⟩; dsimp only at hyf ⊢; subst hyf; have B4 := bt B3 hb4; have S4 := hb4.size; have P4 := P3.keep hb4 (by omega); have Q4 := Q3.keep hb4 (by omega); obtain ⟨p40, p41, p42, p43, -, -, -, -⟩ := id P4; obtain ⟨q40, q41, q42, q43, f40, f41, f42, f43⟩ := id Q4))
  have H5 := heap_alloc_new w4 (.cells #[.slice yA ys.length yc, .slice zA zs.length zs.length, .int .i64 yq, .int .i64 yl] 25)
  have R5 := four_new w4 (.slice yA ys.length yc) (.slice zA zs.length zs.length) (.int .i64 yq) (.int .i64 yl) 25
  have Q5 := Q4.alloc (by omega) (.cells #[.slice yA ys.length yc, .slice zA zs.length zs.length, .int .i64 yq, .int .i64 yl] 25)
  have P5 := P4.alloc (by omega) (.cells #[.slice yA ys.length yc, .slice zA zs.length zs.length, .int .i64 yq, .int .i64 yl] 25)
  have o5 := hyo.below (bl w4 (.cells #[.slice yA ys.length yc, .slice zA zs.length zs.length, .int .i64 yq, .int .i64 yl] 25))
  have B5 := kal B4 (.cells #[.slice yA ys.length yc, .slice zA zs.length zs.length, .int .i64 yq, .int .i64 yl] 25)
  have S5 : (w4.alloc (.cells #[.slice yA ys.length yc, .slice zA zs.length zs.length, .int .i64 yq, .int .i64 yl] 25)).heap.size = w4.heap.size + 1 := by simp
  generalize w4.alloc (.cells #[.slice yA ys.length yc, .slice zA zs.length zs.length, .int .i64 yq, .int .i64 yl] 25) = w5 at *
  obtain ⟨t0, t1, t2, t3, g0, g1, g2, g3⟩ := id R5
  obtain ⟨s0, s1, s2, s3, h0, h1, h2, h3⟩ := id Q5
  go_wp2_with fail
  have k4 := set4 Q5 ⟨N8.s _ _ _, N8.s _ _ _, N8.i _, N8.i _⟩ (.slice yA ys.length yc) (.slice zA zs.length zs.length) (.int .i64 yq) (.int .i64 yl)
  have hy6 := k4.2.2.2.2 _ _ (by omega) o5
  refine bodyPost_ret (v := .tuple #[.agg #[.slice yA ys.length yc, .slice zA zs.length zs.length, .int .i64 yq, .int .i64 yl], .int .i64 8]) (by simp [results, Try.results13, go_sem, k4.1.c0, k4.1.c1, k4.1.c2, k4.1.c3]) rfl ⟨⟨⟨yA, yc, ys, zA, zs.length, zs, yq, yl⟩, rfl, hyd, hy6.less (by omega)⟩, B5.trans (k4.2.2.1 _ hlo)⟩
set_option maxHeartbeats 4000000 in
theorem write_bad (d : DV) (a : Int) (b : Row) (w : World) (hd : d.In w w.heap.size) (_hb : RIn w w.heap.size b) (hv : Valid d.d) (hh : HasC d.d a) (hbl : b.l.length ≤ 200) (hl : ¬ d.left = 0) (hbad : bad d.d a) :
    Calls Try.prog 13 #[d.v, .int .i64 a, .slice b.A b.l.length b.c] w fun e w' => Wd w.heap.size (req d.d, 7) e w' ∧ Below w.heap.size w w' := by
  have hf := hv.fit
  have cK := fun (W : World) (hb : Below w.heap.size w W) => check_at d W (hd.next hb)
  have cH := fun (W : World) => has_cell d a W
  rw [show errV d.d = 0 from if_pos hv] at cK
  rw [decide_eq_true hh] at cH
  have hl2 : ¬ (200 < (b.l.length : Int)) := by omega
  obtain ⟨k, hk⟩ : ∃ k : Nat, a = k := ⟨a.toNat, by have := hh.1; omega⟩
  have hkl : k < d.cs.length := by have h1 := hh.2; have h2 : d.d.cells.length = d.cs.length := cds_length _; omega
  have cR := fun (W : World) (hb : Below w.heap.size w W) => request_ok d W (hd.next hb) hf hl
  clear hv hh hd hf hl
  unfold DV.v at cR
  rw [hk] at cH ⊢
  have P0 := four_new w (.slice d.CA d.cs.length d.cc) (.slice d.WA d.ws.length d.wc) (.int .i64 d.reqs) (.int .i64 d.left) 25
  have B0 := bl w (.cells #[.slice d.CA d.cs.length d.cc, .slice d.WA d.ws.length d.wc, .int .i64 d.reqs, .int .i64 d.left] 25)
  have L0 : (w.alloc (.cells #[.slice d.CA d.cs.length d.cc, .slice d.WA d.ws.length d.wc, .int .i64 d.reqs, .int .i64 d.left] 25)).heap.size = w.heap.size + 1 := by simp
  unfold DV.v at cK cH ⊢
  go_enter Try.func13, Try.ntmps13
  go_wp2_with fail
  generalize w.alloc (.cells #[.slice d.CA d.cs.length d.cc, .slice d.WA d.ws.length d.wc, .int .i64 d.reqs, .int .i64 d.left] 25) = w0 at *
  have Q0 := four_new w0 (.slice none 0 0) (.slice none 0 0) (.int .i64 0) (.int .i64 0) 25
  have P1 := P0.alloc (by omega) (.cells #[.slice none 0 0, .slice none 0 0, .int .i64 0, .int .i64 0] 25)
  have B1 := kal B0 (.cells #[.slice none 0 0, .slice none 0 0, .int .i64 0, .int .i64 0] 25)
  have L1 : (w0.alloc (.cells #[.slice none 0 0, .slice none 0 0, .int .i64 0, .int .i64 0] 25)).heap.size = w.heap.size + 2 := by simp [L0]
  generalize w0.alloc (.cells #[.slice none 0 0, .slice none 0 0, .int .i64 0, .int .i64 0] 25) = w1 at *
  rw [L0] at Q0
  clear P0 B0 L0 w0
  obtain ⟨c0, c1, c2, c3, -, -, -, -⟩ := id P1
  have hlo : w.heap.size ≤ w.heap.size + 1 := by omega
  go_upto_region 6 with (first | (go_at_call 19; (with_reducible refine (cK _ B1).mono ?_); rintro e w2 ⟨rfl, hb2⟩; have B2 := bt B1 hb2; have S2 := hb2.size; have P2 := P1.keep hb2 (by omega); have Q2 := Q0.keep hb2 (by omega); obtain ⟨p20, p21, p22, p23, -, -, -, -⟩ := id P2; obtain ⟨q20, q21, q22, q23, f20, f21, f22, f23⟩ := id Q2) | (go_at_call 32; (with_reducible refine (cH _).mono ?_); rintro e w3 ⟨rfl, hb3⟩; have B3 := bt B2 hb3; have S3 := hb3.size; have P3 := P2.keep hb3 (by omega); have Q3 := Q2.keep hb3 (by omega); obtain ⟨p30, p31, p32, p33, -, -, -, -⟩ := id P3; obtain ⟨q30, q31, q32, q33, f30, f31, f32, f33⟩ := id Q3) | (go_at_call 33; (with_reducible refine (cR _ B3).mono ?_); rintro e w4 ⟨⟨⟨yA, yc, ys, zA, zc, zs, yq, yl⟩, rfl, hyd, hyo, hyf⟩, hb4⟩; dsimp only at hyf ⊢; subst hyf; have B4 := bt B3 hb4; have S4 := hb4.size; have P4 := P3.keep hb4 (by omega); have Q4 := Q3.keep hb4 (by omega); obtain ⟨p40, p41, p42, p43, -, -, -, -⟩ := id P4; obtain ⟨q40, q41, q42, q43, f40, f41, f42, f43⟩ := id Q4))
  have H5 := heap_alloc_new w4 (.cells #[.slice yA ys.length yc, .slice zA zs.length zs.length, .int .i64 yq, .int .i64 yl] 25)
  have R5 := four_new w4 (.slice yA ys.length yc) (.slice zA zs.length zs.length) (.int .i64 yq) (.int .i64 yl) 25
  have Q5 := Q4.alloc (by omega) (.cells #[.slice yA ys.length yc, .slice zA zs.length zs.length, .int .i64 yq, .int .i64 yl] 25)
  have P5 := P4.alloc (by omega) (.cells #[.slice yA ys.length yc, .slice zA zs.length zs.length, .int .i64 yq, .int .i64 yl] 25)
  have o5 := hyo.below (bl w4 (.cells #[.slice yA ys.length yc, .slice zA zs.length zs.length, .int .i64 yq, .int .i64 yl] 25))
  have B5 := kal B4 (.cells #[.slice yA ys.length yc, .slice zA zs.length zs.length, .int .i64 yq, .int .i64 yl] 25)
  have S5 : (w4.alloc (.cells #[.slice yA ys.length yc, .slice zA zs.length zs.length, .int .i64 yq, .int .i64 yl] 25)).heap.size = w4.heap.size + 1 := by simp
  generalize w4.alloc (.cells #[.slice yA ys.length yc, .slice zA zs.length zs.length, .int .i64 yq, .int .i64 yl] 25) = w5 at *
  obtain ⟨t0, t1, t2, t3, g0, g1, g2, g3⟩ := id R5
  obtain ⟨s0, s1, s2, s3, h0, h1, h2, h3⟩ := id Q5
  have e1 : cds ys = cds d.cs := congrArg Dsk.cells hyd
  have e2 : wds zs = wds d.ws := congrArg Dsk.cache hyd
  have l1 : ys.length = d.cs.length := by have := congrArg List.length e1; rwa [cds_length, cds_length] at this
  have l2 : zs.length = d.ws.length := by have := congrArg List.length e2; rwa [wds_length, wds_length] at this
  obtain ⟨b1, off, u, e3, hb1, r0, r1, r2, -, -, -, -, eu⟩ := cell_at o5.in.hc o5.in.ci (show k < ys.length by omega)
  dsimp only at e3
  subst e3
  have i1 : (k : Int) < (ys.length : Int) := by omega
  have hbad2 : u.st = 2 ∨ zs.length = 2000 := by
    rcases hbad with h | h
    · left
      rw [show d.d.cells = cds d.cs from rfl, show a.toNat = k by omega, ← e1, eu] at h
      simpa [CellR.d] using h
    · right
      rw [l2]
      rwa [show d.d.cache = wds d.ws from rfl, wds_length] at h
  clear hbad eu e1 e2 l1 l2
  rcases hbad2 with h | h
  · rw [h] at r0
    go_wp2_with fail
    have k4 := set4 Q5 ⟨N8.s _ _ _, N8.s _ _ _, N8.i _, N8.i _⟩ (.slice (some ⟨b1, off, none⟩) ys.length yc) (.slice zA zs.length zs.length) (.int .i64 yq) (.int .i64 yl)
    have hy6 := k4.2.2.2.2 _ _ (by omega) o5
    refine bodyPost_ret (v := .tuple #[.agg #[.slice (some ⟨b1, off, none⟩) ys.length yc, .slice zA zs.length zs.length, .int .i64 yq, .int .i64 yl], .int .i64 7]) (by simp [results, Try.results13, go_sem, k4.1.c0, k4.1.c1, k4.1.c2, k4.1.c3]) rfl ⟨⟨⟨some ⟨b1, off, none⟩, yc, ys, zA, zs.length, zs, yq, yl⟩, rfl, hyd, hy6.less (by omega)⟩, B5.trans (k4.2.2.1 _ hlo)⟩
  · have n1 : ((zs.length : Int) == 2000) = true := beq_iff_eq.2 (by omega)
    clear h
    by_cases h2 : u.st = 2
    · rw [h2] at r0
      go_wp2_with fail
      have k4 := set4 Q5 ⟨N8.s _ _ _, N8.s _ _ _, N8.i _, N8.i _⟩ (.slice (some ⟨b1, off, none⟩) ys.length yc) (.slice zA zs.length zs.length) (.int .i64 yq) (.int .i64 yl)
      have hy6 := k4.2.2.2.2 _ _ (by omega) o5
      refine bodyPost_ret (v := .tuple #[.agg #[.slice (some ⟨b1, off, none⟩) ys.length yc, .slice zA zs.length zs.length, .int .i64 yq, .int .i64 yl], .int .i64 7]) (by simp [results, Try.results13, go_sem, k4.1.c0, k4.1.c1, k4.1.c2, k4.1.c3]) rfl ⟨⟨⟨some ⟨b1, off, none⟩, yc, ys, zA, zs.length, zs, yq, yl⟩, rfl, hyd, hy6.less (by omega)⟩, B5.trans (k4.2.2.1 _ hlo)⟩
    · have n2 : (u.st == 2) = false := beq_eq_false_iff_ne.2 h2
      go_wp2_with fail
      have k4 := set4 Q5 ⟨N8.s _ _ _, N8.s _ _ _, N8.i _, N8.i _⟩ (.slice (some ⟨b1, off, none⟩) ys.length yc) (.slice zA zs.length zs.length) (.int .i64 yq) (.int .i64 yl)
      have hy6 := k4.2.2.2.2 _ _ (by omega) o5
      refine bodyPost_ret (v := .tuple #[.agg #[.slice (some ⟨b1, off, none⟩) ys.length yc, .slice zA zs.length zs.length, .int .i64 yq, .int .i64 yl], .int .i64 7]) (by simp [results, Try.results13, go_sem, k4.1.c0, k4.1.c1, k4.1.c2, k4.1.c3]) rfl ⟨⟨⟨some ⟨b1, off, none⟩, yc, ys, zA, zs.length, zs, yq, yl⟩, rfl, hyd, hy6.less (by omega)⟩, B5.trans (k4.2.2.1 _ hlo)⟩
set_option maxHeartbeats 4000000 in
theorem write_ok (d : DV) (a : Int) (b : Row) (w : World) (hd : d.In w w.heap.size) (hb : RIn w w.heap.size b) (hv : Valid d.d) (hh : HasC d.d a) (hbl : b.l.length ≤ 200) (hl : ¬ d.left = 0) (hbad : ¬ bad d.d a) :
    Calls Try.prog 13 #[d.v, .int .i64 a, .slice b.A b.l.length b.c] w fun e w' => Wd w.heap.size (⟨d.d.cells, d.d.cache ++ [⟨a, b.l⟩], (req d.d).reqs, (req d.d).left⟩, 0) e w' ∧ Below w.heap.size w w' := by
  have hf := hv.fit
  have cK := fun (W : World) (hb : Below w.heap.size w W) => check_at d W (hd.next hb)
  have cH := fun (W : World) => has_cell d a W
  rw [show errV d.d = 0 from if_pos hv] at cK
  rw [decide_eq_true hh] at cH
  have hl2 : ¬ (200 < (b.l.length : Int)) := by omega
  obtain ⟨k, hk⟩ : ∃ k : Nat, a = k := ⟨a.toNat, by have := hh.1; omega⟩
  have hkl : k < d.cs.length := by have h1 := hh.2; have h2 : d.d.cells.length = d.cs.length := cds_length _; omega
  have cR := fun (W : World) (hb : Below w.heap.size w W) => request_ok d W (hd.next hb) hf hl
  have hzn := hf.n.2
  have cC := fun (W : World) (hW : Below w.heap.size w W) => clone_any b.A b.c _ b.l.length b.l W rfl (hb.below hW).1 (by omega)
  clear hv hh hd hf hl hb
  unfold DV.v at cR
  rw [show (⟨a, b.l⟩ : Wri) = ⟨k, b.l⟩ by rw [hk]]
  rw [hk] at cH ⊢
  have P0 := four_new w (.slice d.CA d.cs.length d.cc) (.slice d.WA d.ws.length d.wc) (.int .i64 d.reqs) (.int .i64 d.left) 25
  have B0 := bl w (.cells #[.slice d.CA d.cs.length d.cc, .slice d.WA d.ws.length d.wc, .int .i64 d.reqs, .int .i64 d.left] 25)
  have L0 : (w.alloc (.cells #[.slice d.CA d.cs.length d.cc, .slice d.WA d.ws.length d.wc, .int .i64 d.reqs, .int .i64 d.left] 25)).heap.size = w.heap.size + 1 := by simp
  unfold DV.v at cK cH ⊢
  go_enter Try.func13, Try.ntmps13
  go_wp2_with fail
  generalize w.alloc (.cells #[.slice d.CA d.cs.length d.cc, .slice d.WA d.ws.length d.wc, .int .i64 d.reqs, .int .i64 d.left] 25) = w0 at *
  have Q0 := four_new w0 (.slice none 0 0) (.slice none 0 0) (.int .i64 0) (.int .i64 0) 25
  have P1 := P0.alloc (by omega) (.cells #[.slice none 0 0, .slice none 0 0, .int .i64 0, .int .i64 0] 25)
  have B1 := kal B0 (.cells #[.slice none 0 0, .slice none 0 0, .int .i64 0, .int .i64 0] 25)
  have L1 : (w0.alloc (.cells #[.slice none 0 0, .slice none 0 0, .int .i64 0, .int .i64 0] 25)).heap.size = w.heap.size + 2 := by simp [L0]
  generalize w0.alloc (.cells #[.slice none 0 0, .slice none 0 0, .int .i64 0, .int .i64 0] 25) = w1 at *
  rw [L0] at Q0
  clear P0 B0 L0 w0
  obtain ⟨c0, c1, c2, c3, -, -, -, -⟩ := id P1
  have hlo : w.heap.size ≤ w.heap.size + 1 := by omega
  go_upto_region 6 with (first | (go_at_call 19; (with_reducible refine (cK _ B1).mono ?_); rintro e w2 ⟨rfl, hb2⟩; have B2 := bt B1 hb2; have S2 := hb2.size; have P2 := P1.keep hb2 (by omega); have Q2 := Q0.keep hb2 (by omega); obtain ⟨p20, p21, p22, p23, -, -, -, -⟩ := id P2; obtain ⟨q20, q21, q22, q23, f20, f21, f22, f23⟩ := id Q2) | (go_at_call 32; (with_reducible refine (cH _).mono ?_); rintro e w3 ⟨rfl, hb3⟩; have B3 := bt B2 hb3; have S3 := hb3.size; have P3 := P2.keep hb3 (by omega); have Q3 := Q2.keep hb3 (by omega); obtain ⟨p30, p31, p32, p33, -, -, -, -⟩ := id P3; obtain ⟨q30, q31, q32, q33, f30, f31, f32, f33⟩ := id Q3) | (go_at_call 33; (with_reducible refine (cR _ B3).mono ?_); rintro e w4 ⟨⟨⟨yA, yc, ys, zA, zc, zs, yq, yl⟩, rfl, hyd, hyo, hyf⟩, hb4⟩; dsimp only at hyf ⊢; subst hyf; have B4 := bt B3 hb4; have S4 := hb4.size; have P4 := P3.keep hb4 (by omega); have Q4 := Q3.keep hb4 (by omega); obtain ⟨p40, p41, p42, p43, -, -, -, -⟩ := id P4; obtain ⟨q40, q41, q42, q43, f40, f41, f42, f43⟩ := id Q4))
  have H5 := heap_alloc_new w4 (.cells #[.slice yA ys.length yc, .slice zA zs.length zs.length, .int .i64 yq, .int .i64 yl] 25)
  have R5 := four_new w4 (.slice yA ys.length yc) (.slice zA zs.length zs.length) (.int .i64 yq) (.int .i64 yl) 25
  have Q5 := Q4.alloc (by omega) (.cells #[.slice yA ys.length yc, .slice zA zs.length zs.length, .int .i64 yq, .int .i64 yl] 25)
  have P5 := P4.alloc (by omega) (.cells #[.slice yA ys.length yc, .slice zA zs.length zs.length, .int .i64 yq, .int .i64 yl] 25)
  have o5 := hyo.below (bl w4 (.cells #[.slice yA ys.length yc, .slice zA zs.length zs.length, .int .i64 yq, .int .i64 yl] 25))
  have B5 := kal B4 (.cells #[.slice yA ys.length yc, .slice zA zs.length zs.length, .int .i64 yq, .int .i64 yl] 25)
  have S5 : (w4.alloc (.cells #[.slice yA ys.length yc, .slice zA zs.length zs.length, .int .i64 yq, .int .i64 yl] 25)).heap.size = w4.heap.size + 1 := by simp
  generalize w4.alloc (.cells #[.slice yA ys.length yc, .slice zA zs.length zs.length, .int .i64 yq, .int .i64 yl] 25) = w5 at *
  obtain ⟨t0, t1, t2, t3, g0, g1, g2, g3⟩ := id R5
  obtain ⟨s0, s1, s2, s3, h0, h1, h2, h3⟩ := id Q5
  have e1 : cds ys = cds d.cs := congrArg Dsk.cells hyd
  have e2 : wds zs = wds d.ws := congrArg Dsk.cache hyd
  have l1 : ys.length = d.cs.length := by have := congrArg List.length e1; rwa [cds_length, cds_length] at this
  have l2 : zs.length = d.ws.length := by have := congrArg List.length e2; rwa [wds_length, wds_length] at this
  obtain ⟨b1, off, u, e3, hb1, r0, r1, r2, -, -, -, -, eu⟩ := cell_at o5.in.hc o5.in.ci (show k < ys.length by omega)
  dsimp only at e3
  subst e3
  have i1 : (k : Int) < (ys.length : Int) := by omega
  have n2 : (u.st == 2) = false := beq_eq_false_iff_ne.2 fun h => hbad (.inl (by
    rw [show d.d.cells = cds d.cs from rfl, show a.toNat = k by omega, ← e1, eu]
    simpa [CellR.d] using h))
  have n1 : ((zs.length : Int) == 2000) = false := beq_eq_false_iff_ne.2 fun h => hbad (.inr (by
    rw [show d.d.cache = wds d.ws from rfl, wds_length]; omega))
  have hzb : zs.length ≤ 1048576 := by omega
  have E1 := Lib.hid e1
  have E2 := Lib.hid e2
  clear hbad eu e1 e2 l1 l2
  go_upto_region 8 with fail
  refine wp_region_tail (S := fun W => W.cell? ⟨w4.heap.size, 1, none⟩ = some (.slice zA zs.length zs.length) ∧ Below w.heap.size w W) 9 rfl (by kernel_rfl) (by kernel_rfl) ⟨t1, below_dr B5⟩ (fun hS => ?_)
  simp only [List.take_succ_cons, List.take_zero]
  (refine wpAnyH_take (i := 0) (v := ?_) rfl (by kernel_rfl) (by kernel_rfl) (by kernel_rfl) (fun _ _ _ h => h) (Or.inl ⟨by rfl, ?_⟩) (by assumption) ?_; rotate_left; (focus (intro w hSw; (try dsimp only at hSw); go_split_ands; go_simp <;> with_reducible rfl)); simp only [List.getElem_toArray, List.getElem_cons_zero, Act.put, List.setIfInBounds_toArray, List.set_cons_zero, List.set_cons_succ])
  (refine wpAnyH_take (i := 1) (v := ?_) rfl (by kernel_rfl) (by kernel_rfl) (by kernel_rfl) (fun _ _ _ h => h) (Or.inl ⟨by rfl, ?_⟩) (by assumption) ?_; rotate_left; (focus (intro w hSw; (try dsimp only at hSw); go_split_ands; go_simp <;> with_reducible rfl)); simp only [List.getElem_toArray, List.getElem_cons_zero, List.getElem_cons_succ, Act.put, List.setIfInBounds_toArray, List.set_cons_zero, List.set_cons_succ])
  (refine wpAnyH_take (i := 2) (v := ?_) rfl (by kernel_rfl) (by kernel_rfl) (by kernel_rfl) (fun _ _ _ h => h) (Or.inl ⟨by rfl, ?_⟩) (by assumption) ?_; rotate_left; (focus (intro w hSw; (try dsimp only at hSw); go_split_ands; go_simp <;> with_reducible rfl)); simp only [List.getElem_toArray, List.getElem_cons_zero, List.getElem_cons_succ, Act.put, List.setIfInBounds_toArray, List.set_cons_zero, List.set_cons_succ])
  (refine wpAnyH_take (i := 3) (v := ?_) rfl (by kernel_rfl) (by kernel_rfl) (by kernel_rfl) (fun _ _ _ h => h) (Or.inl ⟨by rfl, ?_⟩) (by assumption) ?_; rotate_left; (focus (intro w hSw; (try dsimp only at hSw); go_split_ands; go_simp <;> with_reducible rfl)); simp only [List.getElem_toArray, List.getElem_cons_zero, List.getElem_cons_succ, Act.put, List.setIfInBounds_toArray, List.set_cons_zero, List.set_cons_succ])
  refine wpAnyH_ready (rs := [4]) (by kernel_rfl) (by simp) ?_
  refine AllReadyH.cons rfl (fun K hK => ?_) AllReadyH.nil
  go_simp
  (with_reducible refine (cC _ (below_dr B5)).mono ?_)
  rintro e wo ⟨⟨vo, rfl, oo⟩, hbo⟩
  obtain ⟨Xo, co, rfl, -, -, -, -⟩ := id oo.form
  have tO : Below w5.heap.size w5 wo := bt (below_dr (Below.refl _ _)) hbo
  have L5 : w4.heap.size < w5.heap.size := by omega
  refine hK.out _ _ ⟨ks tO L5 t1, bt B5 tO⟩ (fun hS => ?_)
  clear hK K
  (refine wpAnyH_take (i := 5) (v := ?_) rfl (by kernel_rfl) (by kernel_rfl) (by kernel_rfl) (fun _ _ _ h => h) (Or.inl ⟨by rfl, ?_⟩) (by assumption) ?_; rotate_left; (focus (intro w hSw; (try dsimp only at hSw); go_split_ands; go_simp <;> with_reducible rfl)); simp only [List.getElem_toArray, List.getElem_cons_zero, List.getElem_cons_succ, Act.put, List.setIfInBounds_toArray, List.set_cons_zero, List.set_cons_succ])
  refine wpAnyH_ready (rs := [6]) (by kernel_rfl) (by simp) ?_
  refine AllReadyH.cons rfl (fun K hK => ?_) AllReadyH.nil
  go_simp
  have ta : Below w5.heap.size w5 (wo.alloc (.cells #[.int .i64 k, .slice Xo b.l.length co] 72)) := kal tO _
  refine hK.out _ _ ⟨ks ta L5 t1, bt B5 ta⟩ (fun hS => ?_)
  clear hK K
  refine wpAnyH_ready (rs := [7]) (by kernel_rfl) (by simp) ?_
  refine AllReadyH.cons rfl (fun K hK => ?_) AllReadyH.nil
  have oA := o5.below ta
  have Bb := bl wo (.cells #[.int .i64 k, .slice Xo b.l.length co] 72)
  have rO := (own_rin (r := ⟨Xo, co, b.l⟩) oo).next Bb
  have src := src_write (P := Try.prog) (heap_alloc_new wo (.cells #[.int .i64 k, .slice Xo b.l.length co] 72)) Try.underlying23 (by simp [Value.oneCell'])
  have la := ta.size
  generalize wo.alloc (.cells #[.int .i64 k, .slice Xo b.l.length co] 72) = wa at *
  refine step_row wa (by rfl) _ _ _ _ (by rfl) w3.heap.size 2 32 72 (.agg #[.int .i64 0, .slice none 0 0]) Try.underlying23 w_info (by rfl) (.slice zA zs.length zs.length) zs.length (wvs zs) (by rfl) oA.ow _ 1 _ (by rfl) src (by unfold maxLen; omega) (by omega) (by omega) ?_
  intro v3 w6 h3 hg3
  obtain ⟨A3, c3, rfl, -, -, -⟩ := row_form h3
  have hne : some w4.heap.size ≠ (Value.slice zA zs.length zs.length).ownBlock := fun e => by have := (World.ownsRow.lt hyo.ow _ e.symm).2; omega
  have hne2 : some (w.heap.size + 1) ≠ (Value.slice zA zs.length zs.length).ownBlock := fun e => by have := (World.ownsRow.lt hyo.ow _ e.symm).1; omega
  have R6 := (R5.keep ta L5).grown hg3 hne
  have Q6 := (Q5.keep ta (by omega)).grown hg3 hne2
  have H6 := (hg3.block _ (by omega) hne).trans ((ta.block _ L5).trans H5)
  have B6 : Below w.heap.size w w6 := (bt B5 ta).grown hg3 (by omega) (fun q hq => Nat.le_trans (by omega) (World.ownsRow.lt oA.ow q hq).1)
  refine hK.out _ _ ⟨R6.c1, B6⟩ (fun hS => ?_)
  clear hK K
  simp only [List.getElem_toArray, List.getElem_cons_zero, List.getElem_cons_succ, Act.put, List.setIfInBounds_toArray, List.set_cons_zero, List.set_cons_succ]
  (refine wpAnyH_take (i := 8) (v := ?_) rfl (by kernel_rfl) (by kernel_rfl) (by kernel_rfl) (fun _ _ _ h => h) (Or.inl ⟨by rfl, ?_⟩) (by assumption) ?_; rotate_left; (focus (intro w hSw; (try dsimp only at hSw); go_split_ands; go_simp <;> with_reducible rfl)); simp only [List.getElem_toArray, List.getElem_cons_zero, List.getElem_cons_succ, Act.put, List.setIfInBounds_toArray, List.set_cons_zero, List.set_cons_succ])
  refine wpAnyH_done (by kernel_rfl) ?_ _
  have o6 : DV.Own w6 w3.heap.size ⟨some ⟨b1, off, none⟩, yc, ys, A3, c3, zs ++ [⟨k, ⟨Xo, co, b.l⟩⟩], yq, yl⟩ := by
    refine ⟨World.ownsRow.kept oA.oc hg3 (row_apart oA.oc oA.ow cell_write), ?_, fun r hr => ⟨rin_grown (oA.ci r hr).1 oA.ow hg3, rin_grown (oA.ci r hr).2 oA.ow hg3⟩, fun r hr => ?_⟩
    · show w6.ownsRow _ _ 2 (.slice A3 (zs ++ [_]).length c3) (zs ++ [_]).length (wvs (zs ++ [_]))
      rw [List.length_append, wvs_append]
      exact h3
    · rcases List.mem_append.1 hr with h | h
      · exact rin_grown (oA.wi r h) oA.ow hg3
      · obtain rfl := List.mem_singleton.1 h
        exact rin_grown rO oA.ow hg3
  have o7 := o6.apart (owns_ne o6.oc H6 disk_cell) (owns_ne o6.ow H6 disk_write) R6.c1 (slice_no8 _ _ _) (.slice A3 (zs.length + 1) c3)
  have R7 := R6.set1 (.slice A3 (zs.length + 1) c3)
  have Q7 := Q6.apart (show w.heap.size + 1 ≠ w4.heap.size by omega) (o := 1) (.slice A3 (zs.length + 1) c3)
  have B7 := B6.setCell (p := ⟨w4.heap.size, 1, none⟩) (show w.heap.size ≤ w4.heap.size by omega) (.slice A3 (zs.length + 1) c3)
  have x1 := R6.c1
  have x2 := R6.f1
  simp only [tailQ]
  clear t0 t1 t2 t3 g0 g1 g2 g3 s0 s1 s2 s3 h0 h1 h2
  go_upto_region 9 with fail
  clear x1 x2
  generalize w6.setCell ⟨w4.heap.size, 1, none⟩ (.slice A3 (zs.length + 1) c3) = w7 at *
  obtain ⟨t0, t1, t2, t3, g0, g1, g2, g3⟩ := id R7
  obtain ⟨s0, s1, s2, s3, h0, h1, h2, h4⟩ := id Q7
  go_wp2_with fail
  have k4 := set4 Q7 ⟨N8.s _ _ _, N8.s _ _ _, N8.i _, N8.i _⟩ (.slice (some ⟨b1, off, none⟩) ys.length yc) (.slice A3 (zs.length + 1) c3) (.int .i64 yq) (.int .i64 yl)
  have hy8 := k4.2.2.2.2 _ _ (by omega) o7
  refine bodyPost_ret (v := .tuple #[.agg #[.slice (some ⟨b1, off, none⟩) ys.length yc, .slice A3 (zs.length + 1) c3, .int .i64 yq, .int .i64 yl], .int .i64 0]) (by simp [results, Try.results13, go_sem, k4.1.c0, k4.1.c1, k4.1.c2, k4.1.c3]) rfl ⟨⟨⟨some ⟨b1, off, none⟩, yc, ys, A3, c3, zs ++ [⟨k, ⟨Xo, co, b.l⟩⟩], yq, yl⟩, by simp [DV.v], ?_, hy8.less (by omega)⟩, B7.trans (k4.2.2.1 _ hlo)⟩
  show (⟨cds ys, wds (zs ++ [_]), yq, yl⟩ : Dsk) = ⟨cds d.cs, wds d.ws ++ [_], (req d.d).reqs, (req d.d).left⟩
  rw [show wds (zs ++ [(⟨k, ⟨Xo, co, b.l⟩⟩ : WriR)]) = wds zs ++ [⟨k, b.l⟩] by simp [wds, WriR.d], E1.out, E2.out, show yq = (req d.d).reqs from congrArg Dsk.reqs hyd, show yl = (req d.d).left from congrArg Dsk.left hyd]
theorem wrt_at (d : DV) (a : Int) (b : Row) (w : World) (hd : d.In w w.heap.size) (hb : RIn w w.heap.size b) :
    Calls Try.prog 13 #[d.v, .int .i64 a, .slice b.A b.l.length b.c] w fun e w' => Wd w.heap.size (writeA d.d a b.l) e w' ∧ Below w.heap.size w w' := by
  unfold writeA
  by_cases h : Valid d.d ∧ HasC d.d a ∧ b.l.length ≤ 200
  · rw [if_neg (not_not_intro h)]
    by_cases hl : d.left = 0
    · rw [if_pos (show d.d.left = 0 from hl)]
      exact write_dead d a b w hd hb h.1 h.2.1 h.2.2 hl
    · rw [if_neg (show ¬ d.d.left = 0 from hl)]
      by_cases hk : bad d.d a
      · rw [if_pos hk]
        exact write_bad d a b w hd hb h.1 h.2.1 h.2.2 hl hk
      · rw [if_neg hk]
        exact write_ok d a b w hd hb h.1 h.2.1 h.2.2 hl hk
  · rw [if_pos h]
    exact write_arg d a b w hd hb h
end Go.Proofs.Ytegcbmimndmfkaa.dsk
