/-
  Package disk: Crash. No condition.
-/
import Derived.Test.YtegcbmimndmfkaaDkFl
namespace Go.Proofs.Ytegcbmimndmfkaa.dsk
open Go.RowKit Go.Lib

theorem and_one_i64 (a : Nat) (ha : a < 9223372036854775808) : bits .and .i64 (a : Int) 1 = ((a % 2 : Nat) : Int) := by
  show IntKind.i64.wrap ((BitVec.ofInt 64 (a : Int) &&& BitVec.ofInt 64 ((1 : Nat) : Int)).toNat : Int) = _
  rw [BitVec.toNat_and, show (BitVec.ofInt 64 (a : Int)).toNat = a by rw [BitVec.toNat_ofInt]; omega, show (BitVec.ofInt 64 ((1 : Nat) : Int)).toNat = 1 from rfl, Nat.and_one_is_mod]
  rw [IntKind.wrap_i64]
  omega
theorem pick_bit (keep : Int) (k : Nat) (h0 : 0 ≤ keep) (h1 : keep ≤ 9223372036854775807) : bits .and .i64 (keep / 2 ^ (k % 31)) 1 = if pick keep k = true then 1 else 0 := by
  obtain ⟨K, rfl⟩ : ∃ K : Nat, keep = K := ⟨keep.toNat, by omega⟩
  rw [show ((K : Int) / 2 ^ (k % 31)) = ((K / 2 ^ (k % 31) : Nat) : Int) by simp, and_one_i64 _ (Nat.lt_of_le_of_lt (Nat.div_le_self _ _) (by omega))]
  have hp : pick (K : Int) k = decide (K / 2 ^ (k % 31) % 2 = 1) := by
    unfold pick
    rw [show (K : Int).toNat = K from rfl, Nat.testBit_eq_decide_div_mod_eq]
  rw [hp]
  by_cases h : K / 2 ^ (k % 31) % 2 = 1
  · rw [if_pos (by simpa using h), h]; rfl
  · rw [if_neg (by simpa using h), show K / 2 ^ (k % 31) % 2 = 0 by omega]; rfl

set_option maxHeartbeats 4000000 in
theorem crash_arg (d : DV) (keep : Int) (w : World) (hd : d.In w w.heap.size) (h : ¬ (Valid d.d ∧ 0 ≤ keep)) :
    Calls Try.prog 15 #[d.v, .int .i64 keep] w fun e w' => Wd w.heap.size (noDsk, 1) e w' ∧ Below w.heap.size w w' := by
  have cK := fun (W : World) (hb : Below w.heap.size w W) => check_at d W (hd.next hb)
  by_cases hv : Valid d.d
  · have e1 : errV d.d = 0 := if_pos hv
    have hn : keep < 0 := by
      rcases Int.lt_or_le keep 0 with k | k
      · exact k
      · exact absurd ⟨hv, k⟩ h
    rw [e1] at cK
    clear hv hd e1 h
    have P0 := four_new w (.slice d.CA d.cs.length d.cc) (.slice d.WA d.ws.length d.wc) (.int .i64 d.reqs) (.int .i64 d.left) 25
    have B0 := bl w (.cells #[.slice d.CA d.cs.length d.cc, .slice d.WA d.ws.length d.wc, .int .i64 d.reqs, .int .i64 d.left] 25)
    have L0 : (w.alloc (.cells #[.slice d.CA d.cs.length d.cc, .slice d.WA d.ws.length d.wc, .int .i64 d.reqs, .int .i64 d.left] 25)).heap.size = w.heap.size + 1 := by simp
    unfold DV.v at cK ⊢
    go_enter Try.func15, Try.ntmps15
    go_wp2_with fail
    generalize w.alloc (.cells #[.slice d.CA d.cs.length d.cc, .slice d.WA d.ws.length d.wc, .int .i64 d.reqs, .int .i64 d.left] 25) = w0 at *
    have Q0 := four_new w0 (.slice none 0 0) (.slice none 0 0) (.int .i64 0) (.int .i64 0) 25
    have P1 := P0.alloc (by omega) (.cells #[.slice none 0 0, .slice none 0 0, .int .i64 0, .int .i64 0] 25)
    have B1 := kal B0 (.cells #[.slice none 0 0, .slice none 0 0, .int .i64 0, .int .i64 0] 25)
    have L1 : (w0.alloc (.cells #[.slice none 0 0, .slice none 0 0, .int .i64 0, .int .i64 0] 25)).heap.size = w.heap.size + 2 := by simp [L0]
    generalize w0.alloc (.cells #[.slice none 0 0, .slice none 0 0, .int .i64 0, .int .i64 0] 25) = w1 at *
    rw [L0] at Q0
    clear P0 B0 L0 w0
    obtain ⟨c0, c1, c2, c3, -, -, -, -⟩ := id P1
    have hlo : w.heap.size ≤ w.heap.size + 1 := by omega
    go_wp2_with (first | (go_at_call 19; (with_reducible refine (cK _ B1).mono ?_); rintro e w3 ⟨rfl, hb3⟩; have B3 := bt B1 hb3; have S3 := hb3.size; have P3 := P1.keep hb3 (by omega); have Q3 := Q0.keep hb3 (by omega); obtain ⟨p30, p31, p32, p33, -, -, -, -⟩ := id P3; obtain ⟨q30, q31, q32, q33, f30, f31, f32, f33⟩ := id Q3))
    have k4 := set4 Q3 ⟨N8.s _ _ _, N8.s _ _ _, N8.i _, N8.i _⟩ (.slice none 0 0) (.slice none 0 0) (.int .i64 0) (.int .i64 0)
    refine bodyPost_ret (v := .tuple #[.agg #[.slice none 0 0, .slice none 0 0, .int .i64 0, .int .i64 0], .int .i64 1]) (by simp [results, Try.results15, go_sem, k4.1.c0, k4.1.c1, k4.1.c2, k4.1.c3]) rfl ⟨⟨zdv, rfl, rfl, zdv_own _ _⟩, B3.trans (k4.2.2.1 _ hlo)⟩
  · have e1 : errV d.d = 1 := if_neg hv
    rw [e1] at cK
    clear hv hd e1 h
    have P0 := four_new w (.slice d.CA d.cs.length d.cc) (.slice d.WA d.ws.length d.wc) (.int .i64 d.reqs) (.int .i64 d.left) 25
    have B0 := bl w (.cells #[.slice d.CA d.cs.length d.cc, .slice d.WA d.ws.length d.wc, .int .i64 d.reqs, .int .i64 d.left] 25)
    have L0 : (w.alloc (.cells #[.slice d.CA d.cs.length d.cc, .slice d.WA d.ws.length d.wc, .int .i64 d.reqs, .int .i64 d.left] 25)).heap.size = w.heap.size + 1 := by simp
    unfold DV.v at cK ⊢
    go_enter Try.func15, Try.ntmps15
    go_wp2_with fail
    generalize w.alloc (.cells #[.slice d.CA d.cs.length d.cc, .slice d.WA d.ws.length d.wc, .int .i64 d.reqs, .int .i64 d.left] 25) = w0 at *
    have Q0 := four_new w0 (.slice none 0 0) (.slice none 0 0) (.int .i64 0) (.int .i64 0) 25
    have P1 := P0.alloc (by omega) (.cells #[.slice none 0 0, .slice none 0 0, .int .i64 0, .int .i64 0] 25)
    have B1 := kal B0 (.cells #[.slice none 0 0, .slice none 0 0, .int .i64 0, .int .i64 0] 25)
    have L1 : (w0.alloc (.cells #[.slice none 0 0, .slice none 0 0, .int .i64 0, .int .i64 0] 25)).heap.size = w.heap.size + 2 := by simp [L0]
    generalize w0.alloc (.cells #[.slice none 0 0, .slice none 0 0, .int .i64 0, .int .i64 0] 25) = w1 at *
    rw [L0] at Q0
    clear P0 B0 L0 w0
    obtain ⟨c0, c1, c2, c3, -, -, -, -⟩ := id P1
    have hlo : w.heap.size ≤ w.heap.size + 1 := by omega
    go_wp2_with (first | (go_at_call 19; (with_reducible refine (cK _ B1).mono ?_); rintro e w3 ⟨rfl, hb3⟩; have B3 := bt B1 hb3; have S3 := hb3.size; have P3 := P1.keep hb3 (by omega); have Q3 := Q0.keep hb3 (by omega); obtain ⟨p30, p31, p32, p33, -, -, -, -⟩ := id P3; obtain ⟨q30, q31, q32, q33, f30, f31, f32, f33⟩ := id Q3))
    have k4 := set4 Q3 ⟨N8.s _ _ _, N8.s _ _ _, N8.i _, N8.i _⟩ (.slice none 0 0) (.slice none 0 0) (.int .i64 0) (.int .i64 0)
    refine bodyPost_ret (v := .tuple #[.agg #[.slice none 0 0, .slice none 0 0, .int .i64 0, .int .i64 0], .int .i64 1]) (by simp [results, Try.results15, go_sem, k4.1.c0, k4.1.c1, k4.1.c2, k4.1.c3]) rfl ⟨⟨zdv, rfl, rfl, zdv_own _ _⟩, B3.trans (k4.2.2.1 _ hlo)⟩
set_option maxHeartbeats 4000000 in
theorem crash_ok (d : DV) (keep : Int) (w : World) (hd : d.In w w.heap.size) (hv : Valid d.d) (h0 : 0 ≤ keep) (hmx : keep ≤ 9223372036854775807) :
    Calls Try.prog 15 #[d.v, .int .i64 keep] w fun e w' => Wd w.heap.size (⟨play (pick keep) 0 d.d.cells d.d.cache, [], d.reqs, -1⟩, 0) e w' ∧ Below w.heap.size w w' := by
  have hf := hv.fit
  have cK := fun (W : World) (hb : Below w.heap.size w W) => check_at d W (hd.next hb)
  rw [show errV d.d = 0 from if_pos hv] at cK
  have cR := fun (W : World) (hb : Below w.heap.size w W) => clone_fit d W (hd.next hb) hf
  have hw := hv.2.2
  have hzn := hf.n.2
  have hk0 : ¬ keep < 0 := by omega
  clear hv hd hf
  unfold DV.v at cR
  have P0 := four_new w (.slice d.CA d.cs.length d.cc) (.slice d.WA d.ws.length d.wc) (.int .i64 d.reqs) (.int .i64 d.left) 25
  have B0 := bl w (.cells #[.slice d.CA d.cs.length d.cc, .slice d.WA d.ws.length d.wc, .int .i64 d.reqs, .int .i64 d.left] 25)
  have L0 : (w.alloc (.cells #[.slice d.CA d.cs.length d.cc, .slice d.WA d.ws.length d.wc, .int .i64 d.reqs, .int .i64 d.left] 25)).heap.size = w.heap.size + 1 := by simp
  unfold DV.v at cK ⊢
  go_enter Try.func15, Try.ntmps15
  go_wp2_with fail
  generalize w.alloc (.cells #[.slice d.CA d.cs.length d.cc, .slice d.WA d.ws.length d.wc, .int .i64 d.reqs, .int .i64 d.left] 25) = w0 at *
  have Q0 := four_new w0 (.slice none 0 0) (.slice none 0 0) (.int .i64 0) (.int .i64 0) 25
  have P1 := P0.alloc (by omega) (.cells #[.slice none 0 0, .slice none 0 0, .int .i64 0, .int .i64 0] 25)
  have B1 := kal B0 (.cells #[.slice none 0 0, .slice none 0 0, .int .i64 0, .int .i64 0] 25)
  have L1 : (w0.alloc (.cells #[.slice none 0 0, .slice none 0 0, .int .i64 0, .int .i64 0] 25)).heap.size = w.heap.size + 2 := by simp [L0]
  generalize w0.alloc (.cells #[.slice none 0 0, .slice none 0 0, .int .i64 0, .int .i64 0] 25) = w1 at *
  rw [L0] at Q0
  clear P0 B0 L0 w0
  obtain ⟨c0, c1, c2, c3, -, -, -, -⟩ := id P1
  have hlo : w.heap.size ≤ w.heap.size + 1 := by omega
  go_upto_region 4 with (first | (go_at_call 19; (with_reducible refine (cK _ B1).mono ?_); rintro e w3 ⟨rfl, hb3⟩; have B3 := bt B1 hb3; have S3 := hb3.size; have P3 := P1.keep hb3 (by omega); have Q3 := Q0.keep hb3 (by omega); obtain ⟨p30, p31, p32, p33, -, -, -, -⟩ := id P3; obtain ⟨q30, q31, q32, q33, f30, f31, f32, f33⟩ := id Q3) | (go_at_call 37; (with_reducible refine (cR _ B3).mono ?_); rintro e w4 ⟨⟨⟨yA, yc, ys, zA, zc, zs, yq, yl⟩, rfl, hyd, hyo, hyf⟩, hb4⟩; dsimp only at hyf ⊢; subst hyf; have B4 := bt B3 hb4; have S4 := hb4.size; have P4 := P3.keep hb4 (by omega); have Q4 := Q3.keep hb4 (by omega); obtain ⟨p40, p41, p42, p43, -, -, -, -⟩ := id P4; obtain ⟨q40, q41, q42, q43, f40, f41, f42, f43⟩ := id Q4))
  have H5 := heap_alloc_new w4 (.cells #[.slice yA ys.length yc, .slice zA zs.length zs.length, .int .i64 yq, .int .i64 yl] 25)
  have R5 := four_new w4 (.slice yA ys.length yc) (.slice zA zs.length zs.length) (.int .i64 yq) (.int .i64 yl) 25
  have Q5 := Q4.alloc (by omega) (.cells #[.slice yA ys.length yc, .slice zA zs.length zs.length, .int .i64 yq, .int .i64 yl] 25)
  have o5 := hyo.below (bl w4 (.cells #[.slice yA ys.length yc, .slice zA zs.length zs.length, .int .i64 yq, .int .i64 yl] 25))
  have B5 := kal B4 (.cells #[.slice yA ys.length yc, .slice zA zs.length zs.length, .int .i64 yq, .int .i64 yl] 25)
  have S5 : (w4.alloc (.cells #[.slice yA ys.length yc, .slice zA zs.length zs.length, .int .i64 yq, .int .i64 yl] 25)).heap.size = w4.heap.size + 1 := by simp
  generalize w4.alloc (.cells #[.slice yA ys.length yc, .slice zA zs.length zs.length, .int .i64 yq, .int .i64 yl] 25) = w5 at *
  obtain ⟨t0, t1, t2, t3, g0, g1, g2, g3⟩ := id R5
  obtain ⟨s0, s1, s2, s3, h0, h1, h2, h3⟩ := id Q5
  have hneC : (Value.slice yA ys.length yc).ownBlock ≠ some w4.heap.size := owns_ne o5.oc H5 disk_cell
  have hneW : (Value.slice zA zs.length zs.length).ownBlock ≠ some w4.heap.size := owns_ne o5.ow H5 disk_write
  have e1 : cds ys = cds d.cs := congrArg Dsk.cells hyd
  have e2 : wds zs = wds d.ws := congrArg Dsk.cache hyd
  have l1 : ys.length = d.cs.length := by have := congrArg List.length e1; rwa [cds_length, cds_length] at this
  have hzb : zs.length ≤ 1048576 := by have := congrArg List.length e2; rw [wds_length, wds_length] at this; omega
  have hok : ∀ r ∈ zs, 0 ≤ r.addr ∧ r.addr < (ys.length : Int) := fun r hr => by
    have h1 := hw r.d (by show r.d ∈ wds d.ws; rw [← e2]; exact List.mem_map.2 ⟨r, hr, rfl⟩)
    exact ⟨h1.1, by have := h1.2.1; have h3 : d.d.cells.length = d.cs.length := cds_length _; rw [l1, ← h3]; exact this⟩
  have E1 := Lib.hid e1
  have E2 := Lib.hid e2
  clear e1 e2 l1 hw
  go_wp2_with fail
  go_loopw [22] (fun i w' => ∃ (k : Nat) (rs : List CellR), k ≤ zs.length ∧ i = .int .i64 k ∧ rs.length = ys.length ∧ play (pick keep) k (cds rs) ((wds zs).drop k) = play (pick keep) 0 (cds ys) (wds zs) ∧ DV.Own w' w3.heap.size ⟨yA, yc, rs, zA, zs.length, zs, yq, yl⟩ ∧
    Four w' w4.heap.size (.slice yA ys.length yc) (.slice zA zs.length zs.length) (.int .i64 yq) (.int .i64 yl) ∧ Four w' (w.heap.size + 1) (.slice none 0 0) (.slice none 0 0) (.int .i64 0) (.int .i64 0) ∧ Below w.heap.size w w' ∧ w4.heap.size < w'.heap.size) (fun i _ => zs.length - (RowKit.intOf i).toNat)
  case atStart => exact ⟨0, ys, by omega, rfl, rfl, rfl, o5, R5, Q5, B5, by omega⟩
  case round =>
    clear o5 R5 Q5 H5 t0 t1 t2 t3 g0 g1 g2 g3 s0 s1 s2 s3 h0 h1 h2 h3
    rename_i wr
    obtain ⟨k, rs, hk, rfl, hrl, hpl, hown, R, Q, hbr, hsz⟩ := hrel
    have HP := Lib.hid hpl
    have HR := Lib.hid hrl
    clear hpl hrl
    by_cases hlt : k < zs.length
    · have i1 : (k : Int) < (zs.length : Int) := by omega
      obtain ⟨b1, off, u, e3, hb1, r0, r1, hu, hum, -, eu⟩ := write_at hown.in.hw hown.in.wi hlt
      dsimp only at e3
      subst e3
      have hou := hok u hum
      by_cases hp : pick keep k = true
      · have HN : Hid (play (pick keep) k (cds rs) ((wds zs).drop k) = play (pick keep) (k + 1) (carry (cds rs) u.d) ((wds zs).drop (k + 1))) := by
          have := play_next (pick keep) eu (cds rs)
          rwa [if_pos hp] at this
        clear eu hok
        have hbit := pick_bit keep k h0 hmx
        rw [if_pos hp] at hbit
        go_upto_region 8 with fail
        have hbx := bl wr (.cells #[.int .i64 u.addr, .slice u.b.A u.b.l.length u.b.c] 72)
        have y01 := two_new wr (.int .i64 u.addr) (.slice u.b.A u.b.l.length u.b.c) 72
        have sb : (wr.alloc (.cells #[.int .i64 u.addr, .slice u.b.A u.b.l.length u.b.c] 72)).heap.size = wr.heap.size + 1 := by simp
        generalize wr.alloc (.cells #[.int .i64 u.addr, .slice u.b.A u.b.l.length u.b.c] 72) = wb at *
        obtain ⟨y0, y1⟩ := y01
        have Rb := R.keep hbx hsz
        have Qb := Q.keep hbx (by omega)
        have cY := carry_at ⟨yA, yc, rs, some ⟨b1, off, none⟩, zs.length, zs, yq, yl⟩ u w3.heap.size wb (hown.below hbx) (hu.next hbx) hou.1 (by show u.addr < (rs.length : Int); rw [HR.out]; exact hou.2) (by omega)
        dsimp only at cY
        rw [HR.out] at cY
        have ob := World.ownsRow.lt (hown.below hbx).oc
        dsimp only at ob
        rw [HR.out] at ob
        clear hown
        obtain ⟨x0, x1, x2, x3, -, -, -, -⟩ := id Rb
        go_wp2_with (go_at_call 36; (with_reducible refine cY.mono ?_); rintro e w6 ⟨⟨rs2, rfl, hl2, hc2, ho2⟩, hb6, hg6⟩)
        have z6 := hb6.size
        go_roundw
        case rel =>
          exact ⟨k + 1, rs2, by omega, by go_num, hl2, by rw [hc2, ← HN.out]; exact HP.out, ho2, Rb.grown hg6 (fun e => hneC e.symm), Qb.grown hg6 (fun e => by have := (ob _ e.symm).1; omega), (bt hbr hbx).trans (hb6.mono (by omega)), by omega⟩
        case measure => simp [RowKit.intOf]; omega
      · have HN : Hid (play (pick keep) k (cds rs) ((wds zs).drop k) = play (pick keep) (k + 1) (cds rs) ((wds zs).drop (k + 1))) := by
          have := play_next (pick keep) eu (cds rs)
          rwa [if_neg hp] at this
        clear eu hok
        have hbit := pick_bit keep k h0 hmx
        rw [if_neg hp] at hbit
        have hbx := bl wr (.cells #[.int .i64 u.addr, .slice u.b.A u.b.l.length u.b.c] 72)
        have sb : (wr.alloc (.cells #[.int .i64 u.addr, .slice u.b.A u.b.l.length u.b.c] 72)).heap.size = wr.heap.size + 1 := by simp
        go_wp2_with fail
        go_roundw
        case rel =>
          exact ⟨k + 1, rs, by omega, by go_num, HR.out, by rw [← HN.out]; exact HP.out, hown.below hbx, R.keep hbx hsz, Q.keep hbx (by omega), bt hbr hbx, by omega⟩
        case measure => simp [RowKit.intOf]; omega
    · have HF : Hid (cds rs = play (pick keep) 0 (cds ys) (wds zs)) := by
        show cds rs = _
        have h := HP.out
        rwa [play_done (pick keep) (wds zs) k (cds rs) (by rw [wds_length]; omega)] at h
      obtain ⟨t0, t1, t2, t3, g0, g1, g2, g3⟩ := id R
      clear hok
      have oN : DV.Own wr w3.heap.size ⟨yA, yc, rs, none, 0, [], yq, (-1)⟩ := ⟨hown.oc, World.ownsRow_nil _ _ _ _, hown.ci, WIn.nil _ _⟩
      have R7 := R.set1 (.slice none 0 0)
      have Q7 := Q.apart (show w.heap.size + 1 ≠ w4.heap.size by omega) (o := 1) (.slice none 0 0)
      have B7 := hbr.setCell (p := ⟨w4.heap.size, 1, none⟩) (show w.heap.size ≤ w4.heap.size by omega) (.slice none 0 0)
      have o7 := oN.apart (g := w4.heap.size) (o := 1) (by dsimp only; rw [HR.out]; exact hneC) (fun h => by cases h) t1 (slice_no8 _ _ _) (.slice none 0 0)
      have R8 := R7.set3 (.int .i64 (-1))
      have Q8 := Q7.apart (show w.heap.size + 1 ≠ w4.heap.size by omega) (o := 3) (.int .i64 (-1))
      have B8 := B7.setCell (p := ⟨w4.heap.size, 3, none⟩) (show w.heap.size ≤ w4.heap.size by omega) (.int .i64 (-1))
      have o8 := o7.apart (g := w4.heap.size) (o := 3) (by dsimp only; rw [HR.out]; exact hneC) (fun h => by cases h) R7.c3 (int_no8 _) (.int .i64 (-1))
      go_upto_region 12 with fail
      generalize (wr.setCell ⟨w4.heap.size, 1, none⟩ (.slice none 0 0)).setCell ⟨w4.heap.size, 3, none⟩ (.int .i64 (-1)) = w7 at *
      clear R7 Q7 B7 o7
      clear t0 t1 t2 t3 g0 g1 g2 g3
      obtain ⟨t0, t1, t2, t3, g0, g1, g2, g3⟩ := id R8
      obtain ⟨s0, s1, s2, s3, h0, h1, h2, h3⟩ := id Q8
      have o7 := o8
      have Q7 := Q8
      have B7 := B8
      go_wp2_with fail
      have k4 := set4 Q7 ⟨N8.s _ _ _, N8.s _ _ _, N8.i _, N8.i _⟩ (.slice yA ys.length yc) (.slice none 0 0) (.int .i64 yq) (.int .i64 (-1))
      have hy8 := k4.2.2.2.2 _ _ (by omega) o7
      refine bodyPost_ret (v := .tuple #[.agg #[.slice yA ys.length yc, .slice none 0 0, .int .i64 yq, .int .i64 (-1)], .int .i64 0]) (by simp [results, Try.results15, go_sem, k4.1.c0, k4.1.c1, k4.1.c2, k4.1.c3]) rfl ⟨⟨⟨yA, yc, rs, none, 0, [], yq, (-1)⟩, by simp [DV.v, HR.out], ?_, hy8.less (by omega)⟩, B7.trans (k4.2.2.1 _ hlo)⟩
      show (⟨cds rs, [], yq, -1⟩ : Dsk) = ⟨play (pick keep) 0 (cds d.cs) (wds d.ws), [], d.reqs, -1⟩
      rw [HF.out, E1.out, E2.out, show yq = d.reqs from congrArg Dsk.reqs hyd]
theorem crash_at (d : DV) (keep : Int) (w : World) (hd : d.In w w.heap.size) (hmx : keep ≤ 9223372036854775807) :
    Calls Try.prog 15 #[d.v, .int .i64 keep] w fun e w' => Wd w.heap.size (crashA d.d keep) e w' ∧ Below w.heap.size w w' := by
  unfold crashA
  by_cases h : Valid d.d ∧ 0 ≤ keep
  · rw [if_neg (not_not_intro h)]
    exact crash_ok d keep w hd h.1 h.2 hmx
  · rw [if_pos h]
    exact crash_arg d keep w hd h
end Go.Proofs.Ytegcbmimndmfkaa.dsk
