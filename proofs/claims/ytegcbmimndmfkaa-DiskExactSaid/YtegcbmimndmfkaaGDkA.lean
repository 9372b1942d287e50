/-
  Package disk, its small functions: hasCell, isWrongCell, Check. Conditions: none.
  Package disk: Check. Conditions: none.
  Package disk: Check, whole. Conditions: none.
-/
import Derived.Test.YtegcbmimndmfkaaDkF
import Derived.Test.YtegcbmimndmfkaaDkM
import Derived.Deep.RegionHeld3
import Derived.Test.YtegcbmimndmfkaaDkT
namespace Go.Proofs.Ytegcbmimndmfkaa.dsk
open Go.RowKit Go.Lib

theorem has_cell (d : DV) (a : Int) (w : World) :
    Calls Try.prog 32 #[d.v, .int .i64 a] w fun e w' => e = .returned (.bool (decide (HasC d.d a))) ∧ Below w.heap.size w w' := by
  have hd : HasC d.d a ↔ 0 ≤ a ∧ a < d.cs.length := by unfold HasC DV.d; rw [cds_length]
  have P0 := four_new w (.slice d.CA d.cs.length d.cc) (.slice d.WA d.ws.length d.wc) (.int .i64 d.reqs) (.int .i64 d.left) 25
  have B0 := bl w (.cells #[.slice d.CA d.cs.length d.cc, .slice d.WA d.ws.length d.wc, .int .i64 d.reqs, .int .i64 d.left] 25)
  obtain ⟨c0, c1, c2, c3, -, -, -, -⟩ := id P0
  unfold DV.v
  by_cases h0 : 0 ≤ a
  · by_cases h1 : a < d.cs.length
    · have H : Hid (decide (HasC d.d a) = true) := decide_eq_true (hd.2 ⟨h0, h1⟩)
      clear hd
      go_enter Try.func32, Try.ntmps32
      go_wp2
      go_ret
      exact ⟨ret_bool H.out.symm, B0⟩
    · have H : Hid (decide (HasC d.d a) = false) := decide_eq_false fun h => h1 (hd.1 h).2
      clear hd
      go_enter Try.func32, Try.ntmps32
      go_wp2
      go_ret
      exact ⟨ret_bool H.out.symm, B0⟩
  · have H : Hid (decide (HasC d.d a) = false) := decide_eq_false fun h => h0 (hd.1 h).1
    clear hd
    go_enter Try.func32, Try.ntmps32
    go_wp2
    go_ret
    exact ⟨ret_bool H.out.symm, B0⟩
theorem three_new (w : World) (a b c : Value) (t : TypeId) : (w.alloc (.cells #[a, b, c] t)).cell? ⟨w.heap.size, 0, none⟩ = some a ∧ (w.alloc (.cells #[a, b, c] t)).cell? ⟨w.heap.size, 1, none⟩ = some b ∧ (w.alloc (.cells #[a, b, c] t)).cell? ⟨w.heap.size, 2, none⟩ = some c := by
  have h := heap_alloc_new w (.cells #[a, b, c] t)
  refine ⟨?_, ?_, ?_⟩
  · rw [cell_of_row _ _ 0 _ _ _ h]; rfl
  · rw [cell_of_row _ _ 1 _ _ _ h]; rfl
  · rw [cell_of_row _ _ 2 _ _ _ h]; rfl
theorem two_new (w : World) (a b : Value) (t : TypeId) : (w.alloc (.cells #[a, b] t)).cell? ⟨w.heap.size, 0, none⟩ = some a ∧ (w.alloc (.cells #[a, b] t)).cell? ⟨w.heap.size, 1, none⟩ = some b := by
  have h := heap_alloc_new w (.cells #[a, b] t)
  refine ⟨?_, ?_⟩
  · rw [cell_of_row _ _ 0 _ _ _ h]; rfl
  · rw [cell_of_row _ _ 1 _ _ _ h]; rfl
theorem wrong_cell (r : CellR) (w : World) :
    Calls Try.prog 41 #[.agg #[.int .i64 r.st, .slice r.b.A r.b.l.length r.b.c, .slice r.o.A r.o.l.length r.o.c]] w fun e w' => e = .returned (.bool (!decide (OkCel r.d))) ∧ Below w.heap.size w w' := by
  have hd : OkCel r.d ↔ 0 ≤ r.st ∧ r.st ≤ 2 ∧ r.b.l.length ≤ 200 ∧ r.o.l.length ≤ 200 := by unfold OkCel CellR.d; exact Iff.rfl
  obtain ⟨c0, c1, c2⟩ := three_new w (.int .i64 r.st) (.slice r.b.A r.b.l.length r.b.c) (.slice r.o.A r.o.l.length r.o.c) 64
  have B0 := bl w (.cells #[.int .i64 r.st, .slice r.b.A r.b.l.length r.b.c, .slice r.o.A r.o.l.length r.o.c] 64)
  by_cases h : OkCel r.d
  · have H : Hid ((!decide (OkCel r.d)) = false) := by show (!decide (OkCel r.d)) = false; rw [decide_eq_true h]; rfl
    obtain ⟨h0, h1, h2, h3⟩ := hd.1 h
    have n0 : ¬ (r.st < 0) := by omega
    have n1 : ¬ (2 < r.st) := by omega
    have n2 : ¬ (200 < (r.b.l.length : Int)) := by omega
    have n3 : ¬ (200 < (r.o.l.length : Int)) := by omega
    clear hd h
    go_enter Try.func41, Try.ntmps41
    go_wp2
    go_ret
    exact ⟨ret_bool H.out.symm, B0⟩
  · have H : Hid ((!decide (OkCel r.d)) = true) := by show (!decide (OkCel r.d)) = true; rw [decide_eq_false h]; rfl
    by_cases n0 : r.st < 0
    · clear hd h
      go_enter Try.func41, Try.ntmps41
      go_wp2
      go_ret
      exact ⟨ret_bool H.out.symm, B0⟩
    · by_cases n1 : 2 < r.st
      · clear hd h
        go_enter Try.func41, Try.ntmps41
        go_wp2
        go_ret
        exact ⟨ret_bool H.out.symm, B0⟩
      · by_cases n2 : 200 < (r.b.l.length : Int)
        · clear hd h
          go_enter Try.func41, Try.ntmps41
          go_wp2
          go_ret
          exact ⟨ret_bool H.out.symm, B0⟩
        · have n3 : 200 < (r.o.l.length : Int) := by
            rcases Nat.lt_or_ge 200 r.o.l.length with k | k
            · omega
            · exact absurd (hd.2 ⟨by omega, by omega, by omega, k⟩) h
          clear hd h
          go_enter Try.func41, Try.ntmps41
          go_wp2
          go_ret
          exact ⟨ret_bool H.out.symm, B0⟩
theorem index_wrong (A : Option Addr) (c n : Nat) (rs : List CellR) (w : World) (hn : rs.length = n) (hA : SlV w w.heap.size A (cvs rs)) (hR : CIn w w.heap.size rs) (hm : n ≤ maxLen) :
    Calls Try.prog 46 #[.slice A n c, .func (.func 41) #[] #[]] w fun e w' => (∃ i : Int, e = .returned (.int .i64 i) ∧ (0 ≤ i ↔ ∃ x ∈ cds rs, ¬ OkCel x)) ∧ Below w.heap.size w w' := by
  have hlen : (cds rs).length = n := by rw [cds_length, hn]
  unfold maxLen at hm
  go_enter Try.func46, Try.ntmps46
  go_wp2
  go_loopw [8] (fun i w' => ∃ k : Nat, k ≤ n ∧ i = .int .i64 k ∧ (∀ x ∈ (cds rs).take k, OkCel x) ∧ Below w.heap.size w w') (fun i _ => n - (RowKit.intOf i).toNat)
  case atStart => exact ⟨0, by omega, rfl, by simp, Below.refl _ _⟩
  case round =>
    rename_i wr
    obtain ⟨k, hk, rfl, hs, hbr⟩ := hrel
    by_cases hlt : k < n
    · obtain ⟨b1, off, x, rfl, hb1, g, g1, g2, m1, m2, hx, -, e1⟩ := cell_at (hA.below hbr) (hR.below hbr) (show k < rs.length by omega)
      have i1 : (k : Int) < (n : Int) := by omega
      have cW := wrong_cell x wr
      have H1 : Hid (OkCel x.d → ∀ y ∈ (cds rs).take (k + 1), OkCel y) := fun h y hy => by
        rw [take_next e1] at hy
        rcases List.mem_append.1 hy with q | q
        · exact hs y q
        · obtain rfl := List.mem_singleton.1 q
          exact h
      have H2 : Hid (¬ OkCel x.d → ∃ x ∈ cds rs, ¬ OkCel x) := fun h => ⟨x.d, List.mem_of_getElem? e1, h⟩
      clear hs e1 hA hR hx m1 m2 hlen
      by_cases ho : OkCel x.d
      · rw [decide_eq_true ho, Bool.not_true] at cW
        have H3 := Lib.hid (H1.out ho)
        clear H1 H2 ho
        go_wp2_with (go_at_call 41; refine cW.mono ?_; rintro e wx ⟨rfl, hbx⟩)
        go_roundw
        case rel => exact ⟨k + 1, by omega, by go_num, H3.out, bt hbr hbx⟩
        case measure => simp [RowKit.intOf]; omega
      · rw [decide_eq_false ho, Bool.not_false] at cW
        have H3 := Lib.hid (H2.out ho)
        clear H1 H2 ho
        go_wp2_with (go_at_call 41; refine cW.mono ?_; rintro e wx ⟨rfl, hbx⟩)
        go_ret
        exact ⟨⟨k, rfl, ⟨fun _ => H3.out, fun _ => by omega⟩⟩, bt hbr hbx⟩
    · have H : Hid (∀ x ∈ cds rs, OkCel x) := by
        intro x hx
        rw [List.take_of_length_le (by omega)] at hs
        exact hs x hx
      go_wp2
      go_ret
      exact ⟨⟨-1, rfl, ⟨fun h => by omega, fun ⟨x, hx, hn⟩ => absurd (H.out x hx) hn⟩⟩, hbr⟩
theorem contains_wrong (A : Option Addr) (c n : Nat) (rs : List CellR) (w : World) (hn : rs.length = n) (hA : SlV w w.heap.size A (cvs rs)) (hR : CIn w w.heap.size rs) (hm : n ≤ maxLen) :
    Calls Try.prog 40 #[.slice A n c, .func (.func 41) #[] #[]] w fun e w' => e = .returned (.bool (decide (∃ x ∈ cds rs, ¬ OkCel x))) ∧ Below w.heap.size w w' := by
  have cI := index_wrong A c n rs w hn hA hR hm
  go_enter Try.func40, Try.ntmps40
  clear hA hR hm hn
  go_wp2_with (go_at_call 46; refine cI.mono ?_; rintro e wx ⟨⟨i, rfl, hi⟩, hbx⟩)
  go_ret
  exact ⟨ret_bool (decide_eq_decide.2 Iff.rfl), hbx⟩
end Go.Proofs.Ytegcbmimndmfkaa.dsk

namespace Go.Proofs.Ytegcbmimndmfkaa.dsk
open Go.RowKit Go.Lib

def errV (d : Dsk) : Int := if Valid d then 0 else 1
theorem counts_iff (d : DV) : Counts d.d ↔ ((1 ≤ d.cs.length ∧ d.cs.length ≤ 300 ∧ d.ws.length ≤ 2000) ∧ 0 ≤ d.reqs ∧ d.reqs ≤ 1048576 ∧ -1 ≤ d.left ∧ d.left ≤ 1048576) := by
  show ((1 ≤ (cds d.cs).length ∧ (cds d.cs).length ≤ 300 ∧ (wds d.ws).length ≤ 2000) ∧ 0 ≤ d.reqs ∧ d.reqs ≤ 1048576 ∧ -1 ≤ d.left ∧ d.left ≤ 1048576) ↔ _
  rw [cds_length, wds_length]
theorem counts_not (n m : Nat) (q l : Int) (h : ¬ ((1 ≤ n ∧ n ≤ 300 ∧ m ≤ 2000) ∧ 0 ≤ q ∧ q ≤ 1048576 ∧ -1 ≤ l ∧ l ≤ 1048576)) :
    (((¬ ((1 : Int) ≤ n)) ∨ ((1 : Int) ≤ n ∧ ¬ ((n : Int) ≤ 300)) ∨ ((1 : Int) ≤ n ∧ (n : Int) ≤ 300 ∧ ¬ ((m : Int) ≤ 2000))) ∧
      ((¬ (0 ≤ q)) ∨ (0 ≤ q ∧ ¬ (q ≤ 1048576)) ∨ (0 ≤ q ∧ q ≤ 1048576 ∧ ¬ (-1 ≤ l)) ∨ (0 ≤ q ∧ q ≤ 1048576 ∧ -1 ≤ l ∧ ¬ (l ≤ 1048576)) ∨ (0 ≤ q ∧ q ≤ 1048576 ∧ -1 ≤ l ∧ l ≤ 1048576))) ∨
    (((1 : Int) ≤ n ∧ (n : Int) ≤ 300 ∧ (m : Int) ≤ 2000) ∧ ((¬ (0 ≤ q)) ∨ (0 ≤ q ∧ ¬ (q ≤ 1048576)) ∨ (0 ≤ q ∧ q ≤ 1048576 ∧ ¬ (-1 ≤ l)) ∨ (0 ≤ q ∧ q ≤ 1048576 ∧ -1 ≤ l ∧ ¬ (l ≤ 1048576)))) := by omega
set_option maxHeartbeats 4000000 in
theorem check_counts (d : DV) (w : World) (h : ¬ Counts d.d) :
    Calls Try.prog 19 #[d.v] w fun e w' => e = .returned (.int .i64 1) ∧ Below w.heap.size w w' := by
  have P0 := four_new w (.slice d.CA d.cs.length d.cc) (.slice d.WA d.ws.length d.wc) (.int .i64 d.reqs) (.int .i64 d.left) 25
  have B0 := bl w (.cells #[.slice d.CA d.cs.length d.cc, .slice d.WA d.ws.length d.wc, .int .i64 d.reqs, .int .i64 d.left] 25)
  obtain ⟨c0, c1, c2, c3, -, -, -, -⟩ := id P0
  clear P0
  rw [counts_iff] at h
  have hn := counts_not _ _ _ _ h
  unfold DV.v
  clear h
  rcases hn with ⟨h | ⟨h, k⟩ | ⟨h, k, m⟩, a | ⟨a, b⟩ | ⟨a, b, c⟩ | ⟨a, b, c, e⟩ | ⟨a, b, c, e⟩⟩ | ⟨⟨h, k, m⟩, a | ⟨a, b⟩ | ⟨a, b, c⟩ | ⟨a, b, c, e⟩⟩
  all_goals
    (go_enter Try.func19, Try.ntmps19
     go_wp2
     go_ret
     exact ⟨rfl, B0⟩)
end Go.Proofs.Ytegcbmimndmfkaa.dsk

namespace Go.Proofs.Ytegcbmimndmfkaa.dsk
open Go.RowKit Go.Lib

set_option maxHeartbeats 4000000 in
theorem check_at (d : DV) (w : World) (hd : d.In w w.heap.size) :
    Calls Try.prog 19 #[d.v] w fun e w' => e = .returned (.int .i64 (errV d.d)) ∧ Below w.heap.size w w' := by
  by_cases hc : ¬ Counts d.d
  · rw [show errV d.d = 1 from if_neg fun h => hc h.1]
    exact check_counts d w hc
  have hc := Decidable.not_not.1 hc
  have HC := Lib.hid hc
  have cH := fun (W : World) (a : Int) => has_cell d a W
  have hq := (counts_iff d).1 hc
  clear hc
  obtain ⟨CA, cc, cs, WA, wc, ws, reqs, left⟩ := d
  obtain ⟨kc, kw, ci, wi, cl, wl⟩ := hd
  dsimp only at kc kw ci wi cl wl
  unfold DV.v at cH ⊢
  dsimp only at cH ⊢
  have hCS : ∀ a, HasC (DV.d ⟨CA, cc, cs, WA, wc, ws, reqs, left⟩) a ↔ 0 ≤ a ∧ a < cs.length := fun a => by
    show (0 ≤ a ∧ a < ((cds cs).length : Int)) ↔ _
    rw [cds_length]
  have hcl : (DV.d ⟨CA, cc, cs, WA, wc, ws, reqs, left⟩).cells.length = cs.length := cds_length cs
  have E0 : Hid ((∀ x ∈ cds cs, OkCel x) → (∀ x ∈ wds ws, OkWri cs.length x) → errV (DV.d ⟨CA, cc, cs, WA, wc, ws, reqs, left⟩) = 0) := fun h k => if_pos ⟨HC.out, h, by rw [hcl]; exact k⟩
  have E1 : Hid ((∃ x ∈ cds cs, ¬ OkCel x) → errV (DV.d ⟨CA, cc, cs, WA, wc, ws, reqs, left⟩) = 1) := fun ⟨x, hx, hn⟩ => if_neg fun h => hn (h.2.1 x hx)
  have E2 : Hid ((∃ x ∈ wds ws, ¬ OkWri cs.length x) → errV (DV.d ⟨CA, cc, cs, WA, wc, ws, reqs, left⟩) = 1) := fun ⟨x, hx, hn⟩ => if_neg fun h => hn (by rw [← hcl]; exact h.2.2 x hx)
  clear HC hcl
  generalize errV (DV.d ⟨CA, cc, cs, WA, wc, ws, reqs, left⟩) = E at *
  have cH : ∀ (W : World) (a : Int), Calls Try.prog 32 #[.agg #[.slice CA cs.length cc, .slice WA ws.length wc, .int .i64 reqs, .int .i64 left], .int .i64 a] W fun e w' => e = .returned (.bool (decide (0 ≤ a ∧ a < cs.length))) ∧ Below W.heap.size W w' := fun W a => by
    refine (cH W a).mono ?_
    rintro e w' ⟨rfl, hb⟩
    exact ⟨by rw [decide_eq_decide.2 (hCS a)], hb⟩
  clear hCS
  have P0 := four_new w (.slice CA cs.length cc) (.slice WA ws.length wc) (.int .i64 reqs) (.int .i64 left) 25
  have B0 := bl w (.cells #[.slice CA cs.length cc, .slice WA ws.length wc, .int .i64 reqs, .int .i64 left] 25)
  obtain ⟨⟨h1, h2, h3⟩, h4, h5, h6, h7⟩ := hq
  dsimp only at h1 h2 h3 h4 h5 h6 h7
  have n1 : (1 : Int) ≤ cs.length := by omega
  have n2 : (cs.length : Int) ≤ 300 := by omega
  have n3 : (ws.length : Int) ≤ 2000 := by omega
  have cC := fun (W : World) (hb : Below w.heap.size w W) => contains_wrong CA cc cs.length cs W rfl ((kc.below hb).more hb.size) (ci.next hb) (by unfold maxLen; omega)
  by_cases hw : ∃ x ∈ cds cs, ¬ OkCel x
  · have H : Hid (E = 1) := E1.out hw
    rw [decide_eq_true hw] at cC
    clear hw cH kc kw ci wi E0 E1 E2
    obtain ⟨c0, c1, c2, c3, -, -, -, -⟩ := id P0
    clear P0
    go_enter Try.func19, Try.ntmps19
    go_wp2_with (go_at_call 40; refine (cC _ B0).mono ?_; rintro e wx ⟨rfl, hbx⟩)
    go_ret
    exact ⟨by rw [H.out]; rfl, bt B0 hbx⟩
  · have HW : Hid (∀ x ∈ cds cs, OkCel x) := fun x hx => Decidable.byContradiction fun k => hw ⟨x, hx, k⟩
    rw [decide_eq_false hw] at cC
    clear hw E1
    obtain ⟨c0, c1, c2, c3, -, -, -, -⟩ := id P0
    go_enter Try.func19, Try.ntmps19
    go_wp2_with (go_at_call 40; refine (cC _ B0).mono ?_; rintro e wx ⟨rfl, hbx⟩; have q1 := ks hbx (by simp) c1)
    have P1 := P0.keep hbx (by simp)
    have B1 := bt B0 hbx
    have S1 : w.heap.size < wx.heap.size := Nat.lt_of_lt_of_le (by simp) hbx.size
    clear c0 c1 c2 c3 cC P0 hbx q1
    clear B0
    go_loopw [55] (fun i w' => ∃ k : Nat, k ≤ ws.length ∧ i = .int .i64 k ∧ (∀ x ∈ (wds ws).take k, OkWri cs.length x) ∧ Four w' w.heap.size (.slice CA cs.length cc) (.slice WA ws.length wc) (.int .i64 reqs) (.int .i64 left) ∧ Below w.heap.size w w' ∧ w.heap.size < w'.heap.size) (fun i _ => ws.length - (RowKit.intOf i).toNat)
    case atStart => exact ⟨0, by omega, rfl, by simp, P1, B1, S1⟩
    case round =>
      clear P1 B1 S1
      rename_i wr
      obtain ⟨k, hk, rfl, hs, P1, hbr, hsz⟩ := hrel
      by_cases hlt : k < ws.length
      · obtain ⟨b1, off, x, rfl, hb1, g, g1, m1, hx, -, e1⟩ := write_at (kw.below hbr) (wi.below hbr) hlt
        have i1 : (k : Int) < (ws.length : Int) := by omega
        have X2 : Hid (¬ OkWri cs.length x.d → E = 1) := fun h => E2.out ⟨x.d, List.mem_of_getElem? e1, h⟩
        have X0 : Hid (OkWri cs.length x.d → ∀ y ∈ (wds ws).take (k + 1), OkWri cs.length y) := fun h y hy => by
          rw [take_next e1] at hy
          rcases List.mem_append.1 hy with q | q
          · exact hs y q
          · obtain rfl := List.mem_singleton.1 q
            exact h
        have ho : OkWri cs.length x.d ↔ (0 ≤ x.addr ∧ x.addr < cs.length) ∧ x.b.l.length ≤ 200 := by
          show (0 ≤ x.addr ∧ x.addr < cs.length ∧ x.b.l.length ≤ 200) ↔ _
          exact ⟨fun ⟨a, b, c⟩ => ⟨⟨a, b⟩, c⟩, fun ⟨⟨a, b⟩, c⟩ => ⟨a, b, c⟩⟩
        clear hs kw kc ci wi hx m1 e1 E0 E2 HW
        obtain ⟨p0, p1, p2, p3, -, -, -, -⟩ := id P1
        have q0 := two_new wr (.int .i64 x.addr) (.slice x.b.A x.b.l.length x.b.c) 72
        have cH := cH (wr.alloc (.cells #[.int .i64 x.addr, .slice x.b.A x.b.l.length x.b.c] 72)) x.addr
        have hb2 := kal (Below.refl wr.heap.size wr) (.cells #[.int .i64 x.addr, .slice x.b.A x.b.l.length x.b.c] 72)
        by_cases ha : 0 ≤ x.addr ∧ x.addr < cs.length
        · rw [decide_eq_true ha] at cH
          by_cases hl : x.b.l.length ≤ 200
          · have H := Lib.hid (X0.out (ho.2 ⟨ha, hl⟩))
            clear X0 X2 ho ha
            have hl2 : ¬ (200 < (x.b.l.length : Int)) := by omega
            go_wp2_with (go_at_call 32; (with_reducible refine cH.mono ?_); rintro e wx ⟨rfl, hbx⟩; have q1 := ks hbx (by simp) q0.2)
            have hb3 := bt hb2 hbx
            have hz := hb3.size
            go_roundw
            case rel => exact ⟨k + 1, by omega, by go_num, H.out, P1.keep hb3 hsz, bt hbr hb3, by omega⟩
            case measure => simp [RowKit.intOf]; omega
          · have H := Lib.hid (X2.out fun h => hl (ho.1 h).2)
            clear X0 X2 ho ha
            have hl2 : 200 < (x.b.l.length : Int) := by omega
            go_wp2_with (go_at_call 32; (with_reducible refine cH.mono ?_); rintro e wx ⟨rfl, hbx⟩; have q1 := ks hbx (by simp) q0.2)
            go_ret
            exact ⟨by rw [H.out]; rfl, bt hbr (bt hb2 hbx)⟩
        · rw [decide_eq_false ha] at cH
          have H := Lib.hid (X2.out fun h => ha (ho.1 h).1)
          clear X0 X2 ho ha
          go_wp2_with (go_at_call 32; (with_reducible refine cH.mono ?_); rintro e wx ⟨rfl, hbx⟩)
          go_ret
          exact ⟨by rw [H.out]; rfl, bt hbr (bt hb2 hbx)⟩
      · have H : Hid (E = 0) := by
          rw [List.take_of_length_le (by rw [wds_length]; omega)] at hs
          exact E0.out HW.out hs
        clear hs E0 E2 HW cH
        go_wp2
        go_ret
        exact ⟨by rw [H.out]; rfl, hbr⟩
end Go.Proofs.Ytegcbmimndmfkaa.dsk
