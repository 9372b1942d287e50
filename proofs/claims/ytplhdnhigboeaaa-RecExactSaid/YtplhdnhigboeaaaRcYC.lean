/-
  The developers' own encodeHead, encodeImage. Conditions: numbers that fit.
-/
import Derived.Test.YtplhdnhigboeaaaRcYB
import Derived.Test.YtplhdnhigboeaaaGPk
import Derived.Test.YtplhdnhigboeaaaGSl
namespace Go.Proofs.Ytplhdnhigboeaaa.lrc
open Go.RowKit Go.Lib
open Go.Proofs.Ytplhdnhigboeaaa.gmt (Ok)
open Go.Proofs.Ytplhdnhigboeaaa.anc (bl kal kst ks bm ka)
open Go.Proofs.Ytplhdnhigboeaaa.tbl (C1 c1_new G5 g5_new)
open Go.Proofs.Ytplhdnhigboeaaa.img
open Go.Proofs.Ytplhdnhigboeaaa.pck (le le_length num AllFit bytesOf)

theorem own_qn {w : World} {base q : Nat} {e : TypeId} {v : Value} {l : List UInt8} (h : Own w base e v l) (hq : l.length = q) : ∃ X c, v = .slice X q c ∧ Own w base e (.slice X q c) l := by
  obtain ⟨A, c, rfl, -⟩ := h.form
  rw [hq] at h ⊢
  exact ⟨A, c, rfl, h⟩
set_option maxRecDepth 100000 in
theorem hsizes_c (w : World) :
    Calls Try.prog 64 #[] w fun e w' => e = .returned (.slice (some ⟨w.heap.size, 0, none⟩) 5 5) ∧ w' = w.alloc (.cells #[.int .i64 1, .int .i64 4, .int .i64 4, .int .i64 1, .int .i64 1] 3) := by
  go_enter Try.func64, Try.ntmps64
  go_wp2
  go_ret
  exact ⟨rfl, rfl⟩
set_option maxRecDepth 100000 in
theorem isizes_c (w : World) :
    Calls Try.prog 84 #[] w fun e w' => e = .returned (.slice (some ⟨w.heap.size, 0, none⟩) 2 2) ∧ w' = w.alloc (.cells #[.int .i64 1, .int .i64 1] 3) := by
  go_enter Try.func84, Try.ntmps84
  go_wp2
  go_ret
  exact ⟨rfl, rfl⟩
theorem head_fit (k sq ep ps nm : Int) (hk1 : 0 ≤ k ∧ k ≤ 255) (hsq : 0 ≤ sq ∧ sq ≤ 4294967295) (hep : 0 ≤ ep ∧ ep ≤ 4294967295) (hps : 0 ≤ ps ∧ ps ≤ 255) (hnm : 0 ≤ nm ∧ nm ≤ 255) : AllFit [(k, 1), (sq, 4), (ep, 4), (ps, 1), (nm, 1)] := by
  intro p hp
  simp only [List.mem_cons, List.not_mem_nil, or_false] at hp
  rcases hp with rfl | rfl | rfl | rfl | rfl
  · exact ⟨1, k.toNat, rfl, by simp only; omega, .inl rfl, by omega⟩
  · exact ⟨4, sq.toNat, rfl, by simp only; omega, .inr (.inr rfl), by omega⟩
  · exact ⟨4, ep.toNat, rfl, by simp only; omega, .inr (.inr rfl), by omega⟩
  · exact ⟨1, ps.toNat, rfl, by simp only; omega, .inl rfl, by omega⟩
  · exact ⟨1, nm.toNat, rfl, by simp only; omega, .inl rfl, by omega⟩
theorem head_row (k sq ep ps nm : Int) (hk1 : 0 ≤ k ∧ k ≤ 255) (hsq : 0 ≤ sq ∧ sq ≤ 4294967295) (hep : 0 ≤ ep ∧ ep ≤ 4294967295) (hps : 0 ≤ ps ∧ ps ≤ 255) (hnm : 0 ≤ nm ∧ nm ≤ 255) (W : World) (g1 g2 c1 c2 : Nat) (t1 t2 : TypeId) (f1 f2 : Nat × Nat) (h1 : W.heap[g1]? = some (.cells #[.int .i64 k, .int .i64 sq, .int .i64 ep, .int .i64 ps, .int .i64 nm] t1 f1)) (h2 : W.heap[g2]? = some (.cells #[.int .i64 1, .int .i64 4, .int .i64 4, .int .i64 1, .int .i64 1] t2 f2)) :
    Calls Try.prog 70 #[.slice (some ⟨g1, 0, none⟩) 5 c1, .slice (some ⟨g2, 0, none⟩) 5 c2] W fun e w' => (∃ X x, e = .returned (.tuple #[.slice X 11 x, .int .i64 0]) ∧ Own w' W.heap.size 5 (.slice X 11 x) (le 1 k.toNat ++ (le 4 sq.toNat ++ (le 4 ep.toNat ++ (le 1 ps.toNat ++ le 1 nm.toNat))))) ∧ Below W.heap.size W w' := by
  have l1 : g1 < W.heap.size := (Array.getElem?_eq_some_iff.1 h1).1
  have l2 : g2 < W.heap.size := (Array.getElem?_eq_some_iff.1 h2).1
  have hl : ((le 1 k.toNat ++ (le 4 sq.toNat ++ (le 4 ep.toNat ++ (le 1 ps.toNat ++ le 1 nm.toNat)))) : List UInt8).length = 11 := by simp [le_length]
  have hy : bytesOf [(k, 1), (sq, 4), (ep, 4), (ps, 1), (nm, 1)] = (le 1 k.toNat ++ (le 4 sq.toNat ++ (le 4 ep.toNat ++ (le 1 ps.toNat ++ le 1 nm.toNat)))) := by simp [bytesOf]
  refine (pck.row_any 5 (some ⟨g1, 0, none⟩) (some ⟨g2, 0, none⟩) c1 c2 [(k, 1), (sq, 4), (ep, 4), (ps, 1), (nm, 1)] W rfl (by omega) (SlV.of_block h1 rfl l1) (SlV.of_block h2 rfl l2)).mono ?_
  rintro e w' ⟨h | h, hb⟩
  · obtain ⟨-, v, rfl, ho⟩ := h
    rw [hy] at ho
    obtain ⟨X, x, rfl, ho⟩ := own_qn ho hl
    exact ⟨⟨X, x, rfl, ho⟩, hb⟩
  · exact absurd (head_fit k sq ep ps nm hk1 hsq hep hps hnm) h.1
/-- Numbers ahead of sizes, or behind them. -/
theorem head_orders (k sq ep ps nm : Int) (hk1 : 0 ≤ k ∧ k ≤ 255) (hsq : 0 ≤ sq ∧ sq ≤ 4294967295) (hep : 0 ≤ ep ∧ ep ≤ 4294967295) (hps : 0 ≤ ps ∧ ps ≤ 255) (hnm : 0 ≤ nm ∧ nm ≤ 255) (w0 : World) :
    Calls Try.prog 70 #[.slice (some ⟨w0.heap.size, 0, none⟩) 5 5, .slice (some ⟨w0.heap.size + 1, 0, none⟩) 5 5] ((w0.alloc (.cells #[.int .i64 k, .int .i64 sq, .int .i64 ep, .int .i64 ps, .int .i64 nm] 3)).alloc (.cells #[.int .i64 1, .int .i64 4, .int .i64 4, .int .i64 1, .int .i64 1] 3)).drew (fun e w' => (∃ X x, e = .returned (.tuple #[.slice X 11 x, .int .i64 0]) ∧ Own w' w0.heap.size 5 (.slice X 11 x) (le 1 k.toNat ++ (le 4 sq.toNat ++ (le 4 ep.toNat ++ (le 1 ps.toNat ++ le 1 nm.toNat))))) ∧ Below w0.heap.size w0 w') ∧
    Calls Try.prog 70 #[.slice (some ⟨w0.heap.size + 1, 0, none⟩) 5 5, .slice (some ⟨w0.heap.size, 0, none⟩) 5 5] ((w0.alloc (.cells #[.int .i64 1, .int .i64 4, .int .i64 4, .int .i64 1, .int .i64 1] 3)).alloc (.cells #[.int .i64 k, .int .i64 sq, .int .i64 ep, .int .i64 ps, .int .i64 nm] 3)).drew (fun e w' => (∃ X x, e = .returned (.tuple #[.slice X 11 x, .int .i64 0]) ∧ Own w' w0.heap.size 5 (.slice X 11 x) (le 1 k.toNat ++ (le 4 sq.toNat ++ (le 4 ep.toNat ++ (le 1 ps.toNat ++ le 1 nm.toNat))))) ∧ Below w0.heap.size w0 w') := by
  have h1 := head_row k sq ep ps nm hk1 hsq hep hps hnm ((w0.alloc (.cells #[.int .i64 k, .int .i64 sq, .int .i64 ep, .int .i64 ps, .int .i64 nm] 3)).alloc (.cells #[.int .i64 1, .int .i64 4, .int .i64 4, .int .i64 1, .int .i64 1] 3)).drew w0.heap.size (w0.heap.size + 1) 5 5 3 3 (0, 0) (0, 0) (sel.old_new w0 _ _) (sel.new_new w0 _ _)
  have h2 := head_row k sq ep ps nm hk1 hsq hep hps hnm ((w0.alloc (.cells #[.int .i64 1, .int .i64 4, .int .i64 4, .int .i64 1, .int .i64 1] 3)).alloc (.cells #[.int .i64 k, .int .i64 sq, .int .i64 ep, .int .i64 ps, .int .i64 nm] 3)).drew (w0.heap.size + 1) w0.heap.size 5 5 3 3 (0, 0) (0, 0) (sel.new_new w0 _ _) (sel.old_new w0 _ _)
  have s1 : w0.heap.size ≤ ((w0.alloc (.cells #[.int .i64 k, .int .i64 sq, .int .i64 ep, .int .i64 ps, .int .i64 nm] 3)).alloc (.cells #[.int .i64 1, .int .i64 4, .int .i64 4, .int .i64 1, .int .i64 1] 3)).drew.heap.size := (below_dr (kal (bl w0 _) _)).size
  have s2 : w0.heap.size ≤ ((w0.alloc (.cells #[.int .i64 1, .int .i64 4, .int .i64 4, .int .i64 1, .int .i64 1] 3)).alloc (.cells #[.int .i64 k, .int .i64 sq, .int .i64 ep, .int .i64 ps, .int .i64 nm] 3)).drew.heap.size := (below_dr (kal (bl w0 _) _)).size
  refine ⟨h1.mono ?_, h2.mono ?_⟩
  · rintro e w' ⟨⟨X, x, he, ho⟩, hb⟩
    exact ⟨⟨X, x, he, ho.less s1⟩, bt (below_dr (kal (bl w0 _) _)) hb⟩
  · rintro e w' ⟨⟨X, x, he, ho⟩, hb⟩
    exact ⟨⟨X, x, he, ho.less s2⟩, bt (below_dr (kal (bl w0 _) _)) hb⟩
theorem img_fit (y u : Int) (hy1 : 0 ≤ y ∧ y ≤ 255) (hh1 : 0 ≤ u ∧ u ≤ 255) : AllFit [(y, 1), (u, 1)] := by
  intro p hp
  simp only [List.mem_cons, List.not_mem_nil, or_false] at hp
  rcases hp with rfl | rfl
  · exact ⟨1, y.toNat, rfl, by simp only; omega, .inl rfl, by omega⟩
  · exact ⟨1, u.toNat, rfl, by simp only; omega, .inl rfl, by omega⟩
theorem img_row (y u : Int) (hy1 : 0 ≤ y ∧ y ≤ 255) (hh1 : 0 ≤ u ∧ u ≤ 255) (W : World) (g1 g2 c1 c2 : Nat) (t1 t2 : TypeId) (f1 f2 : Nat × Nat) (h1 : W.heap[g1]? = some (.cells #[.int .i64 y, .int .i64 u] t1 f1)) (h2 : W.heap[g2]? = some (.cells #[.int .i64 1, .int .i64 1] t2 f2)) :
    Calls Try.prog 70 #[.slice (some ⟨g1, 0, none⟩) 2 c1, .slice (some ⟨g2, 0, none⟩) 2 c2] W fun e w' => (∃ X x, e = .returned (.tuple #[.slice X 2 x, .int .i64 0]) ∧ Own w' W.heap.size 5 (.slice X 2 x) (le 1 y.toNat ++ le 1 u.toNat)) ∧ Below W.heap.size W w' := by
  have l1 : g1 < W.heap.size := (Array.getElem?_eq_some_iff.1 h1).1
  have l2 : g2 < W.heap.size := (Array.getElem?_eq_some_iff.1 h2).1
  have hl : ((le 1 y.toNat ++ le 1 u.toNat) : List UInt8).length = 2 := by simp [le_length]
  have hy : bytesOf [(y, 1), (u, 1)] = (le 1 y.toNat ++ le 1 u.toNat) := by simp [bytesOf]
  refine (pck.row_any 2 (some ⟨g1, 0, none⟩) (some ⟨g2, 0, none⟩) c1 c2 [(y, 1), (u, 1)] W rfl (by omega) (SlV.of_block h1 rfl l1) (SlV.of_block h2 rfl l2)).mono ?_
  rintro e w' ⟨h | h, hb⟩
  · obtain ⟨-, v, rfl, ho⟩ := h
    rw [hy] at ho
    obtain ⟨X, x, rfl, ho⟩ := own_qn ho hl
    exact ⟨⟨X, x, rfl, ho⟩, hb⟩
  · exact absurd (img_fit y u hy1 hh1) h.1
/-- Numbers ahead of sizes, or behind them. -/
theorem img_orders (y u : Int) (hy1 : 0 ≤ y ∧ y ≤ 255) (hh1 : 0 ≤ u ∧ u ≤ 255) (w0 : World) :
    Calls Try.prog 70 #[.slice (some ⟨w0.heap.size, 0, none⟩) 2 2, .slice (some ⟨w0.heap.size + 1, 0, none⟩) 2 2] ((w0.alloc (.cells #[.int .i64 y, .int .i64 u] 3)).alloc (.cells #[.int .i64 1, .int .i64 1] 3)).drew (fun e w' => (∃ X x, e = .returned (.tuple #[.slice X 2 x, .int .i64 0]) ∧ Own w' w0.heap.size 5 (.slice X 2 x) (le 1 y.toNat ++ le 1 u.toNat)) ∧ Below w0.heap.size w0 w') ∧
    Calls Try.prog 70 #[.slice (some ⟨w0.heap.size + 1, 0, none⟩) 2 2, .slice (some ⟨w0.heap.size, 0, none⟩) 2 2] ((w0.alloc (.cells #[.int .i64 1, .int .i64 1] 3)).alloc (.cells #[.int .i64 y, .int .i64 u] 3)).drew (fun e w' => (∃ X x, e = .returned (.tuple #[.slice X 2 x, .int .i64 0]) ∧ Own w' w0.heap.size 5 (.slice X 2 x) (le 1 y.toNat ++ le 1 u.toNat)) ∧ Below w0.heap.size w0 w') := by
  have h1 := img_row y u hy1 hh1 ((w0.alloc (.cells #[.int .i64 y, .int .i64 u] 3)).alloc (.cells #[.int .i64 1, .int .i64 1] 3)).drew w0.heap.size (w0.heap.size + 1) 2 2 3 3 (0, 0) (0, 0) (sel.old_new w0 _ _) (sel.new_new w0 _ _)
  have h2 := img_row y u hy1 hh1 ((w0.alloc (.cells #[.int .i64 1, .int .i64 1] 3)).alloc (.cells #[.int .i64 y, .int .i64 u] 3)).drew (w0.heap.size + 1) w0.heap.size 2 2 3 3 (0, 0) (0, 0) (sel.new_new w0 _ _) (sel.old_new w0 _ _)
  have s1 : w0.heap.size ≤ ((w0.alloc (.cells #[.int .i64 y, .int .i64 u] 3)).alloc (.cells #[.int .i64 1, .int .i64 1] 3)).drew.heap.size := (below_dr (kal (bl w0 _) _)).size
  have s2 : w0.heap.size ≤ ((w0.alloc (.cells #[.int .i64 1, .int .i64 1] 3)).alloc (.cells #[.int .i64 y, .int .i64 u] 3)).drew.heap.size := (below_dr (kal (bl w0 _) _)).size
  refine ⟨h1.mono ?_, h2.mono ?_⟩
  · rintro e w' ⟨⟨X, x, he, ho⟩, hb⟩
    exact ⟨⟨X, x, he, ho.less s1⟩, bt (below_dr (kal (bl w0 _) _)) hb⟩
  · rintro e w' ⟨⟨X, x, he, ho⟩, hb⟩
    exact ⟨⟨X, x, he, ho.less s2⟩, bt (below_dr (kal (bl w0 _) _)) hb⟩
set_option maxRecDepth 100000 in
set_option maxHeartbeats 8000000 in
theorem head_c (k sq ep ps nm : Int) (hk1 : 0 ≤ k ∧ k ≤ 255) (hsq : 0 ≤ sq ∧ sq ≤ 4294967295) (hep : 0 ≤ ep ∧ ep ≤ 4294967295) (hps : 0 ≤ ps ∧ ps ≤ 255) (hnm : 0 ≤ nm ∧ nm ≤ 255) (w : World) :
    Calls Try.prog 59 #[.int .i64 k, .agg #[.int .i64 sq, .int .i64 ep, .int .i64 ps, .int .i64 nm]] w fun e w' => (∃ X x, e = .returned (.slice X 11 x) ∧ Own w' w.heap.size 5 (.slice X 11 x) (le 1 k.toNat ++ (le 4 sq.toNat ++ (le 4 ep.toNat ++ (le 1 ps.toNat ++ le 1 nm.toNat))))) ∧ Below w.heap.size w w' := by
  have HO := fun w0 => head_orders k sq ep ps nm hk1 hsq hep hps hnm w0
  generalize ((le 1 k.toNat ++ (le 4 sq.toNat ++ (le 4 ep.toNat ++ (le 1 ps.toNat ++ le 1 nm.toNat)))) : List UInt8) = B at *
  have MM := c4_new w (.int .i64 sq) (.int .i64 ep) (.int .i64 ps) (.int .i64 nm) 104
  have hw := bl w (.cells #[.int .i64 sq, .int .i64 ep, .int .i64 ps, .int .i64 nm] 104)
  have lw : w.heap.size < (w.alloc (.cells #[.int .i64 sq, .int .i64 ep, .int .i64 ps, .int .i64 nm] 104)).heap.size := by simp
  clear hk1 hsq hep hps hnm
  go_enter Try.func59, Try.ntmps59
  go_upto_region 1 with fail
  generalize w.alloc (.cells #[.int .i64 sq, .int .i64 ep, .int .i64 ps, .int .i64 nm] 104) = w0 at *
  have H1 := Lib.hid (HO w0).1
  have H2 := Lib.hid (HO w0).2
  have HF := Lib.hid (show ∀ W, Below w0.heap.size w0 W → (W.cell? ⟨w.heap.size, 0, none⟩ = some (.int .i64 sq) ∧ W.cell? ⟨w.heap.size, 1, none⟩ = some (.int .i64 ep) ∧ W.cell? ⟨w.heap.size, 2, none⟩ = some (.int .i64 ps) ∧ W.cell? ⟨w.heap.size, 3, none⟩ = some (.int .i64 nm)) ∧ Below w0.heap.size w0 W from fun W hW => by
    have M := MM.keep hW lw
    exact ⟨⟨M.c0, M.c1, M.c2, M.c3⟩, hW⟩)
  clear HO
  go_region_held3 (fun W => (W.cell? ⟨w.heap.size, 0, none⟩ = some (.int .i64 sq) ∧ W.cell? ⟨w.heap.size, 1, none⟩ = some (.int .i64 ep) ∧ W.cell? ⟨w.heap.size, 2, none⟩ = some (.int .i64 ps) ∧ W.cell? ⟨w.heap.size, 3, none⟩ = some (.int .i64 nm)) ∧ Below w0.heap.size w0 W)
    ((refine HF.out _ ?_; first
      | with_reducible exact below_dr (Below.refl _ _)
      | with_reducible exact below_dr (kal (Below.refl _ _) _)
      | with_reducible exact below_dr (kal (kal (Below.refl _ _) _) _)
      | with_reducible assumption
      | fail))
    (first
      | (go_at_call 64; (with_reducible refine (hsizes_c _).mono ?_); rintro e w1 ⟨rfl, rfl⟩)
      | (go_at_call 70; (with_reducible refine H1.out.mono ?_); rintro e w1 ⟨⟨X1, x1, rfl, ho1⟩, hb1⟩)
      | (go_at_call 70; (with_reducible refine H2.out.mono ?_); rintro e w1 ⟨⟨X1, x1, rfl, ho1⟩, hb1⟩))
  all_goals
    go_wp2
    go_ret
    exact ⟨⟨X1, x1, rfl, ho1.less hw.size⟩, bt hw hb1⟩
/-- Concat of two byte strings of one's own. -/
theorem concat_own (X1 X2 : Option Addr) (x1 x2 n1 n2 B1 B2 : Nat) (l1 l2 : List UInt8) (W : World) (hb : n1 + n2 ≤ 1048576) (h1 : l1.length = n1) (h2 : l2.length = n2) (s1 : Own W B1 5 (.slice X1 n1 x1) l1) (s2 : Own W B2 5 (.slice X2 n2 x2) l2) :
    Calls Try.prog 60 #[.slice (some ⟨W.heap.size, 0, none⟩) 2 2] (W.alloc (.cells #[.slice X1 n1 x1, .slice X2 n2 x2] 24)) fun e w' => (∃ X x, e = .returned (.slice X (n1 + n2 : Nat) x) ∧ Own w' W.heap.size 5 (.slice X (n1 + n2 : Nat) x) (l1 ++ l2)) ∧ Below W.heap.size W w' := by
  subst h1 h2
  obtain ⟨A1, c1, e1, -, -, k1, -⟩ := s1.form
  obtain ⟨A2, c2, e2, -, -, k2, -⟩ := s2.form
  cases e1
  cases e2
  have hB := bl W (.cells #[.slice X1 l1.length x1, .slice X2 l2.length x2] 24)
  have hf : sel.flats [⟨X1, x1, l1⟩, ⟨X2, x2, l2⟩] = l1 ++ l2 := by simp [sel.flats]
  have hc := sel.concat_any (some ⟨W.heap.size, 0, none⟩) 2 _ 2 [⟨X1, x1, l1⟩, ⟨X2, x2, l2⟩] (W.alloc (.cells #[.slice X1 l1.length x1, .slice X2 l2.length x2] 24)) rfl (SlV.of_block (heap_alloc_new W _) rfl (by simp))
    (fun r hr => by
      simp only [List.mem_cons, List.not_mem_nil, or_false] at hr
      rcases hr with rfl | rfl
      · exact (k1.below hB).more hB.size
      · exact (k2.below hB).more hB.size) (Nat.le_refl _) (by omega) (by rw [hf, List.length_append]; exact hb)
  rw [hf] at hc
  refine hc.mono ?_
  rintro e w' ⟨⟨v, rfl, ho⟩, hb'⟩
  obtain ⟨X, x, rfl, ho⟩ := own_qn ho (List.length_append)
  exact ⟨⟨X, x, rfl, ho.less hB.size⟩, bt hB hb'⟩
set_option maxRecDepth 100000 in
set_option maxHeartbeats 8000000 in
theorem encimg_c (y wh : Int) (X : Option Addr) (q xc : Nat) (L : List UInt8) (w : World) (hy1 : 0 ≤ y ∧ y ≤ 255) (hwh : -1 ≤ wh ∧ wh ≤ 255) (hx : BIn w w.heap.size ⟨y, wh, X, xc, L⟩) (hn : L.length = q) (hn1 : q ≤ 255) :
    Calls Try.prog 61 #[.agg #[.int .i64 y, .int .i64 wh, .slice X q xc]] w fun e w' => (∃ X' x', e = .returned (.slice X' (3 + q : Nat) x') ∧ Own w' w.heap.size 5 (.slice X' (3 + q : Nat) x') (le 1 y.toNat ++ (le 1 (whB wh) ++ (le 1 q ++ L)))) ∧ Below w.heap.size w w' := by
  obtain ⟨h, hh⟩ : ∃ h : Int, h = if wh = -1 then 254 else wh := ⟨_, rfl⟩
  have hh1 : 0 ≤ h ∧ h ≤ 255 := by rw [hh]; split <;> omega
  have hwb : whB wh = h.toNat := by unfold whB; rw [hh]; split <;> rfl
  rw [hwb]
  have HO := fun w0 => img_orders y h hy1 hh1 w0
  have HP := Lib.hid (show ∀ W, Below w.heap.size w W → Calls Try.prog 72 #[.slice X q xc] W fun e w' => (∃ X' x', e = .returned (.tuple #[.slice X' (q + 1 : Nat) x', .int .i64 0]) ∧ Own w' W.heap.size 5 (.slice X' (q + 1 : Nat) x') (le 1 q ++ L)) ∧ Below W.heap.size W w' from fun W hW => by
    refine (pck.part_ok q X xc L W hn hn1 (hx.next hW).1).mono ?_
    rintro e w' ⟨⟨v, rfl, ho⟩, hb⟩
    obtain ⟨X', x', rfl, ho⟩ := own_qn ho (show (le 1 q ++ L).length = q + 1 by rw [List.length_append, le_length]; omega)
    exact ⟨⟨X', x', rfl, ho⟩, hb⟩)
  have hl1 : (le 1 y.toNat ++ le 1 h.toNat).length = 2 := by simp [le_length]
  have hl2 : (le 1 q ++ L).length = q + 1 := by rw [List.length_append, le_length]; omega
  have HC := Lib.hid fun (W : World) (X1 X2 : Option Addr) (x1 x2 B1 B2 : Nat) (s1 : Own W B1 5 (.slice X1 2 x1) (le 1 y.toNat ++ le 1 h.toNat)) (s2 : Own W B2 5 (.slice X2 (q + 1 : Nat) x2) (le 1 q ++ L)) => concat_own X1 X2 x1 x2 2 (q + 1) B1 B2 _ _ W (by omega) hl1 hl2 s1 s2
  rw [show le 1 y.toNat ++ (le 1 h.toNat ++ (le 1 q ++ L)) = (le 1 y.toNat ++ le 1 h.toNat) ++ (le 1 q ++ L) by simp, show 3 + q = 2 + (q + 1) by omega]
  generalize le 1 y.toNat ++ le 1 h.toNat = F at *
  generalize le 1 q ++ L = G at *
  have MM := c3_new w (.int .i64 y) (.int .i64 wh) (.slice X q xc) 26
  have hw := bl w (.cells #[.int .i64 y, .int .i64 wh, .slice X q xc] 26)
  have lw : w.heap.size < (w.alloc (.cells #[.int .i64 y, .int .i64 wh, .slice X q xc] 26)).heap.size := by simp
  have HH := Lib.hid hh
  clear hwb hx hn hy1 hwh hh hl1 hl2
  go_enter Try.func61, Try.ntmps61
  go_upto_region 1 with fail
  generalize w.alloc (.cells #[.int .i64 y, .int .i64 wh, .slice X q xc] 26) = w0 at *
  have H1 := Lib.hid (HO w0).1
  have H2 := Lib.hid (HO w0).2
  clear HO
  have HF := Lib.hid (show ∀ W, Below w0.heap.size w0 W → W.cell? ⟨w.heap.size, 0, none⟩ = some (.int .i64 y) ∧ Below w0.heap.size w0 W from fun W hW => ⟨(MM.keep hW lw).c0, hW⟩)
  obtain ⟨m0, m1, m2⟩ := id MM
  go_upto_if 11 with fail
  go_cut [3] from 12 (fun v wc => v = .int .i64 h ∧ wc = w0)
  case first =>
    by_cases hm : wh = -1
    · have q : (wh == -1) = true := beq_iff_eq.2 hm
      have e1 : h = 254 := by rw [HH.out, if_pos hm]
      have E1 := Lib.hid e1
      clear e1 hm
      go_wp2_with fail
      go_meet
      case rel => exact ⟨by rw [E1.out], rfl⟩
    · have q : (wh == -1) = false := beq_eq_false_iff_ne.2 hm
      have e1 : h = wh := by rw [HH.out, if_neg hm]
      have E1 := Lib.hid e1
      clear e1
      go_wp2_with fail
      go_meet
      case rel => exact ⟨by rw [E1.out], rfl⟩
  case rest =>
    obtain ⟨rfl, rfl⟩ := hcut
    clear m0 m1 m2
    go_upto_region 4 with fail
    go_region_held3 (fun W => W.cell? ⟨w.heap.size, 0, none⟩ = some (.int .i64 y) ∧ Below wc.heap.size wc W)
      ((refine HF.out _ ?_; first
        | with_reducible exact below_dr (Below.refl _ _)
        | with_reducible exact below_dr (kal (Below.refl _ _) _)
        | with_reducible exact below_dr (kal (kal (Below.refl _ _) _) _)
        | with_reducible assumption
        | fail))
      (first
        | (go_at_call 84; (with_reducible refine (isizes_c _).mono ?_); rintro e w1 ⟨rfl, rfl⟩)
        | (go_at_call 70; (with_reducible refine H1.out.mono ?_); rintro e w1 ⟨⟨X1, x1, rfl, ho1⟩, hb1⟩)
        | (go_at_call 70; (with_reducible refine H2.out.mono ?_); rintro e w1 ⟨⟨X1, x1, rfl, ho1⟩, hb1⟩))
    all_goals
      have M1 := MM.keep hb1 lw
      have hw1 := bt hw hb1
      obtain ⟨m0, m1, m2⟩ := id M1
      go_wp2_with (first
        | (go_at_call 72; (with_reducible refine (HP.out _ hw1).mono ?_); rintro e w2 ⟨⟨X2, x2, rfl, ho2⟩, hb2⟩; have ho1 := ho1.below hb2)
        | (go_at_call 60; (with_reducible refine (HC.out _ _ _ _ _ _ _ ho1 ho2).mono ?_); rintro e w3 ⟨⟨X3, x3, rfl, ho3⟩, hb3⟩))
      go_ret
      exact ⟨⟨X3, x3, rfl, ho3.less (bt hw1 hb2).size⟩, bt (bt hw1 hb2) hb3⟩
end Go.Proofs.Ytplhdnhigboeaaa.lrc
