/-
  casematekeep.Rec: whether two records are the same. Conditions: byte strings shorter than 2^20.
-/
import Derived.Test.YtpcadoekhoediaaGreatDoorRcV
namespace Go.Proofs.YtpcadoekhoediaaGreatDoor.lrc
open Go.RowKit Go.Lib
open Go.Proofs.YtpcadoekhoediaaGreatDoor.anc (bl kal kst ks bm ka take_same take_other)
open Go.Proofs.YtpcadoekhoediaaGreatDoor.img

set_option maxRecDepth 100000 in
set_option maxHeartbeats 8000000 in
theorem krec_c (b : Bool) (k s e p m z wh k' s' e' p' m' z' wh' : Int) (A A' : Option Addr) (n n' c c' : Nat) (w : World) (hb : ∀ W, Below w.heap.size w W → Calls Tryz.prog 27 #[.agg #[.int .i64 z, .int .i64 wh, .slice A n c], .agg #[.int .i64 z', .int .i64 wh', .slice A' n' c']] W fun e w' => e = .returned (.bool b) ∧ Below W.heap.size W w') :
    Calls Tryz.prog 12 #[.agg #[.int .i64 k, .int .i64 s, .int .i64 e, .int .i64 p, .int .i64 m, .int .i64 z, .int .i64 wh, .slice A n c], .agg #[.int .i64 k', .int .i64 s', .int .i64 e', .int .i64 p', .int .i64 m', .int .i64 z', .int .i64 wh', .slice A' n' c']] w fun r w' => r = .returned (.bool (decide (k = k' ∧ s = s' ∧ e = e' ∧ p = p' ∧ m = m') && b)) ∧ Below w.heap.size w w' := by
  have s1 : (w.alloc (.cells #[.int .i64 k, .int .i64 s, .int .i64 e, .int .i64 p, .int .i64 m, .int .i64 z, .int .i64 wh, .slice A n c] 34)).heap.size = w.heap.size + 1 := by simp
  have hx2 := bl (w.alloc (.cells #[.int .i64 k, .int .i64 s, .int .i64 e, .int .i64 p, .int .i64 m, .int .i64 z, .int .i64 wh, .slice A n c] 34)) (.cells #[.int .i64 k', .int .i64 s', .int .i64 e', .int .i64 p', .int .i64 m', .int .i64 z', .int .i64 wh', .slice A' n' c'] 34)
  have XX := (c8_new w (.int .i64 k) (.int .i64 s) (.int .i64 e) (.int .i64 p) (.int .i64 m) (.int .i64 z) (.int .i64 wh) (.slice A n c) 34).keep hx2 (by simp)
  have YY := c8_new (w.alloc (.cells #[.int .i64 k, .int .i64 s, .int .i64 e, .int .i64 p, .int .i64 m, .int .i64 z, .int .i64 wh, .slice A n c] 34)) (.int .i64 k') (.int .i64 s') (.int .i64 e') (.int .i64 p') (.int .i64 m') (.int .i64 z') (.int .i64 wh') (.slice A' n' c') 34
  rw [s1] at YY
  have hw := kal (bl w (.cells #[.int .i64 k, .int .i64 s, .int .i64 e, .int .i64 p, .int .i64 m, .int .i64 z, .int .i64 wh, .slice A n c] 34)) (.cells #[.int .i64 k', .int .i64 s', .int .i64 e', .int .i64 p', .int .i64 m', .int .i64 z', .int .i64 wh', .slice A' n' c'] 34)
  have HB := Lib.hid hb
  clear s1 hx2 hb
  go_enter Tryz.func12, Tryz.ntmps12
  go_upto_region 1 with fail
  generalize ((w.alloc (.cells #[.int .i64 k, .int .i64 s, .int .i64 e, .int .i64 p, .int .i64 m, .int .i64 z, .int .i64 wh, .slice A n c] 34)).alloc (.cells #[.int .i64 k', .int .i64 s', .int .i64 e', .int .i64 p', .int .i64 m', .int .i64 z', .int .i64 wh', .slice A' n' c'] 34)) = w0 at *
  obtain ⟨x0, x1, x2, x3, x4, x5, x6, x7⟩ := id XX
  obtain ⟨y0, y1, y2, y3, y4, y5, y6, y7⟩ := id YY
  clear XX YY
  by_cases h0 : k = k'
  case neg =>
    have q0 : (k == k') = false := beq_eq_false_iff_ne.2 h0
    have H : Hid (decide (k = k' ∧ s = s' ∧ e = e' ∧ p = p' ∧ m = m') = false) := Lib.hid (decide_eq_false fun g => h0 g.1)
    clear h0
    go_wp2_with fail
    go_ret
    exact ⟨by rw [H.out]; rfl, hw⟩
  have q0 : (k == k') = true := beq_iff_eq.2 h0
  have H0 := Lib.hid h0
  clear h0
  by_cases h1 : s = s'
  case neg =>
    have q1 : (s == s') = false := beq_eq_false_iff_ne.2 h1
    have H : Hid (decide (k = k' ∧ s = s' ∧ e = e' ∧ p = p' ∧ m = m') = false) := Lib.hid (decide_eq_false fun g => h1 g.2.1)
    clear h1
    go_wp2_with fail
    go_ret
    exact ⟨by rw [H.out]; rfl, hw⟩
  have q1 : (s == s') = true := beq_iff_eq.2 h1
  have H1 := Lib.hid h1
  clear h1
  by_cases h2 : e = e'
  case neg =>
    have q2 : (e == e') = false := beq_eq_false_iff_ne.2 h2
    have H : Hid (decide (k = k' ∧ s = s' ∧ e = e' ∧ p = p' ∧ m = m') = false) := Lib.hid (decide_eq_false fun g => h2 g.2.2.1)
    clear h2
    go_wp2_with fail
    go_ret
    exact ⟨by rw [H.out]; rfl, hw⟩
  have q2 : (e == e') = true := beq_iff_eq.2 h2
  have H2 := Lib.hid h2
  clear h2
  by_cases h3 : p = p'
  case neg =>
    have q3 : (p == p') = false := beq_eq_false_iff_ne.2 h3
    have H : Hid (decide (k = k' ∧ s = s' ∧ e = e' ∧ p = p' ∧ m = m') = false) := Lib.hid (decide_eq_false fun g => h3 g.2.2.2.1)
    clear h3
    go_wp2_with fail
    go_ret
    exact ⟨by rw [H.out]; rfl, hw⟩
  have q3 : (p == p') = true := beq_iff_eq.2 h3
  have H3 := Lib.hid h3
  clear h3
  by_cases h4 : m = m'
  case neg =>
    have q4 : (m == m') = false := beq_eq_false_iff_ne.2 h4
    have H : Hid (decide (k = k' ∧ s = s' ∧ e = e' ∧ p = p' ∧ m = m') = false) := Lib.hid (decide_eq_false fun g => h4 g.2.2.2.2)
    clear h4
    go_wp2_with fail
    go_ret
    exact ⟨by rw [H.out]; rfl, hw⟩
  have q4 : (m == m') = true := beq_iff_eq.2 h4
  have H4 := Lib.hid h4
  clear h4
  have H : Hid (decide (k = k' ∧ s = s' ∧ e = e' ∧ p = p' ∧ m = m') = true) := Lib.hid (decide_eq_true ⟨H0.out, H1.out, H2.out, H3.out, H4.out⟩)
  go_wp2_with (go_at_call 27; (with_reducible refine (HB.out _ hw).mono ?_); rintro r w1 ⟨rfl, hb1⟩)
  go_ret
  exact ⟨by rw [H.out]; rfl, bt hw hb1⟩
/-- Two records as they lie. -/
theorem krec_d (b : Bool) (r q : RcR) (n n' : Nat) (w : World) (hr : BIn w w.heap.size r.i) (hq : BIn w w.heap.size q.i) (hn : r.i.l.length = n) (hn' : q.i.l.length = n') (hl : n ≤ 1048576) (hb : b = true ↔ r.d = q.d) :
    Calls Tryz.prog 12 #[.agg #[.int .i64 r.kd, .int .i64 r.sq, .int .i64 r.ep, .int .i64 r.ps, .int .i64 r.nm, .int .i64 r.i.z, .int .i64 r.i.wh, .slice r.i.A n r.i.c], .agg #[.int .i64 q.kd, .int .i64 q.sq, .int .i64 q.ep, .int .i64 q.ps, .int .i64 q.nm, .int .i64 q.i.z, .int .i64 q.i.wh, .slice q.i.A n' q.i.c]] w fun e w' => e = .returned (.bool b) ∧ Below w.heap.size w w' := by
  subst hn hn'
  have h := krec_c (decide (r.i.z = q.i.z) && (decide (r.i.wh = q.i.wh) && decide (r.i.l = q.i.l))) r.kd r.sq r.ep r.ps r.nm r.i.z r.i.wh q.kd q.sq q.ep q.ps q.nm q.i.z q.i.wh r.i.A q.i.A r.i.l.length q.i.l.length r.i.c q.i.c w fun W hW => img_c _ _ _ _ _ _ _ _ _ _ _ W fun W2 hW2 => keep_bin r.i q.i W2 (hr.next (bt hW hW2)) (hq.next (bt hW hW2)) hl
  have he : (decide (r.kd = q.kd ∧ r.sq = q.sq ∧ r.ep = q.ep ∧ r.ps = q.ps ∧ r.nm = q.nm) && (decide (r.i.z = q.i.z) && (decide (r.i.wh = q.i.wh) && decide (r.i.l = q.i.l)))) = b := by
    rw [Bool.eq_iff_iff, hb]
    unfold RcR.d
    simp only [Bool.and_eq_true, decide_eq_true_eq, Rcd.mk.injEq]
    constructor
    · rintro ⟨⟨h0, h1, h2, h3, h4⟩, h5, h6, h7⟩
      exact ⟨h0, h1, h2, h3, h4, h5, h6, h7⟩
    · rintro ⟨h0, h1, h2, h3, h4, h5, h6, h7⟩
      exact ⟨⟨h0, h1, h2, h3, h4⟩, h5, h6, h7⟩
  rw [he] at h
  exact h
end Go.Proofs.YtpcadoekhoediaaGreatDoor.lrc
