/-
  Lists of byte strings and of truths as they lie; are they more than the laws play (Heavy); are they as many as there are to be (Had); the document's At, What; truths compared (Bools). Conditions: each theorem's own.
-/
import Derived.Test.YtajjmllolaajoaaTbX
import Derived.Test.YtajjmllolaajoaaKeepRows
import Derived.Test.YtajjmllolaajoaaZnM
import Derived.Deep.QuietTactic
import Derived.BigQuiet
namespace Go.Proofs.Ytajjmllolaajoaa.zon
open Go.RowKit Go.Lib
open Go.Proofs.Ytajjmllolaajoaa.gmt (Ok)
open Go.Proofs.Ytajjmllolaajoaa.anc (bl kal kst ks bm ka)
open Go.Proofs.Ytajjmllolaajoaa.tbl (Ent EntOk C1 c1_new G5 g5_new)

/-- A list of byte strings as it lies. -/
structure LV where
  A : Option Addr
  c : Nat
  rs : List Row
def LV.v (x : LV) : Value := .slice x.A x.rs.length x.c
structure LV.In (w : World) (B : Nat) (x : LV) : Prop where
  h : SlV w B x.A (vals x.rs)
  r : Rws w B x.rs
  l : x.rs.length ≤ x.c ∧ x.c ≤ maxLen
  k : Caps x.rs
section
variable {w w' : World} {B B' : Nat} {x : LV}
theorem LV.In.below (h : LV.In w B x) (hb : Below B w w') : LV.In w' B x := ⟨h.h.below hb, h.r.below hb, h.l, h.k⟩
theorem LV.In.more (h : LV.In w B x) (hB : B ≤ B') : LV.In w B' x := ⟨h.h.more hB, h.r.more hB, h.l, h.k⟩
theorem LV.In.next (h : LV.In w w.heap.size x) (hb : Below w.heap.size w w') : LV.In w' w'.heap.size x := (h.below hb).more hb.size
end
theorem own_caps {w : World} {base : Nat} {e : TypeId} {r : Row} (h : Own w base e r.v r.l) : r.l.length ≤ r.c ∧ r.c ≤ maxLen := by
  obtain ⟨A, c, hv, h1, h2, -, -⟩ := h.form
  unfold Row.v at hv
  simp only [Value.slice.injEq] at hv
  obtain ⟨-, -, rfl⟩ := hv
  exact ⟨h1, h2⟩
/-- Rows of the call's own, as a list. -/
theorem rows_lv {w : World} {base : Nat} {v : Value} {rs : List Row} {ls : List (List UInt8)} (h : OwnRows w base v rs ls) : ∃ A c, v = .slice A rs.length c ∧ LV.In w w.heap.size ⟨A, c, rs⟩ := by
  obtain ⟨A, c, hv, h1, h2, h3, -⟩ := h.1.form
  rw [vals_length] at hv h1
  exact ⟨A, c, hv, h3, h.rws, ⟨h1, h2⟩, fun r hr => own_caps (h.2.2 r hr)⟩
theorem hadK_at {rs : List Row} {i : Nat} {r : Row} (h : (lists rs)[i]? = some r.l) : hadK (lists rs) i = r.l := hadK_get h
/-- Truths as cells. -/
def bools (l : List Bool) : List Value := l.map Value.bool
theorem bools_length (l : List Bool) : (bools l).length = l.length := by simp [bools]
theorem bools_get (l : List Bool) (j : Nat) (h : j < (bools l).length) : (bools l)[j] = .bool (l[j]'(by rwa [bools_length] at h)) := by simp [bools]
theorem bools_one (l : List Bool) : ∀ u ∈ bools l, u.oneCell' = true := by
  intro u hu
  obtain ⟨_, _, rfl⟩ := List.mem_map.1 hu
  rfl
theorem bool_at {w : World} {B k : Nat} {A : Option Addr} {l : List Bool} (hA : SlV w B A (bools l)) (hk : k < l.length) : ∃ b off, A = some ⟨b, off, none⟩ ∧ b < B ∧ w.cell? ⟨b, off + k, none⟩ = some (.bool l[k]) ∧ l[k]? = some l[k] := by
  obtain ⟨b, off, rfl, hb, hc⟩ := hA (by rw [bools_length]; omega)
  have g := hc k (by rw [bools_length]; exact hk)
  rw [bools_get] at g
  exact ⟨b, off, rfl, hb, g, List.getElem?_eq_getElem hk⟩

set_option maxRecDepth 100000 in
set_option maxHeartbeats 4000000 in
theorem bools_any (A A' : Option Addr) (c c' m n : Nat) (a b : List Bool) (w : World) (ha : a.length = m) (hb : b.length = n) (hA : SlV w w.heap.size A (bools a)) (hA' : SlV w w.heap.size A' (bools b)) (hm : m ≤ 1048576) :
    Calls Try.prog 26 #[.slice A m c, .slice A' n c'] w fun e w' => e = .returned (.bool (decide (a = b))) ∧ Below w.heap.size w w' := by
  by_cases hmn : m = n
  case neg =>
    have hd : decide (a = b) = false := decide_eq_false fun k => hmn (by rw [← ha, ← hb, k])
    rw [hd]
    have h2 : ((m : Int) != (n : Int)) = true := bne_iff_ne.2 (by omega)
    go_enter Try.func26, Try.ntmps26
    go_wp2
    go_ret
    exact ⟨rfl, Below.refl _ _⟩
  subst hmn
  have h2 : ((m : Int) != (m : Int)) = false := bne_self_eq_false _
  go_enter Try.func26, Try.ntmps26
  go_wp2
  go_loopw [5] (fun i w' => ∃ k : Nat, k ≤ m ∧ i = .int .i64 k ∧ a.take k = b.take k ∧ Below w.heap.size w w') (fun i _ => m - (RowKit.intOf i).toNat)
  case atStart => exact ⟨0, by omega, rfl, rfl, Below.refl _ _⟩
  case round =>
    obtain ⟨w5, rfl⟩ : ∃ x, x = wr := ⟨wr, rfl⟩
    obtain ⟨k, hk, rfl, hs, hbr⟩ := hrel
    by_cases hlt : k < m
    · have i1 : (k : Int) < (m : Int) := by omega
      obtain ⟨b1, off, rfl, hb1, g, e1⟩ := bool_at (hA.below hbr) (show k < a.length by omega)
      obtain ⟨b2, off', rfl, hb2, g', e2⟩ := bool_at (hA'.below hbr) (show k < b.length by omega)
      by_cases hab : a[k] = b[k]'(by omega)
      · have H : Hid (a.take (k + 1) = b.take (k + 1)) := Lib.hid (by rw [take_next e1, take_next e2, hs, hab])
        have q : (a[k] != b[k]'(by omega)) = false := by rw [hab]; exact bne_self_eq_false _
        generalize a[k] = x at *
        generalize b[k]'(by omega) = y at *
        obtain rfl : x = y := by simpa using q
        clear hs hab e1 e2 h2 q
        cases x
        all_goals
          go_wp2_with fail
          go_quiet (fail)
          have hbq := below_dn hbr nq
          generalize w5.drewN nq = wq at *
          go_wp2_with fail
          go_roundw
          case rel => exact ⟨k + 1, by omega, by go_num, H.out, hbq⟩
          case measure => simp [RowKit.intOf]; omega
      · have H : Hid (decide (a = b) = false) := Lib.hid (decide_eq_false fun h => by subst h; exact hab rfl)
        have q : (a[k] != b[k]'(by omega)) = true := bne_iff_ne.2 hab
        generalize a[k] = x at *
        generalize b[k]'(by omega) = y at *
        clear hs hab e1 e2 h2
        cases x <;> cases y
        case false.false => cases q
        case true.true => cases q
        all_goals
          clear q
          go_wp2_with fail
          go_quiet (fail)
          go_wp2_with fail
          go_ret
          exact ⟨ret_bool H.out.symm, below_dn hbr _⟩
    · have i1 : (m : Int) ≤ (k : Int) := by omega
      have H : Hid (decide (a = b) = true) := Lib.hid (by
        rw [List.take_of_length_le (by omega), List.take_of_length_le (by omega)] at hs
        exact decide_eq_true hs)
      clear hs
      go_wp2_with fail
      go_ret
      exact ⟨ret_bool H.out.symm, hbr⟩

set_option maxRecDepth 100000 in
set_option maxHeartbeats 4000000 in
theorem heavy_c (b : Bool) (T A : Option Addr) (nt ct n c : Nat) (rs : List Row) (w : World) (hn : rs.length = n) (hA : SlV w w.heap.size A (vals rs)) (hR : Rws w w.heap.size rs) (hb : b = true ↔ 20 < nt ∨ 20 < n ∨ ∃ h ∈ lists rs, 100 < h.length) :
    Calls Try.prog 9 #[.agg #[.slice T nt ct], .slice A n c] w fun e w' => e = .returned (.bool b) ∧ Below w.heap.size w w' := by
  have TB := c1_new w (.slice T nt ct) 26
  have hx := bl w (.cells #[.slice T nt ct] 26)
  by_cases h1 : 20 < nt ∨ 20 < n
  · obtain rfl : b = true := hb.2 (h1.elim .inl fun h => .inr (.inl h))
    have q : (20 : Int) < (nt : Int) ∨ ¬ (20 : Int) < (nt : Int) ∧ (20 : Int) < (n : Int) := by omega
    clear hb hA hR h1
    go_enter Try.func9, Try.ntmps9
    go_upto_region 1 with fail
    have t0 := TB.c0
    rcases q with q | ⟨q, q2⟩
    all_goals
      go_wp2
      go_ret
      exact ⟨rfl, hx⟩
  have HC : Hid (b = true ↔ ∃ h ∈ lists rs, 100 < h.length) := Lib.hid (hb.trans ⟨fun h => h.elim (fun k => absurd (.inl k) h1) fun k => k.resolve_left fun k2 => h1 (.inr k2), fun h => .inr (.inr h)⟩)
  have i1 : ¬ (20 : Int) < (nt : Int) := by omega
  have i2 : ¬ (20 : Int) < (n : Int) := by omega
  replace hA := hA.below hx
  replace hR := hR.below hx
  have hB := hx.size
  clear hb h1
  go_enter Try.func9, Try.ntmps9
  go_upto_region 1 with fail
  have t0 := TB.c0
  go_upto_region 4 with fail
  clear t0 TB
  generalize w.alloc (.cells #[.slice T nt ct] 26) = w0 at *
  go_loop [5] (fun i => ∃ k : Nat, i = .int .i64 k ∧ k ≤ n ∧ ∀ h ∈ (lists rs).take k, ¬ 100 < h.length) (fun i => n - (RowKit.intOf i).toNat)
  case atStart => exact ⟨0, rfl, by omega, fun h hh => by simp at hh⟩
  case round =>
    obtain ⟨k, rfl, hk, hs2⟩ := hrel
    by_cases hlt : k < n
    · have j1 : (k : Int) < (n : Int) := by omega
      obtain ⟨b1, off, r, rfl, hb1, g, -, -, -, e1⟩ := row_at hA hR (show k < rs.length by omega)
      by_cases h3 : 100 < r.l.length
      · have j3 : (100 : Int) < (r.l.length : Int) := by omega
        have H : Hid (b = true) := Lib.hid (HC.out.2 ⟨r.l, List.mem_of_getElem? e1, h3⟩)
        clear hs2 e1
        go_wp2_with fail
        go_ret
        exact ⟨ret_bool H.out.symm, hx⟩
      · have j3 : (r.l.length : Int) ≤ 100 := by omega
        have HN : Hid (∀ h ∈ (lists rs).take (k + 1), ¬ 100 < h.length) := Lib.hid fun h hm => by
          rw [take_next e1] at hm
          rcases List.mem_append.1 hm with hm | hm
          · exact hs2 h hm
          · obtain rfl := List.mem_singleton.1 hm
            exact h3
        clear hs2 e1
        go_wp2_with fail
        go_round
        case rel => exact ⟨k + 1, by go_num, by omega, HN.out⟩
        case measure => simp [RowKit.intOf]; omega
    · have j1 : ¬ (k : Int) < (n : Int) := by omega
      have H : Hid (b = false) := Lib.hid (by
        cases b
        · rfl
        · obtain ⟨h, hh, h20⟩ := HC.out.1 rfl
          exact absurd h20 (hs2 h (by rw [List.take_of_length_le (by rw [lists_length]; omega)]; exact hh)))
      clear hs2
      go_wp2_with fail
      go_ret
      exact ⟨ret_bool H.out.symm, hx⟩

set_option maxRecDepth 100000 in
set_option maxHeartbeats 4000000 in
/-- Are they as many as there are to be, each a block, or nothing? -/
theorem had_c (b : Bool) (z s l a : Int) (D : Nat) (A : Option Addr) (n c : Nat) (rs : List Row) (w : World) (ho : Ok z D s l a) (hn : rs.length = n) (hA : SlV w w.heap.size A (vals rs)) (hR : Rws w w.heap.size rs) (hb : b = true ↔ HadOk (D + 1) (lists rs)) :
    Calls Try.prog 19 #[.agg #[.int .i64 z, .int .i64 D, .int .i64 s, .int .i64 l, .int .i64 a], .slice A n c] w fun e w' => e = .returned (.bool b) ∧ Below w.heap.size w w' := by
  have o2 := ho.2.1
  have hD : D ≤ 4 := by omega
  have GG := g5_new w z D s l a
  have hx := bl w (.cells #[.int .i64 z, .int .i64 D, .int .i64 s, .int .i64 l, .int .i64 a] 23)
  clear ho o2
  by_cases h1 : n = D + 1
  case neg =>
    obtain rfl : b = false := by cases b; rfl; have := (hb.1 rfl).1; rw [lists_length] at this; exact absurd (hn ▸ this) h1
    have q : ((n : Int) != (D : Int) + 1) = true := bne_iff_ne.2 (by omega)
    clear hb hA hR h1
    go_enter Try.func19, Try.ntmps19
    go_upto_region 1 with fail
    obtain ⟨g0, g1, g2, g3, g4⟩ := id GG
    go_wp2
    go_ret
    exact ⟨rfl, hx⟩
  have HC : Hid (b = true ↔ ∀ h ∈ lists rs, h = [] ∨ h.length = 8) := Lib.hid (hb.trans ⟨fun h => h.2, fun h => ⟨by rw [lists_length]; omega, h⟩⟩)
  have q : ((n : Int) != (D : Int) + 1) = false := by rw [h1]; simp
  replace hA := hA.below hx
  replace hR := hR.below hx
  have hB := hx.size
  clear hb
  go_enter Try.func19, Try.ntmps19
  go_upto_region 1 with fail
  obtain ⟨g0, g1, g2, g3, g4⟩ := id GG
  go_upto_region 4 with fail
  clear g0 g1 g2 g3 g4 GG q
  generalize w.alloc (.cells #[.int .i64 z, .int .i64 D, .int .i64 s, .int .i64 l, .int .i64 a] 23) = w0 at *
  go_loop [5] (fun i => ∃ k : Nat, i = .int .i64 k ∧ k ≤ n ∧ ∀ h ∈ (lists rs).take k, h = [] ∨ h.length = 8) (fun i => n - (RowKit.intOf i).toNat)
  case atStart => exact ⟨0, rfl, by omega, fun h hh => by simp at hh⟩
  case round =>
    obtain ⟨k, rfl, hk, hs2⟩ := hrel
    by_cases hlt : k < n
    · have j1 : (k : Int) < (n : Int) := by omega
      obtain ⟨b1, off, r, rfl, hb1, g, -, -, -, e1⟩ := row_at hA hR (show k < rs.length by omega)
      by_cases h3 : r.l = [] ∨ r.l.length = 8
      · have HN : Hid (∀ h ∈ (lists rs).take (k + 1), h = [] ∨ h.length = 8) := Lib.hid fun h hm => by
          rw [take_next e1] at hm
          rcases List.mem_append.1 hm with hm | hm
          · exact hs2 h hm
          · obtain rfl := List.mem_singleton.1 hm
            exact h3
        have j3 : ((r.l.length : Int) != 0) = false ∨ ((r.l.length : Int) != 0) = true ∧ ((r.l.length : Int) != 8) = false := by
          rcases h3 with h3 | h3
          · rw [h3]; exact .inl rfl
          · rw [h3]; exact .inr ⟨rfl, rfl⟩
        clear hs2 e1 h3
        rcases j3 with j3 | ⟨j3, j4⟩
        all_goals
          go_wp2_with fail
          go_round
          case rel => exact ⟨k + 1, by go_num, by omega, HN.out⟩
          case measure => simp [RowKit.intOf]; omega
      · have j3 : ((r.l.length : Int) != 0) = true := bne_iff_ne.2 fun h => h3 (.inl (List.eq_nil_of_length_eq_zero (by omega)))
        have j4 : ((r.l.length : Int) != 8) = true := bne_iff_ne.2 fun h => h3 (.inr (by omega))
        have H : Hid (b = false) := Lib.hid (by cases b; rfl; exact absurd (HC.out.1 rfl r.l (List.mem_of_getElem? e1)) h3)
        clear hs2 e1 h3
        go_wp2_with fail
        go_ret
        exact ⟨ret_bool H.out.symm, hx⟩
    · have j1 : ¬ (k : Int) < (n : Int) := by omega
      have H : Hid (b = true) := Lib.hid (HC.out.2 fun h hh => hs2 h (by rw [List.take_of_length_le (by rw [lists_length]; omega)]; exact hh))
      clear hs2
      go_wp2_with fail
      go_ret
      exact ⟨ret_bool H.out.symm, hx⟩
set_option maxRecDepth 100000 in
/-- Which of a zone's; is it one? -/
theorem rat_c (z d s l a i : Int) (w : World) :
    Calls Try.prog 23 #[.agg #[.int .i64 z, .int .i64 d, .int .i64 s, .int .i64 l, .int .i64 a], .int .i64 i] w fun e w' => e = .returned (.int .i64 (if i = -1 then d else i)) ∧ Below w.heap.size w w' := by
  have GG := g5_new w z d s l a
  have hx := bl w (.cells #[.int .i64 z, .int .i64 d, .int .i64 s, .int .i64 l, .int .i64 a] 23)
  obtain ⟨g0, g1, g2, g3, g4⟩ := id GG
  by_cases h : i = -1
  · have q : (i == -1) = true := beq_iff_eq.2 h
    rw [if_pos h]
    clear h
    go_enter Try.func23, Try.ntmps23
    go_wp2
    go_ret
    exact ⟨rfl, hx⟩
  · have q : (i == -1) = false := beq_eq_false_iff_ne.2 h
    rw [if_neg h]
    clear h
    go_enter Try.func23, Try.ntmps23
    go_wp2
    go_ret
    exact ⟨rfl, hx⟩
set_option maxRecDepth 100000 in
theorem rwhat_c (b : Bool) (z d s l a i : Int) (w : World) (ho : Ok z d s l a) (hb : b = true ↔ -1 ≤ i ∧ i ≤ d - 1) :
    Calls Try.prog 22 #[.agg #[.int .i64 z, .int .i64 d, .int .i64 s, .int .i64 l, .int .i64 a], .int .i64 i] w fun e w' => e = .returned (.bool b) ∧ Below w.heap.size w w' := by
  have GG := g5_new w z d s l a
  have hx := bl w (.cells #[.int .i64 z, .int .i64 d, .int .i64 s, .int .i64 l, .int .i64 a] 23)
  obtain ⟨g0, g1, g2, g3, g4⟩ := id GG
  have o2 := ho.2.1
  have HI := Lib.hid fun W => tbl.r8in_at b i (-1) (d - 1) W hb
  clear ho hb
  go_enter Try.func22, Try.ntmps22
  go_wp2_with (go_at_call 33; (with_reducible refine (HI.out _).mono ?_); rintro e w1 ⟨rfl, rfl⟩)
  go_ret
  exact ⟨rfl, hx⟩
end Go.Proofs.Ytajjmllolaajoaa.zon
