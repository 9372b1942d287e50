/-
  The law XorExact, walked: it returns true for every input. No condition.
-/
import Derived.Test.YtgpgjbdjjanhaaaXorLawD
import Derived.Deep.CutRange
import Derived.Deep.CutBlock
namespace Go.Proofs.Ytgpgjbdjjanhaaa.par
open Go.RowKit Go.Lib
open Classical

/-- An answer of two: bytes in memory of their own, or an error. -/
def Res (r : Except Int (List UInt8)) (v : Value) (k : Int) (w : World) : Prop :=
  match r with
  | .ok l => k = 0 ∧ Own w 0 5 v l
  | .error x => k = x ∧ v = .slice none 0 0
theorem Res.below {r : Except Int (List UInt8)} {v : Value} {k : Int} {w w' : World} (h : Res r v k w) (hb : Below w.heap.size w w') : Res r v k w' := by
  unfold Res at *
  cases r with
  | ok l => exact ⟨h.1, h.2.below hb⟩
  | error x => exact h
def Ret (r : Except Int (List UInt8)) (w : World) (e : Ending) (w' : World) : Prop := (∃ v k, e = .returned (.tuple #[v, .int .i64 k]) ∧ Res r v k w') ∧ Below w.heap.size w w'
theorem ret_ok {l : List UInt8} {w w' : World} {e : Ending} (h : Ans w.heap.size l e w' ∧ Below w.heap.size w w') : Ret (.ok l) w e w' := by
  obtain ⟨⟨v, rfl, ho⟩, hb⟩ := h
  exact ⟨⟨v, 0, rfl, rfl, ho.less (Nat.zero_le _)⟩, hb⟩
theorem ret_bad {x : Int} {w w' : World} {e : Ending} (h : e = .returned (.tuple #[.slice none 0 0, .int .i64 x]) ∧ Below w.heap.size w w') : Ret (.error x) w e w' := by
  obtain ⟨rfl, hb⟩ := h
  exact ⟨⟨_, x, rfl, rfl, rfl⟩, hb⟩
theorem ret_bad' {x : Int} {w w' : World} {e : Ending} (h : e = .returned (.tuple #[.slice none 0 0, .int .i64 x]) ∧ w = w') : Ret (.error x) w e w' := by
  obtain ⟨rfl, rfl⟩ := h
  exact ⟨⟨_, x, rfl, rfl, rfl⟩, Below.refl _ _⟩

noncomputable def r2 (a b : List UInt8) : Except Int (List UInt8) := if a.length = b.length then .ok (zx a b) else .error 2
noncomputable def r3 (a b d : List UInt8) : Except Int (List UInt8) := if a.length = b.length ∧ b.length = d.length then .ok (zx (zx a b) d) else .error 2
noncomputable def rA (ls : List (List UInt8)) (n : Int) : Except Int (List UInt8) := if n < 0 ∨ 96 < n then .error 1 else if AllLen n.toNat ls then .ok (xall n.toNat ls) else .error 2
noncomputable def rR (ls : List (List UInt8)) (k : Int) (p : List UInt8) : Except Int (List UInt8) :=
  if k < 0 ∨ (ls.length : Int) ≤ k then .error 9 else if AllLen p.length (ls.take k.toNat ++ ls.drop (k.toNat + 1)) then .ok (xall p.length (ls.take k.toNat ++ ls.drop (k.toNat + 1) ++ [p])) else .error 2

theorem two_res (A A' : Option Addr) (c c' na nb : Nat) (a b : List UInt8) (w : World) (ha : a.length = na) (hb : b.length = nb) (hA : Sl w w.heap.size A a) (hB : Sl w w.heap.size A' b) (hs : na ≤ 1048576) :
    Calls Try.prog 11 #[.slice A na c, .slice A' nb c'] w (Ret (r2 a b) w) := by
  subst ha hb
  unfold r2
  split
  · rename_i h
    rw [← h]
    exact (two_ok A A' c c' a.length a b w rfl h.symm hA hB hs).mono fun e w' hh => ret_ok hh
  · rename_i h
    exact (two_bad A A' c c' a b w h).mono fun e w' hh => ret_bad hh
theorem turn_res (A A' A'' : Option Addr) (c c' c'' na nb nd : Nat) (a b d : List UInt8) (w : World) (ha : a.length = na) (hb : b.length = nb) (hd : d.length = nd) (hA : Sl w w.heap.size A a) (hB : Sl w w.heap.size A' b) (hD : Sl w w.heap.size A'' d) (hs : na ≤ 1048576) :
    Calls Try.prog 14 #[.slice A na c, .slice A' nb c', .slice A'' nd c''] w (Ret (r3 a b d) w) := by
  subst ha hb hd
  unfold r3
  split
  · rename_i h
    rw [← h.2, ← h.1]
    exact (turn_ok A A' A'' c c' c'' a.length a b d w rfl h.1.symm (h.1.trans h.2).symm hA hB hD hs).mono fun e w' hh => ret_ok hh
  · rename_i h
    exact (turn_bad A A' A'' c c' c'' a b d w (by omega)).mono fun e w' hh => ret_bad hh
theorem all_res (A : Option Addr) (c m : Nat) (n : Int) (rs : List Row) (ls : List (List UInt8)) (w : World) (hls : lists rs = ls) (hm : ls.length = m) (hA : SlV w w.heap.size A (vals rs)) (hR : Rws w w.heap.size rs) (hs : m ≤ 1048576) :
    Calls Try.prog 12 #[.slice A m c, .int .i64 n] w (Ret (rA ls n) w) := by
  subst hls hm
  rw [lists_length] at hs ⊢
  unfold rA
  split
  · rename_i h
    exact (all_arg n A c _ w h).mono fun e w' hh => ret_bad' hh
  · rename_i h
    obtain ⟨k, rfl⟩ : ∃ k : Nat, n = k := ⟨n.toNat, by omega⟩
    rw [Int.toNat_natCast]
    split
    · rename_i hl
      exact (all_ok k A c rs w hA hR (by omega) hs hl).mono fun e w' hh => ret_ok hh
    · rename_i hl
      exact (all_bad k A c _ rs w hA (by omega) hs hl).mono fun e w' hh => ret_bad' hh
theorem rest_res (A A' : Option Addr) (c c' m na : Nat) (k : Int) (rs : List Row) (ls : List (List UInt8)) (p : List UInt8) (w : World) (hls : lists rs = ls) (hm : ls.length = m) (hp : p.length = na) (hA : SlV w w.heap.size A (vals rs)) (hR : Rws w w.heap.size rs) (hP : Sl w w.heap.size A' p) (hs : m ≤ 1000) (hc : m ≤ c) (hx : c ≤ maxLen) (hn : na ≤ 1048576) :
    Calls Try.prog 13 #[.slice A m c, .int .i64 k, .slice A' na c'] w (Ret (rR ls k p) w) := by
  subst hls hm hp
  unfold rR
  split
  · rename_i h
    exact (rest_place k A A' c c' _ _ w h).mono fun e w' hh => ret_bad' hh
  · rename_i h
    obtain ⟨q, rfl⟩ : ∃ q : Nat, k = q := ⟨k.toNat, by omega⟩
    rw [Int.toNat_natCast]
    have hll := (lists_length rs).symm
    split
    · rename_i hl
      exact (rest_ok q A A' c c' _ _ rs p w hll rfl hA hR hP (by omega) hs hc hx hn hl).mono fun e w' hh => ret_ok hh
    · rename_i hl
      exact (rest_bad q A A' c c' _ _ rs p w hll rfl hA (by omega) hs hc hx hl).mono fun e w' hh => ret_bad hh

set_option maxRecDepth 100000 in
theorem exact_out (A A' A'' A3 : Option Addr) (c c' c'' c3 na nb nd m : Nat) (n miss : Int) (a b d : List UInt8) (rs : List Row) (w : World) (ha : a.length = na) (hb : b.length = nb) (hd : d.length = nd) (hm : rs.length = m) (h3 : SlV w w.heap.size A3 (vals rs)) (h : HeavyP [⟨A, c, a⟩, ⟨A', c', b⟩, ⟨A'', c'', d⟩] ∨ HeavyP rs) :
    Calls Try.prog 3 #[.slice A na c, .slice A' nb c', .slice A'' nd c'', .slice A3 m c3, .int .i64 n, .int .i64 miss] w fun e w' => e = .returned (.bool true) ∧ Below w.heap.size w w' := by
  have cX : ∀ (x : Bool) (t : TypeId), (x = true ↔ HeavyP [⟨A, c, a⟩, ⟨A', c', b⟩, ⟨A'', c'', d⟩]) → Calls Try.prog 9 #[.slice (some ⟨w.heap.size, 0, none⟩) 3 3] (w.alloc (.cells #[.slice A na c, .slice A' nb c', .slice A'' nd c''] t)) fun e w' => e = .returned (.bool x) ∧ (w.alloc (.cells #[.slice A na c, .slice A' nb c', .slice A'' nd c''] t)) = w' := fun x t hx =>
    heavy_any x _ 3 3 (w.heap.size + 1) [⟨A, c, a⟩, ⟨A', c', b⟩, ⟨A'', c'', d⟩] _ rfl (SlV.of_block (heap_alloc_new w _) (by simp [vals, Row.v, ha, hb, hd]) (by omega)) hx
  by_cases h1 : HeavyP [⟨A, c, a⟩, ⟨A', c', b⟩, ⟨A'', c'', d⟩]
  · have cX1 := fun t => cX true t (iff_yes h1)
    clear h h1 h3 ha hb hd hm cX
    go_enter Try.func3, Try.ntmps3
    go_wp2_with (first | (go_at_call 9; (with_reducible refine (cX1 _).mono ?_); rintro e w1 ⟨rfl, rfl⟩))
    go_ret
    exact ⟨rfl, bl w _⟩
  · have cX1 := fun t => cX false t (iff_no h1)
    have cY : ∀ o : Obj, Calls Try.prog 9 #[.slice A3 m c3] (w.alloc o) fun e w' => e = .returned (.bool true) ∧ w.alloc o = w' := fun o => heavy_any true A3 c3 m _ rs _ hm (h3.below (bl w o)) (iff_yes (h.resolve_left h1))
    clear h h1 h3 ha hb hd hm cX
    go_enter Try.func3, Try.ntmps3
    go_wp2_with (first
      | (go_at_call 9; (with_reducible refine (cX1 _).mono ?_); rintro e w1 ⟨rfl, rfl⟩)
      | (go_at_call 9; (with_reducible refine (cY _).mono ?_); rintro e w1 ⟨rfl, rfl⟩))
    go_ret
    exact ⟨rfl, bl w _⟩
set_option maxRecDepth 100000 in
set_option maxHeartbeats 4000000 in
theorem exact_go (A A' A'' A3 : Option Addr) (c c' c'' c3 na nb nd m : Nat) (n miss : Int) (a b d : List UInt8) (rs : List Row) (ls : List (List UInt8)) (w : World) (ha : a.length = na) (hb : b.length = nb) (hd : d.length = nd) (hm : rs.length = m) (hls : lists rs = ls)
    (h1 : ¬ HeavyP [⟨A, c, a⟩, ⟨A', c', b⟩, ⟨A'', c'', d⟩]) (h2 : ¬ HeavyP rs) (hA : Sl w w.heap.size A a) (hB : Sl w w.heap.size A' b) (hD : Sl w w.heap.size A'' d) (h3 : SlV w w.heap.size A3 (vals rs)) (hR : Rws w w.heap.size rs) :
    Calls Try.prog 3 #[.slice A na c, .slice A' nb c', .slice A'' nd c'', .slice A3 m c3, .int .i64 n, .int .i64 miss] w fun e w' => e = .returned (.bool true) ∧ Below w.heap.size w w' := by
  have hna : na ≤ 200 := Nat.le_of_not_lt fun h => h1 (.inr ⟨_, List.mem_cons_self, by show 200 < a.length; omega⟩)
  have hnb : nb ≤ 200 := Nat.le_of_not_lt fun h => h1 (.inr ⟨⟨A', c', b⟩, by simp, by show 200 < b.length; omega⟩)
  have hnd : nd ≤ 200 := Nat.le_of_not_lt fun h => h1 (.inr ⟨⟨A'', c'', d⟩, by simp, by show 200 < d.length; omega⟩)
  have hm20 : m ≤ 20 := Nat.le_of_not_lt fun h => h2 (.inl (by omega))
  have hS : Short 1048576 rs := fun r hr => Nat.le_of_not_lt fun h => h2 (.inr ⟨r, hr, by omega⟩)
  have hlm : ls.length = m := by rw [← hls, lists_length, hm]
  have cX : ∀ t : TypeId, Calls Try.prog 9 #[.slice (some ⟨w.heap.size, 0, none⟩) 3 3] (w.alloc (.cells #[.slice A na c, .slice A' nb c', .slice A'' nd c''] t)) fun e w' => e = .returned (.bool false) ∧ (w.alloc (.cells #[.slice A na c, .slice A' nb c', .slice A'' nd c''] t)) = w' := fun t =>
    heavy_any false _ 3 3 (w.heap.size + 1) [⟨A, c, a⟩, ⟨A', c', b⟩, ⟨A'', c'', d⟩] _ rfl (SlV.of_block (heap_alloc_new w _) (by simp [vals, Row.v, ha, hb, hd]) (by omega)) (iff_no h1)
  have cY : ∀ o : Obj, Calls Try.prog 9 #[.slice A3 m c3] (w.alloc o) fun e w' => e = .returned (.bool false) ∧ w.alloc o = w' := fun o => heavy_any false A3 c3 m _ rs _ hm (h3.below (bl w o)) (iff_no h2)
  have c0 : ∀ o : Obj, Calls Try.prog 10 #[.slice A3 m c3] (w.alloc o) fun e w' => (∃ X k rs', e = .returned (.slice X m k) ∧ m ≤ k ∧ k ≤ maxLen ∧ OwnRows w' 0 (.slice X m k) rs' ls) ∧ Below w.heap.size w w' := fun o => by
    refine (twins_any A3 c3 m rs (w.alloc o) hm ((h3.below (bl w o)).more (bl w o).size) ((hR.below (bl w o)).more (bl w o).size) (by omega) hS).mono ?_
    rintro e w' ⟨⟨v, rs', rfl, ho⟩, hb⟩
    obtain ⟨X, k, rfl, h1, h2, -, -⟩ := ho.1.form
    rw [hls] at ho
    have hv : (vals rs').length = m := by rw [vals_length, ho.len, hlm]
    rw [hv] at h1 ho ⊢
    exact ⟨⟨X, k, rs', rfl, h1, h2, ho.less (Nat.zero_le _)⟩, bt (bl w o) hb⟩
  have c1 : ∀ W, Below w.heap.size w W → _ := fun W hW => two_res A A' c c' na nb a b W ha hb ((hA.below hW).more hW.size) ((hB.below hW).more hW.size) (by omega)
  have c2 : ∀ (W : World) (X : Option Addr) (k : Nat) (rs' : List Row), OwnRows W 0 (.slice X m k) rs' ls → Calls Try.prog 12 #[.slice X m k, .int .i64 n] W (Ret (rA ls n) W) := fun W X k rs' ho => by
    obtain ⟨X0, k0, hv, _, _, hs, _⟩ := ho.1.form
    simp only [Value.slice.injEq] at hv
    exact all_res X k m n rs' ls W ho.2.1 hlm (by rw [hv.1]; exact hs) ho.rws (by omega)
  have c3' : ∀ (W : World) (X : Option Addr) (k : Nat) (rs' : List Row), Below w.heap.size w W → OwnRows W 0 (.slice X m k) rs' ls → m ≤ k → k ≤ maxLen → Calls Try.prog 13 #[.slice X m k, .int .i64 miss, .slice A na c] W (Ret (rR ls miss a) W) := fun W X k rs' hW ho hk hx => by
    obtain ⟨X0, k0, hv, _, _, hs, _⟩ := ho.1.form
    simp only [Value.slice.injEq] at hv
    exact rest_res X A k c m na miss rs' ls a W ho.2.1 hlm ha (by rw [hv.1]; exact hs) ho.rws ((hA.below hW).more hW.size) (by omega) hk hx (by omega)
  have c4 : ∀ W, Below w.heap.size w W → _ := fun W hW => turn_res A A' A'' c c' c'' na nb nd a b d W ha hb hd ((hA.below hW).more hW.size) ((hB.below hW).more hW.size) ((hD.below hW).more hW.size) (by omega)
  have cR : ∀ (W : World) (X : Option Addr) (k : Nat) (rs' : List Row), Below w.heap.size w W → OwnRows W 0 (.slice X m k) rs' ls → Calls Try.prog 20 #[.slice X m k, .slice A3 m c3] W fun e w' => e = .returned (.bool true) ∧ Below W.heap.size W w' := fun W X k rs' hW ho => by
    obtain ⟨X0, k0, hv, _, _, hs, _⟩ := ho.1.form
    simp only [Value.slice.injEq] at hv
    have hS' : Short 1048576 rs' := fun r hr => by
      have hr' : r.l ∈ lists rs := by rw [hls, ← ho.2.1]; exact List.mem_map_of_mem hr
      obtain ⟨r0, h0, h1⟩ := List.mem_map.1 hr'
      rw [← h1]
      exact hS r0 h0
    have := rows_any X A3 k c3 m m rs' rs W (by rw [ho.len, hlm]) hm (by rw [hv.1]; exact hs) ((h3.below hW).more hW.size) ho.rws ((hR.below hW).more hW.size) (by omega) hS'
    rwa [decide_eq_true (by rw [ho.2.1, hls])] at this
  go_enter Try.func3, Try.ntmps3
  go_upto_if 63 with (first
    | (go_at_call 9; (with_reducible refine (cX _).mono ?_); rintro e w1 ⟨rfl, rfl⟩)
    | (go_at_call 9; (with_reducible refine (cY _).mono ?_); rintro e w1 ⟨rfl, rfl⟩)
    | (go_at_call 10; (with_reducible refine (c0 _).mono ?_); rintro e w1 ⟨⟨X1, k1, rs1, rfl, hk1, hx1, ho1⟩, hb1⟩)
    | (go_at_call 11; (with_reducible refine (c1 _ hb1).mono ?_); rintro e w2 ⟨⟨v2, e2, rfl, q2⟩, hb2⟩; have hb12 := bt hb1 hb2; have ho2 := ho1.below hb2)
    | (go_at_call 12; (with_reducible refine (c2 _ _ _ _ ho2).mono ?_); rintro e w3 ⟨⟨v3, e3, rfl, q3⟩, hb3⟩; have hb13 := bt hb12 hb3; have ho3 := ho2.below hb3; have q23 := q2.below hb3)
    | (go_at_call 13; (with_reducible refine (c3' _ _ _ _ hb13 ho3 hk1 hx1).mono ?_); rintro e w4 ⟨⟨v4, e4, rfl, q4⟩, hb4⟩; have hb14 := bt hb13 hb4; have ho4 := ho3.below hb4; have q24 := q23.below hb4; have q34 := q3.below hb4)
    | (go_at_call 14; (with_reducible refine (c4 _ hb14).mono ?_); rintro e w5 ⟨⟨v5, e5, rfl, q5⟩, hb5⟩; have hb15 := bt hb14 hb5; have ho5 := ho4.below hb5; have q25 := q24.below hb5; have q35 := q34.below hb5; have q45 := q4.below hb5))
  clear cX cY c0 c1 c2 c3' c4 q2 q3 q4 q23 q24 q34 hb1 hb2 hb3 hb4 hb5 hb12 hb13 hb14 ho1 ho2 ho3 ho4 hS h1 h2
  have lw := hb15.size
  have cS := fun (W : World) (X Y : Option Addr) (k k' j : Nat) (l : List UInt8) (hl : l.length = j) (hj : j ≤ 1048576) (hX : Sl W W.heap.size X l) (hY : Sl W W.heap.size Y l) => same_any j X Y k k' l W hl hX hY hj
  go_cut [] from 59 (fun wc => Below w5.heap.size w5 wc)
  case first =>
    clear q35 q45 q5 h3 hR hD ho5
    by_cases hab : na = nb
    · subst hab
      have n1 : ((na : Int) != (na : Int)) = false := bne_self_eq_false _
      have q : Res (.ok (zx a b)) v2 e2 w5 := by
        unfold r2 at q25
        rwa [if_pos (ha.trans hb.symm)] at q25
      obtain ⟨rfl, ho⟩ := q
      have hzl : (zx a b).length = na := zx_length ha hb
      obtain ⟨X2, k2, hv2, -, -, hs2, -⟩ := ho.form
      rw [hzl] at hv2
      subst hv2
      have c5 : Calls Try.prog 16 #[.slice A na c, .slice A' na c'] w5 fun e w' => One w5.heap.size (zx a b) e w' ∧ Below w5.heap.size w5 w' := by
        have := ref_two A A' c c' _ _ a b w5 (ha.trans hb.symm) (hA.below hb15) (hB.below hb15) lw lw (by omega)
        rwa [ha] at this
      have HZ := Lib.hid hzl
      have hna' : na ≤ 1048576 := by omega
      clear q25 hzl ho hA hB ha hb
      go_wp2_with (first
        | (go_at_call 16; (with_reducible refine c5.mono ?_); rintro e w6 ⟨⟨v6, rfl, hown6⟩, hb6⟩; obtain ⟨X6, k6, hv6, -, -, hs6, -⟩ := hown6.form; rw [HZ.out] at hv6; subst hv6; have hs26 := hs2.next hb6)
        | (go_at_call 15; (with_reducible refine (cS _ _ _ _ _ _ _ HZ.out hna' hs26 hs6).mono ?_); rintro e w7 ⟨rfl, hb7⟩))
      go_meet
      case rel => exact bt hb6 hb7
    · have q : Res (.error 2) v2 e2 w5 := by
        unfold r2 at q25
        rwa [if_neg (by rw [ha, hb]; exact hab)] at q25
      obtain ⟨rfl, rfl⟩ := q
      have n1 : ((na : Int) != (nb : Int)) = true := bne_iff_ne.2 (by omega)
      have n2 : ((na : Int) == (nb : Int)) = false := beq_eq_false_iff_ne.2 (by omega)
      have n3 : (na != nb) = true := bne_iff_ne.2 hab
      have n4 : (na == nb) = false := beq_eq_false_iff_ne.2 hab
      clear q25 hab
      go_wp2
      go_meet
      case rel => exact Below.refl _ _
  case rest =>
    obtain ⟨w6, rfl⟩ : ∃ x, x = wc := ⟨wc, rfl⟩
    have hb16 := bt hb15 hcut
    have ho6 := ho5.below hcut
    have q36 := q35.below hcut
    have q46 := q45.below hcut
    have q56 := q5.below hcut
    clear hcut hb15 ho5 q35 q45 q5 q25 lw
    go_upto_block 0 with fail
    go_cut [] from 59 (fun wc => Below w6.heap.size w6 wc)
    case first =>
      clear q46 q56 hD ho6 cR hA hB
      have lw := hb16.size
      by_cases hn : n < 0 ∨ 96 < n
      · have q : Res (.error 1) v3 e3 w6 := by
          unfold rA at q36
          rwa [if_pos hn] at q36
        obtain ⟨rfl, rfl⟩ := q
        clear q36
        by_cases hn0 : n < 0
        · clear hn
          go_wp2
          go_meet
          case rel => exact Below.refl _ _
        · have hn1 : 96 < n := by omega
          clear hn
          go_wp2
          go_meet
          case rel => exact Below.refl _ _
      · obtain ⟨k, rfl⟩ : ∃ k : Nat, n = k := ⟨n.toNat, by omega⟩
        have i1 : ¬ (k : Int) < 0 := by omega
        have i2 : ¬ (96 : Int) < (k : Int) := by omega
        by_cases hl : AllLen k ls
        · have q : Res (.ok (xall k ls)) v3 e3 w6 := by
            unfold rA at q36
            rwa [if_neg hn, Int.toNat_natCast, if_pos hl] at q36
          obtain ⟨rfl, ho⟩ := q
          have hzl : (xall k ls).length = k := xall_length hl
          obtain ⟨X2, k2, hv2, -, -, hs2, -⟩ := ho.form
          rw [hzl] at hv2
          subst hv2
          have cL := ref_long true k (-1) A3 c3 m _ rs w6 hm (h3.below hb16) (by omega) (iff_yes (by rw [hls]; exact long_all.2 hl))
          have c5 := ref_all k A3 c3 m rs w6 hm ((h3.below hb16).more lw) ((hR.below hb16).more lw) (by omega) (by omega) (by rw [hls]; exact hl)
          rw [hls] at c5
          have HZ := Lib.hid hzl
          have hk' : k ≤ 1048576 := by omega
          clear q36 hzl ho hl hn h3 hR hls hlm hm
          go_wp2_with (first
            | (go_at_call 17; (with_reducible refine cL.mono ?_); rintro e w6 ⟨rfl, rfl⟩)
            | (go_at_call 18; (with_reducible refine c5.mono ?_); rintro e w7 ⟨⟨v7, rfl, hown7⟩, hb7⟩; obtain ⟨X7, k7, hv7, -, -, hs7, -⟩ := hown7.form; rw [HZ.out] at hv7; subst hv7; have hs27 := hs2.next hb7)
            | (go_at_call 15; (with_reducible refine (cS _ _ _ _ _ _ _ HZ.out hk' hs27 hs7).mono ?_); rintro e w8 ⟨rfl, hb8⟩))
          go_meet
          case rel => exact bt hb7 hb8
        · have q : Res (.error 2) v3 e3 w6 := by
            unfold rA at q36
            rwa [if_neg hn, Int.toNat_natCast, if_neg hl] at q36
          obtain ⟨rfl, rfl⟩ := q
          have cL := ref_long false k (-1) A3 c3 m _ rs w6 hm (h3.below hb16) (by omega) (iff_no (by rw [hls]; exact fun h => hl (long_all.1 h)))
          clear q36 hl hn h3 hR hls hlm hm
          go_wp2_with (first
            | (go_at_call 17; (with_reducible refine cL.mono ?_); rintro e w6 ⟨rfl, rfl⟩))
          go_meet
          case rel => exact Below.refl _ _
    case rest =>
      obtain ⟨w7, rfl⟩ : ∃ x, x = wc := ⟨wc, rfl⟩
      have hb17 := bt hb16 hcut
      have ho7 := ho6.below hcut
      have q47 := q46.below hcut
      have q57 := q56.below hcut
      clear hcut hb16 ho6 q46 q56 q36
      go_upto_block 1 with fail
      go_cut [] from 59 (fun wc => Below w7.heap.size w7 wc)
      case first =>
        clear q57 hD ho7 cR hB
        have lw := hb17.size
        by_cases hn : miss < 0 ∨ (m : Int) ≤ miss
        · have q : Res (.error 9) v4 e4 w7 := by
            unfold rR at q47
            rwa [if_pos (by rw [hlm]; exact hn)] at q47
          obtain ⟨rfl, rfl⟩ := q
          clear q47
          by_cases hn0 : miss < 0
          · clear hn
            go_wp2
            go_meet
            case rel => exact Below.refl _ _
          · have hn1 : (m : Int) ≤ miss := by omega
            clear hn
            go_wp2
            go_meet
            case rel => exact Below.refl _ _
        · obtain ⟨k, rfl⟩ : ∃ k : Nat, miss = k := ⟨miss.toNat, by omega⟩
          have i1 : ¬ (k : Int) < 0 := by omega
          have i2 : ¬ (m : Int) ≤ (k : Int) := by omega
          have hkm : k < ls.length := by omega
          have hlo := long_others (n := na) hkm
          by_cases hl : AllLen na (ls.take k ++ ls.drop (k + 1))
          · have q : Res (.ok (xall na (ls.take k ++ ls.drop (k + 1) ++ [a]))) v4 e4 w7 := by
              unfold rR at q47
              rwa [if_neg (by rw [hlm]; exact hn), Int.toNat_natCast, ha, if_pos hl] at q47
            obtain ⟨rfl, ho⟩ := q
            have hzl : (xall na (ls.take k ++ ls.drop (k + 1) ++ [a])).length = na := xall_length (hl.append (AllLen.cons ha (AllLen.nil na)))
            obtain ⟨X2, k2, hv2, -, -, hs2, -⟩ := ho.form
            rw [hzl] at hv2
            subst hv2
            have cL := ref_long true na k A3 c3 m _ rs w7 hm (h3.below hb17) (by omega) (iff_yes (by rw [hls]; exact hlo.2 hl))
            have c5 := ref_rest k na A3 A c3 c m rs a w7 hm ((h3.below hb17).more lw) ((hR.below hb17).more lw) ((hA.below hb17).more lw) (by omega) (by omega) ha (by omega) (by rw [hls]; exact hl)
            rw [hls] at c5
            have HZ := Lib.hid hzl
            have hk' : na ≤ 1048576 := by omega
            clear q47 hzl ho hl hn h3 hR hls hlm hm hA hkm hlo
            go_wp2_with (first
              | (go_at_call 17; (with_reducible refine cL.mono ?_); rintro e w6 ⟨rfl, rfl⟩)
              | (go_at_call 19; (with_reducible refine c5.mono ?_); rintro e w8 ⟨⟨v8, rfl, hown8⟩, hb8⟩; obtain ⟨X8, k8, hv8, -, -, hs8, -⟩ := hown8.form; rw [HZ.out] at hv8; subst hv8; have hs28 := hs2.next hb8)
              | (go_at_call 15; (with_reducible refine (cS _ _ _ _ _ _ _ HZ.out hk' hs28 hs8).mono ?_); rintro e w9 ⟨rfl, hb9⟩))
            go_meet
            case rel => exact bt hb8 hb9
          · have q : Res (.error 2) v4 e4 w7 := by
              unfold rR at q47
              rwa [if_neg (by rw [hlm]; exact hn), Int.toNat_natCast, ha, if_neg hl] at q47
            obtain ⟨rfl, rfl⟩ := q
            have cL := ref_long false na k A3 c3 m _ rs w7 hm (h3.below hb17) (by omega) (iff_no (by rw [hls]; exact fun h => hl (hlo.1 h)))
            clear q47 hl hn h3 hR hls hlm hm hA hkm hlo
            go_wp2_with (first
              | (go_at_call 17; (with_reducible refine cL.mono ?_); rintro e w6 ⟨rfl, rfl⟩))
            go_meet
            case rel => exact Below.refl _ _
      case rest =>
        obtain ⟨w8, rfl⟩ : ∃ x, x = wc := ⟨wc, rfl⟩
        have hb18 := bt hb17 hcut
        have ho8 := ho7.below hcut
        have q58 := q57.below hcut
        have lw := hb18.size
        clear hcut hb17 ho7 q57 q47 h3 hR
        by_cases hab : na = nb ∧ nb = nd
        · obtain ⟨rfl, rfl⟩ := hab
          have n1 : ((na : Int) != (na : Int)) = false := bne_self_eq_false _
          have q : Res (.ok (zx (zx a b) d)) v5 e5 w8 := by
            unfold r3 at q58
            rwa [if_pos ⟨ha.trans hb.symm, hb.trans hd.symm⟩] at q58
          obtain ⟨rfl, ho⟩ := q
          have hzl : (zx a b).length = na := zx_length ha hb
          have hzz : (zx (zx a b) d).length = na := zx_length hzl hd
          obtain ⟨X2, k2, hv2, -, -, hs2, -⟩ := ho.form
          rw [hzz] at hv2
          subst hv2
          have c5 : Calls Try.prog 16 #[.slice A na c, .slice A' na c'] w8 fun e w' => One w8.heap.size (zx a b) e w' ∧ Below w8.heap.size w8 w' := by
            have := ref_two A A' c c' _ _ a b w8 (ha.trans hb.symm) (hA.below hb18) (hB.below hb18) lw lw (by omega)
            rwa [ha] at this
          have c6 : ∀ (W : World) (X : Option Addr) (k : Nat), Below w.heap.size w W → Sl W W.heap.size X (zx a b) → Calls Try.prog 16 #[.slice X na k, .slice A'' na c''] W fun e w' => One W.heap.size (zx (zx a b) d) e w' ∧ Below W.heap.size W w' := fun W X k hW hX => by
            have := ref_two X A'' k c'' _ _ (zx a b) d W (hzl.trans hd.symm) hX (hD.below hW) (Nat.le_refl _) hW.size (by omega)
            rwa [hzl] at this
          have HZ := Lib.hid hzl
          have HY := Lib.hid hzz
          have hna' : na ≤ 1048576 := by omega
          clear q58 hzl hzz ho hA hB hD ha hb hd hls hlm hm
          go_wp2_with (first
            | (go_at_call 16; (with_reducible refine c5.mono ?_); rintro e w9 ⟨⟨v9, rfl, hown9⟩, hb9⟩; obtain ⟨X9, k9, hv9, -, -, hs9, -⟩ := hown9.form; rw [HZ.out] at hv9; subst hv9; have hb19 := bt hb18 hb9)
            | (go_at_call 16; (with_reducible refine (c6 _ _ _ hb19 hs9).mono ?_); rintro e w10 ⟨⟨v10, rfl, hown10⟩, hb10⟩; obtain ⟨X10, k10, hv10, -, -, hs10, -⟩ := hown10.form; rw [HY.out] at hv10; subst hv10; have hbA := bt hb19 hb10; have hs2A := (hs2.next hb9).next hb10)
            | (go_at_call 15; (with_reducible refine (cS _ _ _ _ _ _ _ HY.out hna' hs2A hs10).mono ?_); rintro e w11 ⟨rfl, hb11⟩; have hbB := bt hbA hb11; have hoB := ((ho8.below hb9).below hb10).below hb11)
            | (go_at_call 20; (with_reducible refine (cR _ _ _ _ hbB hoB).mono ?_); rintro e w12 ⟨rfl, hb12⟩; have hbC := bt hbB hb12)
            | (go_at_call 21; (with_reducible refine (wakes_any _).mono ?_); rintro e w13 ⟨rfl, hb13⟩))
          go_ret
          exact ⟨rfl, bt hbC hb13⟩
        · have q : Res (.error 2) v5 e5 w8 := by
            unfold r3 at q58
            rwa [if_neg (by rw [ha, hb, hd]; exact hab)] at q58
          obtain ⟨rfl, rfl⟩ := q
          clear q58 hA hB hD ha hb hd hls hlm hm
          by_cases hab1 : na = nb
          · subst hab1
            have hab2 : na ≠ nd := fun h => hab ⟨rfl, h⟩
            have n1 : ((na : Int) != (nd : Int)) = true := bne_iff_ne.2 (by omega)
            have n2 : ((na : Int) == (nd : Int)) = false := beq_eq_false_iff_ne.2 (by omega)
            have n3 : (na != nd) = true := bne_iff_ne.2 hab2
            have n4 : (na == nd) = false := beq_eq_false_iff_ne.2 hab2
            have n5 : ((na : Int) != (na : Int)) = false := bne_self_eq_false _
            clear hab hab2
            go_wp2_with (first
              | (go_at_call 20; (with_reducible refine (cR _ _ _ _ hb18 ho8).mono ?_); rintro e w12 ⟨rfl, hb12⟩; have hbC := bt hb18 hb12)
              | (go_at_call 21; (with_reducible refine (wakes_any _).mono ?_); rintro e w13 ⟨rfl, hb13⟩))
            go_ret
            exact ⟨rfl, bt hbC hb13⟩
          · have n1 : ((na : Int) != (nb : Int)) = true := bne_iff_ne.2 (by omega)
            have n2 : ((na : Int) == (nb : Int)) = false := beq_eq_false_iff_ne.2 (by omega)
            have n3 : (na != nb) = true := bne_iff_ne.2 hab1
            have n4 : (na == nb) = false := beq_eq_false_iff_ne.2 hab1
            clear hab hab1
            go_wp2_with (first
              | (go_at_call 20; (with_reducible refine (cR _ _ _ _ hb18 ho8).mono ?_); rintro e w12 ⟨rfl, hb12⟩; have hbC := bt hb18 hb12)
              | (go_at_call 21; (with_reducible refine (wakes_any _).mono ?_); rintro e w13 ⟨rfl, hb13⟩))
            go_ret
            exact ⟨rfl, bt hbC hb13⟩
theorem xorExact_law (A A' A'' A3 : Option Addr) (c c' c'' c3 : Nat) (n miss : Int) (a b d : List UInt8) (rs : List Row) (w : World)
    (hA : Sl w w.heap.size A a) (hB : Sl w w.heap.size A' b) (hD : Sl w w.heap.size A'' d) (h3 : SlV w w.heap.size A3 (vals rs)) (hR : Rws w w.heap.size rs) :
    Calls Try.prog 3 #[.slice A a.length c, .slice A' b.length c', .slice A'' d.length c'', .slice A3 rs.length c3, .int .i64 n, .int .i64 miss] w fun e w' => e = .returned (.bool true) ∧ Below w.heap.size w w' := by
  by_cases h : HeavyP [⟨A, c, a⟩, ⟨A', c', b⟩, ⟨A'', c'', d⟩] ∨ HeavyP rs
  · exact exact_out A A' A'' A3 c c' c'' c3 _ _ _ _ n miss a b d rs w rfl rfl rfl rfl h3 h
  · exact exact_go A A' A'' A3 c c' c'' c3 _ _ _ _ n miss a b d rs _ w rfl rfl rfl rfl rfl (fun k => h (.inl k)) (fun k => h (.inr k)) hA hB hD h3 hR
end Go.Proofs.Ytgpgjbdjjanhaaa.par
