/-
  Package casematekeep, as far as it is about lists of byte strings: Rows tells whether they are the same, TwinRows copies. Conditions: lists and byte strings shorter than 2^20.
-/
import Derived.Test.YthdahdopejapmaaKeep
import Derived.Test.YthdahdopejapmaaSlices
import Derived.Deep.RegionHeld3
namespace Go.Proofs.Ythdahdopejapmaa
open Go.RowKit Go.Lib

set_option maxRecDepth 100000 in
theorem rows_long (A A' : Option Addr) (c c' m n : Nat) (w : World) (h : m ≠ n) :
    Calls Try.prog 14 #[.slice A m c, .slice A' n c'] w fun e w' => e = .returned (.bool false) ∧ Below w.heap.size w w' := by
  have h1 : ((m : Int) == (n : Int)) = false := beq_eq_false_iff_ne.2 (by omega)
  have h2 : ((m : Int) != (n : Int)) = true := bne_iff_ne.2 (by omega)
  have h3 : (m == n) = false := beq_eq_false_iff_ne.2 h
  have h4 : (m != n) = true := bne_iff_ne.2 h
  go_enter Try.func14, Try.ntmps14
  go_wp2
  go_ret
  exact ⟨rfl, Below.refl _ _⟩
def Short (n : Nat) (rs : List Row) : Prop := ∀ r ∈ rs, r.l.length ≤ n
set_option maxRecDepth 100000 in
set_option maxHeartbeats 1000000 in
theorem rows_short (A A' : Option Addr) (c c' n : Nat) (a b : List Row) (w : World) (ha : a.length = n) (hb : b.length = n) (hA : SlV w w.heap.size A (vals a)) (hA' : SlV w w.heap.size A' (vals b)) (hR : Rws w w.heap.size a) (hR' : Rws w w.heap.size b) (hn : n ≤ 1048576) (hs : Short 1048576 a) :
    Calls Try.prog 14 #[.slice A n c, .slice A' n c'] w fun e w' => e = .returned (.bool (decide (lists a = lists b))) ∧ Below w.heap.size w w' := by
  have hla : (lists a).length = n := by rw [lists_length, ha]
  have hlb : (lists b).length = n := by rw [lists_length, hb]
  go_enter Try.func14, Try.ntmps14
  go_wp2
  go_loopw [5] (fun i w' => ∃ k : Nat, k ≤ n ∧ i = .int .i64 k ∧ (lists a).take k = (lists b).take k ∧ Below w.heap.size w w') (fun i _ => n - (RowKit.intOf i).toNat)
  case atStart => exact ⟨0, by omega, rfl, rfl, Below.refl _ _⟩
  case round =>
    rename_i wr
    obtain ⟨k, hk, rfl, hs2, hbr⟩ := hrel
    by_cases hlt : k < n
    · obtain ⟨b1, off, x, rfl, hb1, g, m1, hx, -, e1⟩ := row_at (hA.below hbr) (hR.below hbr) (show k < a.length by omega)
      obtain ⟨b2, off', y, rfl, hb2, g', m2, -, -, e2⟩ := row_at (hA'.below hbr) (hR'.below hbr) (show k < b.length by omega)
      have i1 : (k : Int) < (n : Int) := by omega
      have m3 := hs _ hx
      have H1 : Hid (x.l = y.l → (lists a).take (k + 1) = (lists b).take (k + 1)) := fun h => by
        rw [take_next e1, take_next e2, hs2, h]
      have H2 : Hid (x.l ≠ y.l → decide (lists a = lists b) = false) := fun h => by
        refine decide_eq_false fun hx => h ?_
        rw [hx, e2] at e1
        exact (Option.some.inj e1).symm
      have lw := hbr.size
      have cB : ∀ W, Below wr.heap.size wr W → Calls Try.prog 24 #[.slice x.A x.l.length x.c, .slice y.A y.l.length y.c] W fun e w' => e = .returned (.bool (decide (x.l = y.l))) ∧ Below W.heap.size W w' := fun W hW =>
        keep_any _ _ _ _ w.heap.size w.heap.size _ _ W (m1.below (hW.mono lw)) (m2.below (hW.mono lw)) (Nat.le_trans lw hW.size) (Nat.le_trans lw hW.size) m3
      clear m1 m2 m3 hs2 e1 e2 hA hA' hR hR' hs hla hlb ha hb hx
      go_wp2_with fail
      go_region_held3 (fun W => W.cell? ⟨b1, off + k, none⟩ = some (.slice x.A x.l.length x.c) ∧ W.cell? ⟨b2, off' + k, none⟩ = some (.slice y.A y.l.length y.c) ∧ Below wr.heap.size wr W)
        (first
          | exact ⟨g, g', below_dr (Below.refl _ _)⟩
          | (go_split_ands
             refine ⟨?_, ?_, ?_⟩
             · (rw [hbx.cell (p := ⟨b1, off + k, none⟩) (by simp; omega)]; assumption)
             · (rw [hbx.cell (p := ⟨b2, off' + k, none⟩) (by simp; omega)]; assumption)
             · exact bt (by assumption) hbx))
        (first
          | (go_at_call 24; (with_reducible refine (cB _ (by first | assumption | exact below_dr (Below.refl _ _) | exact below_dn (Below.refl _ _) _)).mono ?_); rintro e wx ⟨rfl, hbx⟩))
      have hbw := bt hbr (bt (below_dr (Below.refl _ _)) hbx)
      by_cases he : x.l = y.l
      · have hd : decide (x.l = y.l) = true := decide_eq_true he
        have hs3 := H1.out he
        simp only [hd]
        clear hd he H1 H2
        have H3 := Lib.hid hs3
        clear hs3
        go_wp2
        go_roundw
        case rel => exact ⟨k + 1, by omega, by go_num, H3.out, hbw⟩
        case measure => simp [RowKit.intOf]; omega
      · have hd : decide (x.l = y.l) = false := decide_eq_false he
        have hs3 := H2.out he
        simp only [hd]
        clear hd he H1 H2
        have H3 := Lib.hid hs3
        clear hs3
        go_wp2
        go_ret
        exact ⟨ret_bool H3.out.symm, hbw⟩
    · have H : Hid (decide (lists a = lists b) = true) := by
        show decide (lists a = lists b) = true
        rw [List.take_of_length_le (by omega), List.take_of_length_le (by omega)] at hs2
        exact decide_eq_true hs2
      go_wp2
      go_ret
      exact ⟨ret_bool H.out.symm, hbr⟩
theorem rows_any (A A' : Option Addr) (c c' m n : Nat) (a b : List Row) (w : World) (ha : a.length = m) (hb : b.length = n) (hA : SlV w w.heap.size A (vals a)) (hA' : SlV w w.heap.size A' (vals b)) (hR : Rws w w.heap.size a) (hR' : Rws w w.heap.size b) (hn : m ≤ 1048576) (hs : Short 1048576 a) :
    Calls Try.prog 14 #[.slice A m c, .slice A' n c'] w fun e w' => e = .returned (.bool (decide (lists a = lists b))) ∧ Below w.heap.size w w' := by
  by_cases h : m = n
  · subst h
    exact rows_short A A' c c' m a b w ha hb hA hA' hR hR' hn hs
  · have hf : decide (lists a = lists b) = false := decide_eq_false fun k => h (by have := congrArg List.length k; rw [lists_length, lists_length] at this; omega)
    rw [hf]
    exact rows_long A A' c c' _ _ w h

theorem b_info : (Try.prog.info? 29).map (fun i => (i.zero, i.size, i.bytes)) = some (some (.slice none 0 0), 1, 24) := by kernel_rfl
theorem tv : TV Try.prog 27 29 (.slice none 0 0) 24 := by
  refine ⟨Try.underlying27, rfl, ?_⟩
  have h := b_info
  cases hi : Try.prog.info? 29 with
  | none => rw [hi] at h; cases h
  | some i =>
    rw [hi] at h
    simp only [Option.map_some, Option.some.injEq, Prod.mk.injEq] at h
    exact ⟨i, rfl, h.1, h.2.1, h.2.2⟩
theorem srcV_one {P : Program} (w : World) {tx e' : TypeId} (hk : P.underlying tx = some (.slice e')) (x : Value) (hx : x.oneCell' = true) (t : TypeId) : Src P 1 tx (.slice (some ⟨w.heap.size, 0, none⟩) 1 1) [x].length [x] (w.alloc (.cells #[x] t)) :=
  (SlV.of_block (vs := [x]) (heap_alloc_new w _) rfl (Nat.lt_succ_self _)).src (fun u hu => by rw [List.mem_singleton] at hu; subst hu; exact hx) hk 1

theorem own_apart {w : World} {base base' : Nat} {e e' : TypeId} {v v' : Value} {l : List UInt8} {vs : List Value} (h : Own w base e v l) (k : OwnV w base' e' v' vs) (he : e ≠ e') : v.ownBlock = none ∨ v.ownBlock ≠ v'.ownBlock := by
  rcases h.2 with ⟨rfl, _⟩ | ⟨g, cap, cur, rfl, _, hg, _⟩
  · exact .inl rfl
  · right
    rcases k.2 with ⟨rfl, _⟩ | ⟨g', cap', cur', rfl, _, hg', _⟩
    · simp [Value.ownBlock]
    · intro hh
      simp only [Value.ownBlock, Option.some.injEq] at hh
      subst hh
      rw [hg] at hg'
      simp only [Option.some.injEq, Obj.cells.injEq] at hg'
      exact he hg'.2.1
theorem u8_other : 5 ≠ 29 := by decide

/-- Rows of the call's own (from block base on) with the bytes ls. -/
def OwnRows (w : World) (base : Nat) (v : Value) (rs : List Row) (ls : List (List UInt8)) : Prop :=
  OwnV w base 29 v (vals rs) ∧ lists rs = ls ∧ ∀ r ∈ rs, Own w base 5 r.v r.l
theorem row_sl {w : World} {base : Nat} {e : TypeId} {r : Row} (h : Own w base e r.v r.l) : Sl w w.heap.size r.A r.l := by
  obtain ⟨A, c, hv, _, _, hs, _⟩ := h.form
  unfold Row.v at hv
  simp only [Value.slice.injEq] at hv
  rw [hv.1]
  exact hs
theorem OwnRows.rws {w : World} {base : Nat} {v : Value} {rs : List Row} {ls : List (List UInt8)} (h : OwnRows w base v rs ls) : Rws w w.heap.size rs := fun r hr => row_sl (h.2.2 r hr)
theorem OwnRows.below {w w' : World} {base : Nat} {v : Value} {rs : List Row} {ls : List (List UInt8)} (h : OwnRows w base v rs ls) (hb : Below w.heap.size w w') : OwnRows w' base v rs ls :=
  ⟨h.1.below hb, h.2.1, fun r hr => (h.2.2 r hr).below hb⟩
theorem OwnRows.alloc {w : World} {base : Nat} {v : Value} {rs : List Row} {ls : List (List UInt8)} (h : OwnRows w base v rs ls) (o : Obj) : OwnRows (w.alloc o) base v rs ls :=
  ⟨h.1.alloc o, h.2.1, fun r hr => (h.2.2 r hr).alloc o⟩
/-- One row more, appended. -/
theorem OwnRows.more {w w' : World} {base : Nat} {v v' : Value} {rs : List Row} {ls : List (List UInt8)} (h : OwnRows w base v rs ls) {r : Row} (hr : Own w base 5 r.v r.l) (hv : OwnV w' base 29 v' (vals rs ++ [r.v])) (hg : w.grownBy w' v.ownBlock) :
    OwnRows w' base v' (rs ++ [r]) (ls ++ [r.l]) := by
  refine ⟨by rw [vals_append]; exact hv, by rw [lists_append, h.2.1]; rfl, fun q hq => ?_⟩
  have hq' : Own w base 5 q.v q.l := by
    rcases List.mem_append.1 hq with k | k
    · exact h.2.2 q k
    · rw [List.mem_singleton] at k
      rw [k]
      exact hr
  exact hq'.kept hg (own_apart hq' h.1 u8_other)
theorem OwnRows.len {w : World} {base : Nat} {v : Value} {rs : List Row} {ls : List (List UInt8)} (h : OwnRows w base v rs ls) : rs.length = ls.length := by
  rw [← h.2.1, lists_length]
theorem OwnRows.at {w : World} {base n : Nat} {v : Value} {rs : List Row} {ls : List (List UInt8)} (h : OwnRows w base v rs ls) (hn : ls.length = n) (h0 : 0 < n) : ∃ g c, v = .slice (some ⟨g, 0, none⟩) n c ∧ n ≤ c ∧ c ≤ maxLen ∧ base ≤ g ∧ g < w.heap.size := by
  have hv : (vals rs).length = n := by rw [vals_length, h.len, hn]
  obtain ⟨g, c, h1, h2, h3, h4, h5⟩ := h.1.at (by omega)
  rw [hv] at h1 h2
  exact ⟨g, c, h1, h2, h3, h4, h5⟩
/-- One row exchanged. -/
theorem OwnRows.set {w : World} {base g n c : Nat} {rs : List Row} {ls : List (List UInt8)} (h : OwnRows w base (.slice (some ⟨g, 0, none⟩) n c) rs ls) (hn : ls.length = n) (k : Nat) {r : Row} (hr : Own w base 5 r.v r.l) :
    OwnRows (w.setCell ⟨g, k, none⟩ r.v) base (.slice (some ⟨g, 0, none⟩) n c) (rs.set k r) (ls.set k r.l) ∧ w.grownBy (w.setCell ⟨g, k, none⟩ r.v) (some g) := by
  obtain ⟨h1, hg⟩ := h.1.store (by rw [vals_length, h.len, hn]) k r.v
  refine ⟨⟨by unfold vals; rw [List.map_set]; exact h1, by rw [← h.2.1]; unfold lists; rw [List.map_set], fun q hq => ?_⟩, hg⟩
  have hq' : Own w base 5 q.v q.l := by
    rcases List.mem_or_eq_of_mem_set hq with k | rfl
    · exact h.2.2 q k
    · exact hr
  exact hq'.kept hg (own_apart hq' h.1 u8_other)
theorem srcV_at {P : Program} {W : World} {tx e' : TypeId} (hk : P.underlying tx = some (.slice e')) (x : Value) (hx : x.oneCell' = true) (t : TypeId) (g : Nat) (fr : Nat × Nat) (hg : W.heap[g]? = some (.cells #[x] t fr)) : Src P 1 tx (.slice (some ⟨g, 0, none⟩) 1 1) [x].length [x] W := by
  have hlt : g < W.heap.size := by
    rcases Nat.lt_or_ge g W.heap.size with k | k
    · exact k
    · rw [Array.getElem?_eq_none k] at hg; cases hg
  exact (SlV.of_block (vs := [x]) hg rfl hlt).src (fun u hu => by rw [List.mem_singleton] at hu; subst hu; exact hx) hk 1
/-- One row more, in a region that draws. -/
theorem step_more (w : World) {ops : Array Oper} {o : Oper} {a : Act} {K : Act → World → Prop} {Q : Exit → Act → World → Prop} {E : Prop} (hgd : o.guard = none) (s x : Operand)
    (ho : o.op = .call { callee := .builtin .append, args := #[s, x], argTypes := #[27, 27] })
    (base : Nat) (v : Value) (rs : List Row) (ls : List (List UInt8)) (hv : a.eval s = v) (hor : OwnRows w base v rs ls) (u : Value) (r : Row) (hu : a.eval x = u) (hs : Src Try.prog 1 27 u [r.v].length [r.v] w) (hr : Own w base 5 r.v r.l)
    (hlen : ls.length ≤ 1048576) (hbase : base ≤ w.heap.size)
    (h : ∀ v' w', OwnRows w' base v' (rs ++ [r]) (ls ++ [r.l]) → Below base w w' → K (a.put o.dst v') w') :
    if Region.wanted o (yielded ops a.tmps) = true then Oper.wp Try.prog o a w K Q else E := by
  have hl : (vals rs).length = ls.length := by rw [vals_length, hor.len]
  refine step_appV w hgd s x _ _ ho base 29 tv v (vals rs) hv hor.1 u [r.v] hu hs (by rw [hl]; unfold maxLen; simp; omega) (by rw [hl]; simp; omega) hbase ?_
  intro v' w' hown hg _
  exact h v' w' (hor.more hr hown hg) ((Below.refl _ _).mono hbase |>.grown hg hbase (fun q hq => (World.ownsRow.lt hor.1 q hq).1))
/-- Any rows more. -/
theorem step_rows (w : World) {ops : Array Oper} {o : Oper} {a : Act} {K : Act → World → Prop} {Q : Exit → Act → World → Prop} {E : Prop} (hgd : o.guard = none) (s x : Operand)
    (ho : o.op = .call { callee := .builtin .append, args := #[s, x], argTypes := #[27, 27] })
    (base : Nat) (v : Value) (rs : List Row) (ls : List (List UInt8)) (hv : a.eval s = v) (hor : OwnRows w base v rs ls) (u : Value) (xs : List Row) (hu : a.eval x = u) (hs : Src Try.prog 1 27 u (vals xs).length (vals xs) w)
    (hlen : ls.length + xs.length ≤ 1048576) (hbase : base ≤ w.heap.size)
    (h : ∀ v' w', OwnV w' base 29 v' (vals (rs ++ xs)) → Rws w' w'.heap.size rs → Below base w w' → K (a.put o.dst v') w') :
    if Region.wanted o (yielded ops a.tmps) = true then Oper.wp Try.prog o a w K Q else E := by
  have hl : (vals rs).length = ls.length := by rw [vals_length, hor.len]
  have hx : (vals xs).length = xs.length := vals_length xs
  refine step_appV w hgd s x _ _ ho base 29 tv v (vals rs) hv hor.1 u (vals xs) hu hs (by rw [hl, hx]; unfold maxLen; omega) (by rw [hl, hx]; omega) hbase ?_
  intro v' w' hown hg _
  exact h v' w' (by rw [vals_append]; exact hown) (fun r hr => row_sl ((hor.2.2 r hr).kept hg (own_apart (hor.2.2 r hr) hor.1 u8_other))) ((Below.refl _ _).mono hbase |>.grown hg hbase (fun q hq => (World.ownsRow.lt hor.1 q hq).1))
theorem own_nil_row (w : World) (base : Nat) : Own w base 5 (Row.v ⟨none, 0, []⟩) [] := own_nil w base _

set_option maxRecDepth 100000 in
set_option maxHeartbeats 1000000 in
theorem twins_any (A : Option Addr) (c n : Nat) (a : List Row) (w : World) (ha : a.length = n) (hA : SlV w w.heap.size A (vals a)) (hR : Rws w w.heap.size a) (hn : n ≤ 1048576) (hs : Short 1048576 a) :
    Calls Try.prog 10 #[.slice A n c] w fun e w' => (∃ v rs, e = .returned v ∧ OwnRows w' w.heap.size v rs (lists a)) ∧ Below w.heap.size w w' := by
  have hla : (lists a).length = n := by rw [lists_length, ha]
  go_enter Try.func10, Try.ntmps10
  go_wp2
  go_loopw [3, 4] (fun v i w' => ∃ (k : Nat) (rs : List Row), k ≤ n ∧ i = .int .i64 k ∧ OwnRows w' w.heap.size v rs ((lists a).take k) ∧ Below w.heap.size w w') (fun _ i _ => n - (RowKit.intOf i).toNat)
  case atStart => exact ⟨0, [], by omega, rfl, ⟨ownV_nil _ _ _, rfl, fun r hr => by cases hr⟩, Below.refl _ _⟩
  case round =>
    rename_i wr
    obtain ⟨k, rs, hk, rfl, hor, hbr⟩ := hrel
    have hown := hor.1
    have hls := hor.2.1
    by_cases hlt : k < n
    · obtain ⟨b1, off, x, rfl, hb1, g, m1, hx, -, e1⟩ := row_at (hA.below hbr) (hR.below hbr) (show k < a.length by omega)
      have i1 : (k : Int) < (n : Int) := by omega
      have m3 := hs _ hx
      have hlk : rs.length = k := by
        have := congrArg List.length hls
        rw [lists_length, List.length_take] at this
        omega
      have HS := Lib.hid hls
      have HL : Hid (lists rs ++ [x.l] = (lists a).take (k + 1)) := by
        show _ = _
        rw [take_next e1, hls]
      have lw := hbr.size
      clear e1 hA hR hs hla ha hx hls
      go_wp2_with (first
        | (go_at_call 30; (with_reducible refine (twin_any _ _ _ _ _ m1 m3).mono ?_); rintro e w1 ⟨⟨v1, rfl, hown1⟩, hb2⟩; obtain ⟨X, cx, hv, -, -, hs1, -⟩ := hown1.form; subst hv; have hown2 := (hown.below hb2).alloc (.cells #[.slice X x.l.length cx] 29); have hv1 := vals_length rs)
        | (at_builtin
           refine wpList_appV _ rfl (.tmp 11) (.tmp 17) _ _ rfl w.heap.size 29 tv _ (vals rs) rfl hown2 _ [.slice X x.l.length cx] rfl (srcV_one w1 Try.underlying27 _ rfl _) (by rw [hv1]; unfold maxLen; simp; omega) (by rw [hv1]; simp; omega) (by have := hb2.size; simp; omega) ?_
           intro v2 w2 hown3 hg3 hat3))
      have hmore := ((hor.below hb2).alloc (.cells #[.slice X x.l.length cx] 29)).more (r := ⟨X, cx, x.l⟩) ((hown1.alloc _).less lw) hown3 hg3
      have hbw := ((bt hbr hb2).alloc (Nat.le_trans lw hb2.size) (.cells #[.slice X x.l.length cx] 29)).grown hg3 (by have := hb2.size; simp; omega) (fun q hq => (World.ownsRow.lt hown q hq).1)
      go_roundw
      case rel => exact ⟨k + 1, rs ++ [⟨X, cx, x.l⟩], by omega, by go_num, by rw [← HL.out, HS.out]; exact hmore, hbw⟩
      case measure => simp [RowKit.intOf]; omega
    · rw [List.take_of_length_le (by omega)] at hor
      clear hls
      go_wp2
      go_ret
      exact ⟨⟨_, rs, rfl, hor⟩, hbr⟩
end Go.Proofs.Ythdahdopejapmaa
