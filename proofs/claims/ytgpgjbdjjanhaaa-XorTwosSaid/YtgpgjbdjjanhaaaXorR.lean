/-
  Rest of package xor, with the library's Grow and Concat of lists of byte strings. Conditions: lists shorter than 2^20.
-/
import Derived.Test.YtgpgjbdjjanhaaaXorA
import Derived.Test.YtgpgjbdjjanhaaaKeepRows
import Derived.Deep.RegionHeld3
namespace Go.Proofs.Ytgpgjbdjjanhaaa.par
open Go.RowKit Go.Lib

/-- append of k nil rows onto nil. -/
theorem grow_run (k : Nat) (ty : TypeId) (w : World) (h0 : 0 < k) (hk : k ≤ 1048576) :
    ∃ (cap : Nat) (cur : Array Value), cap ≤ maxLen ∧ cur.size = cap ∧ (Builtin.append_ #[23, 3] ty #[.slice none 0 0, .int .i64 (k : Int)]).run Try.prog w = .ok (.slice (some ⟨w.heap.size, 0, none⟩) k cap) (w.drew.alloc (.cells cur 22)) := by
  obtain ⟨ht, hz1, i, hi, hz, h1, hb⟩ := tv
  have hr := run_append_grow_zeros (P := Try.prog) w 23 3 ty 22 i (.slice none 0 0) .i64 .i64 ht Try.underlying3 hi hz none 0 0 [] (run_firstCells_none w.drew i.size 0 0 0) k h0 (by omega) (by omega) (by omega) (by rw [hb]; omega) (growslice_fits (by omega) (by rw [hb]; omega))
  rw [Nat.zero_add] at hr
  have hge := grownCap_ge w k 0 22
  refine ⟨_, _, grownCap_le_maxLen w k 0 22 (by unfold maxLen; omega), ?_, hr⟩
  simp [size_zeroCells, hz1]
  omega
theorem grow_any (k : Nat) (w : World) (hk : k ≤ 1048576) :
    Calls Try.prog 25 #[.slice none 0 0, .int .i64 k] w fun e w' => (∃ v, e = .returned v ∧ OwnV w' w.heap.size 22 v []) ∧ Below w.heap.size w w' := by
  by_cases h0 : k = 0
  · subst h0
    go_enter Try.func25, Try.ntmps25
    go_wp2
    go_ret
    exact ⟨⟨_, rfl, ownV_nil _ _ _⟩, Below.refl _ _⟩
  · have i1 : (0 : Int) < (k : Int) := by omega
    have i2 : ¬ (k : Int) < 0 := by omega
    obtain ⟨cap, cur, hm, hs, hr⟩ := grow_run k 23 w (by omega) hk
    go_enter Try.func25, Try.ntmps25
    go_wp2_with (first
      | (at_builtin
         refine wpList_appRun _ rfl (.tmp 20) (.tmp 21) _ _ rfl _ _ _ _ rfl rfl hr ?_))
    go_ret
    exact ⟨⟨_, rfl, World.ownsRow_made w.drew cur cap (Nat.le_refl _) hm (by omega)⟩, below_dr (Below.refl _ _) |>.trans (bl w.drew _)⟩
set_option maxHeartbeats 1000000 in
theorem concat_any (A : Option Addr) (c B : Nat) (qs : List VRow) (w : World) (hA : SlV w B A (vvals qs)) (hQ : VRws w B qs) (hB : B ≤ w.heap.size) (hq : qs.length ≤ 1048576) (hl : (flat qs).length ≤ 1048576) :
    Calls Try.prog 24 #[.slice A qs.length c] w fun e w' => (∃ v, e = .returned v ∧ OwnV w' w.heap.size 22 v (flat qs)) ∧ Below w.heap.size w w' := by
  go_enter Try.func24, Try.ntmps24
  go_wp2
  go_loop [3, 5, 11] (fun s _ i => ∃ k : Nat, i = .int .i64 k ∧ k ≤ qs.length ∧ s = .int .i64 ((flat (qs.take k)).length : Nat)) (fun _ _ i => qs.length - (RowKit.intOf i).toNat)
  case atStart => exact ⟨0, rfl, by omega, rfl⟩
  case round =>
    obtain ⟨k, rfl, hk, rfl⟩ := hrel
    by_cases hlt : k < qs.length
    · have i1 : (k : Int) < (qs.length : Int) := by omega
      obtain ⟨b, off, rfl, hb, hc⟩ := hA (by rw [vvals_length]; omega)
      have g := hc k (by rw [vvals_length]; omega)
      rw [vvals_get] at g
      have hn : (flat (qs.take (k + 1))).length = (flat (qs.take k)).length + (qs[k]'hlt).vs.length := by rw [flat_next qs k hlt, List.length_append]
      have hle := flat_take_le qs (k + 1)
      have HN := Lib.hid hn
      rw [hn] at hle
      clear hn hc hA hQ
      generalize (flat (qs.take k)).length = s at *
      generalize (qs[k]'hlt).vs.length = m at *
      have i2 : ¬ (s : Int) + (m : Int) < 0 := by omega
      go_wp2
      go_round
      case rel => exact ⟨k + 1, by go_num, by omega, by rw [HN.out]; go_num⟩
      case measure => simp [RowKit.intOf]; omega
    · have i1 : ¬ (k : Int) < (qs.length : Int) := by omega
      rw [List.take_of_length_le (by omega)]
      generalize hS : (flat qs).length = S at *
      have HS := Lib.hid hS
      clear hS
      go_wp2_with (go_at_call 25; (with_reducible refine (grow_any _ _ hl).mono ?_); rintro e w1 ⟨⟨v, rfl, hown1⟩, hb1⟩)
      clear i1 hlt
      go_loopw [6, 8, 27] (fun v _ i w' => ∃ k : Nat, i = .int .i64 k ∧ k ≤ qs.length ∧ OwnV w' w.heap.size 22 v (flat (qs.take k)) ∧ Below w.heap.size w w') (fun _ _ i _ => qs.length - (RowKit.intOf i).toNat)
      case atStart => exact ⟨0, rfl, by omega, hown1, hb1⟩
      case round =>
        rename_i wr
        obtain ⟨j, rfl, hj, hown, hbr⟩ := hrel
        by_cases hlt : j < qs.length
        · have i1 : (j : Int) < (qs.length : Int) := by omega
          obtain ⟨b, off, rfl, hb, hc⟩ := (hA.below (hbr.mono hB)) (by rw [vvals_length]; omega)
          have g := hc j (by rw [vvals_length]; omega)
          rw [vvals_get] at g
          have hqs := hQ _ (List.getElem_mem hlt)
          have hsl := hqs.1.below (hbr.mono hB)
          have hon := hqs.2
          have hn := flat_next qs j hlt
          have hle := flat_take_le qs (j + 1)
          rw [HS.out, hn, List.length_append] at hle
          have HN := Lib.hid hn
          clear hn hc hA hQ hqs
          generalize flat (qs.take j) = F at *
          generalize (qs[j]'hlt).vs = vs at *
          generalize (qs[j]'hlt).A = X at *
          generalize (qs[j]'hlt).c = x at *
          go_wp2_with (first
            | (at_builtin
               refine wpList_appV _ rfl (.tmp 31) (.tmp 32) _ _ rfl w.heap.size 22 tv _ F rfl hown _ vs rfl (hsl.src hon Try.underlying23 x) (by unfold maxLen; omega) (by omega) hbr.size ?_
               intro v2 w2 hown2 hg2 hat2))
          have hb2 := hbr.grown hg2 hbr.size (fun q hq => (World.ownsRow.lt hown q hq).1)
          go_roundw
          case rel => exact ⟨j + 1, by go_num, by omega, by rw [HN.out]; exact hown2, hb2⟩
          case measure => simp [RowKit.intOf]; omega
        · have i1 : ¬ (j : Int) < (qs.length : Int) := by omega
          rw [List.take_of_length_le (by omega)] at hown
          go_wp2
          go_ret
          exact ⟨⟨_, rfl, hown⟩, hbr⟩
theorem rest_place (m : Int) (A A' : Option Addr) (c c' n n' : Nat) (w : World) (hm : m < 0 ∨ (n : Int) ≤ m) :
    Calls Try.prog 13 #[.slice A n c, .int .i64 m, .slice A' n' c'] w fun e w' => e = .returned (.tuple #[.slice none 0 0, .int .i64 9]) ∧ w = w' := by
  by_cases h : m < 0
  · clear hm
    go_enter Try.func13, Try.ntmps13
    go_wp2
    go_ret2
    exact ⟨rfl, rfl⟩
  · have h2 : (n : Int) ≤ m := by omega
    clear hm
    go_enter Try.func13, Try.ntmps13
    go_wp2
    go_ret2
    exact ⟨rfl, rfl⟩
/-- The rows but the one at k, and p behind them. -/
def others (rs : List Row) (k : Nat) (p : Row) : List Row := rs.take k ++ rs.drop (k + 1) ++ [p]
theorem others_length {rs : List Row} {k : Nat} (h : k < rs.length) (p : Row) : (others rs k p).length = rs.length := by
  unfold others
  rw [List.length_append, List.length_append, List.length_take, List.length_drop, List.length_singleton]
  omega
theorem others_rws {w : World} {B : Nat} {rs : List Row} (h : Rws w B rs) (k : Nat) {p : Row} (hp : Sl w B p.A p.l) : Rws w B (others rs k p) := ((h.take k).append (h.drop (k + 1))).append (Rws.one hp)
theorem others_lists (rs : List Row) (k : Nat) (p : Row) : lists (others rs k p) = (lists rs).take k ++ (lists rs).drop (k + 1) ++ [p.l] := by simp [others, lists, List.map_take, List.map_drop]
theorem drop_slv {w : World} {B b off c k : Nat} {rs : List Row} (h : SlV w B (some ⟨b, off, none⟩) (vals rs)) (hc : rs.length ≤ c) :
    SlV w B (if c = k + 1 then some ⟨b, off, none⟩ else some ⟨b, off + (k + 1), none⟩) (vals (rs.drop (k + 1))) := by
  by_cases hk : c = k + 1
  · rw [List.drop_eq_nil_of_le (by omega)]
    exact SlV.nil _ _ _
  · rw [if_neg hk, vals_drop]
    exact h.drop (k + 1)
theorem rest_concat (k : Nat) (A' A2 : Option Addr) (b off c c' n n' m2 c2 : Nat) (t1 t2 : TypeId) (rs : List Row) (p : List UInt8) (w : World) (hrl : rs.length = n) (hpl : p.length = n') (hA : SlV w w.heap.size (some ⟨b, off, none⟩) (vals rs)) (hd0 : SlV w w.heap.size A2 (vals (rs.drop (k + 1)))) (hm2 : n - (k + 1) = m2) (hk : k < n) (hn : n ≤ 1000) :
    Calls Try.prog 24 #[.slice (some ⟨w.heap.size + 1, 0, none⟩) 3 3] ((w.alloc (.cells #[.slice A' n' c'] t1)).alloc (.cells #[.slice (some ⟨b, off, none⟩) k c, .slice A2 m2 c2, .slice (some ⟨w.heap.size, 0, none⟩) 1 1] t2)).drew
      fun e w' => (∃ v, e = .returned v ∧ OwnV w' w.heap.size 22 v (vals (others rs k ⟨A', c', p⟩))) ∧ Below w.heap.size w w' := by
  generalize ho1 : Obj.cells #[Value.slice A' n' c'] t1 = o1
  generalize ho2 : Obj.cells #[.slice (some ⟨b, off, none⟩) k c, .slice A2 m2 c2, .slice (some ⟨w.heap.size, 0, none⟩) 1 1] t2 = o2
  have h1 : (((w.alloc o1).alloc o2).drew).heap[w.heap.size]? = some o1 := by
    have := heap_alloc_old (w.alloc o1) o2 (r := w.heap.size) (by simp)
    exact this.trans (heap_alloc_new w o1)
  have h2 : (((w.alloc o1).alloc o2).drew).heap[w.heap.size + 1]? = some o2 := by
    have := heap_alloc_new (w.alloc o1) o2
    rwa [show (w.alloc o1).heap.size = w.heap.size + 1 by simp] at this
  have hb : Below w.heap.size w ((w.alloc o1).alloc o2).drew := below_dr (((Below.refl _ _).alloc (Nat.le_refl _) _).alloc (by simp) _)
  have hs : ((w.alloc o1).alloc o2).drew.heap.size = w.heap.size + 2 := by
    show ((w.alloc o1).alloc o2).heap.size = _
    simp
  generalize ((w.alloc o1).alloc o2).drew = W at *
  subst ho1 ho2
  have hA1 := hA.below hb
  have hd := hd0.below hb
  have ht : SlV W w.heap.size (some ⟨b, off, none⟩) (vals (rs.take k)) := by rw [vals_take]; exact hA1.take k
  have hp : SlV W W.heap.size (some ⟨w.heap.size, 0, none⟩) (vals [⟨A', c', p⟩]) := SlV.of_block h1 (by simp [vals, Row.v, hpl]) (by omega)
  have hl1 : (vals (rs.take k)).length = k := by rw [vals_length, List.length_take]; omega
  have hl2 : (vals (rs.drop (k + 1))).length = m2 := by rw [vals_length, List.length_drop]; omega
  have hf : flat [⟨some ⟨b, off, none⟩, c, vals (rs.take k)⟩, ⟨A2, c2, vals (rs.drop (k + 1))⟩, ⟨some ⟨w.heap.size, 0, none⟩, 1, vals [⟨A', c', p⟩]⟩] = vals (others rs k ⟨A', c', p⟩) := by
    simp [flat, others, vals_append]
  have := concat_any (some ⟨w.heap.size + 1, 0, none⟩) 3 W.heap.size [⟨some ⟨b, off, none⟩, c, vals (rs.take k)⟩, ⟨A2, c2, vals (rs.drop (k + 1))⟩, ⟨some ⟨w.heap.size, 0, none⟩, 1, vals [⟨A', c', p⟩]⟩] W
    (SlV.of_block h2 (by simp only [vvals, List.map_cons, List.map_nil, VRow.v, hl1, hl2]; rfl) (by omega))
    (fun q hq => by
      simp only [List.mem_cons, List.not_mem_nil, or_false] at hq
      rcases hq with rfl | rfl | rfl
      · exact ⟨ht.more (by omega), vals_one _⟩
      · exact ⟨hd.more (by omega), vals_one _⟩
      · exact ⟨hp, vals_one _⟩)
    (Nat.le_refl _) (by simp) (by rw [hf, vals_length, others_length (by omega)]; omega)
  rw [hf] at this
  refine this.mono ?_
  rintro e w' ⟨⟨v, rfl, hv⟩, hb'⟩
  exact ⟨⟨v, rfl, hv.less (by omega)⟩, hb.trans (hb'.mono (by omega))⟩

/-- An answer of two, of which Q holds. -/
def Two (Q : Value → Int → World → Prop) (e : Ending) (w' : World) : Prop := ∃ v x, e = .returned (.tuple #[v, .int .i64 x]) ∧ Q v x w'
set_option maxHeartbeats 1000000 in
theorem rest_walk (k : Nat) (A A' : Option Addr) (c c' n n' : Nat) (rs : List Row) (p : List UInt8) (w : World) (Q : Value → Int → World → Prop) (hrl : rs.length = n) (hpl : p.length = n') (hA : SlV w w.heap.size A (vals rs))
    (hk : k < n) (hn : n ≤ 1000) (hc : n ≤ c) (hm : c ≤ maxLen)
    (cT : ∀ (W : World) (X : Option Addr) (x : Nat), SlV W W.heap.size X (vals (others rs k ⟨A', c', p⟩)) → Below w.heap.size w W → Calls Try.prog 23 #[.int .i64 n', .slice X n x] W (Two Q)) :
    Calls Try.prog 13 #[.slice A n c, .int .i64 k, .slice A' n' c'] w (Two Q) := by
  obtain ⟨b, off, rfl, -, -⟩ := hA (by rw [vals_length]; omega)
  have i1 : (0 : Int) ≤ (k : Int) := by omega
  have i2 : (k : Int) < (n : Int) := by omega
  have i3 : (k : Int) ≤ (c : Int) := by omega
  have i4 : (k : Int) + 1 ≤ (n : Int) := by omega
  have i6 : (0 : Int) ≤ (k : Int) + 1 := by omega
  have i8 : ¬ (k : Int) < 0 := by omega
  have i9 : (k : Int) + 1 ≤ (c : Int) := by omega
  have w1 : IntKind.i64.wrap ((k : Int) + 1) = (k : Int) + 1 := wrap_small _ (by omega) (by unfold maxLen at hm; omega)
  have hd0 := drop_slv (k := k) hA (by omega : rs.length ≤ c)
  have cC := fun A2 m2 c2 t1 t2 h h2 => rest_concat k A' A2 b off c c' n n' m2 c2 t1 t2 rs p w hrl hpl hA h h2 hk hn
  have HL : Hid ((vals (others rs k ⟨A', c', p⟩)).length = n) := by
    show _ = _
    rw [vals_length, others_length (by omega), hrl]
  generalize vals (others rs k ⟨A', c', p⟩) = vs at *
  by_cases hck : c = k + 1
  · obtain rfl : n = k + 1 := by omega
    subst hck
    rw [if_pos rfl] at hd0
    have cC := fun t1 t2 => cC _ 0 0 t1 t2 hd0 (Nat.sub_self _)
    have j1 : ¬ ((k : Int) + 1 ≤ (k : Int)) := by omega
    have j2 : (k : Int) ≤ (k : Int) + 1 := by omega
    have j3 : (k : Int) < (k : Int) + 1 := by omega
    clear i2 i3 i4 i9
    clear hA hpl hrl hd0
    go_enter Try.func13, Try.ntmps13
    go_wp2
    go_region_held3 (fun _ => True) (trivial) (first
      | (go_at_call 24; (with_reducible refine (cC _ _).mono ?_); rintro e w1 ⟨⟨v, rfl, hown⟩, hb1⟩; obtain ⟨X, cx, hv, -, -, hs, -⟩ := hown.form; rw [HL.out] at hv; subst hv)
      | (go_at_call 23; (with_reducible refine (cT _ _ _ hs hb1).mono ?_); rintro e w2 ⟨v, x, rfl, hq⟩))
    go_wp2
    go_ret2
    exact ⟨v, x, rfl, hq⟩
  · rw [if_neg hck] at hd0
    have i10 : ¬ (c : Int) = (k : Int) + 1 := by omega
    have cC := fun t1 t2 => cC _ _ (c - (k + 1)) t1 t2 hd0 rfl
    clear hA hpl hrl hd0
    go_enter Try.func13, Try.ntmps13
    go_wp2
    go_region_held3 (fun _ => True) (trivial) (first
      | (go_at_call 24; (with_reducible refine (cC _ _).mono ?_); rintro e w1 ⟨⟨v, rfl, hown⟩, hb1⟩; obtain ⟨X, cx, hv, -, -, hs, -⟩ := hown.form; rw [HL.out] at hv; subst hv)
      | (go_at_call 23; (with_reducible refine (cT _ _ _ hs hb1).mono ?_); rintro e w2 ⟨v, x, rfl, hq⟩))
    go_wp2
    go_ret2
    exact ⟨v, x, rfl, hq⟩
theorem rest_ok (k : Nat) (A A' : Option Addr) (c c' n n' : Nat) (rs : List Row) (p : List UInt8) (w : World) (hrl : rs.length = n) (hpl : p.length = n') (hA : SlV w w.heap.size A (vals rs)) (hR : Rws w w.heap.size rs) (hP : Sl w w.heap.size A' p)
    (hk : k < n) (hn : n ≤ 1000) (hc : n ≤ c) (hm : c ≤ maxLen) (hn' : n' ≤ 1048576) (hl : AllLen n' ((lists rs).take k ++ (lists rs).drop (k + 1))) :
    Calls Try.prog 13 #[.slice A n c, .int .i64 k, .slice A' n' c'] w fun e w' => Ans w.heap.size (xall n' ((lists rs).take k ++ (lists rs).drop (k + 1) ++ [p])) e w' ∧ Below w.heap.size w w' := by
  refine (rest_walk k A A' c c' n n' rs p w (fun v x w' => x = 0 ∧ Own w' w.heap.size 5 v (xall n' ((lists rs).take k ++ (lists rs).drop (k + 1) ++ [p])) ∧ Below w.heap.size w w') hrl hpl hA hk hn hc hm ?_).mono ?_
  · intro W X x hX hW
    have := together_ok n' X x W.heap.size (others rs k ⟨A', c', p⟩) W hX ((others_rws (hR.below hW) k (hP.below hW)).more hW.size) (Nat.le_refl _) hn' (by rw [others_length (by omega)]; omega) (by rw [others_lists]; exact hl.append (AllLen.cons hpl (AllLen.nil _)))
    rw [others_length (by omega), others_lists, hrl] at this
    refine this.mono ?_
    rintro e w' ⟨⟨v, rfl, hv⟩, hb⟩
    exact ⟨v, 0, rfl, rfl, hv.less hW.size, bt hW hb⟩
  · rintro e w' ⟨v, x, rfl, rfl, ho, hb⟩
    exact ⟨⟨v, rfl, ho⟩, hb⟩
theorem rest_bad (k : Nat) (A A' : Option Addr) (c c' n n' : Nat) (rs : List Row) (p : List UInt8) (w : World) (hrl : rs.length = n) (hpl : p.length = n') (hA : SlV w w.heap.size A (vals rs))
    (hk : k < n) (hn : n ≤ 1000) (hc : n ≤ c) (hm : c ≤ maxLen) (hl : ¬ AllLen n' ((lists rs).take k ++ (lists rs).drop (k + 1))) :
    Calls Try.prog 13 #[.slice A n c, .int .i64 k, .slice A' n' c'] w fun e w' => e = .returned (.tuple #[.slice none 0 0, .int .i64 2]) ∧ Below w.heap.size w w' := by
  refine (rest_walk k A A' c c' n n' rs p w (fun v x w' => v = .slice none 0 0 ∧ x = 2 ∧ Below w.heap.size w w') hrl hpl hA hk hn hc hm ?_).mono ?_
  · intro W X x hX hW
    have := together_bad n' X x W.heap.size (others rs k ⟨A', c', p⟩) W hX (by rw [others_length (by omega)]; omega) (by rw [others_lists]; exact fun h => hl h.left)
    rw [others_length (by omega), hrl] at this
    refine this.mono ?_
    rintro e w' ⟨rfl, rfl⟩
    exact ⟨_, 2, rfl, rfl, rfl, hW⟩
  · rintro e w' ⟨v, x, rfl, rfl, rfl, hb⟩
    exact ⟨rfl, hb⟩
end Go.Proofs.Ytgpgjbdjjanhaaa.par
