/-
  Rows of numbers put and got, by the program, each by its contract. Conditions: rows shorter than 2^20.
-/
import Derived.Test.YtldknkikekaifaaPkB
import Derived.Test.YtldknkikekaifaaKeepInts
namespace Go.Proofs.Ytldknkikekaifaa.pck
open Go.RowKit Go.Lib

/-- Each number fits in its size. -/
def AllFit (ps : List (Int × Int)) : Prop := ∀ p ∈ ps, Fits p.1 p.2
/-- The numbers, each in its size, one behind the other. -/
def bytesOf (ps : List (Int × Int)) : List UInt8 := ps.flatMap fun p => le p.2.toNat p.1.toNat
theorem bytesOf_append (a b : List (Int × Int)) : bytesOf (a ++ b) = bytesOf a ++ bytesOf b := by simp [bytesOf]
theorem bytesOf_le {ps : List (Int × Int)} (h : AllFit ps) : (bytesOf ps).length ≤ 4 * ps.length := by
  induction ps with
  | nil => simp [bytesOf]
  | cons p ps ih =>
    have h1 := ih fun q hq => h q (List.mem_cons_of_mem _ hq)
    obtain ⟨k, m, hs, -, hk, -⟩ := h p List.mem_cons_self
    have h2 : bytesOf (p :: ps) = le p.2.toNat p.1.toNat ++ bytesOf ps := by simp [bytesOf]
    rw [h2, List.length_append, le_length, hs, Int.toNat_natCast, List.length_cons]
    have := hk.le4
    omega

set_option maxRecDepth 100000 in
theorem row_len (n m : Nat) (A A' : Option Addr) (c c' : Nat) (w : World) (h : n ≠ m) :
    Calls Try.prog 30 #[.slice A n c, .slice A' m c'] w fun e w' => e = .returned (.tuple #[.slice none 0 0, .int .i64 2]) ∧ w = w' := by
  have h1 : ((n : Int) == (m : Int)) = false := beq_eq_false_iff_ne.2 (by omega)
  have h2 : ((n : Int) != (m : Int)) = true := bne_iff_ne.2 (by omega)
  have h3 : (n == m) = false := beq_eq_false_iff_ne.2 h
  have h4 : (n != m) = true := bne_iff_ne.2 h
  go_enter Try.func30, Try.ntmps30
  go_wp2
  go_ret2
  exact ⟨rfl, rfl⟩

/-- What Row answers where there are as many sizes as numbers. -/
def Rowed (base : Nat) (ps : List (Int × Int)) (e : Ending) (w' : World) : Prop :=
  (AllFit ps ∧ Put base (bytesOf ps) e w') ∨ (¬ AllFit ps ∧ e = .returned (.tuple #[.slice none 0 0, .int .i64 1]))
set_option maxRecDepth 100000 in
set_option maxHeartbeats 1000000 in
theorem row_any (n : Nat) (A A' : Option Addr) (c c' : Nat) (ps : List (Int × Int)) (w : World) (hn : ps.length = n) (hl : n ≤ 1048576) (hA : SlV w w.heap.size A (ints (ps.map (·.1)))) (hA' : SlV w w.heap.size A' (ints (ps.map (·.2)))) :
    Calls Try.prog 30 #[.slice A n c, .slice A' n c'] w fun e w' => Rowed w.heap.size ps e w' ∧ Below w.heap.size w w' := by
  have n1 : ((n : Int) != (n : Int)) = false := bne_self_eq_false _
  go_enter Try.func30, Try.ntmps30
  go_wp2
  go_loopw [6, 7, 8, 9, 10, 18] (fun v _ _ _ _ i w' => ∃ k : Nat, k ≤ n ∧ i = .int .i64 k ∧ AllFit (ps.take k) ∧ Own w' w.heap.size 5 v (bytesOf (ps.take k)) ∧ Below w.heap.size w w') (fun _ _ _ _ _ i _ => n - (RowKit.intOf i).toNat)
  case atStart => exact ⟨0, by omega, rfl, fun p hp => by simp at hp, own_nil _ _ _, Below.refl _ _⟩
  case round =>
    rename_i wr
    obtain ⟨k, hk, rfl, hf, hown, hbr⟩ := hrel
    by_cases hlt : k < n
    · obtain ⟨b1, off, rfl, hb, hc⟩ := (hA.below hbr) (by rw [ints_length, List.length_map]; omega)
      obtain ⟨b2, off', rfl, hb', hc'⟩ := (hA'.below hbr) (by rw [ints_length, List.length_map]; omega)
      have g := hc k (by rw [ints_length, List.length_map]; omega)
      have g' := hc' k (by rw [ints_length, List.length_map]; omega)
      rw [ints_get, List.getElem_map] at g g'
      have i1 : (k : Int) < (n : Int) := by omega
      have hkp : k < ps.length := by omega
      have ht := List.take_succ_eq_append_getElem hkp
      have hmem : ps[k] ∈ ps := List.getElem_mem hkp
      have hle := bytesOf_le hf
      rw [List.length_take] at hle
      generalize ps[k] = p at *
      obtain ⟨x, y⟩ := p
      by_cases hfit : Fits x y
      · have H : Hid (AllFit (ps.take (k + 1)) ∧ bytesOf (ps.take (k + 1)) = bytesOf (ps.take k) ++ le y.toNat x.toNat) := by
          refine ⟨?_, ?_⟩
          · rw [ht]
            intro q hq
            rcases List.mem_append.1 hq with hq | hq
            · exact hf q hq
            · rw [List.mem_singleton] at hq
              subst hq
              exact hfit
          · rw [ht, bytesOf_append]
            simp [bytesOf]
        obtain ⟨s, m, hs, hx, hk4, hm⟩ := hfit
        subst hs hx
        have cS := fun W => sized_ok s m W hk4 hm
        have cW := fun (W : World) (hW : Below wr.heap.size wr W) => write_any s m w.heap.size _ _ W hk4 hm (hown.below hW) (by have := hbr.size; have := hW.size; omega) (by omega)
        generalize box s m = z at *
        generalize bytesOf (ps.take k) = bs at *
        clear hc hc' hA hA' ht hmem hf hn
        go_wp2_with (first
          | (go_at_call 45; (with_reducible refine (cS _).mono ?_); rintro e w1 ⟨rfl, rfl⟩)
          | (go_at_call 46; (with_reducible refine (cW _ (Below.refl _ _)).mono ?_); rintro e w2 ⟨⟨v2, rfl, hown2⟩, hb2⟩))
        go_roundw
        case rel => exact ⟨k + 1, by omega, by go_num, H.out.1, by rw [H.out.2]; exact hown2, hbr.trans hb2⟩
        case measure => simp [RowKit.intOf]; omega
      · have H : Hid (¬ AllFit ps) := fun h => hfit (h _ hmem)
        have cS := fun W => sized_no x y W hfit
        clear hc hc' hA hA' ht hmem hf hn hfit
        go_wp2_with (first
          | (go_at_call 45; (with_reducible refine (cS _).mono ?_); rintro e w1 ⟨rfl, rfl⟩))
        go_ret2
        exact ⟨.inr ⟨H.out, rfl⟩, hbr⟩
    · rw [List.take_of_length_le (by omega)] at hf hown
      go_wp2
      go_ret2
      exact ⟨.inl ⟨hf, _, rfl, hown⟩, hbr⟩

/-- What Unrow comes to: the numbers and the rest, or the error of the first one that has one. -/
def unrow : List Int → List UInt8 → Except Int (List Int × List UInt8)
  | [], b => .ok ([], b)
  | s :: ss, b =>
    if s = 1 ∨ s = 2 ∨ s = 4 then
      if b.length < s.toNat then .error 4
      else match unrow ss (b.drop s.toNat) with
        | .ok (l, r) => .ok ((num (b.take s.toNat) : Int) :: l, r)
        | .error x => .error x
    else .error 1
/-- The same, behind numbers that were read already. -/
def behind (l : List Int) : Except Int (List Int × List UInt8) → Except Int (List Int × List UInt8)
  | .ok (t, r) => .ok (l ++ t, r)
  | .error x => .error x
theorem behind_nil (r : Except Int (List Int × List UInt8)) : behind [] r = r := by
  cases r with
  | ok p => rfl
  | error x => rfl
theorem behind_next {l : List Int} {s : Int} {ss : List Int} {b : List UInt8} (hs : s = 1 ∨ s = 2 ∨ s = 4) (hb : ¬ b.length < s.toNat) :
    behind l (unrow (s :: ss) b) = behind (l ++ [(num (b.take s.toNat) : Int)]) (unrow ss (b.drop s.toNat)) := by
  rw [unrow, if_pos hs, if_neg hb]
  cases unrow ss (b.drop s.toNat) with
  | ok p => simp [behind]
  | error x => rfl
/-- What Unrow answers. -/
def Unrowed (base : Nat) (r : Except Int (List Int × List UInt8)) (e : Ending) (w' : World) : Prop :=
  match r with
  | .ok (l, b) => ∃ v u, e = .returned (.tuple #[v, u, .int .i64 0]) ∧ OwnV w' base 3 v (ints l) ∧ Own w' base 5 u b
  | .error x => e = .returned (.tuple #[.slice none 0 0, .slice none 0 0, .int .i64 x])
set_option maxRecDepth 100000 in
set_option maxHeartbeats 2000000 in
theorem unrow_any (n m : Nat) (A A' : Option Addr) (c c' : Nat) (l : List UInt8) (ss : List Int) (w : World) (hn : l.length = n) (hm : ss.length = m) (hl : m ≤ 1048576) (hc : n ≤ c) (hx : c ≤ maxLen) (hl2 : n ≤ 4294967296) (hA : Sl w w.heap.size A l) (hA' : SlV w w.heap.size A' (ints ss)) :
    Calls Try.prog 49 #[.slice A n c, .slice A' m c'] w fun e w' => Unrowed w.heap.size (unrow ss l) e w' ∧ Below w.heap.size w w' := by
  have HU : Hid (behind [] (unrow (ss.drop 0) l) = unrow ss l) := by
    show _ = _
    rw [behind_nil, List.drop_zero]
  generalize unrow ss l = res at *
  go_enter Try.func49, Try.ntmps49
  go_wp2
  go_loopw [4, 5, 6, 8, 9, 13] (fun v u q _ _ i w' => ∃ (k : Nat) (d : List Int) (r : List UInt8) (X : Option Addr) (x : Nat), k ≤ m ∧ i = .int .i64 k ∧ q = .int .i64 0 ∧ d.length = k ∧ Hid (behind d (unrow (ss.drop k) r) = res) ∧ OwnV w' w.heap.size 3 v (ints d) ∧ u = .slice X r.length x ∧ r.length ≤ n ∧ r.length ≤ x ∧ x ≤ maxLen ∧ Sl w' w.heap.size X r ∧ Below w.heap.size w w') (fun _ _ _ _ _ i _ => m - (RowKit.intOf i).toNat)
  case atStart => exact ⟨0, [], l, A, c, by omega, rfl, rfl, rfl, HU, ownV_nil _ _ _, by rw [hn], by omega, by omega, hx, hA, Below.refl _ _⟩
  case round =>
    clear HU hA hc hx
    rename_i wr
    obtain ⟨k, d, r, X, x, hk, rfl, rfl, hd, H, hown, rfl, hr1, hr2, hx, hs, hbr⟩ := hrel
    have lw := hbr.size
    by_cases hlt : k < m
    · obtain ⟨b2, off', rfl, hb', hc'⟩ := (hA'.below hbr) (by rw [ints_length]; omega)
      have g' := hc' k (by rw [ints_length]; omega)
      rw [ints_get] at g'
      have i1 : (k : Int) < (m : Int) := by omega
      have hkp : k < ss.length := by omega
      have ht : ss.drop k = ss[k] :: ss.drop (k + 1) := List.drop_eq_getElem_cons hkp
      generalize ss[k] = s at *
      by_cases hsz : s = 1 ∨ s = 2 ∨ s = 4
      · obtain ⟨z, rfl⟩ : ∃ z : Nat, s = z := ⟨s.toNat, by omega⟩
        have hz : Sz z := by unfold Sz; omega
        by_cases hsh : r.length < z
        · have cT := fun W => take_short r.length x z X W hz hsh
          have HR : Hid (res = .error 4) := by
            show res = _
            rw [← H.out, ht, unrow, if_pos hsz, if_pos (by rw [Int.toNat_natCast]; exact hsh)]
            rfl
          clear hc' hA' ht hs hsh hsz H hn hm
          go_wp2_with (first
            | (go_at_call 56; (with_reducible refine (cT _).mono ?_); rintro e w1 ⟨rfl, rfl⟩))
          go_ret3
          exact ⟨by rw [HR.out]; rfl, hbr⟩
        · have cT := take_ok z r.length w.heap.size X x r wr hz rfl (by omega) hr2 hx lw hs
          have HR : Hid (behind (d ++ [(num (r.take z) : Int)]) (unrow (ss.drop (k + 1)) (r.drop z)) = res) := by
            show _ = res
            rw [← H.out, ht, behind_next hsz (by rw [Int.toNat_natCast]; exact hsh), Int.toNat_natCast]
          have hrl : (r.drop z).length = r.length - z := List.length_drop
          unfold Took at cT
          generalize num (r.take z) = y at *
          generalize r.drop z = r' at *
          clear hc' hA' ht hs hsh hsz H hn hm
          go_wp2_with (first
            | (go_at_call 56; (with_reducible refine cT.mono ?_); rintro e w1 ⟨⟨b', o', x', rfl, hs1, hx1, hx2⟩, hb1⟩)
            | (at_builtin
               refine wpList_appV _ rfl (.tmp 27) (.tmp 29) _ _ rfl w.heap.size 3 tvI _ (ints d) rfl ((hown.below hb1).alloc _) _ [.int .i64 y] rfl ((SlV.of_block (vs := [.int .i64 (y : Int)]) (heap_alloc_new _ _) rfl (Nat.lt_succ_self _)).src (ints_one [(y : Int)]) Try.underlying35 1) ?_ ?_ ?_ ?_
               · rw [ints_length]; unfold maxLen; simp; omega
               · rw [ints_length]; simp; omega
               · have := hb1.size; simp; omega
               intro v2 w2 hown2 hg2 hat2))
          have hb2 : Below w.heap.size w w2 := ((bt hbr hb1).alloc (Nat.le_trans lw hb1.size) _).grown hg2 (by have := hb1.size; simp; omega) (fun q hq => (World.ownsRow.lt hown q hq).1)
          have hs2 : Sl w2 w.heap.size (some ⟨b', o', none⟩) r' := by
            have h1 : Below w.heap.size w1 w2 := (((Below.refl _ _).alloc (Nat.le_trans lw hb1.size) _).grown hg2 (by have := hb1.size; simp; omega) (fun q hq => (World.ownsRow.lt hown q hq).1))
            exact hs1.below h1
          go_roundw
          case rel => exact ⟨k + 1, d ++ [(y : Int)], r', _, _, by omega, by go_num, rfl, by simp; omega, HR, by rw [ints_append]; exact hown2, by rw [hrl], by omega, by omega, hx2, hs2, hb2⟩
          case measure => simp [RowKit.intOf]; omega
      · have cT := fun W => take_arg r.length x s X W hsz
        have HR : Hid (res = .error 1) := by
          show res = _
          rw [← H.out, ht, unrow, if_neg hsz]
          rfl
        clear hc' hA' ht hs hsz H hn hm
        go_wp2_with (first
          | (go_at_call 56; (with_reducible refine (cT _).mono ?_); rintro e w1 ⟨rfl, rfl⟩))
        go_ret3
        exact ⟨by rw [HR.out]; rfl, hbr⟩
    · have cC := clone_any X x w.heap.size r.length r wr rfl hs (by omega)
      have HR : Hid (res = .ok (d, r)) := by
        show res = _
        rw [← H.out, List.drop_eq_nil_of_le (by omega)]
        simp [unrow, behind]
      clear hA' H hn hm
      go_wp2_with (first
        | (go_at_call 57; (with_reducible refine cC.mono ?_); rintro e w1 ⟨⟨v1, rfl, hown1⟩, hb1⟩))
      go_ret3
      exact ⟨by rw [HR.out]; exact ⟨_, _, rfl, hown.below hb1, hown1.less lw⟩, bt hbr hb1⟩
end Go.Proofs.Ytldknkikekaifaa.pck
