/-
  casematekeep.Gots: whether two rows of readings are the same. Conditions: rows and byte strings shorter than 2^20.
-/
import Derived.Test.YtdjleimndolonaaDoorNwV
import Derived.Test.YtdjleimndolonaaDoorGAn
import Derived.Test.YtdjleimndolonaaDoorKeep
import Derived.Deep.RegionHeld3
import Derived.Deep.QuietTactic
import Derived.BigQuiet
namespace Go.Proofs.YtdjleimndolonaaDoor.nwt
open Go.RowKit Go.Lib
open Go.Proofs.YtdjleimndolonaaDoor.anc (bl kal kst ks bm ka take_same take_other row_apart row_form row_below)

def GShort (n : Nat) (rs : List GotR) : Prop := ∀ r ∈ rs, r.l.length ≤ n
theorem keep_bin (r r' : GotR) (W : World) (h : BIn W W.heap.size r) (h' : BIn W W.heap.size r') (hl : r.l.length ≤ 1048576) :
    Calls Tryd.prog 20 #[.slice r.A r.l.length r.c, .slice r'.A r'.l.length r'.c] W fun e w' => e = .returned (.bool (decide (r.l = r'.l))) ∧ Below W.heap.size W w' :=
  keep_any _ _ _ _ _ _ _ _ W h.1 h'.1 (Nat.le_refl _) (Nat.le_refl _) hl

set_option maxRecDepth 100000 in
theorem gots_long (A A' : Option Addr) (c c' m n : Nat) (w : World) (h : m ≠ n) :
    Calls Tryd.prog 13 #[.slice A m c, .slice A' n c'] w fun e w' => e = .returned (.bool false) ∧ Below w.heap.size w w' := by
  have h1 : ((m : Int) == (n : Int)) = false := beq_eq_false_iff_ne.2 (by omega)
  have h2 : ((m : Int) != (n : Int)) = true := bne_iff_ne.2 (by omega)
  have h3 : (m == n) = false := beq_eq_false_iff_ne.2 h
  have h4 : (m != n) = true := bne_iff_ne.2 h
  go_enter Tryd.func13, Tryd.ntmps13
  go_wp2
  go_ret
  exact ⟨rfl, Below.refl _ _⟩
set_option maxRecDepth 100000 in
set_option maxHeartbeats 4000000 in
theorem gots_short (A A' : Option Addr) (c c' n : Nat) (a b : List GotR) (w : World) (ha : a.length = n) (hb : b.length = n) (hA : SlV w w.heap.size A (gvs a)) (hA' : SlV w w.heap.size A' (gvs b)) (hR : GIn w w.heap.size a) (hR' : GIn w w.heap.size b) (hn : n ≤ 1048576) (hs : GShort 1048576 a) :
    Calls Tryd.prog 13 #[.slice A n c, .slice A' n c'] w fun e w' => e = .returned (.bool (decide (gds a = gds b))) ∧ Below w.heap.size w w' := by
  have hla : (gds a).length = n := by rw [gds_length, ha]
  have hlb : (gds b).length = n := by rw [gds_length, hb]
  go_enter Tryd.func13, Tryd.ntmps13
  go_wp2
  go_loopw [5] (fun i w' => ∃ k : Nat, k ≤ n ∧ i = .int .i64 k ∧ (gds a).take k = (gds b).take k ∧ Below w.heap.size w w') (fun i _ => n - (RowKit.intOf i).toNat)
  case atStart => exact ⟨0, by omega, rfl, rfl, Below.refl _ _⟩
  case round =>
    rename_i wr
    obtain ⟨k, hk, rfl, hs2, hbr⟩ := hrel
    by_cases hlt : k < n
    · obtain ⟨b1, off, x, rfl, hb1, g, g1, m1, hx, -, e1⟩ := got_at (hA.below hbr) (hR.below hbr) (show k < a.length by omega)
      obtain ⟨b2, off', y, rfl, hb2, g', g1', m2, -, -, e2⟩ := got_at (hA'.below hbr) (hR'.below hbr) (show k < b.length by omega)
      have i1 : (k : Int) < (n : Int) := by omega
      have m3 := hs _ hx
      have lw := hbr.size
      by_cases hax : x.e = y.e
      · have cB : ∀ W, Below wr.heap.size wr W → Calls Tryd.prog 20 #[.slice x.A x.l.length x.c, .slice y.A y.l.length y.c] W fun e w' => e = .returned (.bool (decide (x.l = y.l))) ∧ Below W.heap.size W w' := fun W hW =>
          keep_bin x y W ((m1.more lw).next hW) ((m2.more lw).next hW) m3
        have H1 : Hid (x.l = y.l → (gds a).take (k + 1) = (gds b).take (k + 1)) := fun h => take_same hs2 e1 e2 (by unfold GotR.d; rw [hax, h])
        have H2 : Hid (x.l ≠ y.l → decide (gds a = gds b) = false) := fun h => decide_eq_false (take_other e1 e2 fun e => h (congrArg Prod.snd e))
        rw [← hax] at g'
        have n1 : (x.e != x.e) = false := bne_self_eq_false _
        clear m1 m2 m3 hs2 e1 e2 hA hA' hR hR' hs hla hlb ha hb hx hax
        go_wp2_with fail
        go_region_held3 (fun W => W.cell? ⟨b1, off + k * 2, none⟩ = some (.int .i64 x.e) ∧ W.cell? ⟨b2, off' + k * 2, none⟩ = some (.int .i64 x.e) ∧ W.cell? ⟨b1, off + k * 2 + 1, none⟩ = some (.slice x.A x.l.length x.c) ∧ W.cell? ⟨b2, off' + k * 2 + 1, none⟩ = some (.slice y.A y.l.length y.c) ∧ Below wr.heap.size wr W)
          ((go_split_ands; refine ⟨?_, ?_, ?_, ?_, ?_⟩ <;> (first
            | assumption | exact below_dr (Below.refl _ _) | exact bt (by assumption) (by assumption)
            | exact kst (bt (a := wr) (by assumption) (by assumption)) (Nat.lt_of_lt_of_le hb1 lw) (by assumption) | exact kst (bt (a := wr) (by assumption) (by assumption)) (Nat.lt_of_lt_of_le hb2 lw) (by assumption) | fail)))
          (first
            | (go_at_call 20; (with_reducible refine (cB _ (by first | assumption | exact below_dr (Below.refl _ _) | exact below_dn (Below.refl _ _) _)).mono ?_); rintro e wx ⟨rfl, hbx⟩)
            | fail)
        have hbw := bt hbr (bt (below_dr (Below.refl _ _)) hbx)
        by_cases he : x.l = y.l
        · have hd : decide (x.l = y.l) = true := decide_eq_true he
          have hs3 := H1.out he
          simp only [hd]
          clear hd he H1 H2
          have H3 := Lib.hid hs3
          clear hs3
          go_wp2
          go_roundw
          case rel => exact ⟨k + 1, by omega, by go_num, H3.out, hbw⟩
          case measure => simp [RowKit.intOf]; omega
        · have hd : decide (x.l = y.l) = false := decide_eq_false he
          have hs3 := H2.out he
          simp only [hd]
          clear hd he H1 H2
          have H3 := Lib.hid hs3
          clear hs3
          go_wp2
          go_ret
          exact ⟨ret_bool H3.out.symm, hbw⟩
      · have H2 : Hid (decide (gds a = gds b) = false) := decide_eq_false (take_other e1 e2 fun e => hax (congrArg Prod.fst e))
        have n1 : (x.e != y.e) = true := bne_iff_ne.2 hax
        have n2 : (x.e == y.e) = false := beq_eq_false_iff_ne.2 hax
        clear m1 m2 m3 hs2 e1 e2 hA hA' hR hR' hs hla hlb ha hb hx hax
        go_wp2_with fail
        go_quiet (fail)
        go_wp2
        go_ret
        exact ⟨ret_bool H2.out.symm, below_dn hbr _⟩
    · have H : Hid (decide (gds a = gds b) = true) := by
        show decide (gds a = gds b) = true
        rw [List.take_of_length_le (by omega), List.take_of_length_le (by omega)] at hs2
        exact decide_eq_true hs2
      go_wp2
      go_ret
      exact ⟨ret_bool H.out.symm, hbr⟩
theorem gots_any (A A' : Option Addr) (c c' m n : Nat) (a b : List GotR) (w : World) (ha : a.length = m) (hb : b.length = n) (hA : SlV w w.heap.size A (gvs a)) (hA' : SlV w w.heap.size A' (gvs b)) (hR : GIn w w.heap.size a) (hR' : GIn w w.heap.size b) (hn : m ≤ 1048576) (hs : GShort 1048576 a) :
    Calls Tryd.prog 13 #[.slice A m c, .slice A' n c'] w fun e w' => e = .returned (.bool (decide (gds a = gds b))) ∧ Below w.heap.size w w' := by
  by_cases h : m = n
  · subst h
    exact gots_short A A' c c' m a b w ha hb hA hA' hR hR' hn hs
  · have hf : decide (gds a = gds b) = false := decide_eq_false fun k => h (by have := congrArg List.length k; rw [gds_length, gds_length] at this; omega)
    rw [hf]
    exact gots_long A A' c c' _ _ w h
end Go.Proofs.YtdjleimndolonaaDoor.nwt
