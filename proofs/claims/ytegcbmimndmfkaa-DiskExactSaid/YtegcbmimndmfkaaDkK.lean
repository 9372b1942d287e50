/-
  Package casematekeep, as far as it is about disks: Writes and Disk tell whether they are the same. Conditions: rows and byte strings shorter than 2^20.
-/
import Derived.Test.YtegcbmimndmfkaaDkV
import Derived.Test.YtegcbmimndmfkaaKeep
import Derived.Deep.RegionHeld3
namespace Go.Proofs.Ytegcbmimndmfkaa.dsk
open Go.RowKit Go.Lib

theorem bl (w : World) (o : Obj) : Below w.heap.size w (w.alloc o) := (Below.refl _ _).alloc (Nat.le_refl _) o
theorem kal {a W : World} (h : Below a.heap.size a W) (o : Obj) : Below a.heap.size a (W.alloc o) := h.alloc h.size o
theorem kst {a W : World} (h : Below a.heap.size a W) {b o : Nat} {v : Value} (hb : b < a.heap.size) (hv : a.cell? ⟨b, o, none⟩ = some v) : W.cell? ⟨b, o, none⟩ = some v := (h.cell (p := ⟨b, o, none⟩) hb).trans hv
def WShort (n : Nat) (ws : List WriR) : Prop := ∀ r ∈ ws, r.b.l.length ≤ n
def CShort (n : Nat) (cs : List CellR) : Prop := ∀ r ∈ cs, r.b.l.length ≤ n ∧ r.o.l.length ≤ n
theorem keep_rin (r r' : Row) (W : World) (h : RIn W W.heap.size r) (h' : RIn W W.heap.size r') (hl : r.l.length ≤ 1048576) :
    Calls Try.prog 23 #[.slice r.A r.l.length r.c, .slice r'.A r'.l.length r'.c] W fun e w' => e = .returned (.bool (decide (r.l = r'.l))) ∧ Below W.heap.size W w' :=
  keep_any _ _ _ _ _ _ _ _ W h.1 h'.1 (Nat.le_refl _) (Nat.le_refl _) hl

theorem writes_long (A A' : Option Addr) (c c' m n : Nat) (w : World) (h : m ≠ n) :
    Calls Try.prog 31 #[.slice A m c, .slice A' n c'] w fun e w' => e = .returned (.bool false) ∧ Below w.heap.size w w' := by
  have h1 : ((m : Int) == (n : Int)) = false := beq_eq_false_iff_ne.2 (by omega)
  have h2 : ((m : Int) != (n : Int)) = true := bne_iff_ne.2 (by omega)
  have h3 : (m == n) = false := beq_eq_false_iff_ne.2 h
  have h4 : (m != n) = true := bne_iff_ne.2 h
  go_enter Try.func31, Try.ntmps31
  go_wp2
  go_ret
  exact ⟨rfl, Below.refl _ _⟩
theorem take_same {α : Type} {a b : List α} {k : Nat} {x y : α} (h : a.take k = b.take k) (ha : a[k]? = some x) (hb : b[k]? = some y) (hxy : x = y) : a.take (k + 1) = b.take (k + 1) := by
  rw [take_next ha, take_next hb, h, hxy]
theorem take_other {α : Type} {a b : List α} {k : Nat} {x y : α} (ha : a[k]? = some x) (hb : b[k]? = some y) (hxy : x ≠ y) : a ≠ b := fun e => hxy (by rw [e, hb] at ha; exact (Option.some.inj ha).symm)
set_option maxHeartbeats 1000000 in
theorem writes_short (A A' : Option Addr) (c c' n : Nat) (a b : List WriR) (w : World) (ha : a.length = n) (hb : b.length = n) (hA : SlV w w.heap.size A (wvs a)) (hA' : SlV w w.heap.size A' (wvs b)) (hR : WIn w w.heap.size a) (hR' : WIn w w.heap.size b) (hn : n ≤ 1048576) (hs : WShort 1048576 a) :
    Calls Try.prog 31 #[.slice A n c, .slice A' n c'] w fun e w' => e = .returned (.bool (decide (wds a = wds b))) ∧ Below w.heap.size w w' := by
  have hla : (wds a).length = n := by rw [wds_length, ha]
  have hlb : (wds b).length = n := by rw [wds_length, hb]
  go_enter Try.func31, Try.ntmps31
  go_wp2
  go_loopw [5] (fun i w' => ∃ k : Nat, k ≤ n ∧ i = .int .i64 k ∧ (wds a).take k = (wds b).take k ∧ Below w.heap.size w w') (fun i _ => n - (RowKit.intOf i).toNat)
  case atStart => exact ⟨0, by omega, rfl, rfl, Below.refl _ _⟩
  case round =>
    rename_i wr
    obtain ⟨k, hk, rfl, hs2, hbr⟩ := hrel
    by_cases hlt : k < n
    · obtain ⟨b1, off, x, rfl, hb1, g, g1, m1, hx, -, e1⟩ := write_at (hA.below hbr) (hR.below hbr) (show k < a.length by omega)
      obtain ⟨b2, off', y, rfl, hb2, g', g1', m2, -, -, e2⟩ := write_at (hA'.below hbr) (hR'.below hbr) (show k < b.length by omega)
      have i1 : (k : Int) < (n : Int) := by omega
      have m3 := hs _ hx
      have lw := hbr.size
      by_cases hax : x.addr = y.addr
      · have cB : ∀ W, Below wr.heap.size wr W → Calls Try.prog 23 #[.slice x.b.A x.b.l.length x.b.c, .slice y.b.A y.b.l.length y.b.c] W fun e w' => e = .returned (.bool (decide (x.b.l = y.b.l))) ∧ Below W.heap.size W w' := fun W hW =>
          keep_rin x.b y.b W ((m1.more lw).next hW) ((m2.more lw).next hW) m3
        have H1 : Hid (x.b.l = y.b.l → (wds a).take (k + 1) = (wds b).take (k + 1)) := fun h => take_same hs2 e1 e2 (by unfold WriR.d; rw [hax, h])
        have H2 : Hid (x.b.l ≠ y.b.l → decide (wds a = wds b) = false) := fun h => decide_eq_false (take_other e1 e2 fun e => h (congrArg Wri.bs e))
        rw [← hax] at g'
        have n1 : (x.addr != x.addr) = false := bne_self_eq_false _
        clear m1 m2 m3 hs2 e1 e2 hA hA' hR hR' hs hla hlb ha hb hx hax
        go_wp2_with fail
        go_region_held3 (fun W => W.cell? ⟨b1, off + k * 2, none⟩ = some (.int .i64 x.addr) ∧ W.cell? ⟨b2, off' + k * 2, none⟩ = some (.int .i64 x.addr) ∧ W.cell? ⟨b1, off + k * 2 + 1, none⟩ = some (.slice x.b.A x.b.l.length x.b.c) ∧ W.cell? ⟨b2, off' + k * 2 + 1, none⟩ = some (.slice y.b.A y.b.l.length y.b.c) ∧ Below wr.heap.size wr W)
          ((go_split_ands; refine ⟨?_, ?_, ?_, ?_, ?_⟩ <;> (first
            | assumption | exact below_dr (Below.refl _ _) | exact bt (by assumption) (by assumption)
            | exact kst (bt (a := wr) (by assumption) (by assumption)) (Nat.lt_of_lt_of_le hb1 lw) (by assumption) | exact kst (bt (a := wr) (by assumption) (by assumption)) (Nat.lt_of_lt_of_le hb2 lw) (by assumption) | fail)))
          (first
            | (go_at_call 23; (with_reducible refine (cB _ (by first | assumption | exact below_dr (Below.refl _ _) | exact below_dn (Below.refl _ _) _)).mono ?_); rintro e wx ⟨rfl, hbx⟩)
            | fail)
        have hbw := bt hbr (bt (below_dr (Below.refl _ _)) hbx)
        by_cases he : x.b.l = y.b.l
        · have hd : decide (x.b.l = y.b.l) = true := decide_eq_true he
          have hs3 := H1.out he
          simp only [hd]
          clear hd he H1 H2
          have H3 := Lib.hid hs3
          clear hs3
          go_wp2
          go_roundw
          case rel => exact ⟨k + 1, by omega, by go_num, H3.out, hbw⟩
          case measure => simp [RowKit.intOf]; omega
        · have hd : decide (x.b.l = y.b.l) = false := decide_eq_false he
          have hs3 := H2.out he
          simp only [hd]
          clear hd he H1 H2
          have H3 := Lib.hid hs3
          clear hs3
          go_wp2
          go_ret
          exact ⟨ret_bool H3.out.symm, hbw⟩
      · have H2 : Hid (decide (wds a = wds b) = false) := decide_eq_false (take_other e1 e2 fun e => hax (congrArg Wri.addr e))
        have n1 : (x.addr != y.addr) = true := bne_iff_ne.2 hax
        have n2 : (x.addr == y.addr) = false := beq_eq_false_iff_ne.2 hax
        clear m1 m2 m3 hs2 e1 e2 hA hA' hR hR' hs hla hlb ha hb hx hax
        go_wp2_with fail
        go_quiet (fail)
        go_wp2
        go_ret
        exact ⟨ret_bool H2.out.symm, below_dn hbr _⟩
    · have H : Hid (decide (wds a = wds b) = true) := by
        show decide (wds a = wds b) = true
        rw [List.take_of_length_le (by omega), List.take_of_length_le (by omega)] at hs2
        exact decide_eq_true hs2
      go_wp2
      go_ret
      exact ⟨ret_bool H.out.symm, hbr⟩
theorem writes_any (A A' : Option Addr) (c c' m n : Nat) (a b : List WriR) (w : World) (ha : a.length = m) (hb : b.length = n) (hA : SlV w w.heap.size A (wvs a)) (hA' : SlV w w.heap.size A' (wvs b)) (hR : WIn w w.heap.size a) (hR' : WIn w w.heap.size b) (hn : m ≤ 1048576) (hs : WShort 1048576 a) :
    Calls Try.prog 31 #[.slice A m c, .slice A' n c'] w fun e w' => e = .returned (.bool (decide (wds a = wds b))) ∧ Below w.heap.size w w' := by
  by_cases h : m = n
  · subst h
    exact writes_short A A' c c' m a b w ha hb hA hA' hR hR' hn hs
  · have hf : decide (wds a = wds b) = false := decide_eq_false fun k => h (by have := congrArg List.length k; rw [wds_length, wds_length] at this; omega)
    rw [hf]
    exact writes_long A A' c c' _ _ w h
end Go.Proofs.Ytegcbmimndmfkaa.dsk
