/-
  Readings: as plain data, and as they lie in memory (a row of readings of two values each, a reading's bytes a row of bytes). Conditions: each law's own.
  casematekeep.Gots: whether two rows of readings are the same. Conditions: rows and byte strings shorter than 2^20.
  Readings of one's own; casematekeep.TwinGots: readings like them. Conditions: rows shorter than 2^20.
  Are readings more than the statements play? Conditions: none.
-/
import Derived.Test.YtbfdpibjicjagaaGreatDoorGAn
import Derived.Test.YtbfdpibjicjagaaGreatDoorKeep
import Derived.Deep.RegionHeld3
import Derived.Deep.QuietTactic
import Derived.BigQuiet
import Derived.Test.YtbfdpibjicjagaaGreatDoorTail
import Derived.Deep.CutRange
set_option maxHeartbeats 2000000
set_option maxRecDepth 100000
namespace Go.Proofs.YtbfdpibjicjagaaGreatDoor.nwt
open Go.RowKit Go.Lib
open Go.Proofs.YtbfdpibjicjagaaGreatDoor.anc (flat_get flat_len slv_cell)
structure GotR where
 e : Int
 A : Option Addr
 c : Nat
 l : List UInt8
def GotR.vs (r : GotR) : List Value := [.int .i64 r.e, .slice r.A r.l.length r.c]
def GotR.v (r : GotR) : Value := .agg #[.int .i64 r.e, .slice r.A r.l.length r.c]
def GotR.d (r : GotR) : Int × List UInt8 := (r.e, r.l)
def gvs (rs : List GotR) : List Value := rs.flatMap GotR.vs
def gds (rs : List GotR) : List (Int × List UInt8) := rs.map GotR.d
theorem gvs_length (rs : List GotR) : (gvs rs).length = rs.length * 2 := flat_len GotR.vs 2 (fun _ => rfl) rs
theorem gds_length (rs : List GotR) : (gds rs).length = rs.length := by simp [gds]
theorem gvs_append (a b : List GotR) : gvs (a ++ b) = gvs a ++ gvs b := by simp [gvs]
theorem gds_append (a b : List GotR) : gds (a ++ b) = gds a ++ gds b := by simp [gds]
theorem gvs_one (rs : List GotR) : ∀ u ∈ gvs rs, u.oneCell' = true := by
 intro u hu
 obtain ⟨r, _, h⟩ := List.mem_flatMap.1 hu
 simp only [GotR.vs, List.mem_cons, List.not_mem_nil, or_false] at h
 rcases h with rfl | rfl <;> rfl
def BIn (w : World) (B : Nat) (r : GotR) : Prop := Sl w B r.A r.l ∧ r.l.length ≤ r.c ∧ r.c ≤ maxLen
def GIn (w : World) (B : Nat) (rs : List GotR) : Prop := ∀ r ∈ rs, BIn w B r
section
variable {w w' : World} {B B' : Nat} {r : GotR} {rs : List GotR}
theorem BIn.below (h : BIn w B r) (hb : Below B w w') : BIn w' B r := ⟨h.1.below hb, h.2⟩
theorem BIn.more (h : BIn w B r) (hB : B ≤ B') : BIn w B' r := ⟨h.1.more hB, h.2⟩
theorem BIn.next (h : BIn w w.heap.size r) (hb : Below w.heap.size w w') : BIn w' w'.heap.size r := (h.below hb).more hb.size
theorem GIn.below (h : GIn w B rs) (hb : Below B w w') : GIn w' B rs := fun r hr => (h r hr).below hb
theorem GIn.more (h : GIn w B rs) (hB : B ≤ B') : GIn w B' rs := fun r hr => (h r hr).more hB
theorem GIn.next (h : GIn w w.heap.size rs) (hb : Below w.heap.size w w') : GIn w' w'.heap.size rs := (h.below hb).more hb.size
theorem GIn.append {a b : List GotR} (h : GIn w B a) (k : GIn w B b) : GIn w B (a ++ b) := fun r hr => (List.mem_append.1 hr).elim (h r) (k r)
theorem GIn.nil (w : World) (B : Nat) : GIn w B [] := fun r hr => by cases hr
end
theorem got_at {w : World} {B k : Nat} {A : Option Addr} {rs : List GotR} (hA : SlV w B A (gvs rs)) (hR : GIn w B rs) (hk : k < rs.length) :
  ∃ b off r, A = some ⟨b, off, none⟩ ∧ b < B ∧ w.cell? ⟨b, off + k * 2, none⟩ = some (.int .i64 r.e) ∧ w.cell? ⟨b, off + k * 2 + 1, none⟩ = some (.slice r.A r.l.length r.c) ∧ BIn w B r ∧ r ∈ rs ∧ rs[k]? = some r ∧ (gds rs)[k]? = some r.d := by
 obtain ⟨b, off, rfl, -, -⟩ := hA (by rw [gvs_length]; omega)
 have g := fun j (hj : j < 2) => flat_get GotR.vs 2 (fun _ => rfl) rs k j hj
 rw [List.getElem?_eq_getElem hk] at g
 have c0 := slv_cell hA (i := k * 2 + 0) (v := .int .i64 rs[k].e) ((g 0 (by omega)).trans rfl)
 have c1 := slv_cell hA (i := k * 2 + 1) (v := .slice rs[k].A rs[k].l.length rs[k].c) ((g 1 (by omega)).trans rfl)
 have hm := List.getElem_mem hk
 exact ⟨b, off, rs[k], rfl, c0.2, c0.1, c1.1, hR _ hm, hm, List.getElem?_eq_getElem hk, by simp [gds, hk]⟩
structure GV where
 A : Option Addr
 c : Nat
 rs : List GotR
def GV.v (g : GV) : Value := .slice g.A g.rs.length g.c
structure GV.In (w : World) (B : Nat) (g : GV) : Prop where
 h : SlV w B g.A (gvs g.rs)
 i : GIn w B g.rs
 l : g.rs.length ≤ g.c ∧ g.c ≤ maxLen
section
variable {w w' : World} {B B' : Nat} {g : GV}
theorem GV.In.below (h : GV.In w B g) (hb : Below B w w') : GV.In w' B g := ⟨h.h.below hb, h.i.below hb, h.l⟩
theorem GV.In.more (h : GV.In w B g) (hB : B ≤ B') : GV.In w B' g := ⟨h.h.more hB, h.i.more hB, h.l⟩
theorem GV.In.next (h : GV.In w w.heap.size g) (hb : Below w.heap.size w w') : GV.In w' w'.heap.size g := (h.below hb).more hb.size
end
end Go.Proofs.YtbfdpibjicjagaaGreatDoor.nwt
namespace Go.Proofs.YtbfdpibjicjagaaGreatDoor.nwt
open Go.RowKit Go.Lib
open Go.Proofs.YtbfdpibjicjagaaGreatDoor.anc (bl kal kst ks bm ka take_same take_other row_apart row_form row_below)
def GShort (n : Nat) (rs : List GotR) : Prop := ∀ r ∈ rs, r.l.length ≤ n
theorem keep_bin (r r' : GotR) (W : World) (h : BIn W W.heap.size r) (h' : BIn W W.heap.size r') (hl : r.l.length ≤ 1048576) :
  Calls Tryz.prog 27 #[.slice r.A r.l.length r.c, .slice r'.A r'.l.length r'.c] W fun e w' => e = .returned (.bool (decide (r.l = r'.l))) ∧ Below W.heap.size W w' :=
 keep_any _ _ _ _ _ _ _ _ W h.1 h'.1 (Nat.le_refl _) (Nat.le_refl _) hl
end Go.Proofs.YtbfdpibjicjagaaGreatDoor.nwt
namespace Go.Proofs.YtbfdpibjicjagaaGreatDoor.nwt
open Go.RowKit Go.Lib
open Go.Proofs.YtbfdpibjicjagaaGreatDoor.anc (bl kal kst ks bm ka row_apart row_form row_below step_row)
def OwnG (w : World) (base : Nat) (v : Value) (rs : List GotR) : Prop :=
 w.ownsRow base 51 2 v rs.length (gvs rs) ∧ ∀ r ∈ rs, Own w base 5 (.slice r.A r.l.length r.c) r.l
theorem u8_got : 5 ≠ 51 := by decide
theorem g_info : (Tryz.prog.info? 51).map (fun i => (i.zero, i.size, i.bytes)) = some (some (.agg #[.int .i64 0, .slice none 0 0]), 2, 32) := by kernel_rfl
theorem src_got {P : Program} {w : World} {g : Nat} {t tx e' : TypeId} {a b : Value} (hg : w.heap[g]? = some (.cells #[a, b] t)) (hk : P.underlying tx = some (.slice e')) (h1 : ∀ u ∈ [a, b], u.oneCell' = true) : Src P 2 tx (.slice (some ⟨g, 0, none⟩) 1 1) 1 [a, b] w := by
 refine Src.ofSlice w hk ⟨g, 0, none⟩ 1 1 [a, b] rfl (fun j u hu => ?_) h1
 rw [Addr.add_lit, cell_of_row w g (0 + j) _ t _ hg, Nat.zero_add, ← Array.getElem?_toList]
 exact hu
section
variable {w w' : World} {base : Nat} {v v' : Value} {rs : List GotR}
theorem ownG_nil (w : World) (base : Nat) : OwnG w base (.slice none 0 0) [] := ⟨World.ownsRow_nil w base _ 2, fun r hr => by cases hr⟩
theorem OwnG.below (h : OwnG w base v rs) (hb : Below w.heap.size w w') : OwnG w' base v rs := ⟨row_below h.1 hb, fun r hr => (h.2 r hr).below hb⟩
theorem OwnG.less {base' : Nat} (h : OwnG w base v rs) (hb : base' ≤ base) : OwnG w base' v rs := by
 refine ⟨⟨h.1.1, ?_⟩, fun r hr => (h.2 r hr).less hb⟩
 rcases h.1.2 with k | ⟨g, cap, cur, a, b, c⟩
 ·exact .inl k
 ·exact .inr ⟨g, cap, cur, a, by omega, c⟩
theorem OwnG.more {r : GotR} (h : OwnG w base v rs) (hg : w.grownBy w' v.ownBlock) (hp : Own w base 5 (.slice r.A r.l.length r.c) r.l) (h' : w'.ownsRow base 51 2 v' (rs.length + 1) (gvs rs ++ r.vs)) : OwnG w' base v' (rs ++ [r]) := by
 have hk : ∀ {q : GotR}, Own w base 5 (.slice q.A q.l.length q.c) q.l → Own w' base 5 (.slice q.A q.l.length q.c) q.l := fun hq => hq.kept hg (row_apart hq h.1 u8_got)
 refine ⟨?_, fun x hx => ?_⟩
 ·rw [List.length_append, gvs_append, show gvs [r] = r.vs by simp [gvs]]
  exact h'
 ·rcases List.mem_append.1 hx with k | k
  ·exact hk (h.2 x k)
  ·obtain rfl : x = r := List.mem_singleton.1 k
   exact hk hp
end
theorem OwnG.cell_set {w : World} {base g o : Nat} {v : Value} {rs : List GotR} (h : OwnG w base v rs) (hg : g < base) (x : Value) : OwnG (w.setCell ⟨g, o, none⟩ x) base v rs := by
 have hne : ∀ {e : TypeId} {u : Value} {k n : Nat} {xs : List Value}, w.ownsRow base e k u n xs → u.ownBlock ≠ some g := fun hu k => by have := (World.ownsRow.lt hu g k).1; omega
 exact ⟨ownsRow_setCell_other h.1 (hne h.1) x, fun r hr => ownsRow_setCell_other (h.2 r hr) (hne (h.2 r hr)) x⟩
theorem own_bin {w : World} {base : Nat} {e : TypeId} {r : GotR} (h : Own w base e (.slice r.A r.l.length r.c) r.l) : BIn w w.heap.size r := by
 obtain ⟨A, c, hv, h1, h2, hs, _⟩ := h.form
 simp only [Value.slice.injEq] at hv
 obtain ⟨ha, -, hc⟩ := hv
 exact ⟨by rw [ha]; exact hs, by omega, by omega⟩
theorem ownG_in {w : World} {base c : Nat} {A : Option Addr} {rs : List GotR} (h : OwnG w base (.slice A rs.length c) rs) : SlV w w.heap.size A (gvs rs) ∧ GIn w w.heap.size rs ∧ rs.length ≤ c ∧ c ≤ maxLen := by
 obtain ⟨A', c', hv, h1, h2, hs⟩ := row_form h.1
 simp only [Value.slice.injEq] at hv
 obtain ⟨rfl, -, rfl⟩ := hv
 exact ⟨hs, fun r hr => own_bin (h.2 r hr), h1, h2⟩
def GV.Own (w : World) (base : Nat) (g : GV) : Prop := OwnG w base (.slice g.A g.rs.length g.c) g.rs
theorem GV.Own.inn {w : World} {base : Nat} {g : GV} (h : GV.Own w base g) : g.In w w.heap.size := by
 obtain ⟨h1, h2, h3⟩ := ownG_in h
 exact ⟨h1, h2, h3⟩
theorem ownG_gv {w : World} {base : Nat} {v : Value} {rs : List GotR} (h : OwnG w base v rs) : ∃ g : GV, v = g.v ∧ g.rs = rs ∧ g.Own w base := by
 obtain ⟨A, c, hv, -, -, -⟩ := row_form h.1
 exact ⟨⟨A, c, rs⟩, hv, rfl, by rw [hv] at h; exact h⟩
end Go.Proofs.YtbfdpibjicjagaaGreatDoor.nwt
namespace Go.Proofs.YtbfdpibjicjagaaGreatDoor.nwt
open Go.RowKit Go.Lib
open Go.Proofs.YtbfdpibjicjagaaGreatDoor.anc (bl)
def HeavyG (ds : List (Int × List UInt8)) : Prop := 80 < ds.length ∨ ∃ x ∈ ds, 300 < x.2.length
theorem take_more {α : Type} {l : List α} {k : Nat} {x : α} (h : l[k]? = some x) : l.take (k + 1) = l.take k ++ [x] := by
 rw [List.take_add_one, h]
 rfl
theorem heavyG_any (b : Bool) (A : Option Addr) (n c : Nat) (rs : List GotR) (w : World) (hn : rs.length = n) (hA : SlV w w.heap.size A (gvs rs)) (hR : GIn w w.heap.size rs) (hb : b = true ↔ HeavyG (gds rs)) :
  Calls Tryz.prog 11 #[.slice A n c] w fun e w' => e = .returned (.bool b) ∧ w = w' := by
 by_cases h1 : 80 < n
 ·obtain rfl : b = true := hb.2 (.inl (by rw [gds_length]; omega))
  have i1 : (80 : Int) < (n : Int) := by omega
  clear hb hA hR
  go_enter Tryz.func11, Tryz.ntmps11
  go_wp2
  go_ret
  exact ⟨rfl, rfl⟩
 have i1 : (n : Int) ≤ 80 := by omega
 have HC : Hid (b = true ↔ ∃ x ∈ gds rs, 300 < x.2.length) := Lib.hid (hb.trans ⟨fun h => h.resolve_left (by rw [gds_length]; omega), fun h => .inr h⟩)
 clear hb
 go_enter Tryz.func11, Tryz.ntmps11
 go_wp2_with fail
 go_loop [3] (fun i => ∃ k : Nat, i = .int .i64 k ∧ k ≤ n ∧ ∀ x ∈ (gds rs).take k, ¬ 300 < x.2.length) (fun i => n - (RowKit.intOf i).toNat)
 case atStart => exact ⟨0, rfl, by omega, fun h hh => by simp at hh⟩
 case round =>
  obtain ⟨k, rfl, hk, hs2⟩ := hrel
  by_cases hlt : k < n
  ·have j1 : (k : Int) < (n : Int) := by omega
   obtain ⟨b1, off, r, rfl, hb1, r0, r1, -, -, -, e1⟩ := got_at hA hR (show k < rs.length by omega)
   by_cases h3 : 300 < r.l.length
   ·have j3 : (300 : Int) < (r.l.length : Int) := by omega
    have H : Hid (b = true) := Lib.hid (HC.out.2 ⟨r.d, List.mem_of_getElem? e1, h3⟩)
    clear hs2 e1
    go_wp2_with fail
    go_ret
    exact ⟨ret_bool H.out.symm, rfl⟩
   ·have j3 : (r.l.length : Int) ≤ 300 := by omega
    have HN : Hid (∀ x ∈ (gds rs).take (k + 1), ¬ 300 < x.2.length) := Lib.hid fun x hm => by
     rw [take_more e1] at hm
     rcases List.mem_append.1 hm with hm | hm
     ·exact hs2 x hm
     ·obtain rfl := List.mem_singleton.1 hm
      exact h3
    clear hs2 e1
    go_wp2_with fail
    go_round
    case rel => exact ⟨k + 1, by go_num, by omega, HN.out⟩
    case measure => simp [RowKit.intOf]; omega
  ·have j1 : ¬ (k : Int) < (n : Int) := by omega
   have H : Hid (b = false) := Lib.hid (by
    cases b
    ·rfl
    ·obtain ⟨x, hx, h20⟩ := HC.out.1 rfl
     exact absurd h20 (hs2 x (by rw [List.take_of_length_le (by rw [gds_length]; omega)]; exact hx)))
   clear hs2
   go_wp2_with fail
   go_ret
   exact ⟨ret_bool H.out.symm, rfl⟩
theorem lightG {rs : List GotR} (h : ¬ HeavyG (gds rs)) : rs.length ≤ 80 ∧ ∀ r ∈ rs, r.l.length ≤ 300 := by
 refine ⟨Nat.le_of_not_lt fun k => h (.inl (by rw [gds_length]; exact k)), fun r hr => Nat.le_of_not_lt fun k => h (.inr ⟨r.d, List.mem_map_of_mem hr, k⟩)⟩
end Go.Proofs.YtbfdpibjicjagaaGreatDoor.nwt
